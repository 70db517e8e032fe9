/-
  What the functions do: contracts, and their questions answered. No condition but what its theorems ask.
-/
import Derived.Test.YtniogjgfomaicaaGreatT1
namespace Go.Proofs.YtniogjgfomaicaaGreat.Wd
open Go.Proofs.YtniogjgfomaicaaGreat.Eng Go.Proofs.YtniogjgfomaicaaGreat.Sen Go.RowKit
set_option linter.defProp false
set_option linter.unusedVariables false
set_option linter.unusedSimpArgs false
set_option maxRecDepth 1000000
open Go.Value (int string slice bool)
open Go.IntKind (i64 u64 u8 u32 i32)
open _root_.List (length take drop)
open _root_.ByteArray (size)
open _root_.Int (toNat)
noncomputable section
def Vg(k:Int) (W:O6) (al:SV) (als:List O6):AT:=⟨k,W,al,als,0,(none,0,0),[],false,mkS [],0,(none,0,0),[],(none,0,0),[]⟩
def zyd{k:Int} {W:O6} {al:SV} {als:List O6} {p:Pub} (h:qb qo al als p):(Vg k W al als).ok p:=⟨h,qQ,qQ,qQ,λf u=>(by cases u)⟩
def ze6(S:List AT) (t u:AT):(S++[t]).set S.length u=S++[u]:=by
 induction S with
 |nil=>rfl
 |cons a S h=>rw[List.cons_append,List.length_cons,List.set_cons_succ,h];rfl
def zdl(S:List AT) (t:AT):(S++[t])[S.length]? =some t:=by rw[List.getElem?_append_right (Nat.le_refl _),Nat.sub_self];rfl
def zia(S:List AT) (t:AT) (x:SV) (l:List AF):vZ (S++[t]) (S.length:Int) x l=S++[{t with f:=x,fs:=l}]:=by unfold vZ;rw[Int.toNat_natCast,zdl];exact ze6 _ _ _
def zjw(S:List AT) (t:AT) (y:SV) (l:List O6) (hd:Bool) (df:O6):QX (S++[t]) (S.length:Int) y l hd df=S++[{t with sy:=y,sys:=l,hd:=hd,df:=df}]:=by unfold QX;rw[Int.toNat_natCast,zdl];exact ze6 _ _ _
def j8t(S:List AT) (t:AT) (r:Int):qa AT.cells (S++[{t with sz:=r}])=spl (qa AT.cells (S++[t])) (0+S.length*10+7) [.int .i64 r]:=by rw[zF,zF,JP,JP,Nat.zero_add,←qB yU S];show _=(qa AT.cells S++(t.cells++qa AT.cells [])).set ((qa AT.cells S).length+7) (.int .i64 r);rw[V6];rfl
def z95{s:O6}:∀i,i<=s.size->(kx s i).size<=s.size
  |0,_=>Nat.zero_le _
  | i+1,h=>by
    rw[kx];split
    · rw[ByteArray.size_extract];omega
    · exact z95 i (by omega)
def PM{a b:O6} {e:Int}:yj a b e=0->e=0:=by
 unfold yj;split
 ·exactλh=>(y0 (by decide) h).elim
 ·exactλh=>h
def zj9 (n:Nat) (hf:q1i P 104 (Hf.below Vd (n+1))):q1i P 67 (Hs.below Vf (n+1)):=by
 refine zI (qbu (qfr JU (qfr IL (qfr zl3 (qfr zh9 (qfr IH (qfr zd8 (qfr Hm (qfr xw qil))))))))) (qcl (qfq hf (qfq zza qik))) (W:=zks) Tryz.func67 λ⟨S,(e:Int),g,(k:Int),sp,(d:Int)⟩=>(zj8 n S e g k sp d).mpr ?_;rintro⟨hmu,⟨hS,hg,hd1,hd2,hsp⟩,hd3,hk⟩ ⟨p,_,hp⟩;have hmu:(25- d).toNat<n+1:=hmu;simp only[qy,exists_const,forall_const,Int.toNat_natCast];have hnm:=zw6 hg (mkS [110,97,109,101]) true e;have hwe:(jH g (mkS [110,97,109,101]) true e).2=0->e=0:=OP;obtain⟨oww,_⟩:=wR (mkS [110,97,109,101,115,112,97,99,101]) hg;have osz:((qp (mkS [110,97,109,101,115,112,97,99,101]) g).getD zJ).s.size<1000:=by rw[GJ.wf_eq]at oww;exact oww.1
 have bad0:∀k:Int,k≠0->zG (S,e,g,sp,d) ([],k,0):=λk hk=>⟨⟨by rw[List.append_nil];exact hS,λh=>absurd h hk⟩,λh=>absurd h hk⟩;refine⟨⟨S,e,g,mkS [110,97,109,101],true⟩,rfl,rfl,rfl,rfl,rfl,rfl,rfl,rfl,rfl,rfl,rfl,rfl,rfl,rfl,hg,λq hq=>hq,⟨g,mkS [110,97,109,101,115,112,97,99,101]⟩,rfl,rfl,rfl,rfl,rfl,rfl,rfl,rfl,rfl,rfl,hg,λq hq=>hq,?_⟩;simp only;clear oww;generalize (qp (mkS [110,97,109,101,115,112,97,99,101]) g).getD zJ=ow at*;generalize jH g (mkS [110,97,109,101]) true e=W at*;refine⟨⟨λ_=>⟨λ_=>⟨S,rfl,rfl,rfl,rfl,λh=>(y0 (by decide) h).elim,by omega⟩,λ_=>⟨trivial,hwe,by omega⟩⟩,λ_=>⟨trivial,hwe,hsp⟩⟩,?_⟩;rintro⟨e2,G⟩ ⟨h2,hsp2⟩;simp only at h2 hsp2⊢;refine⟨λhne=>⟨⟨[],e2,0⟩,rfl,by rw[List.append_nil],rfl,by rw[List.append_nil],bad0 _ hne,λq _ a ha=>(by cases ha)⟩,λhe2=> ?_⟩;have hws:=z61 (a:=W.1) (b:=G);have hbs:=z95 (s:=vA W.1 G) _ (Nat.le_refl _);refine⟨S,rfl,rfl,⟨by omega,by omega⟩,by omega,⟨S,yj W.1 G e2,g,mkS [97,108,105,97,115,101,115]⟩,rfl,rfl,rfl,rfl,rfl,rfl,rfl,rfl,rfl,rfl,rfl,rfl,rfl,hg,λq hq=>hq,?_⟩;have hsz:∀x∈(zi g (mkS [97,108,105,97,115,101,115]) (yj W.1 G e2)).1,x.size<1000:=IJ hg;have hLl:(zi g (mkS [97,108,105,97,115,101,115]) (yj W.1 G e2)).1.length<1000:=II hg;have hE:(zi g (mkS [97,108,105,97,115,101,115]) (yj W.1 G e2)).2.2=0->e=0:=λh=>h2 (PM (OA h));simp only;generalize zi g (mkS [97,108,105,97,115,101,115]) (yj W.1 G e2)=F at*;generalize vA W.1 G=N at*;generalize kx N N.size=sp3 at*;rintro a m c ⟨p1,hp1,hl1⟩;have hm:m=F.1.length:=hl1.1;subst hm;have hat2:=λ(k:Nat) (hk:k<F.1.length) (q:Pub) (hq:qb qo (a,F.1.length,c) F.1 q)=>(show a≠noA/\q2u q (adr a (k*1)) [.string F.1[k]]from j3 jS (by decide) hq hk);refine⟨⟨⟨0,F.2.2,[]⟩,rfl,trivial,rfl,rfl,by show((0:Nat):Int)<=1000;omega,Nat.le_refl _,hE⟩,?_⟩;rintro⟨x,e4,acc⟩ ⟨hx0,hacc,h4⟩;simp only at hx0 hacc h4⊢;refine⟨λhx=>⟨λh0=>⟨⟨by omega,by omega⟩,(hat2 x (by omega) p1 hl1).1,F.1[x]'(by omega),λq hq=>(hat2 x (by omega) q hq.2).2,S,rfl,rfl,⟨by have:=hsz _ (List.getElem_mem (show x<F.1.length by omega));omega,by omega⟩,qB jS acc,by omega,⟨by omega,by omega⟩,⟨x+1,yj (F.1[x]'(by omega)) sp3 e4,acc++[vA (F.1[x]'(by omega)) sp3]⟩,by show((x+1:Nat):Int)=_;omega,rfl,rfl,by simp,rfl,by rw[zF];rfl,⟨by show((x+1:Nat):Int)<=1000;omega,by show(acc++[_]).length<=x+1;simp;omega,λh=>h4 (PM h)⟩,by show 1000- (x+1)<1000- x;omega⟩,λh0=> ?xa⟩,λhx=> ?xb⟩;case xa | xb=>
  refine⟨S,rfl,rfl,by omega,⟨⟨λ_=>⟨λ_=>⟨S,rfl,rfl,rfl,rfl,λh=>(y0 (by decide) h).elim⟩,λ_=>⟨rfl,h4⟩⟩,λ_=>⟨rfl,h4⟩⟩,?_⟩⟩;intro e5 h5;refine⟨λhne=>⟨⟨[],e5,0⟩,rfl,by rw[List.append_nil],rfl,by rw[List.append_nil],bad0 _ hne,λq _ a ha=>(by cases ha)⟩,λhe5=> ?_⟩;intro X Z _;have e0:=h5 he5;have H:∀q,(acc.length<=Z/\qfu q X (List.take (acc.length*1) (qa qo acc)))->qb qo (X,acc.length,Z) acc q:=λq hq=>by refine⟨rfl,hq.1,?_⟩;have:=hq.2;rw[List.take_of_length_le (by rw[qB jS];exact Nat.le_refl _)]at this;exact this
  refine⟨⟨S,e5,Vg k N (X,acc.length,Z) acc⟩,rfl,rfl,rfl,rfl,rfl,rfl,rfl,rfl,rfl,rfl,rfl,rfl,rfl,rfl,rfl,rfl,rfl,rfl,rfl,rfl,rfl,?_⟩;have hto:∀q,qb qo (X,acc.length,Z) acc q->(Vg k N (X,acc.length,Z) acc).ok q:=λq h=>zyd h;have htk:(Vg k N (X,acc.length,Z) acc).k=k:=rfl;have hte:Vg k N (X,acc.length,Z) acc=⟨k,N,(X,acc.length,Z),acc,0,(none,0,0),[],false,mkS [],0,(none,0,0),[],(none,0,0),[]⟩:=rfl;simp only;generalize Vg k N (X,acc.length,Z) acc=t at*;have Y:=zh2 S t hS;have J:∀q,qb qo (X,acc.length,Z) acc q->∀a∈zM S t,a.ok q:=λq hq a ha=>by
   unfold zM at ha;split at ha
   ·cases ha
   ·simp at ha;subst ha;exact hto q hq
  have hR0:0<=qu S:=by unfold qu;split<;>omega
  have A:qJ S e5=0->S.length<60/\qD S t=S++[t]/\qu S=S.length:=λh=>by
   have hl:S.length<60:=by
    by_cases hl:60<=S.length
    ·exact absurd h (Oe hl)
    ·omega
   exact⟨hl,by unfold qD;rw[if_neg (by omega)],by unfold qu;rw[if_neg (by omega)]⟩
  have hbad:∀e6:Int,e6≠0->zG (S,e,g,sp,d) (zM S t,e6,0):=λe6 O=>⟨⟨Y,λh=>absurd h O⟩,λh=>absurd h O⟩;refine⟨λh9=> ?_,λh9=>⟨λh10=> ?_,λh10=> ?_⟩⟩
  ·refine ⟨⟨qD S t,qJ S e5,g,qu S,sp3,d⟩,rfl,rfl,rfl,rfl,rfl,rfl,rfl,rfl,rfl,rfl,rfl,rfl,rfl,rfl,rfl,⟨hmu,by rw[jR];exact Y,hg,hR0,λh=> ?_,hd1,hd3,by show(sp3.size:Int)<=1100*(d+1);omega⟩,λq hq=>hq.1.1,?_⟩
   ·obtain⟨hl,q2,q3⟩:=A h;show qu S<((qD S t).length:Int);rw[q2,q3];simp;omega
   ·rintro⟨T,e6,x,fs⟩ ⟨hT,hT2⟩ ⟨p3,_,hTok,hsl,hfok⟩;simp only at hT hT2 hTok hsl hfok⊢;by_cases O:e6=0
    ·obtain⟨C,hTg,hfg,hf30⟩:=hT2 O;obtain⟨hl,q2,q3⟩:=A C;rw[q2]at hT hTg hfg;rw[if_pos O,q2,q3,zia,List.append_assoc];have hlen:∀u:AT,(S++(u::T)).length=S.length+T.length+1:=λu=>(by simp;omega);have hlen2:(S++[t]++T).length=S.length+T.length+1:=(by simp;omega);refine⟨⟨{t with f:=x,fs:=fs}::T,e6,S.length⟩,rfl,rfl,rfl,rfl,⟨⟨by rw[hlen];omega,λ_=>⟨e0,λy hy=> ?_⟩⟩,λ_=>⟨by show 0<=(S.length:Int);omega,by show(S.length:Int)<((S++_::T).length:Int);rw[hlen];omega⟩⟩,λq hq y hy=> ?_⟩
     ·rw[hlen];rw[hlen2]at hTg hfg;rcases List.mem_cons.1 hy with rfl|hy
      ·subst hte;exact⟨by show 1<=k/\k<=14;omega,λh=>(by have h:k=12\/k=13:=h;omega),λb hb=>(by cases hb),λh=>(by have h:k=14:=h;omega),hfg,λh=>(by have h:k=10:=h;omega),λh=>(by have h:k=11:=h;omega),hf30,Nat.zero_le _,Nat.zero_le _⟩
      ·exact hTg y hy
     ·rcases List.mem_cons.1 hy with rfl|hy
      ·have U:=hto q (H q hq.1.2);exact⟨U.1,U.2.1,hq.2.2.1,U.2.2.2.1,hq.2.2.2⟩
      ·exact hq.2.1 y hy
    ·rw[if_neg O];refine⟨⟨zM S t++T,e6,qu S⟩,rfl,by rw[jR,List.append_assoc],rfl,by rw[jR,List.append_assoc],⟨⟨by rw[←List.append_assoc,←jR];exact hT,λh=>absurd h O⟩,λh=>absurd h O⟩,λq hq y hy=>(List.mem_append.1 hy).elim (J q (H q hq.1.2) y) (hq.2.1 y)⟩
  ·refine⟨⟨qD S t,qJ S e5,g,qu S⟩,rfl,rfl,rfl,rfl,rfl,rfl,rfl,rfl,rfl,rfl,rfl,rfl,rfl,⟨by rw[jR];exact Y,hg,hR0,λh=> ?_⟩,λq hq=>hq.1.1,?_⟩
   ·obtain⟨hl,q2,q3⟩:=A h;show qu S<((qD S t).length:Int);rw[q2,q3];simp;omega
   ·rintro⟨e6,y,l,hd,df⟩ hT2 ⟨p3,_,hsl⟩;simp only at hT2 hsl⊢;by_cases O:e6=0
    ·obtain⟨C,hl0,hl30⟩:=hT2 O;obtain⟨hl,q2,q3⟩:=A C;rw[if_pos O,q2,q3,zjw];refine⟨⟨[{t with sy:=y,sys:=l,hd:=hd,df:=df}],e6,S.length⟩,rfl,rfl,rfl,rfl,⟨⟨by simp;omega,λ_=>⟨e0,λz hz=> ?_⟩⟩,λ_=>⟨by show 0<=(S.length:Int);omega,by simp;omega⟩⟩,λq hq z hz=> ?_⟩
     ·simp at hz;subst hz;subst hte;exact⟨by show 1<=k/\k<=14;omega,λh=>(by have h:k=12\/k=13:=h;omega),λb hb=>(by cases hb),λh=>(by have h:k=14:=h;omega),λf hf=>(by cases hf),λ_=>hl0,λh=>(by have h:k=11:=h;omega),Nat.zero_le _,Nat.zero_le _,hl30⟩
     ·simp at hz;subst hz;have U:=hto q (H q hq.1.2);exact⟨U.1,hq.2,U.2.2.1,U.2.2.2.1,U.2.2.2.2⟩
    ·rw[if_neg O];refine⟨⟨zM S t,e6,qu S⟩,rfl,by rw[jR],rfl,by rw[jR],⟨⟨Y,λh=>absurd h O⟩,λh=>absurd h O⟩,λq hq y hy=>J q (H q hq.1.2) y hy⟩
  ·obtain⟨zw,_⟩:=wR (mkS [115,105,122,101]) hg;refine⟨⟨g,mkS [115,105,122,101]⟩,rfl,rfl,rfl,rfl,rfl,rfl,rfl,rfl,rfl,rfl,hg,λq hq=>hq.1.1,?_⟩;simp only;have hbd:∀k:Int,k≠0->∃b:List AT,b.length=(qD S t).length/\qa AT.cells b=qa AT.cells (qD S t)/\∃V:qP,V.2.2=0/\(S++V.1).length=b.length/\V.2.1=qt (qJ S e5) k/\qa AT.cells (S++V.1)=qa AT.cells b/\zG (S,e,g,sp,d) V/\∀q,((g.ok q/\qb qo (a,F.1.length,c) F.1 q)/\acc.length<=Z/\qfu q X (List.take (acc.length*1) (qa qo acc)))->∀y∈V.1,y.ok q:=λk hk=>⟨qD S t,rfl,rfl,⟨zM S t,qt (qJ S e5) k,0⟩,rfl,by rw[jR],rfl,by rw[jR],hbad _ (je hk),λq hq=>J q (H q hq.2)⟩;generalize (qp (mkS [115,105,122,101]) g).getD zJ=zs at*;refine⟨λ_=>hbd 2 (by decide),λ_=>⟨λ_=>hbd 2 (by decide),λ_=>⟨λ_=>hbd 6 (by decide),λz0=>⟨λ_=>hbd 6 (by decide),λz1=>⟨λC=> ?_,λC=>⟨⟨zM S t,qJ S e5,qu S⟩,rfl,by rw[jR],rfl,by rw[jR],⟨⟨Y,λh=>absurd h C⟩,λh=>absurd h C⟩,λq hq=>J q (H q hq.2)⟩⟩⟩⟩⟩⟩;clear hbd;obtain⟨hl,q2,q3⟩:=A C;rw[q2,q3,Int.toNat_natCast];have hlen:∀u:AT,(S++[u]).length=S.length+1:=λu=>(by simp);refine⟨⟨by omega,by rw[hlen];omega⟩,by rw[qB yU,hlen];show 0+S.length*10+7+1<=_;omega,⟨[{t with sz:=zs.n}],qJ S e5,S.length⟩,rfl,by show(S++[_]).length=_;rw[hlen,hlen],rfl,j8t S t zs.n,⟨⟨by rw[hlen];omega,λ_=>⟨e0,λz hz=> ?_⟩⟩,λ_=>⟨by show 0<=(S.length:Int);omega,by rw[hlen];show(S.length:Int)<_;omega⟩⟩,λq hq z hz=> ?_⟩
   ·simp at hz;subst hz;subst hte;exact⟨by show 1<=k/\k<=14;omega,λh=>(by have h:k=12\/k=13:=h;omega),λb hb=>(by cases hb),λh=>(by have h:k=14:=h;omega),λf hf=>(by cases hf),λh=>(by have h:k=10:=h;omega),λ_=>⟨by show 0<=zs.n;omega,by show zs.n<=5000;omega⟩,Nat.zero_le _,Nat.zero_le _,Nat.zero_le _⟩
   ·simp at hz;subst hz;have U:=hto q (H q hq.2);exact⟨U.1,U.2.1,U.2.2.1,U.2.2.2.1,U.2.2.2.2⟩
def txM(y:SV) (ks:List O6):PF:=⟨true,qb qo y ks,λ_ _ h e=>ji h e⟩
def vM(v:GV):PF:=⟨true,v.ok,λ_ _ h e=>GV.ok_mono h e⟩
def VU(S:List AT) (x:SV) (v:GV):PF:=⟨true,λp=>qc S x p/\v.ok p,λ_ _ h e=>⟨uC h e.1,GV.ok_mono h e.2⟩⟩
def XJ(S:List AT) (x:SV) (a:AT) (v:GV):PF:=⟨true,λp=>qc S x p/\a.ok p/\v.ok p,λ_ _ h e=>⟨uC h e.1,AT.ok_mono h e.2.1,GV.ok_mono h e.2.2⟩⟩
def vwM(v w:GV):PF:=⟨true,λp=>v.ok p/\w.ok p,λ_ _ h e=>⟨GV.ok_mono h e.1,GV.ok_mono h e.2⟩⟩
abbrev jP(x:SV):AV:= .agg [zE x]
def yE(σ:Type) (args:σ->List AV) (pre:σ->Prop) (mem:σ->PF) (r:σ->AV):Ct where
 σ:=σ
 args:=args
 h:=λ_=>[]
 m:=1
 pre:=pre
 mem:=mem
 r:=r
 h':=λ_=>[]
 m':=1
 g:=λ_=>none
def Om:Ct:=yE GV (λv=>[v.av]) (λ_=>True) (λ_=>{}) λv=> .sv (.bool (kS v.x.2.1 v.y.2.1 v.b))
def Oh:Ct:=yE (AT×Int) (λ⟨a,n⟩=>[a.av, .sv (.int .u64 n)]) (λ⟨a,n⟩=>0<=n/\n<18446744073709551616/\a.sy.2.1=a.sys.length/\a.sys.length<1000000) (λ_=>{}) λ⟨a,n⟩=> .sv (.bool (zS a n))
def Oi:Ct:=yE (AT×O6) (λ⟨a,s⟩=>[a.av, .sv (.string s)]) (λ⟨a,s⟩=>s.size<9223372036854775808) (λ_=>{}) λ⟨a,s⟩=> .sv (.bool (jC a s))
def H':Ct:=yE (SV×List O6) (λ⟨y,ks⟩=>[zE y]) (λ⟨y,ks⟩=>ks.length<4611686018427387904/\∀k∈ks,k.size<9223372036854775808) (λ⟨y,ks⟩=>txM y ks) λ⟨y,ks⟩=> .sv (.bool (zd ks))
abbrev Q4:=List AT×SV×AT×GV
def HN:Ct:=yE Q4 (λ⟨S,x,a,v⟩=>[jP x,a.av,v.av]) (λ⟨S,x,a,v⟩=>small S/\a.fs.length<1000000/\v.pv.sm/\ql a.k=true) (λ⟨S,x,a,v⟩=>XJ S x a v) λ⟨S,x,a,v⟩=> .sv (.bool (zx a v.l.length v.ks v.b&&PV.fitL S (qj a v.b) 0 (GV.pvs v.l)))
abbrev zt:=List AT×SV×Int×GV
def J4:Ct:=yE zt (λ⟨S,x,t,v⟩=>[jP x, .sv (.int .i64 t),v.av]) (λ⟨S,x,t,v⟩=>small S/\v.pv.sm) (λ⟨S,x,t,v⟩=>VU S x v) λ⟨S,x,t,v⟩=> .sv (.bool (PV.fits S t v.pv))
def Ve:Q4->Nat:=λ⟨S,x,a,v⟩=>SizeOf.sizeOf v
def KN:zt->Nat:=λ⟨S,x,t,v⟩=>SizeOf.sizeOf v
def PE:H'.σ->WayF:=λ⟨y,ks⟩=>{
 ann:=λ_ _ _=>some {σ:=Nat,pre:=λj=>j<=ks.length/\zd ks=(if j=0 then zd ks else zd (ks.drop (j- 1)))/\(∀(h:0<j) (u:j<=ks.length),qz ks[j- 1]=true),t:=λj=>[(7, .sv (.int .i64 (j:Int)))],h:=λ_=>[],more:=0,μ:=λj=>ks.length- j,keep:=[0,2,5,6]}}
def zvs:Q4->WayF:=λ⟨S,x,a,v⟩=>{
 ann:=λid _ _=>match id with
  |1=>some {σ:=Nat,pre:=λj=>j<=a.fs.length/\v.l.length=a.fs.length/\PV.fitL S (qj a v.b) j ((GV.pvs v.l).drop j)=PV.fitL S (qj a v.b) 0 (GV.pvs v.l),t:=λj=>[(44, .sv (.int .i64 (j:Int)))],h:=λ_=>[],more:=0,μ:=λj=>a.fs.length- j,keep:=[3,4,5,6,42,43]}
  |_=>some {σ:=Nat,pre:=λj=>j<=v.l.length/\PV.fitL S (qj a v.b) j ((GV.pvs v.l).drop j)=PV.fitL S (qj a v.b) 0 (GV.pvs v.l),t:=λj=>[(111, .sv (.int .i64 (j:Int)))],h:=λ_=>[],more:=0,μ:=λj=>v.l.length- j,keep:=[3,4,5,6,109,110]}
 cut:=λi t _=>match i with
  |3=>some {σ:=Unit,pre:=λ_=>¬(0<v.ks.length/\a.k≠13\/v.b≠0/\a.k≠14),t:=λ_=>[],h:=λ_=>[],more:=0,μ:=λ_=>0,keep:=[3,4,5,6]}
  |19=>some {σ:=Unit,pre:=λ_=>a.k≠9/\a.k≠14/\zx a v.l.length v.ks v.b=true,t:=λ_=>[],h:=λ_=>[],more:=0,μ:=λ_=>0,keep:=[3,4,5,6]}
  |_=>none}
def yi(f:Int->Bool) (i k:Nat) (keep:List Nat) (t:T AV):Option LT:=match jQ t k with
 |some a=>some {σ:=Unit,t:=λ_=>[(i, .sv (.bool (f a)))],h:=λ_=>[],more:=0,μ:=λ_=>0,keep:=keep}
 |none=>none
def PC:zt->WayF:=λ⟨S,x,t,v⟩=>{
 cut:=λi t _=>match i with
  |12=>yi qI 24 23 [3,5,6,7,23] t
  |16=>yi qG 45 23 [3,5,6,7,23] t
  |21=>yi ql 62 23 [3,5,6,7,23] t
  |_=>none}
def KR:GV×GV->Nat:=λ⟨v,w⟩=>SizeOf.sizeOf v
def zqv(v:GV):qix P (λ_=>none) Tryz.f47 Om (λ_=>{}) v=(True->(decide ((↑(Prod.fst (Prod.snd (GV.x v))):Int)=(0:Int))=true->(decide ((↑(Prod.fst (Prod.snd (GV.y v))):Int)=(0:Int))=true->kS (Prod.fst (Prod.snd (GV.x v))) (Prod.fst (Prod.snd (GV.y v))) (GV.b v)=decide (GV.b v=(0:Int))/\True)/\(decide ((↑(Prod.fst (Prod.snd (GV.y v))):Int)=(0:Int))=false->kS (Prod.fst (Prod.snd (GV.x v))) (Prod.fst (Prod.snd (GV.y v))) (GV.b v)=false/\True))/\(decide ((↑(Prod.fst (Prod.snd (GV.x v))):Int)=(0:Int))=false->kS (Prod.fst (Prod.snd (GV.x v))) (Prod.fst (Prod.snd (GV.y v))) (GV.b v)=false/\True)):=by kernel_rfl
def zoe(a:AT) (n:Int):qix P (λ_=>none) Tryz.f46 Oh (λ_=>{}) ⟨a,n⟩=((0:Int)<=n/\n<(18446744073709551616:Int)/\Prod.fst (Prod.snd (AT.sy a))=length (AT.sys a)/\length (AT.sys a)<(1000000:Nat)->(decide (AT.k a=(1:Int))=true->zS a n=decide (n=(0:Int))/\True)/\(decide (AT.k a=(1:Int))=false->(decide (AT.k a=(2:Int))=true->zS a n=decide (n<=(1:Int))/\True)/\(decide (AT.k a=(2:Int))=false->(decide (AT.k a=(3:Int))=true->((-9223372036854775808:Int)<=IntKind.wrap i32 n/\IntKind.wrap i32 n<=(9223372036854775807:Int))/\zS a n=decide (n=IntKind.wrap u64 (IntKind.wrap i32 n))/\True)/\(decide (AT.k a=(3:Int))=false->(decide (AT.k a=(5:Int))=true->(0:Int)<=(32:Int)/\zS a n=decide (shP BinOp.shr u64 n (32:Int)=(0:Int))/\True)/\(decide (AT.k a=(5:Int))=false->(decide (AT.k a=(10:Int))=true->zS a n=decide (n<IntKind.wrap u64 (↑(Prod.fst (Prod.snd (AT.sy a))):Int))/\True)/\(decide (AT.k a=(10:Int))=false->zS a n=true/\True)))))):=by kernel_rfl
def zok(a:AT) (s:O6):qix P (qef [(90,wW)]) Tryz.f48 Oi (λ_=>{}) ⟨a,s⟩=(size s<(9223372036854775808:Nat)->(decide (AT.k a=(8:Int))=true->s=s/\size s<(9223372036854775808:Nat)/\jC a s=qz s/\True)/\(decide (AT.k a=(8:Int))=false->(decide (AT.k a=(11:Int))=true->jC a s=decide ((↑(size s):Int)=AT.sz a)/\True)/\(decide (AT.k a=(11:Int))=false->jC a s=true/\True))):=by kernel_rfl
section
variable (a:SV) (d:Prop) (b:List O6) (c:Nat)
 abbrev Ja:=a.1=a.1/\a.2.1=a.2.1/\a.2.2=a.2.2/\d
 abbrev Vi:=(↑a.2.1:Int)
 def X_:=(Vi a)=(Vi a)/\(∀e,True/\qb qo a b e->True/\qb qo a b e)/\d
 abbrev Y7:=c<=length b/\(zd b=if c=0 then zd b else zd (drop (c- 1) b))/\d
 abbrev Al:=Jb ((↑c:Int)+1)
end
def zp5(y:SV) (ks:List O6):qix P (qef [(90,wW)]) Tryz.f91 H' (PE) ⟨y,ks⟩=((length ks<4611686018427387904/\∀(k:O6),k∈ks->size k<9223372036854775808)->(∃(p:Pub),True/\qb qo y ks p)->(∃(s:Nat),Ja y ((↑s:Int)=0/\Ja y (X_ y ((Y7 (∀(h:0<s) (u:s<=length ks),qz ks[s- 1]=true) ks s)/\True) ks)))/\∀(s:Nat),(Y7 (∀(h:0<s) (u:s<=length ks),qz ks[s- 1]=true) ks s)->Ji ((↑s:Int)<(Vi y)) ((0<=(↑s:Int)/\(↑s:Int)<(Vi y))/\y.1≠noA/\∃(s_1:O6),(∀(p:Pub),True/\qb qo y ks p->q2u p (adr y.1 (toNat (↑s:Int)*1)) [string s_1])/\s_1=s_1/\size s_1<9223372036854775808/\((!qz s_1)=true->zd ks=false/\True)/\((!qz s_1)=false->Ji (0<(↑s:Int)) (Jb ((↑s:Int)- 1)/\(0<=(↑s:Int)- 1/\(↑s:Int)- 1<(Vi y))/\y.1≠noA/\∃(s_2:O6),(∀(p:Pub),True/\qb qo y ks p->q2u p (adr y.1 (toNat ((↑s:Int)- 1)*1)) [string s_2])/\((!qcn s_2 s_1)=true->zd ks=false/\True)/\((!qcn s_2 s_1)=false->Al s/\∃(s_3:Nat),Ja y ((↑s_3:Int)=(↑s:Int)+1/\Ja y (X_ y ((Y7 (∀(h:0<s_3) (u:s_3<=length ks),qz ks[s_3- 1]=true) ks s_3)/\length ks- s_3<length ks- s/\True) ks)))) (Al s/\∃(s_2:Nat),Ja y ((↑s_2:Int)=(↑s:Int)+1/\Ja y (X_ y ((Y7 (∀(h:0<s_2) (u:s_2<=length ks),qz ks[s_2- 1]=true) ks s_2)/\length ks- s_2<length ks- s/\True) ks))))) (zd ks=true/\True)):=by kernel_rfl
def keys_eq:=λy ks=>Eq.trans (zp5 y ks) (by delta Ji Jb Jt Jf Ja Vi X_ Y7 Al;exact rfl)
section
variable (a:GV) (c:AT) (d:List AT) (e:SV) (h:Nat) (B:Prop) (C:Nat) (j:zt) (W:Int) (X:O6) (M N:Option Addr) (O Q:Nat) (R:Int) (S:Nat) (A:Nat->Option Obj)
 abbrev xJ:=True/\qc d e A/\AT.ok c A/\GV.ok a A
 abbrev L0:=(↑(GV.y a).2.1:Int)
 abbrev LX:=zx c (length (GV.l a)) (GV.ks a) (GV.b a)&&PV.fitL d (qj c (GV.b a)) 0 (GV.pvs (GV.l a))
 def yw:=(LX a c d)=false/\True
 def LU:=(GV.x a).1=(GV.x a).1/\(GV.x a).2.1=(GV.x a).2.1/\(GV.x a).2.2=(GV.x a).2.2/\B
 def LV:=(AT.f c).1=(AT.f c).1/\(AT.f c).2.1=(AT.f c).2.1/\(AT.f c).2.2=(AT.f c).2.2/\B
 def Z2:=e.1=e.1/\e.2.1=e.2.1/\e.2.2=e.2.2/\GV.n a=GV.n a/\GV.s a=GV.s a/\LU a ((GV.y a).1=(GV.y a).1/\(GV.y a).2.1=(GV.y a).2.1/\(GV.y a).2.2=(GV.y a).2.2/\GV.b a=GV.b a/\AT.k c=AT.k c/\AT.nm c=AT.nm c/\(AT.al c).1=(AT.al c).1/\(AT.al c).2.1=(AT.al c).2.1/\(AT.al c).2.2=(AT.al c).2.2/\AT.it c=AT.it c/\(AT.sy c).1=(AT.sy c).1/\(AT.sy c).2.1=(AT.sy c).2.1/\(AT.sy c).2.2=(AT.sy c).2.2/\AT.hd c=AT.hd c/\AT.df c=AT.df c/\AT.sz c=AT.sz c/\LV c ((AT.br c).1=(AT.br c).1/\(AT.br c).2.1=(AT.br c).2.1/\(AT.br c).2.2=(AT.br c).2.2/\(∀g,xJ a c d e g->xJ a c d e g)/\B))
 def TG:=∃(g:Unit),Z2 a c d e (¬(0<length (GV.ks a)/\AT.k c≠13\/GV.b a≠0/\AT.k c≠14)/\True)
 def C4:=((!decide (AT.k c=14))=true->yw a c d)/\((!decide (AT.k c=14))=false->TG a c d e)
 def TE:=((!decide (GV.b a=0))=true->C4 a c d e)/\((!decide (GV.b a=0))=false->TG a c d e)
 def C8:=((!decide (AT.k c=13))=true->yw a c d)/\((!decide (AT.k c=13))=false->TE a c d e)
 abbrev kO:=(↑(GV.x a).2.1:Int)
 abbrev QH:=(↑(AT.f c).2.1:Int)
 def UE:=PV.fitL d (qj c (GV.b a)) h (drop h (GV.pvs (GV.l a)))=PV.fitL d (qj c (GV.b a)) 0 (GV.pvs (GV.l a))
 def LZ:=h<=length (AT.fs c)/\length (GV.l a)=length (AT.fs c)/\UE a c d h
 def TH:=(∀g,xJ a c d e g->q2u g (adr (GV.x a).1 (toNat (↑h:Int)*5)) [int u64 W,string X,slice M C O,slice N Q S,int i64 R])
 def LW:=j.2.1.1=e.1/\j.2.1.2.1=e.2.1/\j.2.1.2.2=e.2.2/\B
 def LS:=GV.n j.2.2.2=W/\GV.s j.2.2.2=X/\(GV.x j.2.2.2).1=M/\(GV.x j.2.2.2).2.1=h/\(GV.x j.2.2.2).2.2=C/\(GV.y j.2.2.2).1=N/\(GV.y j.2.2.2).2.1=O/\(GV.y j.2.2.2).2.2=Q/\GV.b j.2.2.2=R/\(KN j<S/\small j.1/\PV.sm (GV.pv j.2.2.2))/\(∀g,xJ a c d e g->qc j.1 j.2.1 g/\GV.ok j.2.2.2 g)/\B
 abbrev UF:= !PV.fits j.1 j.2.2.1 (GV.pv j.2.2.2)
 abbrev TI:=Jb ((↑h:Int)+1)
 def C2:=TI h/\∃(g:Nat),(QH c)=(QH c)/\(↑g:Int)=(↑h:Int)+1/\LV c (Z2 a c d e ((LZ a c d g)/\length (AT.fs c)- g<length (AT.fs c)- h/\True))
 def CX:=(0<=(↑h:Int)/\(↑h:Int)<(QH c))/\(AT.f c).1≠noA/\∃g,∃m,∃(q:Nat),∃(u:Nat),∃(t:Int),∃(v:Bool),∃(w:Int),∃(z:Int),∃i8,∃T,∃(i:Nat),∃(r:Nat),∃o,∃(U:Nat),∃(V:Nat),(∀D,xJ a c d e D->q2u D (adr (AT.f c).1 (toNat (↑h:Int)*9)) [string g,slice m q u,int i64 t,bool v,int i64 w,int i64 z,string i8,slice T i r,slice o U V])/\(0<=(↑h:Int)/\(↑h:Int)<(kO a))/\(GV.x a).1≠noA/\∃(i16:Int),∃E,∃F,∃(G:Nat),∃(H:Nat),∃I,∃(J:Nat),∃(K:Nat),∃(L:Int),TH a c d e h G i16 E F I H J L K/\∃(p:zt),LW e (p.2.2.1=t/\LS a c d e G (((UF p)=true->yw a c d)/\((UF p)=false->C2 a c d e h)) H p i16 E F I J K L C) p
 def TF:=(LX a c d)=true/\True
 def CV:=Ji ((↑h:Int)<(QH c)) (CX a c d e h C) (TF a c d)
 def CT:=(∃(g:Nat),(QH c)=(QH c)/\(↑g:Int)=0/\LV c (Z2 a c d e ((LZ a c d g)/\True)))/\∀(m:Nat),LZ a c d m->CV a c d e m h
 def lx:=((!decide ((kO a)=(QH c)))=true->yw a c d)/\((!decide ((kO a)=(QH c)))=false->CT a c d e h)
 def uM:=decide (0<=GV.b a)=decide (0<=GV.b a)
 abbrev Kf:=GV.b a<(↑(AT.br c).2.1:Int)
 def Kg:=decide (Kf a c)=decide (Kf a c)
 def y_:=decide ((kO a)=1)=decide ((kO a)=1)
 def L1:=y_ a/\y_ a/\y_ a/\y_ a/\y_ a/\B
 def CU:=L1 a ((0<=GV.b a/\Kf a c)/\(AT.br c).1≠noA/\y_ a/\∃(g:Int),(∀m,xJ a c d e m->q2u m (adr (AT.br c).1 (toNat (GV.b a)*1)) [int i64 g])/\y_ a/\y_ a/\y_ a/\((0:Int)<=0/\0<(kO a))/\(GV.x a).1≠noA/\y_ a/\∃(q:Int),∃u,∃t,∃(v:Nat),∃(w:Nat),∃z,∃(i8:Nat),∃(T:Nat),∃(i:Int),(∀r,xJ a c d e r->q2u r (adr (GV.x a).1 ((0:Nat)*5)) [int u64 q,string u,slice t v w,slice z i8 T,int i64 i])/\y_ a/\∃(o:zt),LW e (o.2.2.1=g/\LS a c d e v (Ji ((kO a)=1) ((LX a c d)=PV.fits o.1 o.2.2.1 (GV.pv o.2.2.2)/\True) (yw a c d)) w o q u t z i8 T i h) o)
 def C5:=y_ a/\L1 a (L1 a (Ji ((kO a)=1) (False) (yw a c d)))
 def lv:=Ji ((kO a)=1) (CU a c d e h) (C5 a c d)
 def lu:=Kg a c/\Kg a c/\Kg a c/\Ji (Kf a c) (lv a c d e h) (yw a c d)
 def C6:=Kg a c/\Kg a c/\Kg a c/\Ji (Kf a c) (False) (yw a c d)
 abbrev lr:=Ji (Kf a c) (lu a c d e h) (C6 a c d)
 def lq:=uM a/\uM a/\uM a/\uM a/\uM a/\Ji (0<=GV.b a) (lr a c d e h) (yw a c d)
 def C7:=uM a/\uM a/\uM a/\uM a/\uM a/\Ji (0<=GV.b a) (False) (yw a c d)
 def lp:=Ji (0<=GV.b a) (lq a c d e h) (C7 a c d)
 def LY:=AT.k c≠9/\AT.k c≠14/\zx c (length (GV.l a)) (GV.ks a) (GV.b a)=true
 def C1:=((!decide ((kO a)=(L0 a)))=true->yw a c d)/\((!decide ((kO a)=(L0 a)))=false->∃(g:(Option Addr×Nat×Nat)×List O6),g.1.1=(GV.y a).1/\g.1.2.1=(GV.y a).2.1/\g.1.2.2=(GV.y a).2.2/\(length g.2<4611686018427387904/\∀m,m∈g.2->size m<9223372036854775808)/\(∀q,xJ a c d e q->qb qo g.1 g.2 q)/\((!zd g.2)=true->yw a c d)/\((!zd g.2)=false->∃(u:Unit),Z2 a c d e ((LY a c)/\True)))
 def C0:=Ji (AT.k c=13) (C1 a c d e) (∃(t:Unit),Z2 a c d e ((LY a c)/\True))
 def ll:=Ji (AT.k c=14) (lp a c d e h) (C0 a c d e)
 def C3:=TI h/\∃(g:Nat),(↑g:Int)=(↑h:Int)+1/\LU a ((kO a)=(kO a)/\Z2 a c d e ((g<=length (GV.l a)/\UE a c d g)/\length (GV.l a)- g<length (GV.l a)- h/\True))
 def CZ:=(0<=(↑h:Int)/\(↑h:Int)<(kO a))/\(GV.x a).1≠noA/\∃(g:Int),∃m,∃q,∃(u:Nat),∃(t:Nat),∃v,∃(w:Nat),∃(z:Nat),∃(i8:Int),TH a c d e h u g m q v t w i8 z/\∃(i:zt),LW e (i.2.2.1=AT.it c/\LS a c d e u (((UF i)=true->yw a c d)/\((UF i)=false->C3 a c d e h)) t i g m q v w z i8 C) i
 def CY:=Ji ((↑h:Int)<(kO a)) (CZ a c d e h C) (TF a c d)
 def CW:=(∃(g:Nat),(↑g:Int)=0/\LU a ((kO a)=(kO a)/\Z2 a c d e ((g<=length (GV.l a)/\UE a c d g)/\True)))/\∀(m:Nat),m<=length (GV.l a)/\UE a c d m->CY a c d e m h
 def lk:=(Ji (AT.k c=9) (lx a c d e h) (ll a c d e h))/\∀(Y:Unit),LY a c->CW a c d e h
 def jps:=(Ji (0<(L0 a)) (C8 a c d e) (TE a c d e))/\∀(i8:Unit),¬(0<length (GV.ks a)/\AT.k c≠13\/GV.b a≠0/\AT.k c≠14)->lk a c d e h
end
def zi5(n:Nat) (S:List AT) (x:SV) (a:AT) (v:GV):qix P (qef [(91,H'),(28,J4.below KN n)]) Tryz.f49 (HN.below Ve (n+1)) (zvs) ⟨S,x,a,v⟩=(Ve (S,x,a,v)<n+1/\small S/\length (AT.fs a)<1000000/\PV.sm (GV.pv v)/\ql (AT.k a)=true->(∃(p:Pub),xJ v a S x p)->jps v a S x n):=by kernel_rfl
def zog:=λn S x a v=>Eq.trans (zi5 n S x a v) (by delta Ji Jb Jt Jf xJ L0 LX yw LU LV Z2 TG C4 TE C8 kO QH UE LZ TH LW LS UF TI C2 CX TF CV CT lx uM Kf Kg y_ L1 CU C5 lv lu C6 lr lq C7 lp LY C1 C0 ll C3 CZ CY CW lk jps;exact rfl)
section
variable (c:Int) (u:List AT) (d:GV) (v:SV) (w:Nat) (A:O6) (B:Option Addr) (C:Nat) (z:Int) (D:Option Addr) (e g:Nat) (h:Bool) (i:O6) (j:Int) (m:Option Addr) (o p:Nat) (q:Option Addr) (r t:Nat) (E:Int) (H:Nat) (F:Q4) (Y:Prop)
 abbrev xK:=PV.fits u c (GV.pv d)=false/\True
 def xX:=v.1=v.1/\v.2.1=v.2.1/\v.2.2=v.2.2/\c=c/\A=A/\B=B/\w=w/\C=C/\z=z/\D=D/\e=e/\g=g/\h=h/\i=i/\j=j/\m=m/\o=o/\p=p/\q=q/\r=r/\t=t/\GV.n d=GV.n d/\GV.s d=GV.s d/\(GV.x d).1=(GV.x d).1/\(GV.x d).2.1=(GV.x d).2.1/\(GV.x d).2.2=(GV.x d).2.2/\(GV.y d).1=(GV.y d).1/\(GV.y d).2.1=(GV.y d).2.1/\(GV.y d).2.2=(GV.y d).2.2/\GV.b d=GV.b d/\(∀a,True/\qc u v a/\GV.ok d a->True/\qc u v a/\GV.ok d a)/\True/\True
 def Kh:=(Jt (c=E)->∃(a:Unit),c=c/\qI c=decide (c=E)/\xX c u d v w A B C z D e g h i j m o p q r t)
 def ae:=Kh c u d v w A B C z D e g h i j m o p q r t 5/\(Jf (c=5)->Kh c u d v w A B C z D e g h i j m o p q r t 6/\(Jf (c=6)->∃(R:Unit),c=c/\qI c=decide (c=10)/\xX c u d v w A B C z D e g h i j m o p q r t))
 def aa:=Kh c u d v w A B C z D e g h i j m o p q r t 4/\(Jf (c=4)->ae c u d v w A B C z D e g h i j m o p q r t)
 def C9:=Kh c u d v w A B C z D e g h i j m o p q r t 3/\(Jf (c=3)->aa c u d v w A B C z D e g h i j m o p q r t)
 def lG:=Kh c u d v w A B C z D e g h i j m o p q r t 2/\(Jf (c=2)->C9 c u d v w A B C z D e g h i j m o p q r t)
 def TJ:=∃(a:GV),GV.n a=GV.n d/\GV.s a=GV.s d/\(GV.x a).1=(GV.x d).1/\(GV.x a).2.1=(GV.x d).2.1/\(GV.x a).2.2=(GV.x d).2.2/\(GV.y a).1=(GV.y d).1/\(GV.y a).2.1=(GV.y d).2.1/\(GV.y a).2.2=(GV.y d).2.2/\GV.b a=GV.b d/\True/\PV.fits u c (GV.pv d)=kS (GV.x a).2.1 (GV.y a).2.1 (GV.b a)/\True
 def C_:=Ji (GV.s d=mkS []) (TJ c u d) (xK c u d)
 def ag:=Ji (c=8) (∃(a:Unit),c=c/\qG c=decide (c=8)/\xX c u d v w A B C z D e g h i j m o p q r t) (∃(G:Unit),c=c/\qG c=decide (c=11)/\xX c u d v w A B C z D e g h i j m o p q r t)
 def C':=Ji (GV.n d=0) (TJ c u d) (xK c u d)
 def UG:=c=c/\ql c=decide (c=z)/\Y
 def ah:=Ji (c=13) (∃(a:Unit),UG c 13 (xX c u d v w A B C z D e g h i j m o p q r t)) (∃(G:Unit),UG c 14 (xX c u d v w A B C z D e g h i j m o p q r t))
 def ab:=Ji (c=12) (∃(a:Unit),UG c 12 (xX c u d v w A B C z D e g h i j m o p q r t)) (ah c u d v w A B C z D e g h i j m o p q r t)
 abbrev TK:=zx F.2.2.1 (length (GV.l F.2.2.2)) (GV.ks F.2.2.2) (GV.b F.2.2.2)&&PV.fitL F.1 (qj F.2.2.1 (GV.b F.2.2.2)) 0 (GV.pvs (GV.l F.2.2.2))
 def af:=Ji (GV.n d=0) (PV.fits u c (GV.pv d)=decide (GV.s d=mkS [])/\True) (xK c u d)
 def lF:=(ql c=true->∃(a:Q4),a.2.1.1=v.1/\a.2.1.2.1=v.2.1/\a.2.1.2.2=v.2.2/\AT.k a.2.2.1=c/\AT.nm a.2.2.1=A/\(AT.al a.2.2.1).1=B/\(AT.al a.2.2.1).2.1=w/\(AT.al a.2.2.1).2.2=C/\AT.it a.2.2.1=z/\(AT.sy a.2.2.1).1=D/\(AT.sy a.2.2.1).2.1=e/\(AT.sy a.2.2.1).2.2=g/\AT.hd a.2.2.1=h/\AT.df a.2.2.1=i/\AT.sz a.2.2.1=j/\(AT.f a.2.2.1).1=m/\(AT.f a.2.2.1).2.1=o/\(AT.f a.2.2.1).2.2=p/\(AT.br a.2.2.1).1=q/\(AT.br a.2.2.1).2.1=r/\(AT.br a.2.2.1).2.2=t/\GV.n a.2.2.2=GV.n d/\GV.s a.2.2.2=GV.s d/\(GV.x a.2.2.2).1=(GV.x d).1/\(GV.x a.2.2.2).2.1=(GV.x d).2.1/\(GV.x a.2.2.2).2.2=(GV.x d).2.2/\(GV.y a.2.2.2).1=(GV.y d).1/\(GV.y a.2.2.2).2.1=(GV.y d).2.1/\(GV.y a.2.2.2).2.2=(GV.y d).2.2/\GV.b a.2.2.2=GV.b d/\(Ve a<H+1/\small a.1/\length (AT.fs a.2.2.1)<1000000/\PV.sm (GV.pv a.2.2.2)/\ql (AT.k a.2.2.1)=true)/\(∀G,True/\qc u v G/\GV.ok d G->qc a.1 a.2.1 G/\AT.ok a.2.2.1 G/\GV.ok a.2.2.2 G)/\((TK a)=true->af E u d)/\((TK a)=false->xK E u d))/\(ql c=false->xK E u d)
 def lE:=(Ji (c=9) (∃(a:Unit),UG c 9 (xX c u d v w A B C z D e g h i j m o p q r t)) (ab c u d v w A B C z D e g h i j m o p q r t))/\∀(S:Unit),True->lF c u d v w A B C z D e g h i j m o p q r t E H
 def lD:=(qG c=true->∃(a:AT×O6),AT.k a.1=c/\AT.nm a.1=A/\(AT.al a.1).1=B/\(AT.al a.1).2.1=w/\(AT.al a.1).2.2=C/\AT.it a.1=z/\(AT.sy a.1).1=D/\(AT.sy a.1).2.1=e/\(AT.sy a.1).2.2=g/\AT.hd a.1=h/\AT.df a.1=i/\AT.sz a.1=j/\(AT.f a.1).1=m/\(AT.f a.1).2.1=o/\(AT.f a.1).2.2=p/\(AT.br a.1).1=q/\(AT.br a.1).2.1=r/\(AT.br a.1).2.2=t/\a.2=GV.s d/\size a.2<9223372036854775808/\(jC a.1 a.2=true->C' E u d)/\(jC a.1 a.2=false->xK E u d))/\(qG c=false->lE c u d v w A B C z D e g h i j m o p q r t E H)
 def lC:=(Ji (c=7) (∃(a:Unit),c=c/\qG c=decide (c=7)/\xX c u d v w A B C z D e g h i j m o p q r t) (ag c u d v w A B C z D e g h i j m o p q r t))/\∀(T:Unit),True->lD c u d v w A B C z D e g h i j m o p q r t E H
 def lB:=(qI c=true->∃(a:AT×Int),AT.k a.1=c/\AT.nm a.1=A/\(AT.al a.1).1=B/\(AT.al a.1).2.1=w/\(AT.al a.1).2.2=C/\AT.it a.1=z/\(AT.sy a.1).1=D/\(AT.sy a.1).2.1=e/\(AT.sy a.1).2.2=g/\AT.hd a.1=h/\AT.df a.1=i/\AT.sz a.1=j/\(AT.f a.1).1=m/\(AT.f a.1).2.1=o/\(AT.f a.1).2.2=p/\(AT.br a.1).1=q/\(AT.br a.1).2.1=r/\(AT.br a.1).2.2=t/\a.2=GV.n d/\(0<=a.2/\a.2<18446744073709551616/\(AT.sy a.1).2.1=length (AT.sys a.1)/\length (AT.sys a.1)<1000000)/\(zS a.1 a.2=true->C_ E u d)/\(zS a.1 a.2=false->xK E u d))/\(qI c=false->lC c u d v w A B C z D e g h i j m o p q r t E H)
 def lA:=(0<=c/\c<(↑v.2.1:Int))/\v.1≠noA/\∃(a:Int),∃G,∃R,∃(U:Nat),∃(S:Nat),∃(V:Int),∃T,∃(W:Nat),∃(i8:Nat),∃(X:Bool),∃I,∃(J:Int),∃K,∃(L:Nat),∃(M:Nat),∃N,∃(i16:Nat),∃(O:Nat),(∀Q,True/\qc u v Q/\GV.ok d Q->q2u Q (adr v.1 (toNat c*10)) [int i64 a,string G,slice R U S,int i64 V,slice T W i8,bool X,string I,int i64 J,slice K L M,slice N i16 O])/\(Kh a u d v U G R S V T W i8 X I J K L M N i16 O 1/\(Jf (a=1)->lG a u d v U G R S V T W i8 X I J K L M N i16 O))/\∀(Z:Unit),True->lB a u d v U G R S V T W i8 X I J K L M N i16 O c w
 def lz:=Ji ((↑v.2.1:Int)<=c) (xK c u d) (lA c u d v w)
 def ly:=Ji (c<0) (xK c u d) (lz c u d v w)
end
def zon(n:Nat) (S:List AT) (x:SV) (t:Int) (v:GV):qix P (qef [(46,Oh),(48,Oi),(47,Om),(49,HN.below Ve (n+1))]) Tryz.f28 (J4.below KN (n+1)) (PC) ⟨S,x,t,v⟩=(KN (S,x,t,v)<n+1/\small S/\PV.sm (GV.pv v)->(∃(p:Pub),True/\qc S x p/\GV.ok v p)->ly t S v x n):=by kernel_rfl
def zxd:=λn S x t v=>Eq.trans (zon n S x t v) (by delta Ji Jt Jf xK xX Kh ae aa C9 lG TJ C_ ag C' UG ah ab TK af lF lE lD lC lB lA lz ly;exact rfl)
section
def wrap_i32(n:Int):IntKind.wrap .i32 n=(n+2147483648) % 4294967296- 2147483648:=by simp[IntKind.wrap,IntKind.bits,IntKind.signed];omega
def Ir(n:Int):IntKind.wrap .u64 n=n % 18446744073709551616:=by simp[IntKind.wrap,IntKind.bits,IntKind.signed]
def jio(n:Int) (h:0<=n):shP .shr .u64 n 32=n / 4294967296:=by show Int.fdiv n (2 ^ min (32:Int).toNat 64)=_;rw[show(2:Int) ^ min (32:Int).toNat 64=4294967296 from rfl,Int.fdiv_eq_ediv_of_nonneg _ (by omega)]
def zqw:q4a P 47 Om:=by
 refine qw z7 (W:=λ_=>{}) Tryz.func47 λ(v:GV)=>(zqv v).mpr ?_;simp only[decide_eq_true_eq,decide_eq_false_iff_not,and_true];intro _;unfold kS;refine⟨λh=>⟨λg=> ?_,λg=> ?_⟩,λh=> ?_⟩
 ·rw[decide_eq_true (by omega:v.x.2.1=0),decide_eq_true (by omega:v.y.2.1=0)];rfl
 ·rw[decide_eq_false (by omega:¬v.y.2.1=0),Bool.and_false];rfl
 ·rw[decide_eq_false (by omega:¬v.x.2.1=0)];rfl
def zof:q4a P 46 Oh:=by
 refine qw z7 (W:=λ_=>{}) Tryz.func46 λ⟨a,(n:Int)⟩=>(zoe a n).mpr ?_;rintro⟨H,N,hs,O⟩;simp only[decide_eq_true_eq,decide_eq_false_iff_not,and_true];unfold zS;refine⟨λh=>(if_pos h),λu=>⟨λh=> ?_,λA=>⟨λh=>⟨?_,?_⟩,λC=>⟨λh=>⟨by omega,?_⟩,λG=>⟨λh=> ?_,λJ=> ?_⟩⟩⟩⟩⟩
 ·rw[if_neg u,if_pos h]
 ·rw[wrap_i32];omega
 ·rw[if_neg u,if_neg A,if_pos h,wrap_i32,Ir];exact qV (by omega)
 ·rw[if_neg u,if_neg A,if_neg C,if_pos h,jio n H];exact qV (by omega)
 ·rw[if_neg u,if_neg A,if_neg C,if_neg G,if_pos h,Ir];exact qV (by omega)
 ·rw[if_neg u,if_neg A,if_neg C,if_neg G,if_neg J]
def zol:q4a P 48 Oi:=by
 refine qw (qbu (qfr zee qil)) (W:=λ_=>{}) Tryz.func48 λ⟨a,s⟩=>(zok a s).mpr ?_;intro hs;simp only[decide_eq_true_eq,decide_eq_false_iff_not,and_true];unfold jC;refine⟨λh=>⟨trivial,hs,if_pos h⟩,λu=>⟨λh=> ?_,λA=> ?_⟩⟩
 ·rw[if_neg u,if_pos h]
 ·rw[if_neg u,if_neg A]
variable {ks:List O6} {p:Pub}
def J7{y:SV} (h:qb qo y ks p) {i:Nat} (hi:i<ks.length):y.1≠noA/\q2u p (adr y.1 (i*1)) [.string ks[i]]:=j3 jS (by decide) h hi
variable {j:Nat}
def z9j(h:j+1<ks.length):zd (ks.drop j)=(qz (ks[j]'(by omega))&&qcn (ks[j]'(by omega)) ks[j+1]&&zd (ks.drop (j+1))):=by rw[List.drop_eq_getElem_cons (by omega),List.drop_eq_getElem_cons h,zd]
def zdn:∀{ks:List O6} {i:Nat} (hi:i<ks.length),qz ks[i]=false->zd ks=false
 | [k],0,_,h=>by rw[zd];exact h
 |k::j::l,0,_,h=>by rw[zd];simp at h;rw[h];rfl
 |k::j::l,i+1,hi,h=>by rw[zd,zdn (ks:=j::l) (i:=i) (by simpa using hi) (by simpa using h),Bool.and_false]
def zxo:q4a P 91 H':=by
 refine qw (qbu (qfr zee qil)) (W:=PE) Tryz.func91 λ⟨(y:SV),ks⟩=>(keys_eq y ks).mpr ?_;rintro⟨U,H⟩ ⟨p,_,hp⟩;have V:y.2.1=ks.length:=hp.1;simp only[qy,Int.toNat_natCast];refine⟨⟨0,rfl,by omega,rfl,λh=>absurd h (by omega)⟩,?_⟩;rintro j ⟨T,u,N⟩;refine⟨λG=>⟨⟨by omega,G⟩,(J7 hp (show j<ks.length by omega)).1,ks[j]'(by omega),λq hq=>(J7 hq (show j<ks.length by omega)).2,H _ (List.getElem_mem _),λC=>zdn _ C,λJ=>⟨λA=> ?_,λA=> ?_⟩⟩,λO=> ?_⟩
 ·have e:((j:Int)- 1).toNat=j- 1:=by omega
  rw[e];refine⟨by omega,by omega,(J7 hp (show j- 1<ks.length by omega)).1,ks[j- 1]'(by omega),λq hq=>(J7 hq (show j- 1<ks.length by omega)).2,λC=> ?_,λC=> ?_⟩
  ·rw[if_neg (by omega)]at u;rw[u];have:=z9j (ks:=ks) (j:=j- 1) (by omega);simp only[show j- 1+1=j by omega]at this;rw[this,C,Bool.and_false];rfl
  ·refine⟨by omega,j+1,rfl,⟨by omega,?_,λ_ _=> ?_⟩,by omega⟩
   ·rw[if_neg (by omega)]at u⊢;have:=z9j (ks:=ks) (j:=j- 1) (by omega);simp only[show j- 1+1=j by omega]at this;rw[u,this,C,N (by omega) (by omega)];simp
   ·simpa using J
 ·obtain rfl:j=0:=by omega
  exact⟨by omega,1,rfl,⟨by omega,by simp,λ_ _=>by simpa using J⟩,by omega⟩
 ·obtain rfl:j=ks.length:=by omega
  by_cases A:ks.length=0
  ·rw[List.length_eq_zero_iff]at A;rw[A,zd]
  ·rw[if_neg A]at u;have:=N (by omega) (Nat.le_refl _);rw[u,List.drop_eq_getElem_cons (by omega),show ks.length- 1+1=ks.length by omega,List.drop_length,zd];exact this
def zfx:∀{l m:List PV} {j:Nat} (h:j<l.length) (u:j<m.length),PV.sames (l.drop j) (m.drop j)=(PV.same l[j] m[j]&&PV.sames (l.drop (j+1)) (m.drop (j+1))):=λ{l m j} h u=>by rw[List.drop_eq_getElem_cons h,List.drop_eq_getElem_cons u,PV.sames]
def z9t:∀{l m:List PV},l.length≠m.length->PV.sames l m=false
 | [],[],h=>absurd rfl h
 | [],_::_,h=>by rw[PV.sames]<;>simp
 |_::_,[],h=>by rw[PV.sames]<;>simp
 |v::l,w::m,h=>by rw[PV.sames,z9t (l:=l) (m:=m) (by simpa using h),Bool.and_false]
variable {l:List GV}
def ZD(h:j<l.length):(GV.pvs l)[j]'(by rw[GV.pvs_len];exact h)=(l[j]).pv:=by simp[GV.pvs_map]
def I9(h:j<l.length):SizeOf.sizeOf l[j]<SizeOf.sizeOf l:=List.sizeOf_lt_of_mem (List.getElem_mem h)
mutual
def z9s:∀v:PV,PV.same v v=true
 | .mk n s l ks b=>by rw[PV.same,sames_refl l];simp
def sames_refl:∀l:List PV,PV.sames l l=true
 | []=>by rw[PV.sames]
 |v::l=>by rw[PV.sames,z9s v,sames_refl l];rfl
end
variable {S:List AT}
def z9d{f:Nat->Int} {l:List PV} (h:j<l.length):PV.fitL S f j (l.drop j)=(PV.fits S (f j) l[j]&&PV.fitL S f (j+1) (l.drop (j+1))):=by rw[List.drop_eq_getElem_cons h,PV.fitL]
def vV{a:AT} (h:a.ok p) {j:Nat} (u:j<a.fs.length):a.f.1≠noA/\q2u p (adr a.f.1 (j*9)) a.fs[j].cells:=j3 HI (by decide) h.2.2.1 u
def yV{a:AT} (h:a.ok p) {j:Nat} (u:j<a.brs.length):a.br.1≠noA/\q2u p (adr a.br.1 (j*1)) [.int .i64 a.brs[j]]:=j3 yX (by decide) h.2.2.2.1 u
def yp{x:SV} (h:qc S x p) {j:Nat} (u:j<S.length):x.1≠noA/\q2u p (adr x.1 (j*10)) S[j].cells:=j3 yU (by decide) h.1 u
def zoh(n:Nat) (hf:q4a P 28 (J4.below KN n)):q4a P 49 (HN.below Ve (n+1)):=by
 refine qw (qbu (qfr zxo (qfr hf qil))) (W:=zvs) Tryz.func49 λ⟨S,(x:SV),a,v⟩=>(zog n S x a v).mpr ?_;rintro⟨hmu,hS,haf,hv,hq⟩ ⟨p,_,hx,ha,V⟩;have hmu:SizeOf.sizeOf v<n+1:=hmu;have xl:=GV.x_len V;have yl:=GV.y_len V;have fl:a.f.2.1=a.fs.length:=ha.2.2.1.1;have bl:a.br.2.1=a.brs.length:=ha.2.2.2.1.1;have hvs:=hv;rw[GV.sm_eq]at hvs;obtain⟨_,_,vl,kl,ksz,_⟩:=hvs;simp only[qy,Int.toNat_natCast,xl,yl,fl,bl];have U:(0<v.ks.length/\a.k≠13\/v.b≠0/\a.k≠14)->zx a v.l.length v.ks v.b=false:=λh=>by unfold zx;rw[if_pos h]
 have bad:zx a v.l.length v.ks v.b=false->(zx a v.l.length v.ks v.b&&PV.fitL S (qj a v.b) 0 (GV.pvs v.l))=false:=λh=>by rw[h];rfl
 have child:∀{j:Nat} (Y:j<v.l.length),SizeOf.sizeOf v.l[j]<n:=λ{j} Y=>by
  have h1:=I9 Y;have:SizeOf.sizeOf v.l<SizeOf.sizeOf v:=by cases v;simp[GV.l];omega
  omega
 have C:∀{j:Nat} (Y:j<v.l.length),PV.fitL S (qj a v.b) j ((GV.pvs v.l).drop j)=(PV.fits S (qj a v.b j) (v.l[j]).pv&&PV.fitL S (qj a v.b) (j+1) ((GV.pvs v.l).drop (j+1))):=λ{j} Y=>by have:=z9d (S:=S) (f:=qj a v.b) (l:=GV.pvs v.l) (j:=j) (by rw[GV.pvs_len];exact Y);rw[ZD Y]at this;exact this
 have O:PV.fitL S (qj a v.b) v.l.length ((GV.pvs v.l).drop v.l.length)=true:=by rw[List.drop_of_length_le (by rw[GV.pvs_len];exact Nat.le_refl _),PV.fitL]
 refine⟨⟨λh1=>⟨λh2=>bad (U (by omega)),λh2=>⟨λh3=>⟨λh4=>bad (U (by omega)),λh4=>by omega⟩,λh3=>⟨(),by omega⟩⟩⟩,λh1=>⟨λh3=>⟨λh4=>bad (U (by omega)),λh4=>⟨(),by omega⟩⟩,λh3=>⟨(),by omega⟩⟩⟩,?_⟩;intro _ hnb;have H:zx a v.l.length v.ks v.b=if a.k=9 then decide (v.l.length=a.fs.length)else if a.k=14 then decide (0<=v.b/\v.b<a.brs.length/\v.l.length=1)else if a.k=13 then decide (v.l.length=v.ks.length)&&zd v.ks else true:=by unfold zx;rw[if_neg hnb]
 refine⟨⟨λJ=>⟨λh=>bad (by rw[H,if_pos J];exact decide_eq_false (by omega)),λh=>⟨⟨0,rfl,by omega,by omega,by simp⟩,?_⟩⟩,λJ=>⟨λA=> ?_,λA=>⟨λT=>⟨λh=>bad (by rw[H,if_neg J,if_neg A,if_pos T,decide_eq_false (by omega)];rfl),λh=>⟨⟨v.y,v.ks⟩,?_⟩⟩,λT=>⟨(),J,A,by rw[H,if_neg J,if_neg A,if_neg T]⟩⟩⟩⟩,?_⟩
 ·rintro j ⟨Y,hl,ht⟩;refine⟨λhlt=> ?_,λhge=> ?_⟩
  ·have hjf:j<a.fs.length:=(by omega);have u:j<v.l.length:=(by omega);have hd:=C u;have G:qj a v.b j=a.fs[j].ty:=(by unfold qj;rw[if_pos J,List.getElem?_eq_getElem hjf]);refine⟨by omega,(vV ha hjf).1,a.fs[j].nm,a.fs[j].al.1,a.fs[j].al.2.1,a.fs[j].al.2.2,a.fs[j].ty,a.fs[j].hd,a.fs[j].df.k,a.fs[j].df.n,a.fs[j].df.s,a.fs[j].df.y.1,a.fs[j].df.y.2.1,a.fs[j].df.y.2.2,a.fs[j].df.x.1,a.fs[j].df.x.2.1,a.fs[j].df.x.2.2,λq hq=>(vV hq.2.1 hjf).2,by omega,(GV.cells_at V u).1,v.l[j].n,v.l[j].s,v.l[j].x.1,v.l[j].x.2.1,v.l[j].x.2.2,v.l[j].y.1,v.l[j].y.2.1,v.l[j].y.2.2,v.l[j].b,λq hq=>(GV.cells_at hq.2.2 u).2,⟨S,x,a.fs[j].ty,v.l[j]⟩,?_⟩;simp only[true_and,eq_self];refine⟨⟨child u,hS,GV.sm_at hv u⟩,λq hq=>⟨hq.1,GV.ok_at hq.2.2 u⟩,λX=> ?_,λX=>⟨by omega,j+1,by omega,⟨by omega,hl,?_⟩,by omega⟩⟩
   ·rw[←ht,hd,G,X,Bool.false_and,Bool.and_false]
   ·rw[←ht,hd,G,X,Bool.true_and]
  ·obtain rfl:j=v.l.length:=(by omega);rw[H,if_pos J,decide_eq_true hl,←ht,O];rfl
 ·have N:zx a v.l.length v.ks v.b=decide (0<=v.b/\v.b<a.brs.length/\v.l.length=1):=by rw[H,if_neg J,if_pos A]
  have c1:0<=v.b\/¬0<=v.b:=by omega
  refine⟨λd1=>⟨λ_=>⟨λd2=>⟨λ_=>⟨λd3=> ?_,λd3=>⟨λh=>d3 h,λ_=>bad (by rw[N];exact decide_eq_false (by omega))⟩⟩,λh=>absurd d2 h⟩,λd2=>⟨λh=>d2 h,λ_=>bad (by rw[N];exact decide_eq_false (by omega))⟩⟩,λh=>absurd d1 h⟩,λd1=>⟨λh=>d1 h,λ_=>bad (by rw[N];exact decide_eq_false (by omega))⟩⟩;have hl1:v.l.length=1:=by omega
  have h0:0<v.l.length:=by omega
  obtain⟨b,X⟩:=Int.eq_ofNat_of_zero_le d1;have Z:b<a.brs.length:=by omega
  have hbt:v.b.toNat=b:=by omega
  rw[hbt];have G:qj a v.b 0=a.brs[b]:=by unfold qj;rw[if_neg J,if_pos A,hbt,List.getD_eq_getElem?_getD,List.getElem?_eq_getElem Z];rfl
  have hd:=C h0;refine⟨⟨by omega,by omega⟩,(yV ha Z).1,a.brs[b],λq hq=>(yV hq.2.1 Z).2,⟨by omega,by omega⟩,(GV.cells_at V h0).1,v.l[0].n,v.l[0].s,v.l[0].x.1,v.l[0].x.2.1,v.l[0].x.2.2,v.l[0].y.1,v.l[0].y.2.1,v.l[0].y.2.2,v.l[0].b,λq hq=>(GV.cells_at hq.2.2 h0).2,⟨S,x,a.brs[b],v.l[0]⟩,?_⟩;simp only[true_and,eq_self];refine⟨⟨child h0,hS,GV.sm_at hv h0⟩,λq hq=>⟨hq.1,GV.ok_at hq.2.2 h0⟩,λ_=> ?_,λh=>absurd d3 h⟩;have fe:=O;rw[hl1]at fe;rw[List.drop_zero,G,Nat.zero_add,fe]at hd;rw[N,decide_eq_true ⟨d1,d2,hl1⟩,hd,Bool.and_true,Bool.true_and]
 ·simp only[true_and,eq_self];refine⟨yl,⟨kl,ksz⟩,λq hq=>by have:=hq.2.2;rw[GV.ok_eq]at this;exact this.2.1,λhk=>bad (by rw[H,if_neg J,if_neg A,if_pos T,hk,Bool.and_false]),λhk=>⟨(),J,A,by rw[H,if_neg J,if_neg A,if_pos T,hk,decide_eq_true (by omega)];rfl⟩⟩
 ·rintro _ ⟨J,A,N⟩;have G:∀j,qj a v.b j=a.it:=λj=>by unfold qj;rw[if_neg J,if_neg A]
  refine⟨⟨0,rfl,by omega,by simp⟩,?_⟩;rintro j ⟨Y,ht⟩;refine⟨λhlt=> ?_,λhge=> ?_⟩
  ·have u:j<v.l.length:=(by omega);have hd:=C u;refine⟨by omega,(GV.cells_at V u).1,v.l[j].n,v.l[j].s,v.l[j].x.1,v.l[j].x.2.1,v.l[j].x.2.2,v.l[j].y.1,v.l[j].y.2.1,v.l[j].y.2.2,v.l[j].b,λq hq=>(GV.cells_at hq.2.2 u).2,⟨S,x,a.it,v.l[j]⟩,?_⟩;simp only[true_and,eq_self];refine⟨⟨child u,hS,GV.sm_at hv u⟩,λq hq=>⟨hq.1,GV.ok_at hq.2.2 u⟩,λX=> ?_,λX=>⟨by omega,j+1,by omega,⟨by omega,?_⟩,by omega⟩⟩
   ·rw[←ht,hd,G,X,Bool.false_and,Bool.and_false]
   ·rw[←ht,hd,G,X,Bool.true_and]
  ·obtain rfl:j=v.l.length:=(by omega);rw[N,←ht,O];rfl
def HC{s:O6}:s=mkS []↔s.size=0:=⟨λh=>by rw[h];rfl,λh=>by
 apply ByteArray.ext;apply Array.ext
 ·exact h
 ·intro i A u;exact absurd u (by show¬i<0;omega)⟩
def zxe(n:Nat) (hf:q4a P 49 (HN.below Ve (n+1))):q4a P 28 (J4.below KN (n+1)):=by
  refine qw (qbu (qfr zof (qfr zol (qfr zqw (qfr hf qil))))) (W:=PC) Tryz.func28 λ⟨S,(x:SV),(t:Int),v⟩=>(zxd n S x t v).mpr ?_;rintro⟨G,hS,hv⟩ ⟨p,_,hx,C⟩;have G:SizeOf.sizeOf v<n+1:=G;have xs:x.2.1=S.length:=hx.1.1;have X:=GV.x_len C;have Y:=GV.y_len C;have U:=hv;rw[GV.sm_eq]at U;obtain⟨hn,hss,vl,kl,ksz,_⟩:=U;have u:PV.fits S t v.pv=if t<0\/S.length<=t then false else match S[t.toNat]? with
    |none=>false
    | some a=>if qI a.k=true then zS a v.n&&decide (v.s.size=0)&&kS v.l.length v.ks.length v.b else
      if qG a.k=true then jC a v.s&&decide (v.n=0)&&kS v.l.length v.ks.length v.b else
      if ql a.k=true then zx a v.l.length v.ks v.b&&PV.fitL S (qj a v.b) 0 (GV.pvs v.l)&&decide (v.n=0)&&decide (v.s.size=0)else false:=by rw[GV.pv_eq,PV.fits,GV.pvs_len]<;>rfl
  simp only[qy,Int.toNat_natCast,X,Y,xs,exists_const];refine⟨λh=>by rw[u,if_pos (.inl h)],λh=>⟨λH=>by rw[u,if_pos (.inr H)],λH=> ?_⟩⟩;obtain⟨j,rfl⟩:=Int.eq_ofNat_of_zero_le (show 0<=t by omega);have V:j<S.length:=by omega
  rw[if_neg (by omega)]at u;simp only[Int.toNat_natCast,List.getElem?_eq_getElem V]at u⊢;have O:=λq (hq:qc S x q/\v.ok q)=>yp hq.1 V;have J:=λq (hq:qc S x q/\v.ok q)=>hq.1.2 S[j] (List.getElem_mem V);refine⟨by omega,(O p ⟨hx,C⟩).1,S[j].k,S[j].nm,S[j].al.1,S[j].al.2.1,S[j].al.2.2,S[j].it,S[j].sy.1,S[j].sy.2.1,S[j].sy.2.2,S[j].hd,S[j].df,S[j].sz,S[j].f.1,S[j].f.2.1,S[j].f.2.2,S[j].br.1,S[j].br.2.1,S[j].br.2.2,λq hq=>(O q hq).2,?_⟩;have T:=hS.2 S[j] (List.getElem_mem V);have syl:S[j].sy.2.1=S[j].sys.length:=(J p ⟨hx,C⟩).2.1.1;have N:=λq (hq:qc S x q/\v.ok q)=>J q hq;generalize S[j]=a at*;have e0:∀{b:Bool} {k:Int},(∀d:Int,d=k->a.k=d->b=true)->a.k=k->b=decide (a.k=k):=λh g=>by rw[h _ rfl g,decide_eq_true g]
  refine⟨⟨λh=>by unfold qI;exact qV (by omega),λh1=>⟨λh=>by unfold qI;exact qV (by omega),λH=>⟨λh=>by unfold qI;exact qV (by omega),λh3=>⟨λh=>by unfold qI;exact qV (by omega),λh4=>⟨λh=>by unfold qI;exact qV (by omega),λh5=>⟨λh=>by unfold qI;exact qV (by omega),λh6=>by unfold qI;exact qV (by omega)⟩⟩⟩⟩⟩⟩,?_⟩;rintro _ _;refine⟨λZ=>⟨⟨a,v.n⟩,?_⟩,λZ=>⟨⟨λh=>by unfold qG;exact qV (by omega),λh1=>⟨λh=>by unfold qG;exact qV (by omega),λH=>by unfold qG;exact qV (by omega)⟩⟩,?_⟩⟩
  · rw[if_pos Z]at u;simp only[true_and,eq_self];refine⟨⟨hn.1,hn.2,syl,T.2.2⟩,λA=>⟨λhs=>⟨v,?_⟩,λhs=> ?_⟩,λA=>by rw[u,A];rfl⟩
    · simp only[true_and,eq_self,X,Y];rw[u,A,decide_eq_true (HC.1 hs)];rfl
    · rw[u,decide_eq_false (λh=>hs (HC.2 h))];simp
  rintro _ _;rw[Z,if_neg (by simp)]at u;refine⟨λhT=>⟨⟨a,v.s⟩,?_⟩,λhT=>⟨⟨λh=>by unfold ql;exact qV (by omega),λh1=>⟨λh=>by unfold ql;exact qV (by omega),λH=>⟨λh=>by unfold ql;exact qV (by omega),λh3=>by unfold ql;exact qV (by omega)⟩⟩⟩,?_⟩⟩
  · rw[if_pos hT]at u;simp only[true_and,eq_self];refine⟨hss,λA=>⟨λhs=>⟨v,?_⟩,λhs=> ?_⟩,λA=>by rw[u,A];rfl⟩
    · simp only[true_and,eq_self,X,Y];rw[u,A,decide_eq_true hs];rfl
    · rw[u,decide_eq_false hs];simp
  rintro _ _;rw[hT,if_neg (by simp)]at u;refine⟨λhQ=>⟨⟨S,x,a,v⟩,?_⟩,λhQ=>by rw[u,hQ];rfl⟩;rw[if_pos hQ]at u;simp only[true_and,eq_self,X,Y,xs,and_true];refine⟨⟨G,hS,T.1,hv,hQ⟩,λq hq=>⟨hq.1,N q hq,hq.2⟩,?_⟩;refine⟨λA=>⟨λhs=> ?_,λhs=> ?_⟩,λA=>by rw[u,A];rfl⟩
  · rw[u,A,decide_eq_true hs];exact qV HC.symm
  · rw[u,A,decide_eq_false hs];rfl
def zdd:∀n,q4a P 28 (J4.below KN n)
 |0=>Ct.below_zero (by decide) (by decide) (Sen.enters_of Tryz.func28 (by kernel_rfl)) λs=>⟨rfl,rfl⟩
 |n+1=>zxe n (zoh n (zdd n))
def zoo:q4a P 28 J4:=Ct.of_below zdd
end
def G7:∀n,q1i P 32 (wV.below j_ n)
 |0=>CtR.below_zero (by decide) (by decide) (Sen.enters_of Tryz.func32 (by kernel_rfl)) λs=>rfl
 |n+1=>zqn n (G7 n) (zka n (G7 n)) (zj9 n (zfb n (G7 n)))
def zk7:q1i P 32 wV:=CtR.of_below G7
def qv(S:List AT):Prop:=S.length<=60/\∀a∈S,kK S.length a
def Ok:CtR where
 σ:=GJ
 args:=λg=>[g.av]
 h:=λ_=>[]
 m:=1
 pre:=λg=>g.wf
 mem:=gM
 β:=λ_=>List AT×SV×Int
 post:=λg ⟨S,x,e⟩=>qv S/\(e=0->S≠[])
 pm:=λ_ ⟨S,x,e⟩=>⟨true,qc S x,λ_ _ h e=>uC h e⟩
 r:=λ_ ⟨S,x,e⟩=> .tup [jP x, .sv (.int .i64 e)]
 h':=λ_ _=>[]
 m':=1
def zvu:GJ->WayF:=λg=>{pubE:=[23]}
section
variable (b:qP) (f:GJ) (d:vL) (i:Nat->Option Obj) (l:Nat) (m:Option Addr)
 def lI:=AV.sv (int i64 b.2.1)=AV.sv (int i64 b.2.1)/\∃(c:List AT×(Option Addr×Nat×Nat)×Int),c.2.1.1=noA/\c.2.1.2.1=0/\c.2.1.2.2=0/\c.2.2=b.2.1/\(qv c.1/\(c.2.2=0->c.1≠[]))/\(∀g,((True/\GJ.ok f g)/\∀(j:AT),j∈b.1->AT.ok j g)->qc c.1 c.2.1 g)/\True
 def Am:=((True/\GJ.ok f i)/\∀(c:AT),c∈b.1->AT.ok c i)/\length (d.1++b.1)<=l/\qfu i m (take (length (d.1++b.1)*nat_lit 10) (qa AT.cells (d.1++b.1)))
 def lH:=((!decide (b.2.1=0))=true->lI b f)/\((!decide (b.2.1=0))=false->∀(n o p:Nat) (h:Option Addr) (q i8:Nat),(∃k,Am b f d k i8 h)->∃(a:List AT×(Option Addr×Nat×Nat)×Int),a.2.1.1=h/\a.2.1.2.1=length (d.1++b.1)/\a.2.1.2.2=i8/\a.2.2=0/\(qv a.1/\(a.2.2=0->a.1≠[]))/\(∀e,Am b f d e i8 h->qc a.1 a.2.1 e)/\True)
end
def zic(g:GJ):qiy P (qef []) (qff [(32,wV)]) Tryz.f18 Ok (zvu) g=(GJ.wf g->(∃(p:Pub),True/\GJ.ok g p)->∃(s:vL),GJ.k s.2.2.1=GJ.k g/\GJ.n s.2.2.1=GJ.n g/\GJ.s s.2.2.1=GJ.s g/\(GJ.y s.2.2.1).1=(GJ.y g).1/\(GJ.y s.2.2.1).2.1=(GJ.y g).2.1/\(GJ.y s.2.2.1).2.2=(GJ.y g).2.2/\(GJ.x s.2.2.1).1=(GJ.x g).1/\(GJ.x s.2.2.1).2.1=(GJ.x g).2.1/\(GJ.x s.2.2.1).2.2=(GJ.x g).2.2/\s.2.2.2.1=mkS []/\s.2.2.2.2=1/\length s.1=0/\s.2.1=0/\y7 s/\(∀(p:Pub),True/\GJ.ok g p->GJ.ok s.2.2.1 p)/\∀(b:qP),zG s b->(∃(p:Pub),(True/\GJ.ok g p)/\∀(a:AT),a∈b.1->AT.ok a p)->lH b g s):=by kernel_rfl
def zov:=λg=>Eq.trans (zic g) (by delta lI Am lH;exact rfl)
def zow:q1i P 18 Ok:=by
 refine zI (qbu qil) (qcl (qfq zk7 qik)) (W:=zvu) Tryz.func18 λg=>(zov g).mpr ?_;rintro J ⟨p,_,hp⟩;simp only[qy,exists_const,forall_const,Int.toNat_natCast];refine⟨⟨[],0,g,mkS [],1⟩,rfl,rfl,rfl,rfl,rfl,rfl,rfl,rfl,rfl,rfl,rfl,rfl,rfl,⟨Nat.zero_le _,J,by decide,by decide,by show((0:Nat):Int)<=_;decide⟩,λq hq=>hq,?_⟩;rintro⟨T,e,r⟩ ⟨⟨A,u⟩,hr⟩ _;simp only at A u hr⊢;rw[List.nil_append]at A u hr;refine⟨λH=>⟨⟨[],(none,0,0),e⟩,rfl,rfl,rfl,rfl,⟨⟨Nat.zero_le _,λa C=>(by cases C)⟩,λh=>absurd h H⟩,λq hq=>⟨qQ,λa C=>(by cases C)⟩⟩,λhe=> ?_⟩;intro a c _;obtain⟨_,G⟩:=u he;refine⟨⟨T,(a,T.length,c),0⟩,rfl,rfl,rfl,rfl,⟨⟨A,G⟩,λ_ h=> ?_⟩,λq hq=>⟨⟨rfl,hq.2.1,?_⟩,hq.1.2⟩⟩
 ·have h:T=[]:=h;subst h;have:=hr he;simp at this;omega
 ·have:=hq.2.2;rw[List.nil_append,List.take_of_length_le (by rw[qB yU];exact Nat.le_refl _)]at this;exact this
def u_(σ:Type) (args:σ->List AV) (pre:σ->Prop) (mem:σ->PF) (β:Type) (post:σ->β->Prop) (pm:σ->β->PF) (r:σ->β->AV):CtR where
 σ:=σ
 args:=args
 h:=λ_=>[]
 m:=1
 pre:=pre
 mem:=mem
 β:=λ_=>β
 post:=post
 pm:=pm
 r:=r
 h':=λ_ _=>[]
 m':=1
def kT(n:Int):Prop:=0<=n/\n<18446744073709551616
def Ug:CtR:=u_ (Int×Int×Int) (λ⟨v,f,b⟩=>[.sv (.int .u64 v), .sv (.int .i64 f), .sv (.int .i64 b)]) (λ⟨v,f,b⟩=>kT v/\1<=f/\f<=62/\0<=b/\b<=2000) (λ_=>{}) Int (λ_ r=>kT r) (λ_ _=>{}) λ_ r=> .sv (.int .u64 r)
def PI:Ug.σ->WayF:=λ⟨v,f,b⟩=>{
 ann:=λ_ _ _=>some {σ:=Nat,pre:=λe=>e<=63,t:=λe=>[(7, .sv (.int .i64 (e:Int)))],h:=λ_=>[],more:=0,μ:=λe=>e,keep:=[0,1,2,6]}
 cut:=λi _ _=>match i with
  |7=>some {σ:=Nat,pre:=λe=>e<=63,t:=λe=>[(7, .sv (.int .i64 (e:Int)))],h:=λ_=>[],more:=0,μ:=λ_=>0,keep:=[0,1,2,6,8]}
  |15=>some {σ:=Int×Int,t:=λ⟨e,m⟩=>[(7, .sv (.int .i64 e)),(8, .sv (.int .u64 m))],pre:=λ⟨e,m⟩=>0<=e/\e<=63,h:=λ_=>[],more:=0,μ:=λ_=>0,keep:=[1,2,6]}
  |_=>none}
def Vc(n:Int):Prop:= -9223372036854775808<=n/\n<9223372036854775808
def Oj:CtR:=u_ Int (λv=>[.sv (.int .i64 v)]) Vc (λ_=>{}) Int (λ_ r=>0<=r/\r<4294967296) (λ_ _=>{}) λ_ r=> .sv (.int .u32 r)
def IP:CtR:=u_ Int (λv=>[.sv (.int .i64 v)]) Vc (λ_=>{}) Int (λ_ r=>kT r) (λ_ _=>{}) λ_ r=> .sv (.int .u64 r)
def XC:CtR:=u_ O6 (λs=>[.sv (.string s)]) (λs=>s.size<1000000) (λ_=>{}) (O6×Bool) (λs ⟨r,b⟩=>r.size<=s.size) (λ_ _=>{}) λ_ ⟨r,b⟩=> .tup [.sv (.string r), .sv (.bool b)]
def dJ:XC.σ->WayF:=λs=>{
 ann:=λ_ _ _=>some {σ:=O6×O6,pre:=λ⟨q,u⟩=>q.size+u.size<=s.size,t:=λ⟨q,u⟩=>[(4, .sv (.string q)),(0, .sv (.string u))],h:=λ_=>[],more:=0,μ:=λ⟨q,u⟩=>u.size,keep:=[]}}
def zR(k:O6):List O6->Nat
 | []=>0
 |a::l=>if qcn a k=true then zR k l+1 else 0
def vW(k:O6) (ks:List O6):Bool:=decide (ks[zR k ks]? =some k)
def jV(k:O6) (ks:List O6) (l:List PV) (w:PV):List PV:=if vW k ks=true then l.set (zR k ks) w else l.take (zR k ks)++w::l.drop (zR k ks)
def q9(k:O6) (ks:List O6):List O6:=if vW k ks=true then ks else ks.take (zR k ks)++k::ks.drop (zR k ks)
def QV:CtR:=u_ (GV×O6×GV) (λ⟨v,k,w⟩=>[v.av, .sv (.string k),w.av]) (λ⟨v,k,w⟩=>v.ks.length=v.l.length/\v.l.length<1000000) (λ⟨v,k,w⟩=>⟨true,λp=>v.ok p/\w.ok p,λ_ _ h e=>⟨GV.ok_mono h e.1,GV.ok_mono h e.2⟩⟩) GV (λ⟨v,k,w⟩ u=>u.pv= .mk v.n v.s (jV k v.ks (GV.pvs v.l) w.pv) (q9 k v.ks) v.b) (λ_ u=>vM u) λ_ u=>u.av
def dI:QV.σ->WayF:=λ⟨v,k,w⟩=>{
 ann:=λ_ _ _=>some {σ:=Nat,pre:=λj=>j<=v.ks.length/\j+zR k (v.ks.drop j)=zR k v.ks,t:=λj=>[(7, .sv (.int .i64 (j:Int)))],h:=λ_=>[],more:=0,μ:=λj=>v.ks.length- j,keep:=[1,3,5,6]}
 cut:=λi _ _=>match i with
  |4=>some {σ:=Nat,pre:=λj=>j=zR k v.ks/\j<=v.ks.length,t:=λj=>[(7, .sv (.int .i64 (j:Int)))],h:=λ_=>[],more:=0,μ:=λ_=>0,keep:=[1,3,5,6]}
  |8=>some {σ:=Unit,pre:=λj=>vW k v.ks=false,t:=λj=>[],h:=λ_=>[],more:=0,μ:=λ_=>0,keep:=[1,3,5,6,7]}
  |_=>none
 pub:=λi k=>match i,k with
  |7,1=>[48]
  |10,1=>[79]
  |_,_=>[]}
def KH:Ct:=yE (SV×Int) (λ⟨x,t⟩=>[jP x, .sv (.int .i64 t)]) (λ_=>True) (λ_=>{}) λ⟨x,t⟩=> .sv (.bool (decide (0<=t)&&decide (t<(x.2.1:Int))))
def Qx(S:List AT):Prop:=∀a∈S,1<=a.k/\a.k<=14
def Sa(a:AT) (n:Nat) (ks:List O6) (b:Int):Bool:=if a.k=9 then decide (n=a.fs.length)else if a.k=14 then decide (0<=b/\b<a.brs.length/\n=1)else if a.k=13 then decide (n=ks.length)&&zd ks else true
def Y0(S:List AT) (a:AT) (v:GV):Bool:=Sa a v.l.length v.ks v.b&&PV.fitL S (qj a v.b) 0 (GV.pvs v.l)
def nB(k:Int):Bool:=decide (k=2\/k=3\/k=4\/k=5\/k=6\/k=10)
def z8(S:List AT) (a:AT) (v:GV):Bool:=if a.k=1 then true else if qI a.k=true then zS a v.n else if qG a.k=true then jC a v.s else Y0 S a v
def zuy:Ct:=yE zt (λ⟨S,x,t,v⟩=>[jP x, .sv (.int .i64 t),v.av]) (λ⟨S,x,t,v⟩=>small S/\Qx S/\v.pv.sm) (λ⟨S,x,t,v⟩=>VU S x v) λ⟨S,x,t,v⟩=> .sv (.bool (PV.fits S t v.pv))
def zuz:Ct:=yE Q4 (λ⟨S,x,a,v⟩=>[jP x,a.av,v.av]) (λ⟨S,x,a,v⟩=>small S/\Qx S/\a.fs.length<1000000/\v.pv.sm/\ql a.k=true) (λ⟨S,x,a,v⟩=>XJ S x a v) λ⟨S,x,a,v⟩=> .sv (.bool (Y0 S a v))
def zhl(h:Prop):Ct:={zuz with pre:=λs=>h/\zuz.pre s}
def zA:AT:=⟨0,mkS [],(none,0,0),[],0,(none,0,0),[],false,mkS [],0,(none,0,0),[],(none,0,0),[]⟩
def qd(S:List AT) (t:Int):AT:=(S[t.toNat]?).getD zA
def A8(h:Prop):zt->Prop:=λ⟨S,x,t,v⟩=>ql (qd S t).k=true->h
def HM(h:Prop):Ct:={zuy with pre:=λs=>zuy.pre s/\A8 h s}
def Ct.never{P:O7} {f:Nat} {C:Ct} (A:C.m<=C.m') (G:1<=C.m) (H:q4h P f) (u:∀s,(q0m (C.h s) .e).isSome=true/\(q0m (C.h' s) .e).isSome=true) (O:∀s,¬C.pre s):q4a P f C:=by refine⟨A,G,H,λs=> ?_⟩;obtain⟨a,J⟩:=Option.isSome_iff_exists.1 (u s).1;obtain⟨b,N⟩:=Option.isSome_iff_exists.1 (u s).2;exact⟨a,b,J,N,λF I w vs _ _ _ _ hp=>absurd hp (O s)⟩
def x5(k:Int):Bool:=decide (k=4)||decide (k=6)
def we(a:AT) (v:GV):Bool:=(decide (a.k≠13)&&decide (0<v.ks.length))|| (decide (a.k≠14)&&decide (v.b≠0))
def zvt:zt->WayF:=λ⟨S,x,t,v⟩=>{
 cut:=λi _ _=>match i with
  |14=>some {σ:=Unit,t:=λ_=>[(46, .sv (.bool (decide ((qd S t).k=4))))],h:=λ_=>[],more:=0,μ:=λ_=>0,keep:=[3,5,6,7,8,9,10,11,22]}
  |15=>some {σ:=Unit,t:=λ_=>[(46, .sv (.bool (x5 (qd S t).k)))],h:=λ_=>[],more:=0,μ:=λ_=>0,keep:=[3,5,6,7,8,9,10,11,22]}
  |26=>some {σ:=Unit,t:=λ_=>[(8, .sv (.bool (nB (qd S t).k))),(9, .sv (.bool (qG (qd S t).k))),(10, .sv (.bool (ql (qd S t).k))),(11, .sv (.bool (z8 S (qd S t) v)))],h:=λ_=>[],more:=0,μ:=λ_=>0,keep:=[3,5,6,7]}
  |27=>some {σ:=Unit,t:=λ_=>[(96, .sv (.bool (we (qd S t) v)))],h:=λ_=>[],more:=0,μ:=λ_=>0,keep:=[3,5,6,7,8,9,10,11]}
  |_=>none}
def EK:zt->Nat:=λ⟨S,x,t,v⟩=>SizeOf.sizeOf v
def EL:Q4->Nat:=λ⟨S,x,a,v⟩=>SizeOf.sizeOf v
section
open Go.Proofs.YtniogjgfomaicaaGreat.Rv
inductive Rs(α:Type)where
 |no (k:Nat)
 |ok (a:α)
def Rs.bind{α β:Type}:Rs α->(α->Rs β)->Rs β
 | .no k,_=> .no k
 | .ok a,f=>f a
def qR{α β:Type} (a:α) (f:α->Rs β):(Rs.ok a).bind f=f a:=rfl
def vX{α β:Type} (k:Nat) (f:α->Rs β):(Rs.no k).bind f= .no k:=rfl
def Lj{α β γ:Type} (r:Rs α) (f:α->Rs β) (g:β->Rs γ):(r.bind f).bind g=r.bind λa=>(f a).bind g:=by cases r<;>rfl
def zY(D:O6) (i:Nat) (k:Int):O6×Int×Int:=if k<0\/(D.size:Int)- i<k then(mkS [],2,i)else(D.extract i (i+k.toNat),0,i+k)
def kk(D:O6) (i:Nat):O6×Int×Int:=if(qi D i).2.1≠0 then(mkS [],((qi D i).2.1:Nat),((qi D i).2.2:Nat))else if 5000<(qi D i).1 then(mkS [],3,((qi D i).2.2:Nat))else zY D (qi D i).2.2 (qi D i).1
def G0(t:O6×Int×Int):Int:=if t.2.1=0/\qz t.1=false then 2 else t.2.1
def wP(t:O6×Int×Int) (e:Int):Rs (O6×Nat):=if e=0 then .ok (t.1,t.2.2.toNat)else .no (e- 1).toNat
def yH(D:O6) (i:Nat):Rs (Int×Nat):=if(qi D i).2.1=0 then .ok ((qi D i).1,(qi D i).2.2)else .no ((qi D i).2.1- 1)
def wo(D:O6) (i:Nat) (k:Int):Rs (O6×Nat):=wP (zY D i k) (zY D i k).2.1
def VW(D:O6) (i:Nat):Rs (O6×Nat):=wP (kk D i) (kk D i).2.1
def Zt(D:O6) (i:Nat):Rs (O6×Nat):=wP (kk D i) (G0 (kk D i))
def Z_(D:O6) (i:Nat) (o:Int):Rs (Int×Nat):=if vN D i o=0 then .ok ((qi D i).1,(qi D i).2.2)else .no (vN D i o- 1)
def yd(n:Int):PV:= .mk n (mkS []) [] [] 0
def Jp(s:O6):PV:= .mk 0 s [] [] 0
def wz(s:O6):Int:=(jz s.data.toList:Nat)
def ja(a:AT) (D:O6) (i:Nat):Rs (PV×Nat):=
 if a.k=1 then .ok (yd 0,i)else
 if a.k=2 then(wo D i 1).bind λr=>if 1<wz r.1 then .no 1 else .ok (yd (wz r.1),r.2)else
 if a.k=3 then(yH D i).bind λr=>if r.1< -2147483648\/2147483648<=r.1 then .no 1 else .ok (yd (r.1 % 18446744073709551616),r.2)else
 if a.k=4 then(yH D i).bind λr=> .ok (yd (r.1 % 18446744073709551616),r.2)else
 if a.k=5 then(wo D i 4).bind λr=> .ok (yd (wz r.1),r.2)else
 if a.k=6 then(wo D i 8).bind λr=> .ok (yd (wz r.1),r.2)else
 if a.k=7 then(VW D i).bind λr=> .ok (Jp r.1,r.2)else
 if a.k=8 then(Zt D i).bind λr=> .ok (Jp r.1,r.2)else
 if a.k=10 then(Z_ D i a.sys.length).bind λr=> .ok (yd r.1,r.2)else
 if a.k=11 then(wo D i a.sz).bind λr=> .ok (Jp r.1,r.2)else .no 0
abbrev z':=Rs (PV×Nat×Nat)
def yA(g:Int->Nat->Nat->z'):List Int->List PV->Nat->Nat->Rs (List PV×Nat×Nat)
 | [],l,n,c=> .ok (l,n,c)
 |t::ts,l,n,c=>(g t n c).bind λr=>yA g ts (l++[r.1]) r.2.1 r.2.2
abbrev kW:=List O6×List PV
def K_(g:Nat->Nat->z') (D:O6) (mp:Bool) (st:kW) (n c:Nat):Rs (kW×Nat×Nat):=
 if mp=true then(Zt D n).bind λk=>(g k.2 c).bind λr=> .ok ((q9 k.1 st.1,jV k.1 st.1 st.2 r.1),r.2)
 else(g n c).bind λr=> .ok ((st.1,st.2++[r.1]),r.2)
def j9(g:Nat->Nat->z') (D:O6) (mp:Bool):Nat->kW->Nat->Nat->Rs (kW×Nat×Nat)
 |0,st,n,c=> .ok (st,n,c)
 |k+1,st,n,c=>(K_ g D mp st n c).bind λr=>j9 g D mp k r.1 r.2.1 r.2.2
def YZ(D:O6) (n:Nat):Rs (Int×Int×Nat):=(yH D n).bind λr=>if 0<=r.1 then .ok (r.1, -1,r.2)else if r.1= -9223372036854775808 then .no 1 else(yH D r.2).bind λq=>if q.1<0 then .no 1 else .ok (-r.1,q.1,q.2)
def uj(h:Nat) (z:Int) (n2:Nat):Bool:=decide (0<=z)&&decide ((n2:Int)- h≠z)
def vk(g:Nat->Nat->z') (D:O6) (mp:Bool):Nat->kW->Nat->Nat->Rs (kW×Nat×Nat)
 |0,_,_,_=> .no 1
 |f+1,st,n,c=>(YZ D n).bind λh=>if h.1=0 then .ok (st,h.2.2,c)else(j9 g D mp h.1.toNat st h.2.2 c).bind λr=>if uj h.2.2 h.2.1 r.2.1=true then .no 1 else vk g D mp f r.1 r.2.1 r.2.2
def WW(g:Int->Nat->Nat->z') (a:AT) (n c:Nat):z':=(yA g (a.fs.map AF.ty) [] n c).bind λr=> .ok (.mk 0 (mkS []) r.1 [] 0,r.2)
def GZ(g:Int->Nat->Nat->z') (D:O6) (a:AT) (n c:Nat):z':=(Z_ D n a.brs.length).bind λb=>(g (a.brs.getD b.1.toNat 0) b.2 c).bind λr=> .ok (.mk 0 (mkS []) [r.1] [] b.1,r.2)
def wq(g:Int->Nat->Nat->z') (D:O6) (a:AT) (n c:Nat):z':=(vk (g a.it) D (decide (a.k=13)) (D.size+1- n) ([],[]) n c).bind λr=> .ok (.mk 0 (mkS []) r.1.2 r.1.1 0,r.2)
def yS(g:Int->Nat->Nat->z') (D:O6) (a:AT) (n c:Nat):z':=
 if a.k=9 then WW g a n c else if a.k=14 then GZ g D a n c else if a.k=12\/a.k=13 then wq g D a n c else(ja a D n).bind λr=> .ok (r.1,r.2,c)
def jB(S:List AT) (D:O6):Nat->Int->Nat->Nat->z'
  |0,_,_,_=> .no 2
  | f+1,t,n,c=>if 2000<c+1 then .no 2 else match S[t.toNat]? with
    |none=> .no 0
    |some a=>yS (λt n c=>jB S D f t n c) D a n (c+1)
def YP(R:z') (v:PV) (n c e:Int):Prop:=match R with
 | .no k=>e=k+1
 | .ok r=>e=0/\v=r.1/\n=r.2.1/\c=r.2.2
def kg(S:List AT):Prop:=small S/\Qx S/\∀a∈S,(∀f∈a.fs,0<=f.ty/\f.ty<S.length)/\(∀b∈a.brs,0<=b/\b<S.length)/\(a.k=12\/a.k=13->0<=a.it/\a.it<S.length)/\(a.k=11->0<=a.sz/\a.sz<1000000)
def z9x:∀(l:List UInt8) (i acc m:Nat),10<=i+m->i<=10->vdec (l.take m) i acc=vdec l i acc
  | [],i,acc,m,_,_=>by rw[List.take_nil]
  | c::l,i,acc,0,h,u=>by rw[List.take_zero,vdec_ten _ _ _ (by omega),vdec_ten _ _ _ (by omega)]
  | c::l,i,acc,m+1,h,u=>by
    rw[List.take_succ_cons,vdec,vdec];split
    · rfl
    split
    · rfl
    split
    · rfl
    exact z9x l (i+1) _ m (by omega) (by omega)
def Iq(D:O6) (i m:Nat):(D.extract i m).data.toList=(D.data.toList.drop i).take (m- i):=by rw[ByteArray.data_extract,Array.toList_extract]
variable {D:O6} {n:Int}
def zpb(h:qC D n):vdec (ke D n).data.toList 0 0=vdec (D.data.toList.drop n.toNat) 0 0:=by
 obtain⟨A,C,G⟩:=h;have H:D.data.toList.length=D.size:=rfl;unfold ke;rw[Iq];by_cases u:n+10<=D.size
 ·rw[z9x _ _ _ _ (by omega) (by decide)]
 ·rw[List.take_of_length_le];rw[List.length_drop];omega
def J6(h:qC D n):qL D n 0=((qi D n.toNat).1,(((qi D n.toNat).2.2:Nat):Int),(((qi D n.toNat).2.1:Nat):Int)):=by
  have e:=zpb h;unfold qL qi vval vlen verr;rw[e,if_neg (by decide)];have u:=h.1;cases vdec (D.data.toList.drop n.toNat) 0 0 with
  | none=>
    simp only[Option.getD_none,Option.isSome_none];rw[if_neg (by decide)];have:km 0=0:=(by decide);rw[this];simp;omega
  | some r=>
    simp;omega
def tk0(D:O6) (n k:Int):zr D n 0 k=if(D.size:Int)- n<k then(mkS [],n,2)else(D.extract n.toNat (n+k).toNat,n+k,0):=by unfold zr;simp
def Pz(h:qC D n):kF D n 0=((kk D n.toNat).1,(kk D n.toNat).2.2,(kk D n.toNat).2.1):=by
 have f:=Zu D n.toNat (by have:=h.1;have:=h.2.1;omega);unfold kF kk uA;rw[J6 h];dsimp only;by_cases C:(qi D n.toNat).2.1=0
 ·rw [C];by_cases u:(qi D n.toNat).1<0
  ·have e:zY D (qi D n.toNat).2.2 (qi D n.toNat).1=(mkS [],2,(((qi D n.toNat).2.2:Nat):Int)):=(by unfold zY;rw[if_pos (.inl u)]);simp[u,e,show¬5000<(qi D n.toNat).1 by omega]
  by_cases G:5000<(qi D n.toNat).1
  ·simp[u,G]
  ·simp only[u,G,if_false];simp;rw[tk0];unfold zY;by_cases A:(D.size:Int)- ((qi D n.toNat).2.2:Nat)<(qi D n.toNat).1
   ·rw[if_pos A,if_pos (.inr A)]
   ·rw[if_neg A,if_neg (by omega)];rw[show(((qi D n.toNat).2.2:Nat)+(qi D n.toNat).1:Int).toNat=(qi D n.toNat).2.2+(qi D n.toNat).1.toNat by omega,Int.toNat_natCast]
 ·have:(((qi D n.toNat).2.1:Nat):Int)≠0:=by omega
  simp[C]
def Ll{n k:Int} (h:qC D n) (C:0<=k):zr D n 0 k=((zY D n.toNat k).1,(zY D n.toNat k).2.2,(zY D n.toNat k).2.1):=by
 have A:=h.1;rw[tk0];unfold zY;by_cases u:(D.size:Int)- n<k
 ·rw[if_pos u,if_pos (.inr (by omega))];simp;omega
 ·rw[if_neg u,if_neg (by omega)];rw[show(n+k).toNat=n.toNat+k.toNat by omega];simp;omega
def Pp{n k:Int} (h:qC D n):ya D n 0 k=(if vN D n.toNat k=0 then(qi D n.toNat).1 else 0,(((qi D n.toNat).2.2:Nat):Int),((vN D n.toNat k:Nat):Int)):=by
 unfold ya XA vN;rw[J6 h];dsimp only;by_cases u:(qi D n.toNat).2.1=0
 ·rw[u];by_cases A:(qi D n.toNat).1<0\/k<=(qi D n.toNat).1
  ·simp[A]
  ·simp[A]
 ·have:¬(((qi D n.toNat).2.1:Nat):Int)=0:=by omega
  simp[u]
def Hb{i:Nat} {k:Int} (h:i<=D.size):(0<=(zY D i k).2.1/\(zY D i k).2.1<=2)/\((i:Int)<=(zY D i k).2.2/\(zY D i k).2.2<=D.size)/\((zY D i k).2.1=0->0<=k/\(zY D i k).2.2=i+k/\((zY D i k).1.size:Int)=k):=by
 unfold zY;split
 ·refine⟨⟨by show(0:Int)<=2;decide,by show(2:Int)<=2;decide⟩,⟨Int.le_refl _,by show(i:Int)<=_;omega⟩,λh=>absurd (show(2:Int)=0 from h) (by decide)⟩
 ·refine⟨⟨by show(0:Int)<=0;decide,by show(0:Int)<=2;decide⟩,⟨by show(i:Int)<=i+k;omega,by show(i:Int)+k<=_;omega⟩,λ_=>⟨by omega,rfl,?_⟩⟩;show((D.extract i (i+k.toNat)).size:Int)=k;rw[ByteArray.size_extract];omega
def zea{i:Nat} (h:i<=D.size):(0<=(kk D i).2.1/\(kk D i).2.1<=3)/\((i:Int)<=(kk D i).2.2/\(kk D i).2.2<=D.size)/\((kk D i).1.size:Int)<=5000:=by
 have f:=Zu D i h;unfold kk;split
 ·exact⟨⟨by show(0:Int)<=(_:Nat);omega,by show((_:Nat):Int)<=3;omega⟩,⟨by show(i:Int)<=(_:Nat);omega,by show((_:Nat):Int)<=_;omega⟩,by show((0:Nat):Int)<=5000;decide⟩
 split
 ·exact⟨⟨by show(0:Int)<=3;decide,by show(3:Int)<=3;decide⟩,⟨by show(i:Int)<=(_:Nat);omega,by show((_:Nat):Int)<=_;omega⟩,by show((0:Nat):Int)<=5000;decide⟩
 ·have g:=Hb (k:=(qi D i).1) (show(qi D i).2.2<=D.size by omega);refine⟨⟨g.1.1,by omega⟩,⟨by omega,g.2.1.2⟩,?_⟩;by_cases u:(zY D (qi D i).2.2 (qi D i).1).2.1=0
  ·have:=g.2.2 u;omega
  ·unfold zY at u⊢;split
   ·show((0:Nat):Int)<=5000;decide
   ·rename_i A;rw[if_neg A]at u;exact absurd rfl u
end
section
variable (a c e:Int) (b:Nat) (g:Int×Int)
 abbrev ai:=Jb ((↑b:Int)- 1)/\∃(d:Nat),a=a/\c=c/\(↑d:Int)=(↑b:Int)- 1/\e=e/\d<=63/\d<b/\True
 def UH:=0<=g.1/\g.1<=63
 def lT:=Jb (a- (↑b:Int))/\0<=a- (↑b:Int)/\∃(d:Int×Int),a=a/\d.1=(↑b:Int)/\c=c/\d.2=shP BinOp.shl u64 e (a- (↑b:Int))/\(UH d)/\True
 abbrev TM:=shP BinOp.shl u64 1 ((↑b:Int)- a)
 def TL:=∃(d:Int×Int),a=a/\d.1=(↑b:Int)/\c=c/\d.2=IntKind.wrap u64 (shP BinOp.shr u64 e ((↑b:Int)- a)+1)/\(UH d)/\True
 def TN:=∃(d:Int×Int),a=a/\d.1=(↑b:Int)/\c=c/\d.2=shP BinOp.shr u64 e ((↑b:Int)- a)/\(UH d)/\True
 def lR:=(2:Int)≠0/\Ji (Int.tmod (shP BinOp.shr u64 a ((↑b:Int)- c)) (2:Int)=1) (TL c e a b) (TN c e a b)
 def lQ:=Ji (Int.tmod a (TM c b)=shP BinOp.shl u64 1 ((↑b:Int)- c- 1)) (lR a c e b) (TN c e a b)
 def lP:=Jb ((↑b:Int)- a)/\Jb ((↑b:Int)- a- 1)/\0<=(↑b:Int)- a- 1/\0<=(↑b:Int)- a/\shP BinOp.shl u64 1 ((↑b:Int)- a)≠0/\0<=(↑b:Int)- a/\Ji (shP BinOp.shl u64 1 ((↑b:Int)- a- 1)<Int.tmod c (TM a b)) (TL a e c b) (lQ c a e b)
 def lS:=Jb (g.1+a)/\0<=c/\0<=c/\∃(d:Int),d=IntKind.wrap u64 (shP BinOp.shl u64 (IntKind.wrap u64 (g.1+a)) c+IntKind.wrap u64 (g.2- shP BinOp.shl u64 1 c))/\kT d/\True
 def lO:=(Ji ((↑b:Int)<=a) (lT a c e b) (lP a e c b))/\∀(h:Int×Int),UH h->lS c a h
 def lM:=(∃(d:Nat),a=a/\c=c/\(↑d:Int)=(↑b:Int)/\e=e/\d<=63/\True)/\∀(f:Nat),f<=63->lO c e a f
 def lL:=0<=(↑b:Int)/\Ji (shP BinOp.shr u64 a (↑b:Int)=0) (ai a c e b) (lM a c e b)
 def lK:=(∃(d:Nat),a=a/\c=c/\(↑d:Int)=63/\e=e/\d<=63/\True)/\∀(f:Nat),f<=63->lL a c e f
 def lJ:=Ji (a=0) (∃(d:Int),d=0/\kT d/\True) (lK a c e)
end
def zpm(v f b:Int):qiy P (qef []) (qff []) Tryz.f125 Ug (PI) ⟨v,f,b⟩=(kT v/\1<=f/\f<=62/\0<=b/\b<=2000->lJ v f b):=by kernel_rfl
def zyc:=λv f b=>Eq.trans (zpm v f b) (by delta Ji Jb Jt Jf ai UH lT TM TL TN lR lQ lP lS lO lM lL lK lJ;exact rfl)
section
variable (b:Int) (a:Int×Int×Int) (j:Prop)
 abbrev An:=a.2.1=23/\a.2.2=127/\(kT a.1/\1<=a.2.1/\a.2.1<=62/\0<=a.2.2/\a.2.2<=2000)/\j
 def lV:=Jb (b+1)/\∃(e:Int),e=IntKind.wrap i64 ((0:Int)- (b+1))/\∃(f:Int×Int×Int),f.1=IntKind.wrap u64 (IntKind.wrap u64 e+1)/\An f (∀(g:Int),kT g->∃(c:Int),c=q9p BinOp.or u32 2147483648 (IntKind.wrap u32 g)/\(0<=c/\c<4294967296)/\True)
 def lU:=Ji (b<0) (lV b) (∃(h:Int×Int×Int),h.1=IntKind.wrap u64 b/\An h (∀(i:Int),kT i->∃(d:Int),d=IntKind.wrap u32 i/\(0<=d/\d<4294967296)/\True))
end
def zib(v:Int):qiy P (qef []) (qff [(125,Ug)]) Tryz.f108 Oj (λ_=>{}) v=(Vc v->lU v):=by kernel_rfl
def zot:=λv=>Eq.trans (zib v) (by delta Ji Jb Jt Jf An lV lU;exact rfl)
section
variable (b:Int) (a:Int×Int×Int) (j:Prop)
 abbrev Ao:=a.2.1=52/\a.2.2=1023/\(kT a.1/\1<=a.2.1/\a.2.1<=62/\0<=a.2.2/\a.2.2<=2000)/\j
 def lX:=Jb (b+1)/\∃(c:Int),c=IntKind.wrap i64 ((0:Int)- (b+1))/\∃(d:Int×Int×Int),d.1=IntKind.wrap u64 (IntKind.wrap u64 c+1)/\Ao d (∀(e:Int),kT e->∃(f:Int),f=q9p BinOp.or u64 9223372036854775808 e/\kT f/\True)
 def lW:=Ji (b<0) (lX b) (∃(g:Int×Int×Int),g.1=IntKind.wrap u64 b/\Ao g (∀(h:Int),kT h->∃(i:Int),i=h/\kT i/\True))
end
def zf6(v:Int):qiy P (qef []) (qff [(125,Ug)]) Tryz.f109 IP (λ_=>{}) v=(Vc v->lW v):=by kernel_rfl
def zhu:=λv=>Eq.trans (zf6 v) (by delta Ji Jb Jt Jf Ao lX lW;exact rfl)
def zje(s:O6):qix P (qef [(96,Zz)]) Tryz.f126 Zz (λ_=>{}) s=(ByteArray.size s<(9223372036854775808:Nat)->s=s/\ByteArray.size s<(9223372036854775808:Nat)/\(↑(jN s):Int)=(↑(jN s):Int)/\(↑(qF s):Int)=(↑(qF s):Int)/\True):=by kernel_rfl
section
variable (b:O6) (a:O6×O6)
 abbrev Ap:=∃(c:O6×Bool),c.1=mkS []/\c.2=false/\size c.1<=size b/\True
 def ma:=Ji (255<(↑(jN a.2):Int)) (Ap b) (∃d,size d=1/\qfi [int u8 (IntKind.wrap u8 (↑(jN a.2):Int))] 0 (q11 d)/\size a.1+size d<=9223372036854775807/\(0<=(↑(qF a.2):Int)/\(↑(qF a.2):Int)<=(↑(size a.2):Int))/\∃(e:O6×O6),e.2=ByteArray.extract a.2 (toNat (↑(qF a.2):Int)) (size a.2)/\e.1=a.1++d/\size e.1+size e.2<=size b/\size e.2<size a.2/\True)
 def l_:=a.2=a.2/\size a.2<9223372036854775808/\Ji ((↑(qF a.2):Int)=0) (Ap b) (ma b a)
 def lZ:=Ji (0<(↑(size a.2):Int)) (l_ b a) (∃(f:O6×Bool),f.1=a.1/\f.2=true/\size f.1<=size b/\True)
 def lY:=(∃(c:O6×O6),c.2=b/\c.1=mkS []/\size c.1+size c.2<=size b/\True)/\∀(d:O6×O6),size d.1+size d.2<=size b->lZ b d
end
def zys(s:O6):qiy P (qef [(126,Zz)]) (qff []) Tryz.f110 XC (dJ) s=(size s<1000000->lY s):=by kernel_rfl
def j88:=λs=>Eq.trans (zys s) (by delta Ji Jt Jf Ap ma l_ lZ lY;exact rfl)
section
variable (e:O6) (a c:GV) (d:Nat) (G:Prop) (t:Nat->Option Obj) (H:Nat) (I:Option Addr) (J L:List Value) (F:GV)
 abbrev ub:=True/\GV.ok a t/\GV.ok c t
 def TO:=GV.n a=GV.n a/\GV.s a=GV.s a/\(GV.x a).1=(GV.x a).1/\(GV.x a).2.1=(GV.x a).2.1/\(GV.x a).2.2=(GV.x a).2.2/\(GV.y a).1=(GV.y a).1/\(GV.y a).2.1=(GV.y a).2.1/\(GV.y a).2.2=(GV.y a).2.2/\GV.b a=GV.b a/\G
 def Vj:=TO a (TO c ((∀g,ub a c g->ub a c g)/\G))
 def L2:=d<=length (GV.ks a)/\d+zR e (drop d (GV.ks a))=zR e (GV.ks a)
 abbrev ZK:=(GV.y a).2.1
 abbrev UJ:=(↑d:Int)<(↑(ZK a):Int)
 def TS:=(∀g,ub a c g->q2u g (adr (GV.y a).1 (toNat (↑d:Int)*1)) [string e])
 def aj:=Jb ((↑d:Int)+1)/\∃(g:Nat),e=e/\(↑g:Int)=(↑d:Int)+1/\Vj a c ((L2 e a g)/\length (GV.ks a)- g<length (GV.ks a)- d/\True)
 def TT:=∃(g:Nat),e=e/\(↑g:Int)=(↑d:Int)/\Vj a c ((g=zR e (GV.ks a)/\g<=length (GV.ks a))/\True)
 def mj:=(0<=(↑d:Int)/\UJ a d)/\(GV.y a).1≠noA/\∃g,TS g a c d/\(qcn g e=true->aj e a c d)/\(qcn g e=false->TT e a c d)
 abbrev mi:=Ji (UJ a d) (mj e a c d) (TT e a c d)
 abbrev Kj:=(GV.x a).2.1
 abbrev QJ:=(GV.x a).2.2
 abbrev QI:=(GV.y a).2.2
 def Aq:=(ub a c t)/\(0:Nat)+(GV.x a).2.1<=d/\qfu t I (take (((0:Nat)+(GV.x a).2.1)*nat_lit 5) (spl ([]++J) ((0:Nat)+toNat (↑H:Int)*5) [int u64 (GV.n c),string (GV.s c),slice (GV.x c).1 (Kj c) (QJ c),slice (GV.y c).1 (ZK c) (QI c),int i64 (GV.b c)]))
 def TQ:=GV.b a=GV.b c/\GV.pv a=PV.mk (GV.n c) (GV.s c) (jV e (GV.ks c) (GV.pvs (GV.l c)) (GV.pv F)) (q9 e (GV.ks c)) (GV.b c)/\G
 def mh:=(0<=(↑d:Int)/\UJ a d)/\(GV.y a).1≠noA/\∃g,TS g a c d/\Ji (g=e) (∃i,length i=(GV.x a).2.1*5/\(∀z,ub a c z->qfu z (GV.x a).1 i)/\qj5 i/\((0:Nat)+(GV.x a).2.1)*80<=140737488355328/\(0<=(↑d:Int)/\(↑d:Int)<(↑((0:Nat)+(GV.x a).2.1):Int))/\(0:Nat)+toNat (↑d:Int)*5+length [int u64 (GV.n c),string (GV.s c),slice (GV.x c).1 (Kj c) (QJ c),slice (GV.y c).1 (ZK c) (QI c),int i64 (GV.b c)]<=length ([]++i)/\∀(k E r:Nat) (u:Option Addr) (i8 A:Nat),(∃v,Aq a c A v d u i)->∃(f:GV),GV.n f=GV.n a/\GV.s f=GV.s a/\(GV.x f).1=u/\(GV.x f).2.1=0+(GV.x a).2.1/\(GV.x f).2.2=A/\(GV.y f).1=(GV.y a).1/\(GV.y f).2.1=(GV.y a).2.1/\(GV.y f).2.2=(GV.y a).2.2/\TQ e f a ((∀m,Aq a c A m d u i->GV.ok f m)/\True) c) (∃(j:Unit),e=e/\(↑d:Int)=(↑d:Int)/\Vj a c (vW e (GV.ks a)=false/\True))
 abbrev UI:=nat_lit 0+(d- nat_lit 0)+nat_lit 1
 abbrev Jc:=slice (GV.y a).1 (ZK a) (QI a)
 abbrev Ki:=slice (GV.x a).1 (Kj a) (QJ a)
 def Fa:=(ub a c t)/\nat_lit 0+(d- nat_lit 0)+nat_lit 1+((GV.x a).2.1- d)<=H/\qfu t I (take ((nat_lit 0+(d- nat_lit 0)+nat_lit 1+((GV.x a).2.1- d))*nat_lit 5) ([]++J++[int u64 (GV.n c),string (GV.s c),slice (GV.x c).1 (Kj c) (QJ c),slice (GV.y c).1 (ZK c) (QI c),int i64 (GV.b c)]++L))
 def TP:=nat_lit 0+(d- nat_lit 0)+nat_lit 1+((GV.y a).2.1- d)<=H/\qfu t I (take ((nat_lit 0+(d- nat_lit 0)+nat_lit 1+((GV.y a).2.1- d))*nat_lit 1) ([]++J++[string e]++L))
 def mg:=(GV.y a).2.1<=(GV.y a).2.2/\(0<=(↑d:Int)/\(↑d:Int)<=(↑(QI a):Int))/\∃g,length g=(d- nat_lit 0)*1/\(∀K,ub a c K->qfu K (slA (GV.y a).1 (QI a) (nat_lit 0) 1) g)/\qj5 g/\(nat_lit 0+(d- nat_lit 0))*16<=140737488355328/\length ([]++g)=(nat_lit 0+(d- nat_lit 0))*1/\(UI d)*16<=140737488355328/\(GV.y a).2.1<=(GV.y a).2.2/\(0<=(↑d:Int)/\(↑d:Int)<=(↑(ZK a):Int))/\length ([]++g++[string e])=(UI d)*1/\∃i,length i=((GV.y a).2.1- d)*1/\(∀z,ub a c z->qfu z (slA (GV.y a).1 (QI a) d 1) i)/\qj5 i/\(nat_lit 0+(d- nat_lit 0)+nat_lit 1+((GV.y a).2.1- d))*16<=140737488355328/\AV.sv (Jc a)=AV.sv (Jc a)/\AV.sv (Jc a)=AV.sv (Jc a)/\(GV.x a).2.1<=(GV.x a).2.2/\(0<=(↑d:Int)/\(↑d:Int)<=(↑(QJ a):Int))/\∃k,length k=(d- nat_lit 0)*5/\(∀E,ub a c E->qfu E (slA (GV.x a).1 (QJ a) (nat_lit 0) 5) k)/\qj5 k/\(nat_lit 0+(d- nat_lit 0))*80<=140737488355328/\length ([]++k)=(nat_lit 0+(d- nat_lit 0))*5/\(UI d)*80<=140737488355328/\(GV.x a).2.1<=(GV.x a).2.2/\(0<=(↑d:Int)/\(↑d:Int)<=(↑(Kj a):Int))/\length ([]++k++[int u64 (GV.n c),string (GV.s c),slice (GV.x c).1 (Kj c) (QJ c),slice (GV.y c).1 (ZK c) (QI c),int i64 (GV.b c)])=(UI d)*5/\∃r,length r=((GV.x a).2.1- d)*5/\(∀u,ub a c u->qfu u (slA (GV.x a).1 (QJ a) d 5) r)/\qj5 r/\(nat_lit 0+(d- nat_lit 0)+nat_lit 1+((GV.x a).2.1- d))*80<=140737488355328/\AV.agg [AV.sv (int u64 (GV.n c)),AV.sv (string (GV.s c)),AV.sv (Ki c),AV.sv (Jc c),AV.sv (int i64 (GV.b c))]=AV.agg [AV.sv (int u64 (GV.n c)),AV.sv (string (GV.s c)),AV.sv (Ki c),AV.sv (Jc c),AV.sv (int i64 (GV.b c))]/\AV.sv (Ki a)=AV.sv (Ki a)/\AV.sv (Ki a)=AV.sv (Ki a)/\∀(i8 A v:Nat) (f:Option Addr) (m j:Nat),(∃B,Fa a c d B j f k r)->∀(C i16 D:Nat) (o:Option Addr) (M p:Nat),(∃w,(Fa a c d w j f k r)/\TP e a d w p o g i)->∃(h:GV),GV.n h=GV.n a/\GV.s h=GV.s a/\(GV.x h).1=f/\(GV.x h).2.1=nat_lit 0+(d- nat_lit 0)+nat_lit 1+((GV.x a).2.1- d)/\(GV.x h).2.2=j/\(GV.y h).1=o/\(GV.y h).2.1=nat_lit 0+(d- nat_lit 0)+nat_lit 1+((GV.y a).2.1- d)/\(GV.y h).2.2=p/\TQ e h a ((∀q,(Fa a c d q j f k r)/\TP e a d q p o g i->GV.ok h q)/\True) c
 def me:=(Ji (UJ a d) (mh e a c d) (∃(C:Unit),e=e/\(↑d:Int)=(↑d:Int)/\Vj a c (vW e (GV.ks a)=false/\True)))/\∀(D:Unit),vW e (GV.ks a)=false->mg e a c d
 def mb:=((∃(g:Nat),e=e/\(↑g:Int)=0/\Vj a c ((L2 e a g)/\True))/\∀(i:Nat),L2 e a i->mi e a c i)/\∀(f:Nat),f=zR e (GV.ks a)/\f<=length (GV.ks a)->me e a c f
end
def zyq(v:GV) (k:O6) (w:GV):qiy P (qef []) (qff []) Tryz.f24 QV (dI) ⟨v,k,w⟩=(length (GV.ks v)=length (GV.l v)/\length (GV.l v)<1000000->(∃(p:Pub),ub v w p)->mb k v w):=by kernel_rfl
def put_eq:=λv k w=>Eq.trans (zyq v k w) (by delta Ji Jb Jt Jf ub TO Vj L2 ZK UJ TS aj TT mj mi Kj QJ QI Aq TQ mh UI Jc Ki Fa TP mg me mb;exact rfl)
def OQ(x:Int):IntKind.u64.wrap x=x % 18446744073709551616:=by unfold IntKind.wrap;simp[IntKind.bits,IntKind.signed]
def zl6(x:Int):IntKind.u32.wrap x=x % 4294967296:=by unfold IntKind.wrap;simp[IntKind.bits,IntKind.signed]
def V4(x:Int):kT (IntKind.u64.wrap x):=by rw[OQ];unfold kT;omega
def zz5:∀k:Nat,k<64->shP .shl .u64 1 (k:Int)≠0:=by decide+kernel
def jxn(v:Int):shP .shr .u64 v 0=v:=by show v.fdiv (2 ^ min (0:Int).toNat IntKind.u64.bits)=v;rw[show min (0:Int).toNat IntKind.u64.bits=0 from rfl];show v.fdiv 1=v;exact Int.fdiv_one v
def dz(c:Nat) (h:c<256):q11 (mkS [c])=[.int .u8 (c:Nat)]:=by simp[q11,mkS];omega
def WE:q1i P 125 Ug:=by
 refine zI (qbu qil) (qcl qik) (W:=PI) Tryz.func125 λ⟨(v:Int),(f:Int),(b:Int)⟩=>(zyc v f b).mpr ?_;rintro⟨X,O,T,J,N⟩;simp only[qy,exists_const,forall_const,Int.toNat_natCast];have H:∀e:Nat,¬v=0->shP .shr .u64 v (e:Int)=0->e≠0:=λe A hs h=>by subst h;rw[show((0:Nat):Int)=0 from rfl,jxn]at hs;exact A hs
 refine⟨λA=>⟨0,rfl,by unfold kT;omega⟩,λA=>⟨⟨63,rfl,by omega⟩,λe he=>⟨by omega,λhs=> ?_,λhs=>⟨⟨e,rfl,he⟩,λk V=> ?_⟩⟩⟩⟩
 ·have:=H e A hs;exact⟨⟨by omega,by omega⟩,e- 1,by omega,by omega,by omega⟩
 ·clear H;have u:(0:Int)<=k:=by omega
  refine⟨⟨λhle=>⟨⟨by omega,by omega⟩,by omega,⟨k,_⟩,rfl,rfl,u,by omega⟩,λU=>⟨⟨by omega,by omega⟩,⟨by omega,by omega⟩,by omega,by omega,?_,by omega,λ_=>⟨⟨k,_⟩,rfl,rfl,u,by omega⟩,λ_=>⟨λ_=>⟨by decide,λ_=>⟨⟨k,_⟩,rfl,rfl,u,by omega⟩,λ_=>⟨⟨k,_⟩,rfl,rfl,u,by omega⟩⟩,λ_=>⟨⟨k,_⟩,rfl,rfl,u,by omega⟩⟩⟩⟩,?_⟩
  ·obtain⟨m,hm⟩:=Int.eq_ofNat_of_zero_le (show 0<=(k:Int)- f by omega);rw[hm];exact zz5 m (by omega)
  ·rintro⟨a,m⟩ ⟨C,G⟩;simp only at C G⊢;exact⟨⟨by omega,by omega⟩,by omega,by omega,_,rfl,V4 _⟩
def zou:q1i P 108 Oj:=by
 refine zI (qbu qil) (qcl (qfq WE qik)) (W:=λ_=>{}) Tryz.func108 λ(v:Int)=>(zot v).mpr ?_;rintro⟨A,C⟩;simp only[qy,exists_const,forall_const,Int.toNat_natCast];refine⟨λh=>⟨⟨by omega,by omega⟩,_,rfl,⟨_,23,127⟩,rfl,rfl,rfl,⟨V4 _,(by show(1:Int)<=23;decide),(by show(23:Int)<=62;decide),(by show(0:Int)<=127;decide),(by show(127:Int)<=2000;decide)⟩,λb u=>⟨_,rfl,?_⟩⟩,λh=>⟨⟨_,23,127⟩,rfl,rfl,rfl,⟨V4 _,(by show(1:Int)<=23;decide),(by show(23:Int)<=62;decide),(by show(0:Int)<=127;decide),(by show(127:Int)<=2000;decide)⟩,λb u=>⟨_,rfl,?_⟩⟩⟩
 ·show 0<=IntKind.u32.wrap _/\IntKind.u32.wrap _<4294967296;rw[zl6];omega
 ·rw[zl6];omega
def zhv:q1i P 109 IP:=by refine zI (qbu qil) (qcl (qfq WE qik)) (W:=λ_=>{}) Tryz.func109 λ(v:Int)=>(zhu v).mpr ?_;rintro⟨A,C⟩;simp only[qy,exists_const,forall_const,Int.toNat_natCast];refine⟨λh=>⟨⟨by omega,by omega⟩,_,rfl,⟨_,52,1023⟩,rfl,rfl,rfl,⟨V4 _,(by show(1:Int)<=52;decide),(by show(52:Int)<=62;decide),(by show(0:Int)<=1023;decide),(by show(1023:Int)<=2000;decide)⟩,λb u=>⟨_,rfl,?_⟩⟩,λh=>⟨⟨_,52,1023⟩,rfl,rfl,rfl,⟨V4 _,(by show(1:Int)<=52;decide),(by show(52:Int)<=62;decide),(by show(0:Int)<=1023;decide),(by show(1023:Int)<=2000;decide)⟩,λb u=>⟨b,rfl,u⟩⟩⟩;exact V4 _
def zjf:q4a P 126 Zz:=by refine qw (qbu (qfr ze0 qil)) (W:=λ_=>{}) Tryz.func126 λ(s:O6)=>(zje s).mpr ?_;intro h;exact⟨rfl,h,rfl,rfl,trivial⟩
def j89:q1i P 110 XC:=by
 refine zI (qbu (qfr zjf qil)) (qcl qik) (W:=dJ) Tryz.func110 λ(s:O6)=>(j88 s).mpr ?_;intro hs;simp only[qy,exists_const,forall_const,Int.toNat_natCast];refine⟨⟨⟨mkS [],s⟩,rfl,rfl,by show 0+s.size<=_;omega⟩,?_⟩;rintro⟨q,u⟩ hq;simp only at hq⊢;refine⟨λh=>⟨by omega,λC=>⟨⟨mkS [],false⟩,rfl,rfl,Nat.zero_le _⟩,λC=>⟨λhp=>⟨⟨mkS [],false⟩,rfl,rfl,Nat.zero_le _⟩,λhp=> ?_⟩⟩,λh=>⟨⟨q,true⟩,rfl,rfl,by show q.size<=_;omega⟩⟩;have J:=Ot u;have G:IntKind.u8.wrap (jN u:Int)=((jN u:Nat):Int):=by rw[J8];omega
 rw[G];have H:(mkS [jN u]).size=1:=rfl;refine⟨mkS [jN u],rfl,?_,by omega,⟨by omega,by omega⟩,⟨q++mkS [jN u],u.extract (qF u) u.size⟩,rfl,rfl,?_,?_⟩
 ·intro j w A;rw[dz _ (by omega)]at A;rw[Nat.zero_add];exact A
 ·show(q++mkS [jN u]).size+(u.extract (qF u) u.size).size<=s.size;rw[ByteArray.size_append,ByteArray.size_extract,H];omega
 ·show(u.extract (qF u) u.size).size<u.size;rw[ByteArray.size_extract];omega
section
def znp{x:Addr} (h:x.spot=none) (k:Nat):(x.add k).spot=none:=by
 unfold Addr.add;split
 ·exact h
 ·rfl
variable {a:Option Addr}
def j71(h:Pl a) (c l sz:Nat):Pl (slA a c l sz):=trivial
def Hi{p:Pub} {c l sz:Nat} {vs us:List Value} (h:qfu p a vs) (J:l<=c) (hlen:vs.length<=c*sz) (hu:∀(j:Nat) v,us[j]? =some v->vs[l*sz+j]? =some v):qfu p (slA a c l sz) us:=by
  have hp:Pl a:=Sen.rowP_Pl h;cases us with
  |nil=>exact .inl ⟨rfl,j71 hp c l sz⟩
  | cons u us=>
    have C:=hu 0 u rfl;rcases h with⟨rfl,_⟩|⟨x,rfl,hs,G⟩
    · simp at C
    · have A:c≠l:=λe=>by subst e;have:=(List.getElem?_eq_some_iff.mp C).1;omega
      refine .inr ⟨x.add (l*sz),?_,znp hs _,λj v H=> ?_⟩
      · unfold slA;rw[if_neg A];rfl
      · have:=G (l*sz+j) v (hu j v H);rw[Addr.add_add];exact this
def GV.oks_iff:∀{l:List GV} {p:Pub},GV.oks l p↔∀v∈l,v.ok p
  | [],p=>by unfold GV.oks;simp
  | v::l,p=>by unfold GV.oks;rw[GV.oks_iff (l:=l)];simp
variable {α:Type}
def Ip{f:α->List Value} (l:List α) (k:Nat):qa f l=qa f (l.take k)++qa f (l.drop k):=by rw[←zF,List.take_append_drop]
def ze3{f:α->List Value} (l:List α) (k:Nat):∀(j:Nat) v,(qa f (l.take k))[j]? =some v->(qa f l)[j]? =some v:=λj v h=>by rw[Ip l k,List.getElem?_append_left (List.getElem?_eq_some_iff.mp h).1];exact h
def ze5{f:α->List Value} {e:Nat} (u:∀x,(f x).length=e) (l:List α) (k:Nat) (A:k<=l.length):∀(j:Nat) v,(qa f (l.drop k))[j]? =some v->(qa f l)[k*e+j]? =some v:=λj v h=>by
 rw[Ip l k];have:(qa f (l.take k)).length=k*e:=by rw[qB u,List.length_take,Nat.min_eq_left A]
 rw[←this,List.getElem?_append_right (Nat.le_add_right _ _),Nat.add_sub_cancel_left];exact h
def JS{α:Type} {f:α->List Value} (h:∀x,∀v∈f x,v.oneCell'=true):∀l,qj5 (qa f l)
  | []=>λv u=>by cases u
  | x::l=>λv u=>by
    rcases List.mem_append.1 u with u|u
    · exact h x v u
    · exact JS h l v u
def zvj:∀(x:O6),∀v∈qo x,v.oneCell'=true:=λx v h=>by simp[qo]at h;subst h;rfl
def Ov:∀(x:GV),∀v∈x.cells,v.oneCell'=true:=λx v h=>by simp[GV.cells]at h;rcases h with rfl|rfl|rfl|rfl|rfl<;>rfl
def zvc(k:O6):∀l,zR k l<=l.length
  | []=>Nat.zero_le _
  | a::l=>by
    rw[zR];split
    · have:=zvc k l;rw[List.length_cons];omega
    · exact Nat.zero_le _
def zju:∀(xs A B C:List Value),B.length=xs.length->spl (A++(B++C)) A.length xs=A++(xs++C)
  | [],A,B,C,h=>by have:B=[]:=List.length_eq_zero_iff.mp h;subst this;rfl
  |x::xs,A,[],C,h=>by simp at h
  | x ::xs,A,b::B,C,h=>by
    rw[spl];have e:(A++(b::B++C)).set A.length x=(A++[x])++(B++C):=by
      clear h;induction A with
      |nil=>rfl
      |cons a A u=>rw[List.cons_append,List.length_cons,List.set_cons_succ,u];rfl
    rw[e,show A.length+1=(A++[x]).length by simp,zju xs (A++[x]) B C (by simpa using h)];simp
def ze4{f:α->List Value} {e:Nat} (h:∀x,(f x).length=e) (l:List α) (k:Nat) (u:k<l.length) (x:α):qa f (l.set k x)=spl (qa f l) (0+k*e) (f x):=by
 rw[List.set_eq_take_append_cons_drop,if_pos u,zF];show _++(f x++_)=_;have A:qa f l=qa f (l.take k)++(f l[k]++qa f (l.drop (k+1))):=by
  conv=>lhs;rw[Ip l k,List.drop_eq_getElem_cons u]
  rfl
 have C:(qa f (l.take k)).length=k*e:=by rw[qB h,List.length_take,Nat.min_eq_left (Nat.le_of_lt u)]
 rw[A,Nat.zero_add,←C];exact(zju _ _ _ _ ((h _).trans (h _).symm)).symm
def Ya:q1i P 24 QV:=by
 refine zI (qbu qil) (qcl qik) (W:=dI) Tryz.func24 λ⟨v,k,w⟩=>(put_eq v k w).mpr ?_;rintro⟨hkl,hl⟩ ⟨p,_,hp,hw⟩;have hv:=hp;have A:=λq (h:v.ok q)=>(by rw[GV.ok_eq]at h;exact h:qb GV.cells v.x v.l q/\qb qo v.y v.ks q/\GV.oks v.l q);have xl:v.x.2.1=v.l.length:=(A p hp).1.1;have yl:v.y.2.1=v.ks.length:=(A p hp).2.1.1;have xc:v.l.length<=v.x.2.2:=by have:=(A p hp).1.2.1;omega
 have yc:v.ks.length<=v.y.2.2:=by have:=(A p hp).2.1.2.1;omega
 simp only[qy,exists_const,forall_const,Int.toNat_natCast,xl,yl];have kd:∀s,s<v.ks.length->zR k (v.ks.drop s)=if qcn (v.ks[s]!) k=true then zR k (v.ks.drop (s+1))+1 else 0:=λs hs=>by rw[List.drop_eq_getElem_cons hs,zR,getElem!_pos v.ks s hs]
 have Z:∀s (hs:s<v.ks.length),v.ks[s]! =v.ks[s]:=λs hs=>getElem!_pos v.ks s hs;have G:=λs (hs:s<v.ks.length) q (h:v.ok q)=>(show v.y.1≠noA/\q2u q (adr v.y.1 (s*1)) [.string v.ks[s]]from j3 jS (by decide) (A q h).2.1 hs);refine⟨⟨⟨0,rfl,Nat.zero_le _,Nat.zero_add _⟩,λs ⟨hs,hk⟩=>⟨λu=> ?_,λT=>⟨s,rfl,?_,hs⟩⟩⟩,λs ⟨hs,Y⟩=>⟨⟨λu=> ?_,λT=> ?_⟩,λX=> ?_⟩⟩
 ·have u:s<v.ks.length:=by omega
  have hd:=kd s u;rw[Z s u]at hd;refine⟨⟨by omega,by omega⟩,(G s u p hp).1,v.ks[s],λq hq=>(G s u q hq.1).2,λH=>⟨⟨by omega,by omega⟩,s+1,by omega,⟨by omega,by rw[if_pos H]at hd;omega⟩,by omega⟩,λH=>⟨s,rfl,by rw[if_neg (by rw[H];decide)]at hd;omega,hs⟩⟩
 ·rw[List.drop_of_length_le (by omega),zR]at hk;omega
 ·have u:s<v.ks.length:=by omega
  have V:s<v.l.length:=by omega
  refine⟨⟨by omega,by omega⟩,(G s u p hp).1,v.ks[s],λq hq=>(G s u q hq.1).2,λhe=> ?_,λhe=> ?_⟩
  ·have hh:vW k v.ks=true:=(by unfold vW;rw[←hs,List.getElem?_eq_getElem u,he];exact decide_eq_true rfl);refine⟨qa GV.cells v.l,qB jw _,λq hq=>(A q hq.1).1.2.2,JS Ov _,by omega,⟨by omega,by omega⟩,by rw[List.nil_append,qB jw];show 0+s*5+5<=_;omega,λa c _=>⟨.mk v.n v.s (a,0+v.l.length,c) (v.l.set s w) v.y v.ks v.b,rfl,rfl,rfl,rfl,rfl,rfl,yl,rfl,rfl,?_,λq hq=> ?_⟩⟩
   ·rw[GV.pv];show PV.mk v.n v.s (GV.pvs (v.l.set s w)) v.ks v.b=_;unfold jV q9;rw[hh,if_pos rfl,if_pos rfl,←hs,GV.pvs_map,GV.pvs_map,List.map_set]
   ·have C:=hq.2.2;rw[List.nil_append]at C;change qfu q a (List.take ((0+v.l.length)*5) (spl (qa GV.cells v.l) (0+s*5) w.cells))at C;rw[←ze4 jw v.l s V w,List.take_of_length_le (by rw[qB jw,List.length_set];omega)]at C;unfold GV.ok;refine⟨⟨by show 0+v.l.length=_;rw[List.length_set];omega,hq.2.1,C⟩,(A q hq.1.1).2.1,GV.oks_iff.2 λx hx=> ?_⟩;rcases List.mem_or_eq_of_mem_set hx with hx|rfl
    ·exact GV.oks_iff.1 (A q hq.1.1).2.2 x hx
    ·exact hq.1.2
  ·unfold vW;rw[←hs,List.getElem?_eq_getElem u];exact decide_eq_false λh=>he (Option.some.inj h)
 ·unfold vW;rw[←hs,List.getElem?_eq_none (by omega)];rfl
 ·have J:s<=v.l.length:=by omega
  have tl:(v.ks.take s).length=s:=by rw[List.length_take];omega
  have tl2:(v.l.take s).length=s:=by rw[List.length_take];omega
  have N:(qa qo (v.ks.take s)).length=s*1:=by rw[qB jS,tl]
  have r2:(qa qo (v.ks.drop s)).length=(v.ks.length- s)*1:=by rw[qB jS,List.length_drop]
  have O:(qa GV.cells (v.l.take s)).length=s*5:=by rw[qB jw,tl2]
  have r4:(qa GV.cells (v.l.drop s)).length=(v.l.length- s)*5:=by rw[qB jw,List.length_drop]
  refine⟨yc,⟨by omega,by omega⟩,qa qo (v.ks.take s),by rw[N];omega,λq hq=>Hi (A q hq.1).2.1.2.2 (Nat.zero_le _) (by rw[qB jS];omega) (λj x U=>by rw[Nat.zero_mul,Nat.zero_add];exact ze3 _ _ j x U),JS zvj _,by omega,by rw[List.nil_append,N];omega,by omega,yc,⟨by omega,by omega⟩,by rw[List.length_append,List.nil_append,N];show s*1+1=_;omega,qa qo (v.ks.drop s),r2,λq hq=>Hi (A q hq.1).2.1.2.2 (by omega) (by rw[qB jS];omega) (ze5 jS _ _ Y),JS zvj _,by omega,xc,⟨by omega,by omega⟩,qa GV.cells (v.l.take s),by rw[O];omega,λq hq=>Hi (A q hq.1).1.2.2 (Nat.zero_le _) (by rw[qB jw];omega) (λj x U=>by rw[Nat.zero_mul,Nat.zero_add];exact ze3 _ _ j x U),JS Ov _,by omega,by rw[List.nil_append,O];omega,by omega,xc,⟨by omega,by omega⟩,by rw[List.length_append,List.nil_append,O];show s*5+5=_;omega,qa GV.cells (v.l.drop s),r4,λq hq=>Hi (A q hq.1).1.2.2 (by omega) (by rw[qB jw];omega) (ze5 jw _ _ J),JS Ov _,by omega,λa c _ a2 c2 _=> ?_⟩;have hx:(v.l.take s++w::v.l.drop s).length=0+(s- 0)+1+(v.l.length- s):=by simp;omega
  have hy:(v.ks.take s++k::v.ks.drop s).length=0+(s- 0)+1+(v.ks.length- s):=by simp;omega
  refine⟨.mk v.n v.s (a,0+(s- 0)+1+(v.l.length- s),c) (v.l.take s++w::v.l.drop s) (a2,0+(s- 0)+1+(v.ks.length- s),c2) (v.ks.take s++k::v.ks.drop s) v.b,rfl,rfl,rfl,rfl,rfl,rfl,rfl,rfl,rfl,?_,λq hq=> ?_⟩
  ·rw[GV.pv];unfold jV q9;rw[X,if_neg (by decide),if_neg (by decide),←hs,GV.pvs_map,GV.pvs_map,List.map_append,List.map_cons,List.map_take,List.map_drop]
  ·unfold GV.ok;refine⟨⟨hx.symm,hq.1.2.1,?_⟩,⟨hy.symm,hq.2.1,?_⟩,GV.oks_iff.2 λx hx=> ?_⟩
   ·have C:=hq.1.2.2;rw[List.take_of_length_le (by simp only[List.length_append,List.nil_append,O,r4];show s*5+5+_<=_;omega)]at C;rw[zF];simp only[List.nil_append,List.append_assoc]at C;exact C
   ·have C:=hq.2.2;rw[List.take_of_length_le (by simp only[List.length_append,List.nil_append,N,r2];show s*1+1+_<=_;omega)]at C;rw[zF];simp only[List.nil_append,List.append_assoc]at C;exact C
   ·have ho:=GV.oks_iff.1 (A q hq.1.1.1).2.2;rcases List.mem_append.1 hx with hx|hx
    ·exact ho x (List.mem_of_mem_take hx)
    ·rcases List.mem_cons.1 hx with rfl|hx
     ·exact hq.1.1.2
     ·exact ho x (List.mem_of_mem_drop hx)
end
abbrev xZ:=List AT×SV×Int×Int×GJ×Int
abbrev qT:=Int×Int×GV
def Qu(x:SV) (all:Int):List (Nat×AO):=[(1, .cells 130 (some 0) false [zE x, .sv (.int .i64 all)])]
def jf(all:Int):qT->Prop:=λ⟨h,e,v⟩=>all<=h/\h<=2001/\(e=0->h<=2000)
def sgM(S:List AT) (x:SV) (g:GJ):PF:=⟨true,λp=>qc S x p/\g.ok p,λ_ _ h e=>⟨uC h e.1,GJ.ok_mono h e.2⟩⟩
def jxl(S:List AT) (x:SV) (a:AT) (g:GJ):PF:=⟨true,λp=>qc S x p/\a.ok p/\g.ok p,λ_ _ h e=>⟨uC h e.1,AT.ok_mono h e.2.1,GJ.ok_mono h e.2.2⟩⟩
def v9:CtR where
 σ:=xZ
 args:=λ⟨S,x,all,t,g,d⟩=>[.ptr 1 0, .sv (.int .i64 t),g.av, .sv (.int .i64 d)]
 h:=λ⟨S,x,all,t,g,d⟩=>Qu x all
 m:=2
 pre:=λ⟨S,x,all,t,g,d⟩=>qv S/\(0<=t/\t<S.length)/\g.wf/\(0<=all/\all<=2000)/\1<=d/\d<=21
 mem:=λ⟨S,x,all,t,g,d⟩=>sgM S x g
 β:=λ_=>qT
 post:=λ⟨S,x,all,t,g,d⟩ b=>jf all b
 pm:=λ_ ⟨u,e,v⟩=>vM v
 r:=λ_ ⟨u,e,v⟩=> .tup [v.av, .sv (.int .i64 e)]
 h':=λ⟨S,x,all,t,g,d⟩ ⟨u,e,v⟩=>Qu x u
 m':=2
def vh:xZ->Nat:=λ⟨S,x,all,t,g,d⟩=>2*(25- d).toNat
abbrev Q7:=List AT×SV×Int×AT×GJ×Int
def x6(k:AT->GJ->Prop):CtR where
 σ:=Q7
 args:=λ⟨S,x,all,a,g,d⟩=>[.ptr 1 0,a.av,g.av, .sv (.int .i64 d)]
 h:=λ⟨S,x,all,a,g,d⟩=>Qu x all
 m:=2
 pre:=λ⟨S,x,all,a,g,d⟩=>qv S/\a∈S/\k a g/\g.wf/\(0<=all/\all<=2000)/\1<=d/\d<=20
 mem:=λ⟨S,x,all,a,g,d⟩=>jxl S x a g
 β:=λ_=>qT
 post:=λ⟨S,x,all,a,g,d⟩ b=>jf all b
 pm:=λ_ ⟨u,e,v⟩=>vM v
 r:=λ_ ⟨u,e,v⟩=> .tup [v.av, .sv (.int .i64 e)]
 h':=λ⟨S,x,all,a,g,d⟩ ⟨u,e,v⟩=>Qu x u
 m':=2
def yz:Q7->Nat:=λ⟨S,x,all,a,g,d⟩=>2*(25- d).toNat
def OL(a:AT) (g:GJ):Prop:=a.k=12
def isMap(a:AT) (g:GJ):Prop:=a.k=13/\g.k=6
def Lf(a:AT) (g:GJ):Prop:=a.k=12\/a.k=13/\g.k=6
def isRec(a:AT) (g:GJ):Prop:=a.k=9
def jxj(t:T AV) (h:T AO):Option Int:=match t.get 10 with
  | some (.ptr b _)=>match h.get b with
    | some (.cells _ _ _ (v::_))=>match gi v with
      |some (_,k)=>some k
      |none=>none
    |_=>none
  |_=>none
def bq(a b h k:Int):Bool:=decide (k=a)&&decide (h=b)
def bI(u h k:Int):Bool:=decide (k=3)&&(decide (u=3)&&(decide (-2147483648<=h)&&decide (h<2147483648)))
def bN(h u k:Int):Bool:=bI h u k||bq 4 3 h k
def bT(h k:Int):Bool:=(decide (k=7)||decide (k=11))&&decide (h=4)
def bP(h k:Int):Bool:=bq 12 5 h k||bq 13 6 h k
def wx(f:Int->Bool) (i:Nat) (keep:List Nat) (t:T AV) (h:T AO):Option LT:=match jxj t h with
 |some k=>some {σ:=Unit,t:=λ_=>[(i, .sv (.bool (f k)))],h:=λ_=>[],more:=0,μ:=λ_=>0,keep:=keep}
 |none=>none
def wVl:xZ->WayF:=λ⟨S,x,all,t,g,d⟩=>{
 ann:=λ_ _ _=>some {σ:=Nat,t:=λj=>[(14, .sv (.int .i64 (j:Int)))],h:=λ_=>[],more:=0,μ:=λj=>1000- j,keep:=[0,3,6,8,10,11]}
 pubE:=[250]
 spl:=λi=>match i with
  |35=>some 8
  |_=>none
 flo:=λi=>match i with
  |35=>some (12,[8])
  |_=>none
 cut:=λi t h=>match i with
  |7=>wx (bq 1 1 g.k) 45 [0,3,6,8,10,11] t h
  |9=>wx (bq 2 2 g.k) 55 [0,3,6,8,10,11] t h
  |11=>wx (bI g.k g.n) 68 [0,3,6,8,10,11] t h
  |12=>wx (bN g.k g.n) 68 [0,3,6,8,10,11] t h
  |14=>wx (bq 5 3 g.k) 95 [0,3,6,8,10,11] t h
  |16=>wx (bq 6 3 g.k) 107 [0,3,6,8,10,11] t h
  |18=>wx (bq 8 4 g.k) 118 [0,3,6,8,10,11] t h
  |20=>wx (bT g.k) 130 [0,3,6,8,10,11] t h
  |22=>some {σ:=Bool,t:=λb=>[(162, .sv (.bool b))],h:=λ_=>[],more:=0,μ:=λ_=>0,keep:=[8,12]}
  |24=>wx (bq 10 4 g.k) 165 [0,3,6,8,10,11] t h
  |30=>wx (bq 12 5 g.k) 192 [0,3,6,8,10,11] t h
  |31=>wx (bP g.k) 192 [0,3,6,8,10,11] t h
  |33=>wx (bq 9 6 g.k) 216 [0,3,6,8,10,11] t h
  |37=>some {σ:=Unit,t:=λ_=>[],h:=λ_=>[],more:=0,μ:=λ_=>0,keep:=[8]}
  |36=>some {σ:=qT,t:=λ⟨u,e,v⟩=>[(16, .sv (.int .i64 e)),(15, .ptr 50 0)],h:=λ⟨u,e,v⟩=>[(50, .cells 36 (some 0) false [.sv (.int .u64 v.n), .sv (.string v.s),zE v.x,zE v.y, .sv (.int .i64 v.b)])]++Qu x u,pre:=jf all,mem:=λ⟨u,e,v⟩=>vM v,more:=60,μ:=λ_=>0,keep:=[8]}
  |_=>none}
def K3(v:GV):AO:= .cells 36 (some 0) false [.sv (.int .u64 v.n), .sv (.string v.s),zE v.x,zE v.y, .sv (.int .i64 v.b)]
def Ij(r n k:Nat):AO:= .cells 36 (some 0) false [.int .u64 0, .str [], .ssl r 0 n 5 k, .nsl, .int .i64 0]
def Qb(fs:List GV):PF:=⟨true,GV.oks fs,λ_ _ h e=>GV.oks_mono h e⟩
def dA(x:SV) (all:Int) (A es:Nat) (keep:List Nat):LT:={σ:=qT,t:=λ⟨u,e,v⟩=>[(es, .sv (.int .i64 e)),(A, .ptr 50 0)],h:=λ⟨u,e,v⟩=>[(50,K3 v)]++Qu x u,pre:=jf all,mem:=λ⟨u,e,v⟩=>vM v,more:=60,μ:=λ_=>0,keep:=keep}
def Ln(h:T AO):Int:=match h.get 1 with
 |some (.cells _ _ _ [_, .sv (.int _ a)])=>a
 |_=>0
def wPa:Q7->WayF:=λ⟨S,x,all,a,g,d⟩=>{
 ann:=λ_ _ _=>some {σ:=Nat×Int×List GV,pre:=λ⟨j,u,fs⟩=>j<=g.l.length/\(all<=u/\u<=2000)/\fs.length=j,mem:=λ⟨j,u,fs⟩=>Qb fs,t:=λ⟨j,u,fs⟩=>[(11, .sv (.int .i64 (j:Int)))],h:=λ⟨j,u,fs⟩=>Qu x u++[(5,Ij 6 fs.length 7),(6, .row 36 0 (qa GV.cells fs))],more:=2,μ:=λ⟨j,u,fs⟩=>g.l.length- j,keep:=[0,3,5,6,8,10]}
 pubE:=[57]
 spl:=λi=>match i with
  |5=>some 10
  |10=>some 7
  |_=>none
 flo:=λi=>match i with
  |5=>some (14,[10])
  |_=>none
 cut:=λi _ h=>match i with
  |6=>some (dA x (Ln h) 12 13 [0,3,5,6,8,10,11])
  |_=>none}
def wPm:Q7->WayF:=λ⟨S,x,all,a,g,d⟩=>{
 ann:=λ_ _ _=>some {σ:=Nat×Int×GV,pre:=λ⟨j,u,v⟩=>j<=g.l.length/\(all<=u/\u<=2000)/\v.ks.length=v.l.length/\v.l.length<=j,mem:=λ⟨j,u,v⟩=>vM v,t:=λ⟨j,u,v⟩=>[(11, .sv (.int .i64 (j:Int)))],h:=λ⟨j,u,v⟩=>Qu x u++[(5,K3 v)],more:=0,μ:=λ⟨j,u,v⟩=>g.l.length- j,keep:=[0,3,5,6,8,10]}
 spl:=λi=>match i with
  |5=>some 10
  |10=>some 7
  |_=>none
 flo:=λi=>match i with
  |5=>some (14,[10])
  |_=>none
 cut:=λi _ h=>match i with
  |6=>some (dA x (Ln h) 12 13 [0,3,5,6,8,10,11])
  |_=>none}
def jnO(g:GJ):AO:= .cells 62 (some 0) false [.sv (.int .i64 g.k), .sv (.int .i64 g.n), .sv (.string g.s),zE g.y,zE g.x]
def wRe:Q7->WayF:=λ⟨S,x,all,a,g,d⟩=>{
 ann:=λ_ _ _=>some {σ:=Nat×Int×List GV,pre:=λ⟨j,u,fs⟩=>j<=a.fs.length/\(all<=u/\u<=2000)/\fs.length=j,mem:=λ⟨j,u,fs⟩=>Qb fs,t:=λ⟨j,u,fs⟩=>[(11, .sv (.int .i64 (j:Int)))],h:=λ⟨j,u,fs⟩=>Qu x u++[(5,Ij 6 fs.length 7),(6, .row 36 0 (qa GV.cells fs))],more:=2,μ:=λ⟨j,u,fs⟩=>a.fs.length- j,keep:=[0,3,5,6,8,10]}
 pubE:=[65]
 cut:=λi _ h=>match i with
  |11=>some {σ:=GJ,pre:=λc=>c.wf,mem:=gM,t:=λc=>[(13, .ptr 50 0)],h:=λc=>[(50,jnO c)],more:=60,μ:=λ_=>0,keep:=[0,3,5,6,8,10,11,12]}
  |_=>none}
section
variable (c w:Int) (d:SV) (v:List AT) (a:GJ) (C:Int) (B:Nat) (G:O6) (E:Option Addr) (F:Nat) (g:Int) (l:Option Addr) (m o:Nat) (e:Bool) (p:O6) (h:Int) (q:Option Addr) (r t:Nat) (i:Option Addr) (j u I:Nat) (S:Prop) (D:qT) (T U:Int) (K:O6×Bool) (z:Q7) (O:qT) (V:Nat->Option Obj)
 abbrev j6:=True/\qc v d V/\GJ.ok a V
 abbrev T3:=Jb (c+1)
 def Ys:=GV.n D.2.2=0/\GV.s D.2.2=mkS []/\S
 def T2:=(GV.y D.2.2).1=noA/\(GV.y D.2.2).2.1=0/\(GV.y D.2.2).2.2=0/\GV.b D.2.2=0/\S
 def UK:=d.1=d.1/\d.2.1=d.2.1/\d.2.2=d.2.2/\S
 def uN:=(GV.x D.2.2).1=noA/\(GV.x D.2.2).2.1=0/\(GV.x D.2.2).2.2=0/\T2 (D.2.1=w/\UK d (D.1=c+1/\jf c D/\(∀A,j6 d v a A->GV.ok D.2.2 A)/\True)) D
 def j5:=decide (GJ.k a=3)=decide (GJ.k a=3)
 def j4:=UK d (c+1=c+1/\GJ.k a=GJ.k a/\GJ.n a=GJ.n a/\GJ.s a=GJ.s a/\(GJ.y a).1=(GJ.y a).1/\(GJ.y a).2.1=(GJ.y a).2.1/\(GJ.y a).2.2=(GJ.y a).2.2/\(GJ.x a).1=(GJ.x a).1/\(GJ.x a).2.1=(GJ.x a).2.1/\(GJ.x a).2.2=(GJ.x a).2.2/\w=w/\G=G/\E=E/\B=B/\F=F/\C=C/\l=l/\m=m/\o=o/\e=e/\p=p/\g=g/\q=q/\r=r/\t=t/\i=i/\j=j/\u=u/\(∀A,j6 d v a A->j6 d v a A)/\True/\S)
 def Kk:=(Ji (c=T) (∃(A:Unit),w=w/\j5 a/\bq T U (GJ.k a) c=decide (GJ.k a=U)/\j4 C c d v a g B G E F h l m o e p q r t i j u True) (∃(J:Unit),w=w/\j5 a/\bq T U (GJ.k a) c=false/\j4 C c d v a g B G E F h l m o e p q r t i j u True))
 def TZ:=(Ji (c=T) (∃(A:Unit),w=w/\bq T U (GJ.k a) c=decide (GJ.k a=U)/\j5 a/\j4 C c d v a g B G E F h l m o e p q r t i j u True) (∃(J:Unit),w=w/\bq T U (GJ.k a) c=false/\j5 a/\j4 C c d v a g B G E F h l m o e p q r t i j u True))
 def T4:=∃(A:qT),GV.n A.2.2=IntKind.wrap u64 (GJ.n a)/\GV.s A.2.2=mkS []/\uN c 0 d v a A
 def aN:=Ji ((-2147483648:Int)<=GJ.n a) (∃(A:Unit),c=c/\j5 a/\bI (GJ.k a) (GJ.n a) w=decide (GJ.n a<2147483648)/\j4 C w d v a g B G E F h l m o e p q r t i j u True) (∃(J:Unit),c=c/\j5 a/\bI (GJ.k a) (GJ.n a) w=false/\j4 C w d v a g B G E F h l m o e p q r t i j u True)
 def aJ:=Ji (GJ.k a=3) (aN c w d v a C B G E F g l m o e p h q r t i j u) (∃(H:Unit),c=c/\j5 a/\bI (GJ.k a) (GJ.n a) w=false/\j4 C w d v a g B G E F h l m o e p q r t i j u True)
 def aO:=Ji (c=4) (∃(A:Unit),w=w/\j5 a/\bN (GJ.k a) (GJ.n a) c=decide (GJ.k a=3)/\j4 C c d v a g B G E F h l m o e p q r t i j u True) (∃(J:Unit),w=w/\j5 a/\bN (GJ.k a) (GJ.n a) c=false/\j4 C c d v a g B G E F h l m o e p q r t i j u True)
 def aM:=(bI (GJ.k a) (GJ.n a) c=true->∃(A:Unit),w=w/\j5 a/\bN (GJ.k a) (GJ.n a) c=bI (GJ.k a) (GJ.n a) c/\j4 C c d v a g B G E F h l m o e p q r t i j u True)/\(bI (GJ.k a) (GJ.n a) c=false->aO c w d v a C B G E F g l m o e p h q r t i j u)
 def aQ:=Ji (c=11) (∃(A:Unit),w=w/\j5 a/\bT (GJ.k a) c=decide (GJ.k a=4)/\j4 C c d v a g B G E F h l m o e p q r t i j u True) (∃(J:Unit),w=w/\j5 a/\bT (GJ.k a) c=false/\j4 C c d v a g B G E F h l m o e p q r t i j u True)
 def Kl:=UK d (c+1=c+1/\(∀A,j6 d v a A->j6 d v a A)/\True/\True)
 def aP:=Ji (c=7) (∃(A:Bool),K.1=K.1/\A=true/\Kl w d v a) (∃(J:Bool),K.1=K.1/\J=decide ((↑(size K.1):Int)=C)/\Kl w d v a)
 def aS:=(e=true->∃(A:qT),GV.n A.2.2=0/\GV.s A.2.2=K.1/\uN c 0 d v a A)/\(e=false->∃(J:Unit),Kl c d v a)
 def aG:=((K.2=true->aP c w d v a C K)/\(K.2=false->∃(L:Bool),K.1=K.1/\L=false/\Kl w d v a))/\∀(R:Bool),True->aS w d v a R K
 def aK:=(0<=(↑B:Int)/\(↑B:Int)<(↑F:Int))/\E≠noA/\∃A,(∀J,j6 d v a J->q2u J (adr E (toNat (↑B:Int)*1)) [string A])/\Ji (A=GJ.s a) (∃(H:qT),GV.n H.2.2=IntKind.wrap u64 (↑B:Int)/\GV.s H.2.2=mkS []/\uN c 0 d v a H) (Jb ((↑B:Int)+1)/\∃(Q:Nat),w=w/\j5 a/\(↑Q:Int)=(↑B:Int)+1/\j4 c C d v a g m G l o h E F r e p q t j i u I ((1000:Nat)- Q<1000- B/\True))
 def aI:=Ji ((↑B:Int)<(↑F:Int)) (aK c w d v a C B G E F g l m o e p h q r t i j u I) (∃(L:Unit),Kl c d v a)
 def aH:=(∃(A:Nat),c=c/\j5 a/\(↑A:Int)=0/\j4 w C d v a g B G E F h l m o e p q r t i j u True)/\∀(J:Nat),True->aI w c d v a C J G l m g E B F e p h q o r i t j u
 def aR:=Ji (c=13) (∃(A:Unit),w=w/\j5 a/\bP (GJ.k a) c=decide (GJ.k a=6)/\j4 C c d v a g B G E F h l m o e p q r t i j u True) (∃(J:Unit),w=w/\j5 a/\bP (GJ.k a) c=false/\j4 C c d v a g B G E F h l m o e p q r t i j u True)
 def aL:=(bq 12 5 (GJ.k a) c=true->∃(A:Unit),w=w/\j5 a/\bP (GJ.k a) c=bq 12 5 (GJ.k a) c/\j4 C c d v a g B G E F h l m o e p q r t i j u True)/\(bq 12 5 (GJ.k a) c=false->aR c w d v a C B G E F g l m o e p h q r t i j u)
 def TV:=AT.k z.2.2.2.1=c/\AT.nm z.2.2.2.1=G/\(AT.al z.2.2.2.1).1=E/\(AT.al z.2.2.2.1).2.1=B/\(AT.al z.2.2.2.1).2.2=F/\AT.it z.2.2.2.1=w/\(AT.sy z.2.2.2.1).1=l/\(AT.sy z.2.2.2.1).2.1=m/\(AT.sy z.2.2.2.1).2.2=o/\AT.hd z.2.2.2.1=e/\AT.df z.2.2.2.1=p/\AT.sz z.2.2.2.1=C/\(AT.f z.2.2.2.1).1=q/\(AT.f z.2.2.2.1).2.1=r/\(AT.f z.2.2.2.1).2.2=t/\(AT.br z.2.2.2.1).1=i/\(AT.br z.2.2.2.1).2.1=j/\(AT.br z.2.2.2.1).2.2=u/\GJ.k z.2.2.2.2.1=GJ.k a/\GJ.n z.2.2.2.2.1=GJ.n a/\GJ.s z.2.2.2.2.1=GJ.s a/\(GJ.y z.2.2.2.2.1).1=(GJ.y a).1/\(GJ.y z.2.2.2.2.1).2.1=(GJ.y a).2.1/\(GJ.y z.2.2.2.2.1).2.2=(GJ.y a).2.2/\(GJ.x z.2.2.2.2.1).1=(GJ.x a).1/\(GJ.x z.2.2.2.2.1).2.1=(GJ.x a).2.1/\(GJ.x z.2.2.2.2.1).2.2=(GJ.x a).2.2/\z.2.2.2.2.2=g/\z.2.1.1=d.1/\z.2.1.2.1=d.2.1/\z.2.1.2.2=d.2.2/\z.2.2.1=h+1/\S
 def T1:=GJ.wf z.2.2.2.2.1/\(0<=z.2.2.1/\z.2.2.1<=2000)/\1<=z.2.2.2.2.2/\z.2.2.2.2.2<=20
 def TX:=GV.n D.2.2=GV.n O.2.2/\GV.s D.2.2=GV.s O.2.2/\(GV.x D.2.2).1=(GV.x O.2.2).1/\(GV.x D.2.2).2.1=(GV.x O.2.2).2.1/\(GV.x D.2.2).2.2=(GV.x O.2.2).2.2/\(GV.y D.2.2).1=(GV.y O.2.2).1/\(GV.y D.2.2).2.1=(GV.y O.2.2).2.1/\(GV.y D.2.2).2.2=(GV.y O.2.2).2.2/\GV.b D.2.2=GV.b O.2.2/\S
 def TW:=(∀A,j6 d v a A->qc z.1 z.2.1 A/\AT.ok z.2.2.2.1 A/\GJ.ok z.2.2.2.2.1 A)/\∀(J:qT),jf z.2.2.1 J->(∃H,(j6 d v a H)/\GV.ok J.2.2 H)->∃(Q:qT),TX (Q.2.1=J.2.1/\d.1=z.2.1.1/\d.2.1=z.2.1.2.1/\d.2.2=z.2.1.2.2/\Q.1=J.1/\jf c Q/\(∀L,(j6 d v a L)/\GV.ok J.2.2 L->GV.ok Q.2.2 L)/\True) Q J
 def TU:=((0:Int)<=0/\0<(↑B:Int))/\E≠noA/\∃(A:Int),(∀J,j6 d v a J->q2u J (adr E ((0:Nat)*1)) [int i64 A])/\T3 c/\∃(H:xZ),H.2.2.2.1=A/\GJ.k H.2.2.2.2.1=GJ.k a/\GJ.n H.2.2.2.2.1=GJ.n a/\GJ.s H.2.2.2.2.1=GJ.s a/\(GJ.y H.2.2.2.2.1).1=(GJ.y a).1/\(GJ.y H.2.2.2.2.1).2.1=(GJ.y a).2.1/\(GJ.y H.2.2.2.2.1).2.2=(GJ.y a).2.2/\(GJ.x H.2.2.2.2.1).1=(GJ.x a).1/\(GJ.x H.2.2.2.2.1).2.1=(GJ.x a).2.1/\(GJ.x H.2.2.2.2.1).2.2=(GJ.x a).2.2/\H.2.2.2.2.2=c+1/\H.2.1.1=d.1/\H.2.1.2.1=d.2.1/\H.2.1.2.2=d.2.2/\H.2.2.1=w+1/\(vh H<F/\qv H.1/\(0<=H.2.2.2.1/\H.2.2.2.1<(↑(length H.1):Int))/\GJ.wf H.2.2.2.2.1/\(0<=H.2.2.1/\H.2.2.1<=2000)/\1<=H.2.2.2.2.2/\H.2.2.2.2.2<=21)/\(∀Q,j6 d v a Q->qc H.1 H.2.1 Q/\GJ.ok H.2.2.2.2.1 Q)/\∀(L:qT),jf H.2.2.1 L->(∃i5,(j6 d v a i5)/\GV.ok L.2.2 i5)->∃(R:qT),R.2.1=L.2.1/\d.1=H.2.1.1/\d.2.1=H.2.1.2.1/\d.2.2=H.2.1.2.2/\R.1=L.1/\TX ((∀i7,(j6 d v a i7)/\GV.ok L.2.2 i7->j6 d v a i7)/\(∀i8,(j6 d v a i8)/\GV.ok L.2.2 i8->GV.ok R.2.2 i8)/\jf w R/\True) R L
 def TY:=((j6 d v a V)/\GV.ok D.2.2 V)/\q2u V (Addr.mk B F none) [int u64 (GV.n D.2.2),string (GV.s D.2.2),slice (GV.x D.2.2).1 (GV.x D.2.2).2.1 (GV.x D.2.2).2.2,slice (GV.y D.2.2).1 (GV.y D.2.2).2.1 (GV.y D.2.2).2.2,int i64 (GV.b D.2.2)]
 def aF:=((TU c w d v a B E F)/\TU c w d v a B E F)/\∀(M:qT),jf w M->(∃i19,(j6 d v a i19)/\GV.ok M.2.2 i19)->∀(i20 i21 i22:Nat),(∃i23,TY d v a i20 i21 M i23)->∃(N:qT),Ys ((GV.x N.2.2).1=some (Addr.mk i20 (i21+nat_lit 0) none)/\(GV.x N.2.2).2.1=nat_lit 1/\(GV.x N.2.2).2.2=nat_lit 1/\T2 (N.2.1=M.2.1/\UK d (N.1=M.1/\jf w N/\(∀i25,TY d v a i20 i21 M i25->GV.ok N.2.2 i25)/\True)) N) N
 def aE:=Ji (c=14) (aF w C d v a B E F) (∃(i26:Unit),Kl C d v a)
 def aD:=(bq 9 6 (GJ.k a) c=true->∃(A:Q7),TV c w d a C B G E F g l m o e p h q r t i j u ((yz A<I+1/\qv A.1/\A.2.2.2.1∈A.1/\isRec A.2.2.2.1 A.2.2.2.2.1/\T1 A)/\TW h d v a A) A)/\(bq 9 6 (GJ.k a) c=false->aE c g d v a h j i I)
 def aC:=Kk c w d v a C B G E F g l m o e p h q r t i j u 9 6/\∀(H:Unit),True->aD c g d v a h B G E F w l m o e p C q r t i j u I
 def aB:=(bP (GJ.k a) c=true->∃(A:Q7),TV c w d a C B G E F g l m o e p h q r t i j u ((yz A<I+1/\qv A.1/\A.2.2.2.1∈A.1/\Lf A.2.2.2.1 A.2.2.2.2.1/\T1 A)/\TW h d v a A) A)/\(bP (GJ.k a) c=false->aC c g d v a h B G E F w l m o e p C q r t i j u I)
 def aA:=(Kk c w d v a C B G E F g l m o e p h q r t i j u 12 5/\∀(H:Unit),True->aL c w d v a C B G E F g l m o e p h q r t i j u)/\∀(R:Unit),True->aB c g d v a h B G E F w l m o e p C q r t i j u I
 def az:=(bq 10 4 (GJ.k a) c=true->aH w C d v a c B G E F g l m o e p h q r t i j u)/\(bq 10 4 (GJ.k a) c=false->aA c w d v a C B G E F g l m o e p h q r t i j u I)
 def ay:=Kk c w d v a C B G E F g l m o e p h q r t i j u 10 4/\∀(L:Unit),True->az c w d v a C B G E F g l m o e p h q r t i j u I
 def ax:=(bT (GJ.k a) c=true->∃A,A=GJ.s a/\size A<1000000/\∀(J:O6×Bool),size J.1<=size A->aG c w d v a C J)/\(bT (GJ.k a) c=false->ay c g d v a w B G E F h l m o e p C q r t i j u I)
 def aw:=(Ji (c=7) (∃(A:Unit),w=w/\j5 a/\bT (GJ.k a) c=decide (GJ.k a=4)/\j4 C c d v a g B G E F h l m o e p q r t i j u True) (aQ c w d v a C B G E F g l m o e p h q r t i j u))/\∀(R:Unit),True->ax c C d v a h B G E F w l m o e p g q r t i j u I
 def ar:=(bq 8 4 (GJ.k a) c=true->∃(A:qT),GV.n A.2.2=0/\GV.s A.2.2=GJ.s a/\uN w 0 d v a A)/\(bq 8 4 (GJ.k a) c=false->aw c C d v a w B G E F g l m o e p h q r t i j u I)
 def ao:=Kk c w d v a C B G E F g l m o e p h q r t i j u 8 4/\∀(L:Unit),True->ar c C d v a w B G E F g l m o e p h q r t i j u I
 def an:=(bq 6 3 (GJ.k a) c=true->∃(A:Int),A=GJ.n a/\Vc A/\∀(J:Int),kT J->∃(H:qT),GV.n H.2.2=J/\GV.s H.2.2=mkS []/\uN w 0 d v a H)/\(bq 6 3 (GJ.k a) c=false->ao c C d v a w B G E F g l m o e p h q r t i j u I)
 def ak:=Kk c w d v a C B G E F g l m o e p h q r t i j u 6 3/\∀(L:Unit),True->an c C d v a w B G E F g l m o e p h q r t i j u I
 def mA:=(bq 5 3 (GJ.k a) c=true->∃(A:Int),A=GJ.n a/\Vc A/\∀(J:Int),0<=J/\J<4294967296->(0<=J/\J<=18446744073709551615)/\∃(H:qT),GV.n H.2.2=J/\GV.s H.2.2=mkS []/\uN w 0 d v a H)/\(bq 5 3 (GJ.k a) c=false->ak c C d v a w B G E F g l m o e p h q r t i j u I)
 def mz:=TZ c w d v a C B G E F g l m o e p h q r t i j u 5 3/\∀(L:Unit),True->mA c C d v a w B G E F g l m o e p h q r t i j u I
 def my:=(bN (GJ.k a) (GJ.n a) c=true->T4 w d v a)/\(bN (GJ.k a) (GJ.n a) c=false->mz c C d v a w B G E F g l m o e p h q r t i j u I)
 def mw:=((Ji (c=3) (aJ w c d v a C B G E F g l m o e p h q r t i j u) (∃(R:Unit),w=w/\j5 a/\bI (GJ.k a) (GJ.n a) c=false/\j4 C c d v a g B G E F h l m o e p q r t i j u True))/\∀(i8:Unit),True->aM c w d v a C B G E F g l m o e p h q r t i j u)/\∀(W:Unit),True->my c C d v a w B G E F g l m o e p h q r t i j u I
 def mu:=(bq 2 2 (GJ.k a) c=true->T4 w d v a)/\(bq 2 2 (GJ.k a) c=false->mw c C d v a w B G E F g l m o e p h q r t i j u I)
 def mr:=TZ c w d v a C B G E F g l m o e p h q r t i j u 2 2/\∀(L:Unit),True->mu c C d v a w B G E F g l m o e p h q r t i j u I
 def mq:=(bq 1 1 (GJ.k a) c=true->∃(A:qT),Ys (uN w 0 d v a A) A)/\(bq 1 1 (GJ.k a) c=false->mr c C d v a w B G E F g l m o e p h q r t i j u I)
 def mo:=(0<=c/\c<(↑d.2.1:Int))/\d.1≠noA/\∃(A:Int),∃J,∃H,∃(Q:Nat),∃(L:Nat),∃(i5:Int),∃R,∃(i7:Nat),∃(i8:Nat),∃(i9:Bool),∃Y,∃(Z:Int),∃i12,∃(i13:Nat),∃(i14:Nat),∃W,∃(i16:Nat),∃(i17:Nat),(∀M,j6 d v a M->q2u M (adr d.1 (toNat c*10)) [int i64 A,string J,slice H Q L,int i64 i5,slice R i7 i8,bool i9,string Y,int i64 Z,slice i12 i13 i14,slice W i16 i17])/\(Kk A w d v a C Q J H L i5 R i7 i8 i9 Y Z i12 i13 i14 W i16 i17 1 1/\∀(i23:Unit),True->mq A C d v a w Q J H L i5 R i7 i8 i9 Y Z i12 i13 i14 W i16 i17 B)/\∀(i169:Unit),True->∃(X:qT),Ys (uN C 7 d v a X) X
 def mn:=Ji (2000<c+1) (∃(A:qT),Ys (uN c 3 d v a A) A) (mo w C d v a c B)
 def mm:=T3 c/\Ji (20<w) (∃(A:qT),Ys (uN c 3 d v a A) A) (mn c C d v a w B)
end
def j96(n:Nat) (S:List AT) (x:SV) (all t:Int) (g:GJ) (d:Int):qiy P (qef []) (qff [(74,v9.below vh n),(111,(x6 Lf).below yz (n+1)),(112,(x6 isRec).below yz (n+1)),(108,Oj),(109,IP),(110,XC)]) Tryz.f74 (v9.below vh (n+1)) (wVl) ⟨S,x,all,t,g,d⟩=(vh (S,x,all,t,g,d)<n+1/\qv S/\(0<=t/\t<(↑(length S):Int))/\GJ.wf g/\(0<=all/\all<=2000)/\1<=d/\d<=21->(∃(p:Pub),j6 x S g p)->mm all d x S g t n):=by kernel_rfl
def jiv:=λn S x all t g d=>Eq.trans (j96 n S x all t g d) (by delta Ji Jb Jt Jf j6 T3 Ys T2 UK uN j5 j4 Kk TZ T4 aN aJ aO aM aQ Kl aP aS aG aK aI aH aR aL TV T1 TX TW TU TY aF aE aD aC aB aA az ay ax aw ar ao an ak mA mz my mw mu mr mq mo mn mm;exact rfl)
section
variable (t:Int) (h:SV) (w:Int) (c:GJ) (a:AT) (m:List AT) (J:Nat) (g:Nat×Int×List GV) (p:qT) (L:Prop) (v:Nat->Option Obj)
 abbrev Km:=True/\qc m h v/\AT.ok a v/\GJ.ok c v
 def UL:=h.1=h.1/\h.2.1=h.2.1/\h.2.2=h.2.2/\L
 def Fe:=GJ.k c=GJ.k c/\GJ.n c=GJ.n c/\GJ.s c=GJ.s c/\(GJ.y c).1=(GJ.y c).1/\(GJ.y c).2.1=(GJ.y c).2.1/\(GJ.y c).2.2=(GJ.y c).2.2/\(GJ.x c).1=(GJ.x c).1/\(GJ.x c).2.1=(GJ.x c).2.1/\(GJ.x c).2.2=(GJ.x c).2.2/\L
 def Fb:=AT.k a=AT.k a/\AT.nm a=AT.nm a/\(AT.al a).1=(AT.al a).1/\(AT.al a).2.1=(AT.al a).2.1/\(AT.al a).2.2=(AT.al a).2.2/\AT.it a=AT.it a/\(AT.sy a).1=(AT.sy a).1/\(AT.sy a).2.1=(AT.sy a).2.1/\(AT.sy a).2.2=(AT.sy a).2.2/\AT.hd a=AT.hd a/\AT.df a=AT.df a/\AT.sz a=AT.sz a/\(AT.f a).1=(AT.f a).1/\(AT.f a).2.1=(AT.f a).2.1/\(AT.f a).2.2=(AT.f a).2.2/\(AT.br a).1=(AT.br a).1/\(AT.br a).2.1=(AT.br a).2.1/\(AT.br a).2.2=(AT.br a).2.2/\L
 def L3:=g.1<=length (GJ.l c)/\(t<=g.2.1/\g.2.1<=2000)/\length g.2.2=g.1
 def vY:=(Km h c a m v)/\GV.oks g.2.2 v
 abbrev T6:=(↑g.1:Int)<(↑(GJ.y c).2.1:Int)
 abbrev As:=Ln (T.n (T.n (T.n T.e (some (AO.cells 62 (some 0) false [AV.sv (int i64 (GJ.k c)),AV.sv (int i64 (GJ.n c)),AV.sv (string (GJ.s c)),AV.sv (slice (GJ.y c).1 (GJ.y c).2.1 (GJ.y c).2.2),AV.sv (slice (GJ.x c).1 (GJ.x c).2.1 (GJ.x c).2.2)])) T.e) (some (AO.cells (130:TypeId) (some 0) false [AV.sv (slice h.1 h.2.1 h.2.2),AV.sv (int i64 g.2.1)])) (T.n T.e (some (AO.cells (36:TypeId) (some 0) false [AV.int u64 0,AV.str [],AV.ssl (nat_lit 6) (nat_lit 0) (length g.2.2) (nat_lit 5) (nat_lit 7),AV.nsl,AV.int i64 0])) T.e)) none (T.n (T.n T.e (some (AO.cells 36 (some 0) false [AV.int u64 0,AV.str (List.map UInt8.toNat (Array.toList (ByteArray.data (mkS [])))),AV.nsl,AV.nsl,AV.int i64 0])) T.e) (some (AO.cells 55 (some 0) false [AV.sv (int i64 (AT.k a)),AV.sv (string (AT.nm a)),AV.sv (slice (AT.al a).1 (AT.al a).2.1 (AT.al a).2.2),AV.sv (int i64 (AT.it a)),AV.sv (slice (AT.sy a).1 (AT.sy a).2.1 (AT.sy a).2.2),AV.sv (bool (AT.hd a)),AV.sv (string (AT.df a)),AV.sv (int i64 (AT.sz a)),AV.sv (slice (AT.f a).1 (AT.f a).2.1 (AT.f a).2.2),AV.sv (slice (AT.br a).1 (AT.br a).2.1 (AT.br a).2.2)])) (T.n T.e (some (AO.row (36:TypeId) (nat_lit 0) (qa GV.cells g.2.2))) T.e)))
 def Ar:=(0<=(↑g.1:Int)/\T6 c g)/\(GJ.y c).1≠noA/\∃(j:Int),∃(r:Int),∃u,∃F,∃(K:Nat),∃(M:Nat),∃N,∃(O:Nat),∃(i8:Nat),(∀Q,vY h c a m g Q->q2u Q (adr (GJ.y c).1 (toNat (↑g.1:Int)*5)) [int i64 j,int i64 r,string u,slice F K M,slice N O i8])/\Jb (t+1)/\∃(d:xZ),d.2.2.2.1=AT.it a/\GJ.k d.2.2.2.2.1=j/\GJ.n d.2.2.2.2.1=r/\GJ.s d.2.2.2.2.1=u/\(GJ.y d.2.2.2.2.1).1=F/\(GJ.y d.2.2.2.2.1).2.1=K/\(GJ.y d.2.2.2.2.1).2.2=M/\(GJ.x d.2.2.2.2.1).1=N/\(GJ.x d.2.2.2.2.1).2.1=O/\(GJ.x d.2.2.2.2.1).2.2=i8/\d.2.2.2.2.2=t+1/\d.2.1.1=h.1/\d.2.1.2.1=h.2.1/\d.2.1.2.2=h.2.2/\d.2.2.1=g.2.1/\(vh d<J/\qv d.1/\(0<=d.2.2.2.1/\d.2.2.2.1<(↑(length d.1):Int))/\GJ.wf d.2.2.2.2.1/\(0<=d.2.2.1/\d.2.2.1<=2000)/\1<=d.2.2.2.2.2/\d.2.2.2.2.2<=21)/\(∀z,vY h c a m g z->qc d.1 d.2.1 z/\GJ.ok d.2.2.2.2.1 z)/\∀(i:qT),jf d.2.2.1 i->(∃G,(vY h c a m g G)/\GV.ok i.2.2 G)->∃(o:qT),t=t/\(↑g.1:Int)=(↑g.1:Int)/\o.2.1=i.2.1/\h.1=d.2.1.1/\h.2.1=d.2.1.2.1/\h.2.2=d.2.1.2.2/\o.1=i.1/\Fe c (length g.2.2=length g.2.2/\Fb a (qa GV.cells g.2.2=qa GV.cells g.2.2/\GV.n o.2.2=GV.n i.2.2/\GV.s o.2.2=GV.s i.2.2/\(GV.x o.2.2).1=(GV.x i.2.2).1/\(GV.x o.2.2).2.1=(GV.x i.2.2).2.1/\(GV.x o.2.2).2.2=(GV.x i.2.2).2.2/\(GV.y o.2.2).1=(GV.y i.2.2).1/\(GV.y o.2.2).2.1=(GV.y i.2.2).2.1/\(GV.y o.2.2).2.2=(GV.y i.2.2).2.2/\GV.b o.2.2=GV.b i.2.2/\(∀A,(vY h c a m g A)/\GV.ok i.2.2 A->vY h c a m g A)/\(∀i16,(vY h c a m g i16)/\GV.ok i.2.2 i16->GV.ok o.2.2 i16)/\jf (As h c a g) o/\True))
 def T5:=(GV.y p.2.2).1=noA/\(GV.y p.2.2).2.1=0/\(GV.y p.2.2).2.2=0/\GV.b p.2.2=0/\L
 def mG:=length (qa GV.cells g.2.2)=length g.2.2*5/\(length g.2.2+nat_lit 1)*80<=140737488355328/\Jb ((↑g.1:Int)+1)/\∃(j:Nat×Int×List GV),t=t/\(↑j.1:Int)=(↑g.1:Int)+1/\UL h (j.2.1=p.1/\Fe c (length j.2.2=length g.2.2+nat_lit 1/\Fb a (qa GV.cells j.2.2=qa GV.cells g.2.2++[int u64 (GV.n p.2.2),string (GV.s p.2.2),slice (GV.x p.2.2).1 (GV.x p.2.2).2.1 (GV.x p.2.2).2.2,slice (GV.y p.2.2).1 (GV.y p.2.2).2.1 (GV.y p.2.2).2.2,int i64 (GV.b p.2.2)]/\(∀r,(vY h c a m g r)/\GV.ok p.2.2 r->Km h c a m r)/\(∀u,(vY h c a m g u)/\GV.ok p.2.2 u->GV.oks j.2.2 u)/\(L3 w c j)/\length (GJ.l c)- j.1<length (GJ.l c)- g.1/\True)))
 def aT:=(0<=(↑g.1:Int)/\(↑g.1:Int)<(↑(GJ.x c).2.1:Int))/\(GJ.x c).1≠noA/\∃j,(∀r,(vY h c a m g r)/\GV.ok p.2.2 r->q2u r (adr (GJ.x c).1 (toNat (↑g.1:Int)*1)) [string j])/\∃(u:GV×O6×GV),GV.n u.1=0/\GV.s u.1=mkS []/\False
 def mF:=Ji (AT.k a=12) (mG t h w c a m g p) (aT h c a m g p)
 def mE:=((!decide (p.2.1=0))=true->∃(j:qT),GV.n j.2.2=0/\GV.s j.2.2=mkS []/\(GV.x j.2.2).1=noA/\(GV.x j.2.2).2.1=0/\(GV.x j.2.2).2.2=0/\T5 j (j.2.1=p.2.1/\UL h (j.1=p.1/\jf t j/\(∀r,(vY h c a m g r)/\GV.ok p.2.2 r->GV.ok j.2.2 r)/\True)))/\((!decide (p.2.1=0))=false->mF w h t c a m g p)
 def mD:=((Ar t h c a m J g)/\Ar t h c a m J g)/\∀(B:qT),jf (As h c a g) B->(∃H,(vY h c a m g H)/\GV.ok B.2.2 H)->mE w h t c a m g B
 def mC:=Ji (T6 c g) (mD t h w c a m J g) (∀(R S U:Nat) (C:Option Addr) (V D:Nat),(∃I,(vY h c a m g I)/\length g.2.2<=D/\qfu I C (take (length g.2.2*nat_lit 5) (qa GV.cells g.2.2)))->∃(q:qT),GV.n q.2.2=0/\GV.s q.2.2=mkS []/\(GV.x q.2.2).1=C/\(GV.x q.2.2).2.1=length g.2.2/\(GV.x q.2.2).2.2=D/\T5 q (q.2.1=0/\UL h (q.1=g.2.1/\jf w q/\(∀E,(vY h c a m g E)/\length g.2.2<=D/\qfu E C (take (length g.2.2*nat_lit 5) (qa GV.cells g.2.2))->GV.ok q.2.2 E)/\True)))
 def mB:=(∃(j:Nat×Int×List GV),t=t/\(↑j.1:Int)=0/\UL h (j.2.1=w/\Fe c (length j.2.2=0/\Fb a ((∀r,Km h c a m r->Km h c a m r)/\(∀u,Km h c a m u->GV.oks j.2.2 u)/\(L3 w c j)/\True))))/\∀(F:Nat×Int×List GV),L3 w c F->(∃K,vY h c a m F K)->mC t h w c a m J F
end
def zjb(n:Nat) (S:List AT) (x:SV) (all:Int) (a:AT) (g:GJ) (d:Int):qiy P (qef []) (qff [(74,v9.below vh n),(24,QV)]) Tryz.f111 ((x6 OL).below yz (n+1)) (wPa) ⟨S,x,all,a,g,d⟩=(yz (S,x,all,a,g,d)<n+1/\qv S/\a∈S/\OL a g/\GJ.wf g/\(0<=all/\all<=2000)/\1<=d/\d<=20->(∃(p:Pub),Km x g a S p)->mB d x all g a S n):=by kernel_rfl
def zpp:=λn S x all a g d=>Eq.trans (zjb n S x all a g d) (by delta Ji Jb Jt Jf Km UL Fe Fb L3 vY T6 As Ar T5 mG aT mF mE mD mC mB;exact rfl)
section
variable (u:Int) (h:SV) (z:Int) (d:GJ) (c:AT) (o:List AT) (K:Nat) (a:Nat×Int×GV) (r:qT) (A:GV) (F:Prop) (w:Nat->Option Obj)
 abbrev Kn:=True/\qc o h w/\AT.ok c w/\GJ.ok d w
 def UM:=h.1=h.1/\h.2.1=h.2.1/\h.2.2=h.2.2/\F
 def L4:=GJ.k d=GJ.k d/\GJ.n d=GJ.n d/\GJ.s d=GJ.s d/\(GJ.y d).1=(GJ.y d).1/\(GJ.y d).2.1=(GJ.y d).2.1/\(GJ.y d).2.2=(GJ.y d).2.2/\(GJ.x d).1=(GJ.x d).1/\(GJ.x d).2.1=(GJ.x d).2.1/\(GJ.x d).2.2=(GJ.x d).2.2/\F
 def Ff:=AT.k c=AT.k c/\AT.nm c=AT.nm c/\(AT.al c).1=(AT.al c).1/\(AT.al c).2.1=(AT.al c).2.1/\(AT.al c).2.2=(AT.al c).2.2/\AT.it c=AT.it c/\(AT.sy c).1=(AT.sy c).1/\(AT.sy c).2.1=(AT.sy c).2.1/\(AT.sy c).2.2=(AT.sy c).2.2/\AT.hd c=AT.hd c/\AT.df c=AT.df c/\AT.sz c=AT.sz c/\(AT.f c).1=(AT.f c).1/\(AT.f c).2.1=(AT.f c).2.1/\(AT.f c).2.2=(AT.f c).2.2/\(AT.br c).1=(AT.br c).1/\(AT.br c).2.1=(AT.br c).2.1/\(AT.br c).2.2=(AT.br c).2.2/\F
 def L5:=a.1<=length (GJ.l d)/\(u<=a.2.1/\a.2.1<=2000)/\length (GV.ks a.2.2)=length (GV.l a.2.2)/\length (GV.l a.2.2)<=a.1
 def vE:=(Kn h d c o w)/\GV.ok a.2.2 w
 abbrev T7:=(↑a.1:Int)<(↑(GJ.y d).2.1:Int)
 abbrev Av:=Ln (T.n (T.n (T.n T.e (some (AO.cells 62 (some 0) false [AV.sv (int i64 (GJ.k d)),AV.sv (int i64 (GJ.n d)),AV.sv (string (GJ.s d)),AV.sv (slice (GJ.y d).1 (GJ.y d).2.1 (GJ.y d).2.2),AV.sv (slice (GJ.x d).1 (GJ.x d).2.1 (GJ.x d).2.2)])) T.e) (some (AO.cells (130:TypeId) (some 0) false [AV.sv (slice h.1 h.2.1 h.2.2),AV.sv (int i64 a.2.1)])) (T.n T.e (some (AO.cells (36:TypeId) (some 0) false [AV.sv (int u64 (GV.n a.2.2)),AV.sv (string (GV.s a.2.2)),AV.sv (slice (GV.x a.2.2).1 (GV.x a.2.2).2.1 (GV.x a.2.2).2.2),AV.sv (slice (GV.y a.2.2).1 (GV.y a.2.2).2.1 (GV.y a.2.2).2.2),AV.sv (int i64 (GV.b a.2.2))])) T.e)) none (T.n (T.n T.e (some (AO.cells 36 (some 0) false [AV.int u64 0,AV.str (List.map UInt8.toNat (Array.toList (ByteArray.data (mkS [])))),AV.nsl,AV.nsl,AV.int i64 0])) T.e) (some (AO.cells 55 (some 0) false [AV.sv (int i64 (AT.k c)),AV.sv (string (AT.nm c)),AV.sv (slice (AT.al c).1 (AT.al c).2.1 (AT.al c).2.2),AV.sv (int i64 (AT.it c)),AV.sv (slice (AT.sy c).1 (AT.sy c).2.1 (AT.sy c).2.2),AV.sv (bool (AT.hd c)),AV.sv (string (AT.df c)),AV.sv (int i64 (AT.sz c)),AV.sv (slice (AT.f c).1 (AT.f c).2.1 (AT.f c).2.2),AV.sv (slice (AT.br c).1 (AT.br c).2.1 (AT.br c).2.2)])) T.e))
 def Au:=(0<=(↑a.1:Int)/\T7 d a)/\(GJ.y d).1≠noA/\∃(i:Int),∃(t:Int),∃j,∃v,∃(B:Nat),∃(G:Nat),∃L,∃(M:Nat),∃(i8:Nat),(∀N,vE h d c o a N->q2u N (adr (GJ.y d).1 (toNat (↑a.1:Int)*5)) [int i64 i,int i64 t,string j,slice v B G,slice L M i8])/\Jb (u+1)/\∃(g:xZ),g.2.2.2.1=AT.it c/\GJ.k g.2.2.2.2.1=i/\GJ.n g.2.2.2.2.1=t/\GJ.s g.2.2.2.2.1=j/\(GJ.y g.2.2.2.2.1).1=v/\(GJ.y g.2.2.2.2.1).2.1=B/\(GJ.y g.2.2.2.2.1).2.2=G/\(GJ.x g.2.2.2.2.1).1=L/\(GJ.x g.2.2.2.2.1).2.1=M/\(GJ.x g.2.2.2.2.1).2.2=i8/\g.2.2.2.2.2=u+1/\g.2.1.1=h.1/\g.2.1.2.1=h.2.1/\g.2.1.2.2=h.2.2/\g.2.2.1=a.2.1/\(vh g<K/\qv g.1/\(0<=g.2.2.2.1/\g.2.2.2.1<(↑(length g.1):Int))/\GJ.wf g.2.2.2.2.1/\(0<=g.2.2.1/\g.2.2.1<=2000)/\1<=g.2.2.2.2.2/\g.2.2.2.2.2<=21)/\(∀C,vE h d c o a C->qc g.1 g.2.1 C/\GJ.ok g.2.2.2.2.1 C)/\∀(m:qT),jf g.2.2.1 m->(∃H,(vE h d c o a H)/\GV.ok m.2.2 H)->∃(p:qT),u=u/\(↑a.1:Int)=(↑a.1:Int)/\p.2.1=m.2.1/\h.1=g.2.1.1/\h.2.1=g.2.1.2.1/\h.2.2=g.2.1.2.2/\p.1=m.1/\L4 d (GV.n a.2.2=GV.n a.2.2/\GV.s a.2.2=GV.s a.2.2/\(GV.x a.2.2).1=(GV.x a.2.2).1/\(GV.x a.2.2).2.1=(GV.x a.2.2).2.1/\(GV.x a.2.2).2.2=(GV.x a.2.2).2.2/\(GV.y a.2.2).1=(GV.y a.2.2).1/\(GV.y a.2.2).2.1=(GV.y a.2.2).2.1/\(GV.y a.2.2).2.2=(GV.y a.2.2).2.2/\GV.b a.2.2=GV.b a.2.2/\Ff c (GV.n p.2.2=GV.n m.2.2/\GV.s p.2.2=GV.s m.2.2/\(GV.x p.2.2).1=(GV.x m.2.2).1/\(GV.x p.2.2).2.1=(GV.x m.2.2).2.1/\(GV.x p.2.2).2.2=(GV.x m.2.2).2.2/\(GV.y p.2.2).1=(GV.y m.2.2).1/\(GV.y p.2.2).2.1=(GV.y m.2.2).2.1/\(GV.y p.2.2).2.2=(GV.y m.2.2).2.2/\GV.b p.2.2=GV.b m.2.2/\(∀D,(vE h d c o a D)/\GV.ok m.2.2 D->vE h d c o a D)/\(∀i16,(vE h d c o a i16)/\GV.ok m.2.2 i16->GV.ok p.2.2 i16)/\jf (Av h d c a) p/\True))
 def mN:=Jb ((↑a.1:Int)+1)/\∃(i:Nat×Int×GV),u=u/\(↑i.1:Int)=(↑a.1:Int)+1/\UM h (i.2.1=r.1/\L4 d (GV.n i.2.2=GV.n A/\GV.s i.2.2=GV.s A/\(GV.x i.2.2).1=(GV.x A).1/\(GV.x i.2.2).2.1=(GV.x A).2.1/\(GV.x i.2.2).2.2=(GV.x A).2.2/\(GV.y i.2.2).1=(GV.y A).1/\(GV.y i.2.2).2.1=(GV.y A).2.1/\(GV.y i.2.2).2.2=(GV.y A).2.2/\GV.b i.2.2=GV.b A/\Ff c ((∀t,((vE h d c o a t)/\GV.ok r.2.2 t)/\GV.ok A t->Kn h d c o t)/\(∀j,((vE h d c o a j)/\GV.ok r.2.2 j)/\GV.ok A j->GV.ok i.2.2 j)/\(L5 z d i)/\length (GJ.l d)- i.1<length (GJ.l d)- a.1/\True)))
 def mM:=(0<=(↑a.1:Int)/\(↑a.1:Int)<(↑(GJ.x d).2.1:Int))/\(GJ.x d).1≠noA/\∃i,(∀t,(vE h d c o a t)/\GV.ok r.2.2 t->q2u t (adr (GJ.x d).1 (toNat (↑a.1:Int)*1)) [string i])/\∃(j:GV×O6×GV),GV.n j.1=GV.n a.2.2/\GV.s j.1=GV.s a.2.2/\(GV.x j.1).1=(GV.x a.2.2).1/\(GV.x j.1).2.1=(GV.x a.2.2).2.1/\(GV.x j.1).2.2=(GV.x a.2.2).2.2/\(GV.y j.1).1=(GV.y a.2.2).1/\(GV.y j.1).2.1=(GV.y a.2.2).2.1/\(GV.y j.1).2.2=(GV.y a.2.2).2.2/\GV.b j.1=GV.b a.2.2/\j.2.1=i/\GV.n j.2.2=GV.n r.2.2/\GV.s j.2.2=GV.s r.2.2/\(GV.x j.2.2).1=(GV.x r.2.2).1/\(GV.x j.2.2).2.1=(GV.x r.2.2).2.1/\(GV.x j.2.2).2.2=(GV.x r.2.2).2.2/\(GV.y j.2.2).1=(GV.y r.2.2).1/\(GV.y j.2.2).2.1=(GV.y r.2.2).2.1/\(GV.y j.2.2).2.2=(GV.y r.2.2).2.2/\GV.b j.2.2=GV.b r.2.2/\(length (GV.ks j.1)=length (GV.l j.1)/\length (GV.l j.1)<1000000)/\(∀v,(vE h d c o a v)/\GV.ok r.2.2 v->GV.ok j.1 v/\GV.ok j.2.2 v)/\∀(B:GV),GV.pv B=PV.mk (GV.n j.1) (GV.s j.1) (jV j.2.1 (GV.ks j.1) (GV.pvs (GV.l j.1)) (GV.pv j.2.2)) (q9 j.2.1 (GV.ks j.1)) (GV.b j.1)->(∃G,((vE h d c o a G)/\GV.ok r.2.2 G)/\GV.ok B G)->mN u h z d c o a r B
 def mL:=Ji (AT.k c=12) (False) (mM u h z d c o a r)
 def mK:=((!decide (r.2.1=0))=true->∃(i:qT),GV.n i.2.2=0/\GV.s i.2.2=mkS []/\(GV.x i.2.2).1=noA/\(GV.x i.2.2).2.1=0/\(GV.x i.2.2).2.2=0/\(GV.y i.2.2).1=noA/\(GV.y i.2.2).2.1=0/\(GV.y i.2.2).2.2=0/\GV.b i.2.2=0/\i.2.1=r.2.1/\UM h (i.1=r.1/\jf u i/\(∀t,(vE h d c o a t)/\GV.ok r.2.2 t->GV.ok i.2.2 t)/\True))/\((!decide (r.2.1=0))=false->mL z h u d c o a r)
 def mJ:=((Au u h d c o K a)/\Au u h d c o K a)/\∀(E:qT),jf (Av h d c a) E->(∃I,(vE h d c o a I)/\GV.ok E.2.2 I)->mK z h u d c o a E
 def mI:=Ji (T7 d a) (mJ u h z d c o K a) (∃(q:qT),GV.n q.2.2=GV.n a.2.2/\GV.s q.2.2=GV.s a.2.2/\(GV.x q.2.2).1=(GV.x a.2.2).1/\(GV.x q.2.2).2.1=(GV.x a.2.2).2.1/\(GV.x q.2.2).2.2=(GV.x a.2.2).2.2/\(GV.y q.2.2).1=(GV.y a.2.2).1/\(GV.y q.2.2).2.1=(GV.y a.2.2).2.1/\(GV.y q.2.2).2.2=(GV.y a.2.2).2.2/\GV.b q.2.2=GV.b a.2.2/\q.2.1=0/\UM h (q.1=a.2.1/\jf z q/\(∀J,vE h d c o a J->GV.ok q.2.2 J)/\True))
 def mH:=(∃(i:Nat×Int×GV),u=u/\(↑i.1:Int)=0/\UM h (i.2.1=z/\L4 d (GV.n i.2.2=0/\GV.s i.2.2=mkS []/\(GV.x i.2.2).1=noA/\(GV.x i.2.2).2.1=0/\(GV.x i.2.2).2.2=0/\(GV.y i.2.2).1=noA/\(GV.y i.2.2).2.1=0/\(GV.y i.2.2).2.2=0/\GV.b i.2.2=0/\Ff c ((∀t,Kn h d c o t->Kn h d c o t)/\(∀j,Kn h d c o j->GV.ok i.2.2 j)/\(L5 z d i)/\True))))/\∀(v:Nat×Int×GV),L5 z d v->(∃B,vE h d c o v B)->mI u h z d c o K v
end
def zjc(n:Nat) (S:List AT) (x:SV) (all:Int) (a:AT) (g:GJ) (d:Int):qiy P (qef []) (qff [(74,v9.below vh n),(24,QV)]) Tryz.f111 ((x6 isMap).below yz (n+1)) (wPm) ⟨S,x,all,a,g,d⟩=(yz (S,x,all,a,g,d)<n+1/\qv S/\a∈S/\isMap a g/\GJ.wf g/\(0<=all/\all<=2000)/\1<=d/\d<=20->(∃(p:Pub),Kn x g a S p)->mH d x all g a S n):=by kernel_rfl
def zpr:=λn S x all a g d=>Eq.trans (zjc n S x all a g d) (by delta Ji Jb Jt Jf Kn UM L4 Ff L5 vE T7 Av Au mN mM mL mK mJ mI mH;exact rfl)
section
variable (p:Int) (h:SV) (q:Int) (c:GJ) (a:AT) (i:List AT) (U:Nat) (d:Nat×Int×List GV) (E:GJ) (x9:Int) (g:qT) (r:xZ) (D:Bool) (Z:O6) (x14:Option Addr) (x15:Nat) (K L:Int) (M:O6) (N:Option Addr) (O Q:Nat) (R:Option Addr) (S T:Nat) (t:Prop) (v:Nat->Option Obj) (x27:GJ×O6)
 abbrev Ko:=True/\qc i h v/\AT.ok a v/\GJ.ok c v
 def Yt:=h.1=h.1/\h.2.1=h.2.1/\h.2.2=h.2.2/\t
 def Y9:=GJ.k c=GJ.k c/\GJ.n c=GJ.n c/\GJ.s c=GJ.s c/\(GJ.y c).1=(GJ.y c).1/\(GJ.y c).2.1=(GJ.y c).2.1/\(GJ.y c).2.2=(GJ.y c).2.2/\(GJ.x c).1=(GJ.x c).1/\(GJ.x c).2.1=(GJ.x c).2.1/\(GJ.x c).2.2=(GJ.x c).2.2/\t
 def Y8:=AT.k a=AT.k a/\AT.nm a=AT.nm a/\(AT.al a).1=(AT.al a).1/\(AT.al a).2.1=(AT.al a).2.1/\(AT.al a).2.2=(AT.al a).2.2/\AT.it a=AT.it a/\(AT.sy a).1=(AT.sy a).1/\(AT.sy a).2.1=(AT.sy a).2.1/\(AT.sy a).2.2=(AT.sy a).2.2/\AT.hd a=AT.hd a/\AT.df a=AT.df a/\AT.sz a=AT.sz a/\(AT.f a).1=(AT.f a).1/\(AT.f a).2.1=(AT.f a).2.1/\(AT.f a).2.2=(AT.f a).2.2/\(AT.br a).1=(AT.br a).1/\(AT.br a).2.1=(AT.br a).2.1/\(AT.br a).2.2=(AT.br a).2.2/\t
 def L6:=d.1<=length (AT.fs a)/\(p<=d.2.1/\d.2.1<=2000)/\length d.2.2=d.1
 def vK:=(Ko h c a i v)/\GV.oks d.2.2 v
 abbrev Bb:=(↑d.1:Int)<(↑(AT.f a).2.1:Int)
 def T9:=(GV.y g.2.2).1=noA/\(GV.y g.2.2).2.1=0/\(GV.y g.2.2).2.2=0/\GV.b g.2.2=0/\t
 def T8:=GV.n g.2.2=0/\GV.s g.2.2=mkS []/\(GV.x g.2.2).1=noA/\(GV.x g.2.2).2.1=0/\(GV.x g.2.2).2.2=0/\T9 g t
 def Ba:=(∀e,vK h c a i d e->vK h c a i d e)/\(∀j,vK h c a i d j->GJ.ok E j)/\GJ.wf E/\True
 def mT:=((!D)=true->∃(e:qT),T8 e (e.2.1=7/\Yt h (e.1=d.2.1/\jf p e/\(∀j,vK h c a i d j->GV.ok e.2.2 j)/\True)))/\((!D)=false->∃(l:GJ),q=q/\(↑d.1:Int)=(↑d.1:Int)/\Yt h (d.2.1=d.2.1/\Y9 c (length d.2.2=length d.2.2/\Y8 a (Z=Z/\x14=x14/\U=U/\x15=x15/\x9=x9/\D=D/\K=K/\L=L/\M=M/\N=N/\O=O/\Q=Q/\R=R/\S=S/\T=T/\qa GV.cells d.2.2=qa GV.cells d.2.2/\GJ.k l=K/\GJ.n l=L/\GJ.s l=M/\(GJ.y l).1=N/\(GJ.y l).2.1=O/\(GJ.y l).2.2=Q/\(GJ.x l).1=R/\(GJ.x l).2.1=S/\(GJ.x l).2.2=T/\Ba h c a i d l))))
 abbrev xL:=Option.getD (qp x27.2 x27.1) zJ
 def T_:=h.1=r.2.1.1/\h.2.1=r.2.1.2.1/\h.2.2=r.2.1.2.2/\t
 def mU:=length (qa GV.cells d.2.2)=length d.2.2*5/\(length d.2.2+nat_lit 1)*80<=140737488355328/\Jb ((↑d.1:Int)+1)/\∃(e:Nat×Int×List GV),p=p/\(↑e.1:Int)=(↑d.1:Int)+1/\T_ h r (e.2.1=g.1/\Y9 c (length e.2.2=length d.2.2+nat_lit 1/\Y8 a (qa GV.cells e.2.2=qa GV.cells d.2.2++[int u64 (GV.n g.2.2),string (GV.s g.2.2),slice (GV.x g.2.2).1 (GV.x g.2.2).2.1 (GV.x g.2.2).2.2,slice (GV.y g.2.2).1 (GV.y g.2.2).2.1 (GV.y g.2.2).2.2,int i64 (GV.b g.2.2)]/\(∀j,((vK h c a i d j)/\GJ.ok E j)/\GV.ok g.2.2 j->Ko h c a i j)/\(∀l,((vK h c a i d l)/\GJ.ok E l)/\GV.ok g.2.2 l->GV.oks e.2.2 l)/\(L6 q a e)/\length (AT.fs a)- e.1<length (AT.fs a)- d.1/\True)))
 def mS:=((!decide (g.2.1=0))=true->∃(e:qT),T8 e (e.2.1=g.2.1/\T_ h r (e.1=g.1/\jf p e/\(∀j,((vK h c a i d j)/\GJ.ok E j)/\GV.ok g.2.2 j->GV.ok e.2.2 j)/\True)))/\((!decide (g.2.1=0))=false->mU q h p c a i d E g r)
 def mR:=Jb (p+1)/\∃(e:xZ),e.2.2.2.1=q/\GJ.k e.2.2.2.2.1=GJ.k c/\GJ.n e.2.2.2.2.1=GJ.n c/\GJ.s e.2.2.2.2.1=GJ.s c/\(GJ.y e.2.2.2.2.1).1=(GJ.y c).1/\(GJ.y e.2.2.2.2.1).2.1=(GJ.y c).2.1/\(GJ.y e.2.2.2.2.1).2.2=(GJ.y c).2.2/\(GJ.x e.2.2.2.2.1).1=(GJ.x c).1/\(GJ.x e.2.2.2.2.1).2.1=(GJ.x c).2.1/\(GJ.x e.2.2.2.2.1).2.2=(GJ.x c).2.2/\e.2.2.2.2.2=p+1/\e.2.1.1=h.1/\e.2.1.2.1=h.2.1/\e.2.1.2.2=h.2.2/\e.2.2.1=d.2.1/\(vh e<U/\qv e.1/\(0<=e.2.2.2.1/\e.2.2.2.1<(↑(length e.1):Int))/\GJ.wf e.2.2.2.2.1/\(0<=e.2.2.1/\e.2.2.1<=2000)/\1<=e.2.2.2.2.2/\e.2.2.2.2.2<=21)/\(∀j,(vK h E a i d j)/\GJ.ok c j->qc e.1 e.2.1 j/\GJ.ok e.2.2.2.2.1 j)/\∀(l:qT),jf e.2.2.1 l->(∃u,((vK h E a i d u)/\GJ.ok c u)/\GV.ok l.2.2 u)->mS x9 h p E a i d c l e
 def mQ:=(0<=(↑d.1:Int)/\Bb a d)/\(AT.f a).1≠noA/\∃e,∃j,∃(l:Nat),∃(u:Nat),∃(G:Int),∃(i5:Bool),∃(i6:Int),∃(i7:Int),∃i8,∃i9,∃(w:Nat),∃(z:Nat),∃A,∃(B:Nat),∃(C:Nat),(∀V,vK h c a i d V->q2u V (adr (AT.f a).1 (toNat (↑d.1:Int)*9)) [string e,slice j l u,int i64 G,bool i5,int i64 i6,int i64 i7,string i8,slice i9 w z,slice A B C])/\∃(i16:GJ×O6),GJ.k i16.1=GJ.k c/\GJ.n i16.1=GJ.n c/\GJ.s i16.1=GJ.s c/\(GJ.y i16.1).1=(GJ.y c).1/\(GJ.y i16.1).2.1=(GJ.y c).2.1/\(GJ.y i16.1).2.2=(GJ.y c).2.2/\(GJ.x i16.1).1=(GJ.x c).1/\(GJ.x i16.1).2.1=(GJ.x c).2.1/\(GJ.x i16.1).2.2=(GJ.x c).2.2/\i16.2=e/\GJ.wf i16.1/\(∀W,vK h c a i d W->GJ.ok i16.1 W)/\(((!Option.isSome (qp i16.2 i16.1))=true->mT p h q c a i l d G i5 e j u i6 i7 i8 i9 w z A B C)/\((!Option.isSome (qp i16.2 i16.1))=false->∃(m:GJ),q=q/\(↑d.1:Int)=(↑d.1:Int)/\Yt h (d.2.1=d.2.1/\Y9 c (length d.2.2=length d.2.2/\Y8 a (e=e/\j=j/\l=l/\u=u/\G=G/\i5=i5/\i6=i6/\i7=i7/\i8=i8/\i9=i9/\w=w/\z=z/\A=A/\B=B/\C=C/\qa GV.cells d.2.2=qa GV.cells d.2.2/\GJ.k m=GJ.k (xL i16)/\GJ.n m=GJ.n (xL i16)/\GJ.s m=GJ.s (xL i16)/\(GJ.y m).1=(GJ.y (xL i16)).1/\(GJ.y m).2.1=(GJ.y (xL i16)).2.1/\(GJ.y m).2.2=(GJ.y (xL i16)).2.2/\(GJ.x m).1=(GJ.x (xL i16)).1/\(GJ.x m).2.1=(GJ.x (xL i16)).2.1/\(GJ.x m).2.2=(GJ.x (xL i16)).2.2/\Ba h c a i d m)))))/\∀(F:GJ),GJ.wf F->(∃X,(vK h c a i d X)/\GJ.ok F X)->mR q h G F a i U d c p
 def mP:=Ji (Bb a d) (mQ p h q c a i U d) (∀(i37 i38 i39:Nat) (H:Option Addr) (i41 I:Nat),(∃Y,(vK h c a i d Y)/\length d.2.2<=I/\qfu Y H (take (length d.2.2*nat_lit 5) (qa GV.cells d.2.2)))->∃(o:qT),GV.n o.2.2=0/\GV.s o.2.2=mkS []/\(GV.x o.2.2).1=H/\(GV.x o.2.2).2.1=length d.2.2/\(GV.x o.2.2).2.2=I/\T9 o (o.2.1=0/\Yt h (o.1=d.2.1/\jf p o/\(∀J,(vK h c a i d J)/\length d.2.2<=I/\qfu J H (take (length d.2.2*nat_lit 5) (qa GV.cells d.2.2))->GV.ok o.2.2 J)/\True)))
 def mO:=(∃(e:Nat×Int×List GV),p=p/\(↑e.1:Int)=0/\Yt h (e.2.1=q/\Y9 c (length e.2.2=0/\Y8 a ((∀j,Ko h c a i j->Ko h c a i j)/\(∀l,Ko h c a i l->GV.oks e.2.2 l)/\(L6 q a e)/\True))))/\∀(u:Nat×Int×List GV),L6 q a u->(∃G,vK h c a i u G)->mP q h p c a i U u
end
def zq5(n:Nat) (S:List AT) (x:SV) (all:Int) (a:AT) (g:GJ) (d:Int):qiy P (qef [(66,xC)]) (qff [(74,v9.below vh n)]) Tryz.f112 ((x6 isRec).below yz (n+1)) (wRe) ⟨S,x,all,a,g,d⟩=(yz (S,x,all,a,g,d)<n+1/\qv S/\a∈S/\isRec a g/\GJ.wf g/\(0<=all/\all<=2000)/\1<=d/\d<=20->(∃(p:Pub),Ko x g a S p)->mO d x all g a S n):=by kernel_rfl
def zyv:=λn S x all a g d=>Eq.trans (zq5 n S x all a g d) (by delta Ji Jb Jt Jf Ko Yt Y9 Y8 L6 vK Bb T9 T8 Ba mT xL T_ mU mS mR mQ mP mO;exact rfl)
section
variable {p:Pub}
def uD{a:AT} (h:a.ok p):a.al.2.1=a.als.length/\a.sy.2.1=a.sys.length/\a.f.2.1=a.fs.length/\a.br.2.1=a.brs.length:=⟨h.1.1,h.2.1.1,h.2.2.1.1,h.2.2.2.1.1⟩
variable {g:GJ}
def G'(h:g.ok p):g.y.2.1=g.l.length/\g.x.2.1=g.nm.length:=by rw[GJ.ok_eq]at h;exact⟨h.1.1,h.2.1.1⟩
def V'(h:g.ok p) {j:Nat} (u:j<g.l.length):(g.y.1≠noA/\q2u p (adr g.y.1 (j*5)) g.l[j].cells)/\g.l[j].ok p:=by rw[GJ.ok_eq]at h;exact⟨j3 ZB (by decide) h.1 u,GJ.oks_at h.2.2 u⟩
def zv6(h:g.ok p) {j:Nat} (u:j<g.nm.length):g.x.1≠noA/\q2u p (adr g.x.1 (j*1)) [.string g.nm[j]]:=by rw[GJ.ok_eq]at h;exact j3 jS (by decide) h.2.1 u
def JV:∀{l m:List GV} {p:Pub},GV.oks l p->GV.oks m p->GV.oks (l++m) p:=λh u=>GV.oks_iff.2 λv A=>(List.mem_append.1 A).elim (GV.oks_iff.1 h v) (GV.oks_iff.1 u v)
def uH{v:GV} (h:v.ok p):GV.oks [v] p:=GV.oks_iff.2 λw hw=>by simp at hw;subst hw;exact h
def zV:GV:= .mk 0 (mkS []) (none,0,0) [] (none,0,0) [] 0
def kL(p:Pub):zV.ok p:=by unfold zV GV.ok;exact⟨qQ,qQ,by unfold GV.oks;trivial⟩
def I7(k:O6) (ks:List O6) (l:List PV) (w:PV) (h:ks.length=l.length):(q9 k ks).length=(jV k ks l w).length/\(jV k ks l w).length<=l.length+1:=by
 have hi:=zvc k ks;unfold q9 jV;split
 ·rw[List.length_set];omega
 ·simp only[List.length_append,List.length_take,List.length_cons,List.length_drop];omega
def zpq(n:Nat) (hv:q1i P 74 (v9.below vh n)):q1i P 111 ((x6 OL).below yz (n+1)):=by
 refine zI (qbu qil) (qcl (qfq hv (qfq Ya qik))) (W:=wPa) Tryz.func111 λ⟨S,(x:SV),(all:Int),a,g,(d:Int)⟩=>(zpp n S x all a g d).mpr ?_;rintro⟨U,hS,Y,V,hg,⟨hal0,H⟩,hd1,hd2⟩ ⟨p,_,hx,ha,O⟩;have U:2*(25- d).toNat<n+1:=U;have V:a.k=12:=V;obtain⟨gl,X⟩:=G' O;have T:=hg;rw[GJ.wf_eq]at T;obtain⟨_,hgl,_,_,_,_,hgs⟩:=T;have Z:=(hS.2 a Y).2.1 (.inl V);simp only[qy,exists_const,forall_const,Int.toNat_natCast,gl,X];refine⟨⟨⟨0,all,[]⟩,rfl,rfl,rfl,λq hq=>GV.oks_iff.2 λv h=>(by cases h),Nat.zero_le _,⟨by show all<=all;omega,H⟩,rfl⟩,?_⟩;rintro⟨j,al,fs⟩ ⟨hj,⟨hl0,C⟩,J⟩ ⟨p1,hp1,N⟩;simp only at hj hl0 C J N⊢;refine⟨λhlt=>⟨⟨?xa,?xb⟩,?_⟩,λhge=> ?_⟩;case xa|xb=>
  have A:j<g.l.length:=by omega
  have hw:g.l[j].wf:=GJ.wfs_at hgs A;refine⟨⟨by omega,by omega⟩,(V' O A).1.1,g.l[j].k,g.l[j].n,g.l[j].s,g.l[j].y.1,g.l[j].y.2.1,g.l[j].y.2.2,g.l[j].x.1,g.l[j].x.2.1,g.l[j].x.2.2,λq hq=>(V' hq.1.2.2 A).1.2,⟨by omega,by omega⟩,⟨S,x,al,a.it,g.l[j],d+1⟩,rfl,rfl,rfl,rfl,rfl,rfl,rfl,rfl,rfl,rfl,rfl,rfl,rfl,rfl,rfl,⟨by show 2*(25- (d+1)).toNat<n;omega,hS,Z,hw,⟨by show 0<=al;omega,C⟩,by show 1<=d+1;omega,by show d+1<=21;omega⟩,λq hq=>⟨hq.1.1,(V' hq.1.2.2 A).2⟩,?_⟩;rintro⟨u,e,w⟩ G _;exact⟨⟨u,e,w⟩,rfl,rfl,rfl,rfl,rfl,rfl,rfl,rfl,rfl,rfl,rfl,rfl,rfl,rfl,λq hq=>hq.1,λq hq=>hq.2,G⟩
 ·rintro⟨u,e,w⟩ G _;have G:al<=u/\u<=2001/\(e=0->u<=2000):=G;simp only;refine⟨λhe=>⟨⟨u,e,zV⟩,rfl,rfl,rfl,rfl,rfl,rfl,rfl,rfl,rfl,rfl,rfl,⟨by show all<=u;omega,G.2⟩,λq hq=>kL q⟩,λhe=>⟨λ_=>⟨qB jw fs,by omega,⟨by omega,by omega⟩,⟨j+1,u,fs++[w]⟩,by show((j+1:Nat):Int)=_;omega,rfl,by simp,by rw[zF];rfl,λq hq=>hq.1.1,λq hq=>JV hq.1.2 (uH hq.2),⟨by show j+1<=_;omega,⟨by show all<=u;omega,G.2.2 he⟩,by show(fs++[w]).length=j+1;simp[J]⟩,by show _- (j+1)<_;omega⟩,λh=>absurd V h⟩⟩
 ·intro a6 c _;refine⟨⟨al,0, .mk 0 (mkS []) (a6,fs.length,c) fs (none,0,0) [] 0⟩,rfl,rfl,rfl,rfl,rfl,rfl,rfl,rfl,rfl,rfl,rfl,⟨by show all<=al;omega,by show al<=2001;omega,λ_=>C⟩,λq hq=> ?_⟩;have h2:=hq.2.2;rw[List.take_of_length_le (by rw[qB jw];exact Nat.le_refl _)]at h2;show GV.ok _ q;unfold GV.ok;exact⟨⟨rfl,hq.2.1,h2⟩,qQ,hq.1.2⟩
def zps(n:Nat) (hv:q1i P 74 (v9.below vh n)):q1i P 111 ((x6 isMap).below yz (n+1)):=by
 refine zI (qbu qil) (qcl (qfq hv (qfq Ya qik))) (W:=wPm) Tryz.func111 λ⟨S,(x:SV),(all:Int),a,g,(d:Int)⟩=>(zpr n S x all a g d).mpr ?_;rintro⟨V,hS,haS,hk,hg,⟨hal0,O⟩,hd1,hd2⟩ ⟨p,_,hx,ha,G⟩;have V:2*(25- d).toNat<n+1:=V;obtain⟨hk,hgk⟩:=hk;obtain⟨gl,Z⟩:=G' G;have T:=hg;rw[GJ.wf_eq]at T;obtain⟨_,hgl,_,hnsz,_,X,hgs⟩:=T;have X:=X hgk;have hat:=(hS.2 a haS).2.1 (.inr hk);simp only[qy,exists_const,forall_const,Int.toNat_natCast,gl,Z];refine⟨⟨⟨0,all,zV⟩,rfl,rfl,rfl,rfl,rfl,rfl,rfl,rfl,rfl,rfl,rfl,λq hq=>kL q,Nat.zero_le _,⟨by show all<=all;omega,O⟩,rfl,Nat.zero_le _⟩,?_⟩;rintro⟨j,al,v⟩ ⟨hj,⟨hl0,H⟩,J,hvl⟩ ⟨p1,hp1,hv1⟩;simp only at hj hl0 H J hvl hv1⊢;refine⟨λhlt=>⟨⟨?xa,?xb⟩,?_⟩,λhge=> ?_⟩;case xa|xb=>
  have C:j<g.l.length:=by omega
  have hw:g.l[j].wf:=GJ.wfs_at hgs C;refine⟨⟨by omega,by omega⟩,(V' G C).1.1,g.l[j].k,g.l[j].n,g.l[j].s,g.l[j].y.1,g.l[j].y.2.1,g.l[j].y.2.2,g.l[j].x.1,g.l[j].x.2.1,g.l[j].x.2.2,λq hq=>(V' hq.1.2.2 C).1.2,⟨by omega,by omega⟩,⟨S,x,al,a.it,g.l[j],d+1⟩,rfl,rfl,rfl,rfl,rfl,rfl,rfl,rfl,rfl,rfl,rfl,rfl,rfl,rfl,rfl,⟨by show 2*(25- (d+1)).toNat<n;omega,hS,hat,hw,⟨by show 0<=al;omega,H⟩,by show 1<=d+1;omega,by show d+1<=21;omega⟩,λq hq=>⟨hq.1.1,(V' hq.1.2.2 C).2⟩,?_⟩;rintro⟨u,e,w⟩ N _;exact⟨⟨u,e,w⟩,rfl,rfl,rfl,rfl,rfl,rfl,rfl,rfl,rfl,rfl,rfl,rfl,rfl,rfl,λq hq=>hq.1,λq hq=>hq.2,N⟩
 ·rintro⟨u,e,w⟩ N _;have N:al<=u/\u<=2001/\(e=0->u<=2000):=N;simp only;refine⟨λhe=>⟨⟨u,e,zV⟩,rfl,rfl,rfl,rfl,rfl,rfl,rfl,rfl,rfl,rfl,rfl,⟨by show all<=u;omega,N.2⟩,λq hq=>kL q⟩,λhe=>⟨λh=>by omega,λ_=> ?_⟩⟩;have U:j<g.nm.length:=by omega
  refine⟨⟨by omega,by omega⟩,(zv6 G U).1,g.nm[j],λq hq=>(zv6 hq.1.1.2.2 U).2,⟨v,g.nm[j],w⟩,rfl,rfl,rfl,rfl,rfl,rfl,rfl,rfl,rfl,rfl,rfl,rfl,rfl,rfl,rfl,rfl,rfl,rfl,rfl,⟨J,by show v.l.length<_;omega⟩,λq hq=>⟨hq.1.2,hq.2⟩,?_⟩;intro b A _;have A:b.pv=PV.mk v.n v.s (jV g.nm[j] v.ks (GV.pvs v.l) w.pv) (q9 g.nm[j] v.ks) v.b:=A;rw[GV.pv_eq]at A;injection A with _ _ e1 e2 _
  have Y:=I7 g.nm[j] v.ks (GV.pvs v.l) w.pv (by rw[GV.pvs_len];exact J);rw[←e1,←e2,GV.pvs_len,GV.pvs_len]at Y;exact⟨⟨by omega,by omega⟩,⟨j+1,u,b⟩,by show((j+1:Nat):Int)=_;omega,rfl,rfl,rfl,rfl,rfl,rfl,rfl,rfl,rfl,rfl,λq hq=>hq.1.1.1,λq hq=>hq.2,⟨by show j+1<=_;omega,⟨by show all<=u;omega,N.2.2 he⟩,Y.1,by show b.l.length<=j+1;omega⟩,by show _- (j+1)<_;omega⟩
 ·exact⟨⟨al,0,v⟩,rfl,rfl,rfl,rfl,rfl,rfl,rfl,rfl,rfl,rfl,rfl,⟨by show all<=al;omega,by show al<=2001;omega,λ_=>H⟩,λq hq=>hq.2⟩
def zyw(n:Nat) (hv:q1i P 74 (v9.below vh n)):q1i P 112 ((x6 isRec).below yz (n+1)):=by
 refine zI (qbu (qfr JU qil)) (qcl (qfq hv qik)) (W:=wRe) Tryz.func112 λ⟨S,(x:SV),(all:Int),a,g,(d:Int)⟩=>(zyv n S x all a g d).mpr ?_;rintro⟨V,hS,haS,hk,hg,⟨hal0,J⟩,hd1,hd2⟩ ⟨p,_,hx,ha,hgo⟩;have V:2*(25- d).toNat<n+1:=V;obtain⟨gl,H⟩:=G' hgo;obtain⟨_,_,Y,_⟩:=uD ha;have U:=hS.2 a haS;have hf30:=U.2.2.2.2.2.2.2.1;have hfg:=U.2.2.2.2.1;simp only[qy,exists_const,forall_const,Int.toNat_natCast,gl,H,Y];refine⟨⟨⟨0,all,[]⟩,rfl,rfl,rfl,λq hq=>GV.oks_iff.2 λv h=>(by cases h),Nat.zero_le _,⟨by show all<=all;omega,J⟩,rfl⟩,?_⟩;rintro⟨j,al,fs⟩ ⟨hj,⟨hl0,u⟩,O⟩ ⟨p1,hp1,T⟩;simp only at hj hl0 u O T⊢;refine⟨λhlt=> ?_,λhge=> ?_⟩
 ·have C:j<a.fs.length:=by omega
  have N:=hfg _ (List.getElem_mem C);have fok:=λq (h:a.ok q)=>h.2.2.2.2 a.fs[j] (List.getElem_mem C);generalize hfj:a.fs[j]=f at*;have G:=λq (h:a.ok q)=>(show a.f.1≠noA/\q2u q (adr a.f.1 (j*9)) f.cells by rw[←hfj];exact vV h C);obtain⟨cw,Z⟩:=wR f.nm hg;refine⟨⟨by omega,by omega⟩,(G p ha).1,f.nm,f.al.1,f.al.2.1,f.al.2.2,f.ty,f.hd,f.df.k,f.df.n,f.df.s,f.df.y.1,f.df.y.2.1,f.df.y.2.2,f.df.x.1,f.df.x.2.1,f.df.x.2.2,λq hq=>(G q hq.1.2.1).2,⟨g,f.nm⟩,rfl,rfl,rfl,rfl,gl,rfl,rfl,H,rfl,rfl,hg,λq hq=>hq.1.2.2,?_⟩;simp only;generalize (qp f.nm g).getD zJ=cj at*;refine⟨⟨λhno=>⟨λ_=>⟨⟨al,7,zV⟩,rfl,rfl,rfl,rfl,rfl,rfl,rfl,rfl,rfl,rfl,rfl,⟨by show all<=al;omega,by show al<=2001;omega,λ_=>u⟩,λq hq=>kL q⟩,λ_=>⟨f.df,rfl,rfl,rfl,rfl,rfl,rfl,rfl,rfl,rfl,λq hq=>(fok q hq.1.2.1).2,N.2⟩⟩,λhyes=>⟨cj,rfl,rfl,rfl,rfl,rfl,rfl,rfl,rfl,rfl,λq hq=>Z q hq.1.2.2,cw⟩⟩,?_⟩;intro c hcw _;refine⟨⟨by omega,by omega⟩,⟨S,x,al,f.ty,c,d+1⟩,rfl,rfl,rfl,rfl,rfl,rfl,rfl,rfl,rfl,rfl,rfl,rfl,rfl,rfl,rfl,⟨by show 2*(25- (d+1)).toNat<n;omega,hS,N.1,hcw,⟨by show 0<=al;omega,u⟩,by show 1<=d+1;omega,by show d+1<=21;omega⟩,λq hq=>⟨hq.1.1.1,hq.2⟩,?_⟩;rintro⟨A,e,w⟩ X _;have X:al<=A/\A<=2001/\(e=0->A<=2000):=X;simp only[true_and];refine⟨λhe=>⟨⟨A,e,zV⟩,rfl,rfl,rfl,rfl,rfl,rfl,rfl,rfl,rfl,rfl,rfl,⟨by show all<=A;omega,X.2⟩,λq hq=>kL q⟩,λhe=>⟨qB jw fs,by omega,⟨by omega,by omega⟩,⟨j+1,A,fs++[w]⟩,by show((j+1:Nat):Int)=_;omega,rfl,by simp,by rw[zF];rfl,λq hq=>hq.1.1.1,λq hq=>JV hq.1.1.2 (uH hq.2),⟨by show j+1<=_;omega,⟨by show all<=A;omega,X.2.2 he⟩,by show(fs++[w]).length=j+1;simp[O]⟩,by show _- (j+1)<_;omega⟩⟩
 ·intro a6 c _;refine⟨⟨al,0, .mk 0 (mkS []) (a6,fs.length,c) fs (none,0,0) [] 0⟩,rfl,rfl,rfl,rfl,rfl,rfl,rfl,rfl,rfl,rfl,rfl,⟨by show all<=al;omega,by show al<=2001;omega,λ_=>u⟩,λq hq=> ?_⟩;have h2:=hq.2.2;rw[List.take_of_length_le (by rw[qB jw];exact Nat.le_refl _)]at h2;show GV.ok _ q;unfold GV.ok;exact⟨⟨rfl,hq.2.1,h2⟩,qQ,hq.1.2⟩
end
def zfn(n:Nat) (T:q1i P 74 (v9.below vh n)):q1i P 111 ((x6 Lf).below yz (n+1)):=by
 have hA:=zpq n T;have Z:=zps n T;refine⟨hA.1,hA.2.1,hA.2.2.1,λs=> ?_⟩;obtain⟨Y,e0,rA⟩:=hA.2.2.2 s;obtain⟨O,e1,rM⟩:=Z.2.2.2 s;have e:O=Y:=Option.some.inj (e1.symm.trans e0);subst e;refine⟨O,e0,λF I w vs u A C G hp H J N=> ?_⟩;obtain⟨m,U,V,p3,X⟩:=hp;rcases p3 with h|h
 ·exact rA F I w vs u A C G ⟨m,U,V,h,X⟩ H J N
 ·exact rM F I w vs u A C G ⟨m,U,V,h,X⟩ H J N
def jiw(n:Nat) (hv:q1i P 74 (v9.below vh n)):q1i P 74 (v9.below vh (n+1)):=by
 refine zI (qbu qil) (qcl (qfq hv (qfq (zfn n hv) (qfq (zyw n hv) (qfq zou (qfq zhv (qfq j89 qik))))))) (W:=wVl) Tryz.func74 λ⟨S,(x:SV),(all:Int),(t:Int),g,(d:Int)⟩=>(jiv n S x all t g d).mpr ?_;rintro⟨O,hS,⟨ht0,ht1⟩,hg,⟨hal0,hal1⟩,hd1,hd2⟩ ⟨p,_,hx,H⟩;have O:2*(25- d).toNat<n+1:=O;obtain⟨gl,gnl⟩:=G' H;obtain⟨j,rfl⟩:=Int.eq_ofNat_of_zero_le ht0;have hj:j<S.length:=by omega
 have sl:x.2.1=S.length:=hx.1.1;have hat:=λq (hq:qc S x q/\g.ok q)=>yp hq.1 hj;have G:=λq (hq:qc S x q/\g.ok q)=>hq.1.2 S[j] (List.getElem_mem hj);have V:=hS.2 S[j] (List.getElem_mem hj);simp only[qy,exists_const,forall_const,Int.toNat_natCast,sl];refine⟨⟨by omega,by omega⟩,λh20=>⟨⟨all+1,3,zV⟩,rfl,rfl,rfl,rfl,rfl,rfl,rfl,rfl,rfl,rfl,rfl,⟨by show all<=all+1;omega,by show all+1<=2001;omega,λh=>(by have h:(3:Int)=0:=h;omega)⟩,λq hq=>kL q⟩,λh20=>⟨λA=>⟨⟨all+1,3,zV⟩,rfl,rfl,rfl,rfl,rfl,rfl,rfl,rfl,rfl,rfl,rfl,⟨by show all<=all+1;omega,by show all+1<=2001;omega,λh=>(by have h:(3:Int)=0:=h;omega)⟩,λq hq=>kL q⟩,λA=> ?_⟩⟩;refine⟨⟨by omega,by omega⟩,(hat p ⟨hx,H⟩).1,S[j].k,S[j].nm,S[j].al.1,S[j].al.2.1,S[j].al.2.2,S[j].it,S[j].sy.1,S[j].sy.2.1,S[j].sy.2.2,S[j].hd,S[j].df,S[j].sz,S[j].f.1,S[j].f.2.1,S[j].f.2.2,S[j].br.1,S[j].br.2.1,S[j].br.2.2,λq hq=>(hat q hq).2,?_⟩;have T:=List.getElem_mem hj;obtain⟨_,X,_,U⟩:=uD (G p ⟨hx,H⟩);generalize S[j]=a at*;simp only[X,U];have ret:∀(nn:Int) (ss:O6) (ee:Int),∃b:qT,b.snd.snd.n=nn/\b.snd.snd.s=ss/\b.snd.snd.x.fst=noA/\b.snd.snd.x.snd.fst=0/\b.snd.snd.x.snd.snd=0/\b.snd.snd.y.fst=noA/\b.snd.snd.y.snd.fst=0/\b.snd.snd.y.snd.snd=0/\b.snd.snd.b=0/\b.snd.fst=ee/\b.fst=all+1/\jf all b/\∀(p:Nat->Option Obj),qc S x p/\g.ok p->b.snd.snd.ok p:=λnn ss ee=>⟨⟨all+1,ee, .mk nn ss (none,0,0) [] (none,0,0) [] 0⟩,rfl,rfl,rfl,rfl,rfl,rfl,rfl,rfl,rfl,rfl,rfl,⟨by show all<=all+1;omega,by show all+1<=2001;omega,λ_=>by show all+1<=2000;omega⟩,λq _=>by show GV.ok _ q;unfold GV.ok;exact⟨qQ,qQ,by unfold GV.oks;trivial⟩⟩;have N:∀{k b Y:Int},a.k=k->bq k b Y a.k=decide (Y=b):=λ{k b Y} h=>by unfold bq;rw[decide_eq_true h];rfl
 have J:∀{k b Y:Int},¬a.k=k->bq k b Y a.k=false:=λ{k b Y} h=>by unfold bq;rw[decide_eq_false h];rfl
 have qk:∀{k b:Int},bq k b g.k a.k=true->a.k=k/\g.k=b:=λ{k b} h=>by unfold bq at h;rw[Bool.and_eq_true,decide_eq_true_eq,decide_eq_true_eq]at h;exact h
 have gn:=hg;rw[GJ.wf_eq]at gn;obtain⟨gsz,_,_,_,⟨Z,gn1⟩,_,_⟩:=gn;refine⟨⟨⟨λh=>N h,λh=>J h⟩,λ_=>ret _ _ _,λ_=>⟨⟨λh=>N h,λh=>J h⟩,λ_=>ret _ _ _,λ_=>⟨⟨⟨λh=>⟨λA=>⟨λh3=> ?_,λh3=> ?_⟩,λA=> ?_⟩,λh=> ?_⟩,λh=> ?_,λh=>⟨λA=> ?_,λA=> ?_⟩⟩,λ_=>ret _ _ _,λ_=>⟨⟨λh=>N h,λh=>J h⟩,λ_=>⟨g.n,rfl,⟨Z,gn1⟩,λb C=>⟨⟨by omega,by omega⟩,ret _ _ _⟩⟩,λ_=>⟨⟨λh=>N h,λh=>J h⟩,λ_=>⟨g.n,rfl,⟨Z,gn1⟩,λb C=>ret _ _ _⟩,λ_=>⟨⟨λh=>N h,λh=>J h⟩,λ_=>ret _ _ _,λ_=>⟨⟨λh=> ?_,λh=>⟨λA=> ?_,λA=> ?_⟩⟩,λ_=>⟨g.s,rfl,by omega,λb C=>⟨⟨λ_=>⟨λ_=>⟨_,rfl⟩,λ_=>⟨_,rfl⟩⟩,λ_=>⟨_,rfl⟩⟩,λs hs=>ret _ _ _⟩⟩,λ_=>⟨⟨λh=>N h,λh=>J h⟩,λhE=>⟨⟨0,rfl⟩,λi hi=> ?_⟩,λ_=>⟨⟨⟨λh=>N h,λh=>J h⟩,λh=> ?_,λh=>⟨λA=> ?_,λA=> ?_⟩⟩,λhP=> ?_,λ_=>⟨⟨λh=>N h,λh=>J h⟩,λhR=> ?_,λ_ h14=>⟨⟨?xa,?xb⟩,?_⟩⟩⟩⟩⟩⟩⟩⟩⟩⟩⟩,ret _ _ _⟩
 ·unfold bI;rw[decide_eq_true h,decide_eq_true A,decide_eq_true h3];rfl
 ·unfold bI;rw[decide_eq_true h,decide_eq_true A,decide_eq_false h3];rfl
 ·unfold bI;rw[decide_eq_true h,decide_eq_false A];rfl
 ·unfold bI;rw[decide_eq_false h];rfl
 ·unfold bN;rw[h];rfl
 ·unfold bN;rw[h,Bool.false_or];exact N A
 ·unfold bN;rw[h,Bool.false_or];exact J A
 ·unfold bT;rw[decide_eq_true h,Bool.true_or,Bool.true_and]
 ·unfold bT;rw[decide_eq_true A,Bool.or_true,Bool.true_and]
 ·unfold bT;rw[decide_eq_false h,decide_eq_false A];rfl
 ·have hi':i<a.sys.length:=by omega
  have ty:=λq (hq:qc S x q/\g.ok q)=>J7 (G q hq).2.1 hi';have h30:=V.2.2.2.2.2.2.2.2.2;exact⟨⟨by omega,by omega⟩,(ty p ⟨hx,H⟩).1,a.sys[i],λq hq=>(ty q hq).2,λ_=>ret _ _ _,λ_=>⟨⟨by omega,by omega⟩,i+1,by omega,by omega⟩⟩
 ·unfold bP;rw[h];rfl
 ·unfold bP;rw[h,Bool.false_or];exact N A
 ·unfold bP;rw[h,Bool.false_or];exact J A
 ·have hpar:Lf a g:=by
   unfold bP at hP;rw[Bool.or_eq_true]at hP;rcases hP with h|h
   ·exact .inl (qk h).1
   ·exact .inr (qk h)
  refine⟨⟨S,x,all+1,a,g,d⟩,rfl,rfl,rfl,rfl,rfl,rfl,rfl,X,rfl,rfl,rfl,rfl,rfl,rfl,rfl,rfl,U,rfl,rfl,rfl,rfl,rfl,rfl,rfl,rfl,rfl,rfl,rfl,rfl,sl,rfl,rfl,⟨O,hS,T,hpar,hg,⟨by show 0<=all+1;omega,by show all+1<=2000;omega⟩,hd1,by show d<=20;omega⟩,λq hq=>⟨hq.1,G q hq,hq.2⟩,?_⟩;rintro⟨u,e,w⟩ C _;have C:all+1<=u/\u<=2001/\(e=0->u<=2000):=C;exact⟨⟨u,e,w⟩,rfl,rfl,rfl,rfl,rfl,rfl,rfl,rfl,rfl,rfl,rfl,sl.symm,rfl,rfl,⟨by show all<=u;omega,C.2⟩,λq hq=>hq.2⟩
 ·have hrec:isRec a g:=(qk hR).1;refine⟨⟨S,x,all+1,a,g,d⟩,rfl,rfl,rfl,rfl,rfl,rfl,rfl,X,rfl,rfl,rfl,rfl,rfl,rfl,rfl,rfl,U,rfl,rfl,rfl,rfl,rfl,rfl,rfl,rfl,rfl,rfl,rfl,rfl,sl,rfl,rfl,⟨O,hS,T,hrec,hg,⟨by show 0<=all+1;omega,by show all+1<=2000;omega⟩,hd1,by show d<=20;omega⟩,λq hq=>⟨hq.1,G q hq,hq.2⟩,?_⟩;rintro⟨u,e,w⟩ C _;have C:all+1<=u/\u<=2001/\(e=0->u<=2000):=C;exact⟨⟨u,e,w⟩,rfl,rfl,rfl,rfl,rfl,rfl,rfl,rfl,rfl,rfl,rfl,sl.symm,rfl,rfl,⟨by show all<=u;omega,C.2⟩,λq hq=>hq.2⟩
 case xa|xb=>
  have h0:0<a.brs.length:=List.length_pos_iff.2 (V.2.2.2.1 h14);have hbr:=V.2.2.1 _ (List.getElem_mem h0);refine⟨⟨by omega,by omega⟩,(yV (G p ⟨hx,H⟩) h0).1,a.brs[0],λq hq=>(yV (G q hq) h0).2,⟨by omega,by omega⟩,⟨S,x,all+1,a.brs[0],g,d+1⟩,rfl,rfl,rfl,rfl,rfl,rfl,rfl,rfl,rfl,rfl,rfl,rfl,sl,rfl,rfl,⟨by show 2*(25- (d+1)).toNat<n;omega,hS,hbr,hg,⟨by show 0<=all+1;omega,by show all+1<=2000;omega⟩,by show 1<=d+1;omega,by show d+1<=21;omega⟩,λq hq=>hq,?_⟩;rintro⟨u,e,w⟩ C _;have C:all+1<=u/\u<=2001/\(e=0->u<=2000):=C;exact⟨⟨u,e,w⟩,rfl,rfl,sl.symm,rfl,rfl,rfl,rfl,rfl,rfl,rfl,rfl,rfl,rfl,rfl,λq hq=>hq.1,λq hq=>hq.2,⟨by show all<=u;omega,C.2⟩⟩
 ·rintro⟨u,e,w⟩ C _ b s1 _;refine⟨⟨u,e, .mk 0 (mkS []) (some ⟨b,s1+0,none⟩,1,1) [w] (none,0,0) [] 0⟩,rfl,rfl,rfl,rfl,rfl,rfl,rfl,rfl,rfl,rfl,rfl,C,λq hq=> ?_⟩;show GV.ok _ q;unfold GV.ok;refine⟨⟨rfl,Nat.le_refl _, .inr ⟨⟨b,s1+0,none⟩,rfl,rfl,λi v hi=> ?_⟩⟩,qQ,uH hq.1.2⟩;rw[qa,qa,List.append_nil]at hi;exact hq.2 i v hi
def zvr:∀n,q1i P 74 (v9.below vh n)
 |0=>CtR.below_zero (by decide) (by decide) (Sen.enters_of Tryz.func74 (by kernel_rfl)) λs=>rfl
 |n+1=>jiw n (zvr n)
def j97:q1i P 74 v9:=CtR.of_below zvr
def zxj(x:SV) (t:Int):qix P (λ_=>none) Tryz.f30 KH (λ_=>{}) ⟨x,t⟩=(True->(decide ((0:Int)<=t)=true->(decide ((0:Int)<=t)&&decide (t<(↑(Prod.fst (Prod.snd x)):Int)))=decide (t<(↑(Prod.fst (Prod.snd x)):Int))/\True)/\(decide ((0:Int)<=t)=false->(decide ((0:Int)<=t)&&decide (t<(↑(Prod.fst (Prod.snd x)):Int)))=false/\True)):=by kernel_rfl
section
variable (d:Int) (z:SV) (a:List AT) (c:GV) (A:Nat) (G:Prop) (v:Int) (B:O6) (C:Option Addr) (D:Nat) (e:Int) (g:Option Addr) (h i:Nat) (j:Bool) (l:O6) (u:Int) (m:Option Addr) (o p:Nat) (q:Option Addr) (r t F:Nat) (R:(Option Addr×Nat×Nat)×Int)
 abbrev Bf:= !(decide (0<=R.2)&&decide (R.2<(↑R.1.2.1:Int)))
 def Yv:=PV.fits a d (GV.pv c)=false/\True
 def kz:=z.1=z.1/\z.2.1=z.2.1/\z.2.2=z.2.2/\GV.n c=GV.n c/\GV.s c=GV.s c/\(GV.x c).1=(GV.x c).1/\(GV.x c).2.1=(GV.x c).2.1/\(GV.x c).2.2=(GV.x c).2.2/\(GV.y c).1=(GV.y c).1/\(GV.y c).2.1=(GV.y c).2.1/\(GV.y c).2.2=(GV.y c).2.2/\GV.b c=GV.b c/\d=d/\B=B/\C=C/\A=A/\D=D/\v=v/\g=g/\h=h/\i=i/\j=j/\l=l/\e=e/\m=m/\o=o/\p=p/\q=q/\r=r/\t=t/\(∀E,True/\qc a z E/\GV.ok c E->True/\qc a z E/\GV.ok c E)/\True/\True
 def ZL:=qG (AT.k (qd a d))=false/\nB (AT.k (qd a d))=true/\ql (AT.k (qd a d))=false/\G
 abbrev Yu:=(-2147483648:Int)<=IntKind.wrap i64 (GV.n c)
 def Kp:=decide (Yu c)=decide (Yu c)
 def aX:=Kp c/\Kp c/\Kp c/\Ji (Yu c) (∃(E:Unit),z8 a (qd a d) c=decide (IntKind.wrap i64 (GV.n c)<2147483648)/\ZL d a (kz v z a c A e B C D u g h i j l m o p q r t)) (∃(w:Unit),z8 a (qd a d) c=false/\ZL d a (kz v z a c A e B C D u g h i j l m o p q r t))
 def aW:=Ji (Yu c) (aX d z a c A v B C D e g h i j l u m o p q r t) (Kp c/\Kp c/\Kp c/\Ji (Yu c) (∃(H:Unit),False) (∃(S:Unit),z8 a (qd a d) c=false/\ZL d a (kz v z a c A e B C D u g h i j l m o p q r t)))
 def ba:=Ji (AT.k (qd a d)=4) (∃(E:Unit),v=v/\x5 (AT.k (qd a d))=decide (AT.k (qd a d)=4)/\kz v z a c A e B C D u g h i j l m o p q r t) (∃(w:Unit),v=v/\x5 (AT.k (qd a d))=decide (v=6)/\kz v z a c A e B C D u g h i j l m o p q r t)
 def L8:=qG (AT.k (qd a d))=true/\nB (AT.k (qd a d))=false/\ql (AT.k (qd a d))=false/\G
 def aV:=Ji (d=11) (∃(E:Unit),z8 a (qd a v) c=decide ((↑(size (GV.s c)):Int)=e)/\L8 v a (kz d z a c A u B C D e g h i j l m o p q r t)) (∃(w:Q4),w.2.1.1=z.1/\w.2.1.2.1=z.2.1/\w.2.1.2.2=z.2.2/\AT.k w.2.2.1=d/\AT.nm w.2.2.1=B/\(AT.al w.2.2.1).1=C/\(AT.al w.2.2.1).2.1=A/\(AT.al w.2.2.1).2.2=D/\AT.it w.2.2.1=u/\(AT.sy w.2.2.1).1=g/\(AT.sy w.2.2.1).2.1=h/\(AT.sy w.2.2.1).2.2=i/\AT.hd w.2.2.1=j/\AT.df w.2.2.1=l/\AT.sz w.2.2.1=e/\(AT.f w.2.2.1).1=m/\(AT.f w.2.2.1).2.1=o/\(AT.f w.2.2.1).2.2=p/\(AT.br w.2.2.1).1=q/\(AT.br w.2.2.1).2.1=r/\(AT.br w.2.2.1).2.2=t/\GV.n w.2.2.2=GV.n c/\GV.s w.2.2.2=GV.s c/\(GV.x w.2.2.2).1=(GV.x c).1/\(GV.x w.2.2.2).2.1=(GV.x c).2.1/\(GV.x w.2.2.2).2.2=(GV.x c).2.2/\(GV.y w.2.2.2).1=(GV.y c).1/\(GV.y w.2.2.2).2.1=(GV.y c).2.1/\(GV.y w.2.2.2).2.2=(GV.y c).2.2/\GV.b w.2.2.2=GV.b c/\(EL w<F+1/\G/\small w.1/\Qx w.1/\length (AT.fs w.2.2.1)<1000000/\PV.sm (GV.pv w.2.2.2)/\ql (AT.k w.2.2.1)=true)/\(∀H,True/\qc a z H/\GV.ok c H->qc w.1 w.2.1 H/\AT.ok w.2.2.1 H/\GV.ok w.2.2.2 H)/\∃(S:Unit),z8 a (qd a v) c=Y0 w.1 w.2.2.1 w.2.2.2/\qG (AT.k (qd a v))=false/\nB (AT.k (qd a v))=false/\ql (AT.k (qd a v))=true/\kz d z a c A u B C D e g h i j l m o p q r t)
 def aU:=Ji (d=8) (GV.s c=GV.s c/\size (GV.s c)<9223372036854775808/\∃(E:Unit),z8 a (qd a v) c=qz (GV.s c)/\L8 v a (kz d z a c A e B C D u g h i j l m o p q r t)) (aV d z a c A G v B C D u g h i j l e m o p q r t F)
 def m9:=Ji (d=7) (∃(E:Unit),z8 a (qd a v) c=true/\L8 v a (kz d z a c A e B C D u g h i j l m o p q r t)) (aU d z a c A G v B C D e g h i j l u m o p q r t F)
 def m8:=Ji (d=10) (∃(E:Unit),z8 a (qd a v) c=decide (GV.n c<IntKind.wrap u64 (↑A:Int))/\ZL v a (kz d z a c D e B C h u g A i j l m o p q r t)) (m9 d z a c D G v B C h e g A i j l u m o p q r t F)
 def m7:=Ji (d=5) (∃(E:Unit),z8 a (qd a v) c=decide (GV.n c<4294967296)/\ZL v a (kz d z a c A e B C D u g h i j l m o p q r t)) (m8 d z a c h G v B C A e g D i j l u m o p q r t F)
 def mZ:=(x5 (AT.k (qd a d))=true->∃(E:Unit),z8 a (qd a d) c=true/\ZL d a (kz v z a c A e B C D u g h i j l m o p q r t))/\(x5 (AT.k (qd a d))=false->m7 v z a c A G d B C D e g h i j l u m o p q r t F)
 def mY:=((∃(E:Unit),d=d/\decide (AT.k (qd a v)=4)=decide (d=4)/\kz d z a c A e B C D u g h i j l m o p q r t)/\∀(w:Unit),True->ba v z a c A d B C D e g h i j l u m o p q r t)/\∀(T:Unit),True->mZ v z a c A G d B C D e g h i j l u m o p q r t F
 def mX:=Ji (d=3) (aW v z a c A d B C D e g h i j l u m o p q r t) (mY d z a c A G v B C D e g h i j l u m o p q r t F)
 def mW:=Ji (d=2) (∃(E:Unit),z8 a (qd a v) c=decide (GV.n c<=1)/\ZL v a (kz d z a c A e B C D u g h i j l m o p q r t)) (mX d z a c A G v B C D e g h i j l u m o p q r t F)
 def L7:=z8 a (qd a d) c=z8 a (qd a d) c/\qG (AT.k (qd a d))=qG (AT.k (qd a d))/\nB (AT.k (qd a d))=nB (AT.k (qd a d))/\G
 def Bc:=((!decide (d=14))=true->∃(E:Unit),L7 v a c (we (qd a v) c= !decide (GV.b c=0)/\ql (AT.k (qd a v))=ql (AT.k (qd a v))/\kz d z a c A e B C D u g h i j l m o p q r t))/\((!decide (d=14))=false->∃(w:Unit),L7 v a c (we (qd a v) c=false/\ql (AT.k (qd a v))=ql (AT.k (qd a v))/\kz d z a c A e B C D u g h i j l m o p q r t))
 def aZ:=Ji (0<(↑(GV.y c).2.1:Int)) (∃(E:Unit),L7 d a c (we (qd a d) c=true/\ql (AT.k (qd a d))=ql (AT.k (qd a d))/\kz v z a c A e B C D u g h i j l m o p q r t)) (Bc v z a c A d B C D e g h i j l u m o p q r t)
 def Be:=(ql (AT.k (qd a d))=true->PV.fits a d (GV.pv c)=true/\True)/\(ql (AT.k (qd a d))=false->PV.fits a d (GV.pv c)=decide ((↑(GV.x c).2.1:Int)=0)/\True)
 def bf:=Ji (GV.s c=mkS []) (Be d a c) (Yv d a c)
 def Bd:=(qG (AT.k (qd a d))=true->Be d a c)/\(qG (AT.k (qd a d))=false->bf d a c)
 def bc:=Ji (GV.n c=0) (Bd d a c) (Yv d a c)
 def a_:=(nB (AT.k (qd a d))=true->Bd d a c)/\(nB (AT.k (qd a d))=false->bc d a c)
 def a9:=(z8 a (qd a d) c=true->a_ d a c)/\(z8 a (qd a d) c=false->Yv d a c)
 def aY:=(we (qd a d) c=true->Yv d a c)/\(we (qd a d) c=false->a9 d a c)
 def m6:=(((!decide (d=13))=true->aZ v z a c A d B C D e g h i j l u m o p q r t)/\((!decide (d=13))=false->Bc d z a c A v B C D e g h i j l u m o p q r t))/\∀(U:Unit),True->aY v a c
 def mV:=(0<=d/\d<(↑z.2.1:Int))/\z.1≠noA/\∃(E:Int),∃w,∃H,∃(S:Nat),∃(T:Nat),∃(U:Int),∃V,∃(W:Nat),∃(i8:Nat),∃(X:Bool),∃I,∃(J:Int),∃K,∃(L:Nat),∃(M:Nat),∃N,∃(i16:Nat),∃(O:Nat),(∀Q,True/\qc a z Q/\GV.ok c Q->q2u Q (adr z.1 (toNat d*10)) [int i64 E,string w,slice H S T,int i64 U,slice V W i8,bool X,string I,int i64 J,slice K L M,slice N i16 O])/\(Ji (E=1) (∃(Y:Unit),z8 a (qd a d) c=true/\qG (AT.k (qd a d))=false/\nB (AT.k (qd a d))=false/\ql (AT.k (qd a d))=false/\kz E z a c S U w H T J V W i8 X I K L M N i16 O) (mW E z a c S G d w H T U V W i8 X I J K L M N i16 O A))/\∀(Z:Unit),True->m6 E z a c S d w H T U V W i8 X I J K L M N i16 O
end
def zi6(h:Prop) (n:Nat) (S:List AT) (x:SV) (t:Int) (v:GV):qix P (qef [(30,KH),(59,wW),(79,(zhl h).below EL (n+1))]) Tryz.f40 ((HM h).below EK (n+1)) (zvt) ⟨S,x,t,v⟩=(EK (S,x,t,v)<n+1/\(small S/\Qx S/\PV.sm (GV.pv v))/\A8 h (S,x,t,v)->(∃(p:Pub),True/\qc S x p/\GV.ok v p)->∃(s:(Option Addr×Nat×Nat)×Int),s.1.1=x.1/\s.1.2.1=x.2.1/\s.1.2.2=x.2.2/\s.2=t/\True/\((Bf s)=true->Yv t S v)/\((Bf s)=false->mV t x S v n h)):=by kernel_rfl
def zoi:=λh n S x t v=>Eq.trans (zi6 h n S x t v) (by delta Ji Jt Jf Bf Yv kz ZL Yu Kp aX aW ba L8 aV aU m9 m8 m7 mZ mY mX mW L7 Bc aZ Be bf Bd bc a_ a9 aY m6 mV;exact rfl)
def W7:q4a P 30 KH:=by
 refine qw z7 (W:=λ_=>{}) Tryz.func30 λ⟨(x:SV),(t:Int)⟩=>(zxj x t).mpr ?_;intro _;simp only[qy,Int.toNat_natCast];refine⟨λh=> ?_,λh=> ?_⟩
 ·rw[decide_eq_true h];rfl
 ·rw[decide_eq_false h];rfl
def zha:∀x y:List UInt8,(Op.bytesLess x y||decide (x=y))= !Op.bytesLess y x
  | [],[]=>by simp[Op.bytesLess]
  | [],b::y=>by simp[Op.bytesLess]
  |a::x,[]=>by simp[Op.bytesLess]
  | a ::x,b::y=>by
    have G:=zha x y;rw[Op.bytesLess,Op.bytesLess];have C:a<b\/a=b\/b<a:=by
      rcases Nat.lt_trichotomy a.toNat b.toNat with h|h|h
      · exact .inl (UInt8.lt_iff_toNat_lt.2 h)
      · exact .inr (.inl (UInt8.toNat_inj.1 h))
      · exact .inr (.inr (UInt8.lt_iff_toNat_lt.2 h))
    rcases C with h|h|h
    · have u:¬b<a:=UInt8.lt_asymm h;have A:¬b=a:=λe=>(by subst e;exact UInt8.lt_irrefl _ h);simp[h,u,A]
    · subst h;have u:¬a<a:=UInt8.lt_irrefl a;simp[u];rw[←G]
    · have u:¬a<b:=UInt8.lt_asymm h;have A:¬a=b:=λe=>(by subst e;exact UInt8.lt_irrefl _ h);simp[h,u,A]
def zyz(x y:O6):(qcn x y=true\/x=y)↔qcn y x=false:=by
 have h:=zha x.toList y.toList;have e:=qh1 x y;unfold qcn;by_cases u:x=y
 ·have:x.toList=y.toList:=by rw[u]
  rw[decide_eq_true this,Bool.or_true]at h;simp[u];rw[u]at h;simpa using h.symm
 ·have:¬x.toList=y.toList:=λg=>by rw[g]at e;simp at e;exact u e
  rw[decide_eq_false this,Bool.or_false]at h;rw[h];simp[u]
def zoj(kq:Prop) (n:Nat) (hf:q4a P 79 ((zhl kq).below EL (n+1))):q4a P 40 ((HM kq).below EK (n+1)):=by
  refine qw (qbu (qfr W7 (qfr G9 (qfr hf qil)))) (W:=zvt) Tryz.func40 λ⟨S,(x:SV),(t:Int),v⟩=>(zoi kq n S x t v).mpr ?_;rintro⟨hmu,⟨hS,hkS,hv⟩,hlf⟩ ⟨p,_,hx,hvo⟩;have hmu:SizeOf.sizeOf v<n+1:=hmu;have xl:=GV.x_len hvo;have yl:=GV.y_len hvo;have sl:x.2.1=S.length:=hx.1.1;have hvs:=hv;rw[GV.sm_eq]at hvs;obtain⟨hn,hs,vl,kl,hsz,_⟩:=hvs;simp only[qy,exists_const,forall_const,Int.toNat_natCast,xl,yl,sl];have N:PV.fits S t v.pv=if t<0\/S.length<=t then false else match S[t.toNat]? with
    |none=>false
    | some a=>if qI a.k=true then zS a v.n&&decide (v.s.size=0)&&kS v.l.length v.ks.length v.b else
      if qG a.k=true then jC a v.s&&decide (v.n=0)&&kS v.l.length v.ks.length v.b else
      if ql a.k=true then zx a v.l.length v.ks v.b&&PV.fitL S (qj a v.b) 0 (GV.pvs v.l)&&decide (v.n=0)&&decide (v.s.size=0)else false:=by rw[GV.pv_eq,PV.fits,GV.pvs_len]<;>rfl
  refine⟨⟨x,t⟩,rfl,sl,rfl,rfl,?_⟩;simp only[sl];refine⟨λh=> ?_,λh=> ?_⟩
  · rw[N,if_pos];by_cases A:0<=t
    · rw[decide_eq_true A,Bool.true_and]at h;have:=of_decide_eq_false h;omega
    · omega
  rw[Bool.and_eq_true,decide_eq_true_eq,decide_eq_true_eq]at h;obtain⟨j,rfl⟩:=Int.eq_ofNat_of_zero_le h.1;have hj:j<S.length:=by omega
  have hae:qd S (j:Int)=S[j]:=by unfold qd;rw[Int.toNat_natCast,List.getElem?_eq_getElem hj];rfl
  rw[if_neg (by omega)]at N;have hlf:ql (qd S (j:Int)).k=true->kq:=hlf;rw[hae]at hlf;rw[hae];simp only[Int.toNat_natCast,List.getElem?_eq_getElem hj]at N⊢;have hat:=λq (hq:qc S x q/\v.ok q)=>yp hq.1 hj;have hao:=λq (hq:qc S x q/\v.ok q)=>hq.1.2 S[j] (List.getElem_mem hj);have hsm:=hS.2 S[j] (List.getElem_mem hj);have hkk:=hkS S[j] (List.getElem_mem hj);have syl:S[j].sy.2.1=S[j].sys.length:=(hao p ⟨hx,hvo⟩).2.1.1;refine⟨⟨by omega,by omega⟩,(hat p ⟨hx,hvo⟩).1,S[j].k,S[j].nm,S[j].al.1,S[j].al.2.1,S[j].al.2.2,S[j].it,S[j].sy.1,S[j].sy.2.1,S[j].sy.2.2,S[j].hd,S[j].df,S[j].sz,S[j].f.1,S[j].f.2.1,S[j].f.2.2,S[j].br.1,S[j].br.2.1,S[j].br.2.2,λq hq=>(hat q hq).2,?_⟩;have hao2:=λq (hq:qc S x q/\v.ok q)=>hao q hq;generalize S[j]=a at*;clear hat hao hae;have w64:IntKind.wrap .i64 v.n=if v.n<9223372036854775808 then v.n else v.n- 18446744073709551616:=by unfold IntKind.wrap;simp[IntKind.bits,IntKind.signed];omega
  have u64:IntKind.wrap .u64 (a.sys.length:Int)=a.sys.length:=by rw[Ir];omega
  simp only[syl,u64];have kinds:a.k=1\/a.k=2\/a.k=3\/a.k=4\/a.k=5\/a.k=6\/a.k=7\/a.k=8\/a.k=9\/a.k=10\/a.k=11\/a.k=12\/a.k=13\/a.k=14:=by omega
  have hin:ql a.k=true->z8 S a v=Y0 S a v:=λh=>by unfold ql at h;have h:=of_decide_eq_true h;unfold z8 qI qG;rw[if_neg (by omega),if_neg (by simp;omega),if_neg (by simp;omega)]
  have C:we a v=true↔(a.k≠13/\0<v.ks.length)\/(a.k≠14/\v.b≠0):=by unfold we;simp
  have u:we a v=false↔¬((a.k≠13/\0<v.ks.length)\/(a.k≠14/\v.b≠0)):=by rw[←C];simp
  have sE:(v.s=mkS [])↔v.s.size=0:=HC;have key:PV.fits S (j:Int) v.pv=(!we a v&&z8 S a v&&(nB a.k||decide (v.n=0))&&(qG a.k||decide (v.s=mkS []))&&(ql a.k||decide (v.l.length=0))):=by
    rw[N,Bool.eq_iff_iff];by_cases Y:qI a.k=true
    · have hk1:=of_decide_eq_true Y;have hT:qG a.k=false:=decide_eq_false (by omega);have hQ:ql a.k=false:=decide_eq_false (by omega);rw[if_pos Y,hT,hQ];have hok:(z8 S a v&&(nB a.k||decide (v.n=0)))=zS a v.n:=by
        unfold z8;by_cases A:a.k=1
        · rw[if_pos A];unfold nB zS;rw[if_pos A,decide_eq_false (by omega)];rfl
        · rw[if_neg A,if_pos Y];unfold nB;rw[decide_eq_true (by omega)];simp
      have e:(!we a v&&z8 S a v&&(nB a.k||decide (v.n=0))&&(false||decide (v.s=mkS []))&&(false||decide (v.l.length=0)))=(!we a v&&(z8 S a v&&(nB a.k||decide (v.n=0)))&&(false||decide (v.s=mkS []))&&(false||decide (v.l.length=0))):=(by simp only[Bool.and_assoc]);rw[e,hok];unfold kS;simp only[Bool.and_eq_true,Bool.or_eq_true,Bool.not_eq_true',decide_eq_true_eq,u,sE,Bool.false_eq_true,false_or];constructor
      · rintro⟨⟨A,T⟩,⟨H,X⟩,J⟩;exact⟨⟨⟨by omega,A⟩,T⟩,H⟩
      · rintro⟨⟨⟨A,T⟩,H⟩,X⟩;exact⟨⟨T,H⟩,⟨X,by omega⟩,by omega⟩
    · rw [if_neg Y];have hN':qI a.k=false:=(by simpa using Y);have nn:nB a.k=false:=by have:=of_decide_eq_false hN';exact decide_eq_false (by omega)
      by_cases hT:qG a.k=true
      · have hk1:=of_decide_eq_true hT;have hQ:ql a.k=false:=decide_eq_false (by omega);have hok:z8 S a v=jC a v.s:=(by unfold z8;rw[if_neg (by omega),if_neg Y,if_pos hT]);rw[if_pos hT,hQ,nn,hT,hok];unfold kS;simp only[Bool.and_eq_true,Bool.or_eq_true,Bool.not_eq_true',decide_eq_true_eq,u,sE,Bool.false_eq_true,false_or,true_or,and_true];constructor
        · rintro⟨⟨A,T⟩,⟨H,X⟩,J⟩;exact⟨⟨⟨by omega,A⟩,T⟩,H⟩
        · rintro⟨⟨⟨A,T⟩,H⟩,X⟩;exact⟨⟨T,H⟩,⟨X,by omega⟩,by omega⟩
      · have hT':qG a.k=false:=(by simpa using hT);have hQ:ql a.k=true:=by have A:=of_decide_eq_false hT';have T:=of_decide_eq_false hN';exact decide_eq_true (by omega)
        have hk1:=of_decide_eq_true hQ;rw[if_neg hT,if_pos hQ,hQ,nn,hT',hin hQ];have hop:zx a v.l.length v.ks v.b=(!we a v&&Sa a v.l.length v.ks v.b):=by
          unfold zx Sa;by_cases hb:v.ks.length>0/\a.k≠13\/v.b≠0/\a.k≠14
          · rw[if_pos hb,C.2 (by omega)];rfl
          · rw[if_neg hb,u.2 (by omega)];rfl
        unfold Y0;rw[hop];simp only[Bool.and_eq_true,Bool.or_eq_true,Bool.not_eq_true',decide_eq_true_eq,u,sE,Bool.false_eq_true,false_or,true_or,and_true];constructor
        · rintro⟨⟨⟨⟨A,T⟩,H⟩,X⟩,J⟩;exact⟨⟨⟨A,T,H⟩,X⟩,J⟩
        · rintro⟨⟨⟨A,T,H⟩,X⟩,J⟩;exact⟨⟨⟨⟨A,T⟩,H⟩,X⟩,J⟩
  have G:∀k:Int,a.k=k->(qI k=true\/qG k=true)->z8 S a v=(if k=1 then true else if qI k=true then zS a v.n else jC a v.s)/\qG a.k=qG k/\nB a.k=nB k/\ql a.k=ql k:=λk hk hh=>by
    subst hk;refine⟨?_,rfl,rfl,rfl⟩;unfold z8;by_cases A:a.k=1
    · rw[if_pos A,if_pos A]
    · rw[if_neg A,if_neg A];by_cases Y:qI a.k=true
      · rw[if_pos Y,if_pos Y]
      · rw[if_neg Y,if_neg Y,if_pos (hh.resolve_left Y)]
  have oN:∀k:Int,a.k=k->zS a v.n=(if k=1 then decide (v.n=0)else if k=2 then decide (v.n<=1)else if k=3 then decide (v.n<2147483648\/18446744071562067968<=v.n)else if k=5 then decide (v.n<4294967296)else if k=10 then decide (v.n<a.sys.length)else true):=λk hk=>by subst hk;rfl
  have oT:∀k:Int,a.k=k->jC a v.s=(if k=8 then qz v.s else if k=11 then decide ((v.s.size:Int)=a.sz)else true):=λk hk=>by subst hk;rfl
  clear N;refine⟨⟨λA=> ?_,λA=>⟨λT=> ?_,λT=>⟨λH=>⟨λJ=>⟨λ_=> ?_,λh=>absurd J h⟩,λJ=>⟨λh=>absurd h J,λ_=> ?_⟩⟩,λH=>⟨⟨trivial,λX=> ?_,λX=> ?_⟩,λU=> ?_,λU=>⟨λJ=> ?_,λJ=>⟨λh10=> ?_,λh10=>⟨λh7=> ?_,λh7=>⟨λh8=>⟨hs,?_⟩,λh8=>⟨λh11=> ?_,λh11=> ?_⟩⟩⟩⟩⟩⟩⟩⟩⟩,⟨λh13=>⟨λhk=> ?_,λhk=>⟨λZ=> ?_,λZ=> ?_⟩⟩,λh13=>⟨λZ=> ?_,λZ=> ?_⟩⟩,λhB=> ?_,λhB=>⟨λho=>⟨λO=>⟨λht=>⟨λhq=> ?_,λhq=> ?_⟩,λht=>⟨λV=>⟨λhq=> ?_,λhq=> ?_⟩,λV=> ?_⟩⟩,λO=>⟨λhn0=>⟨λht=>⟨λhq=> ?_,λhq=> ?_⟩,λht=>⟨λV=>⟨λhq=> ?_,λhq=> ?_⟩,λV=> ?_⟩⟩,λhn0=> ?_⟩⟩,λho=> ?_⟩⟩
  · have:=G 1 A (.inl rfl);exact this
  · have:=G 2 T (.inl rfl);rw[oN 2 T]at this;exact this
  · have:=G 3 H (.inl rfl);rw[oN 3 H]at this;refine⟨this.1.trans ?_,this.2⟩;show decide (v.n<2147483648\/18446744071562067968<=v.n)=_;rw[w64]at J⊢;split at J<;>exact qV (by omega)
  · have:=G 3 H (.inl rfl);rw[oN 3 H]at this;refine⟨this.1.trans ?_,this.2⟩;show decide (v.n<2147483648\/18446744071562067968<=v.n)=_;rw[w64]at J;split at J<;>exact decide_eq_false (by omega)
  · unfold x5;rw[X];rfl
  · unfold x5;rw[decide_eq_false X];rfl
  · unfold x5 at U;rw[Bool.or_eq_true,decide_eq_true_eq,decide_eq_true_eq]at U;rcases U with h|h
    · have:=G 4 h (.inl rfl);rw[oN 4 h]at this;exact this
    · have:=G 6 h (.inl rfl);rw[oN 6 h]at this;exact this
  · have:=G 5 J (.inl rfl);rw[oN 5 J]at this;exact this
  · have:=G 10 h10 (.inl rfl);rw[oN 10 h10]at this;exact this
  · have:=G 7 h7 (.inr rfl);rw[oT 7 h7]at this;exact this
  · have:=G 8 h8 (.inr rfl);rw[oT 8 h8]at this;exact this
  · have:=G 11 h11 (.inr rfl);rw[oT 11 h11]at this;exact this
  · have hb6:¬a.k=4/\¬a.k=6:=(by unfold x5 at U;rw[Bool.or_eq_false_iff,decide_eq_false_iff_not,decide_eq_false_iff_not]at U;exact U);have hQ:ql a.k=true:=decide_eq_true (by omega);refine⟨⟨S,x,a,v⟩,rfl,sl,rfl,rfl,rfl,rfl,rfl,rfl,rfl,rfl,syl,rfl,rfl,rfl,rfl,rfl,rfl,rfl,rfl,rfl,rfl,rfl,rfl,rfl,xl,rfl,rfl,yl,rfl,rfl,⟨hmu,hlf hQ,hS,hkS,hsm.1,hv,hQ⟩,λq hq=>⟨hq.1,hao2 q hq,hq.2⟩,hin hQ,decide_eq_false (by unfold ql at hQ;have:=of_decide_eq_true hQ;omega),decide_eq_false (by unfold ql at hQ;have:=of_decide_eq_true hQ;omega),hQ⟩
  · exact C.2 (.inl ⟨h13,by omega⟩)
  · by_cases hb:v.b=0
    · rw[decide_eq_true hb];exact u.2 (by omega)
    · rw[decide_eq_false hb];exact C.2 (.inr ⟨Z,hb⟩)
  · exact u.2 (by omega)
  · by_cases hb:v.b=0
    · rw[decide_eq_true hb];exact u.2 (by omega)
    · rw[decide_eq_false hb];exact C.2 (.inr ⟨Z,hb⟩)
  · exact u.2 (by omega)
  · rw[key,hB];rfl
  all_goals first
    | (rw[key,hB,ho,O,ht,hq];simp[hn0,V];done)
    | (rw[key,hB,ho,O,ht];simp[hn0,V];done)
    | (rw[key,hB,ho,O,ht,hq];simp[hn0];done)
    | (rw[key,hB,ho,O,ht,hq];simp[V];done)
    | (rw[key,hB,ho,O,ht];simp[V];done)
    | (rw[key,hB,ho,O,ht,hq];simp;done)
    | (rw[key,hB,ho,O];simp[hn0];done)
    | (rw[key,hB,ho];simp;done)
def zi4:q4a P 40 (HM False):=Ct.of_below fun
 |0=>Ct.below_zero (by decide) (by decide) (Sen.enters_of Tryz.func40 (by kernel_rfl)) λs=>⟨rfl,rfl⟩
 |n+1=>zoj False n (Ct.never (show 1<=1 by decide) (show 1<=1 by decide) (Sen.enters_of Tryz.func79 (by kernel_rfl)) (λs=>⟨rfl,rfl⟩) λs h=>h.2.1)
def Wg(N:List O6) (r k:Nat):List (Nat×AO):=[(2, .cells 34 (some 0) false [.ssl r 0 N.length 1 k]),(r, .row 9 0 (qa qo N))]
abbrev jW:=SV×List Int×Int×Int×List O6
abbrev zL:=GJ×Int×List O6
def zyb(L:List Int) (n:Int) (N:List O6):Prop:=N.length<=n+1/\∀t∈N,t.size<100
def kJ(L:List Int) (n:Int) (N:List O6):zL->Prop:=λ⟨g,n',N'⟩=>g.wf/\n<=n'/\n'<=L.length/\N.length<=N'.length/\N'.length+n<=N.length+n'/\∀t∈N',t.size<100
def y8(h:Int):jW->Prop:=λ⟨x,L,n,d,N⟩=>0<=n/\n<=L.length/\zX L/\0<=d/\d<=h/\zyb L n N
def trM:jW->PF:=λ⟨x,L,n,d,N⟩=>YR x L
def xD:CtR where
 σ:=jW
 args:=λ⟨x,L,n,d,N⟩=>[.ptr 1 0, .sv (.int .i64 d), .ptr 2 0]
 h:=λ⟨x,L,n,d,N⟩=>jb x n++Wg N 3 4
 m:=5
 pre:=y8 4
 mem:=trM
 β:=λ_=>zL
 post:=λ⟨x,L,n,d,N⟩ b=>kJ L n N b
 pm:=λ_ ⟨g,n',N'⟩=>gM g
 r:=λ_ ⟨g,n',N'⟩=>g.av
 h':=λ⟨x,L,n,d,N⟩ ⟨g,n',N'⟩=>jb x n'++Wg N' 5 6
 m':=7
def HT:CtR:={xD with pre:=y8 3}
def JQ:CtR where
 σ:=O6×jW
 args:=λ⟨s,x,L,n,d,N⟩=>[.ptr 1 0, .sv (.string s), .sv (.int .i64 d), .ptr 2 0]
 h:=λ⟨s,x,L,n,d,N⟩=>jb x n++Wg N 3 4
 m:=5
 pre:=λ⟨s,t⟩=>s.size<100/\y8 3 t
 mem:=λ⟨s,t⟩=>trM t
 β:=λ_=>zL
 post:=λ⟨s,x,L,n,d,N⟩ b=>kJ L n N b
 pm:=λ_ ⟨g,n',N'⟩=>gM g
 r:=λ_ ⟨g,n',N'⟩=>g.av
 h':=λ⟨s,x,L,n,d,N⟩ ⟨g,n',N'⟩=>jb x n'++Wg N' 5 6
 m':=7
def jU:jW->Nat:=λ⟨x,L,n,d,N⟩=>(10- d).toNat
def KQ:O6×jW->Nat:=λ⟨s,t⟩=>jU t
def PL:jW->WayF:=λ⟨x,L,n,d,N⟩=>{
  cut :=λi t _=>match i with
    |4=>some {σ:=Int,pre:=λk=>0<=k/\k<20/\(8<=k->d<=3/\n<L.length),t:=λk=>[(7, .sv (.int .i64 k))],h:=λ_=>jb x (qg L n),more:=0,μ:=λ_=>0,keep:=[0,1,2,6]}
    | 15=>match jQ t 7 with
      |some k=>some {σ:=Unit,pre:=λ_=>14<=k,t:=λ_=>[],h:=λ_=>[],more:=0,μ:=λ_=>0,keep:=[0,1,2,6,7]}
      |none=>none
    |_=>none
  pub:=λi k=>match i,k with
    |8,9=>[42]
    |10,9=>[54]
    |18,9=>[113]
    |20,7=>[120]
    |24,1=>[147]
    |_,_=>[]}
def zw2:jW->WayF:=λ_=>{
 pub:=λi k=>match i,k with
  |7,1=>[40]
  |_,_=>[]}
abbrev Q6:=Int×Int×List O6×List GJ
def Li(L:List Int) (h:Int) (N0:List O6) (m:Int):Q6->Prop:=λ⟨i,n,N,fs⟩=>0<=i/\i<=m/\m<5/\(fs.length:Int)=i/\GJ.wfs fs/\h<=n/\n<=L.length/\N0.length<=N.length/\N.length+h<=N0.length+n/\∀t∈N,t.size<100
def fsM(fs:List GJ):PF:=⟨true,GJ.oks fs,λ_ _ h e=>GJ.oks_mono h e⟩
def zen:O6×jW->WayF:=λ⟨s,x,L,u,d,N0⟩=>{
 ann:=λ_ t _=>match jQ t 11 with
  |some m=>some {σ:=Q6,pre:=Li L u N0 m,mem:=λ⟨i,n,N,fs⟩=>fsM fs,t:=λ⟨i,n,N,fs⟩=>[(10, .sv (.int .i64 i))],h:=λ⟨i,n,N,fs⟩=>jb x n++Wg N 9 10++[(6, .cells 62 (some 0) false [.int .i64 5, .int .i64 0, .str [], .ssl 7 0 fs.length 5 8, .nsl]),(7, .row 62 0 (qa GJ.cells fs))],more:=4,μ:=λ⟨i,n,N,fs⟩=>(m- i).toNat,keep:=[0,1,2,3,8,9,11],del:=[3]}
  |none=>none
 pub:=λi k=>match i,k with
  |9,3=>[56]
  |_,_=>[]
 pubE:=[1000008]}
section
variable (e:Int) (c:SV) (b:List Int) (l:Int) (f:List O6) (A:Int) (i:Nat) (r:O6) (q:List Int) (t:Nat) (Z:List Int) (h:Nat->Option Obj) (a:zL) (m:jW) (L:Nat) (x15:Option Addr) (p:Prop) (U:Nat) (o:zL)
 abbrev vF:=c.1=c.1/\c.2.1=c.2.1/\c.2.2=c.2.2/\p
 def UP:=0<e/\e<1000000/\zX b
 def Yw:=(∀d,True/\qb qm c b d->qb qm (c.1,c.2.1,c.2.2) q d)
 def UO:=qa qo f=qa qo f/\length f=length f/\(∀d,True/\qb qm c b d->True/\qb qm c b d)/\p
 def Mf:=0<=e/\e<20/\(8<=e->l<=3/\A<(↑(length b):Int))
 def Bg:=(8:Int)≠0/\∃(d:Int),e=e/\d=Int.tmod (qq b l 20) 8/\vF c (qg q l=qg b l/\UO c q f ((Mf d q e l)/\True))
 def Bl:=GJ.k a.1=4/\GJ.n a.1=0/\GJ.s a.1=r/\(GJ.y a.1).1=noA/\(GJ.y a.1).2.1=0/\(GJ.y a.1).2.2=0/\(GJ.x a.1).1=noA/\(GJ.x a.1).2.1=0/\(GJ.x a.1).2.2=0/\p
 def Bq:=qa qo a.2.2=qa qo f/\length a.2.2=length f/\kJ b e f a/\(∀d,True/\qb qm c b d->GJ.ok a.1 d)/\True
 def bp:=(0<=e/\e<(↑(nat_lit 8):Int))/\∃d,qfi [string (mkS [105,110,116]),string (mkS [108,111,110,103]),string (mkS [115,116,114,105,110,103]),string (mkS [98,121,116,101,115]),string (mkS [98,111,111,108,101,97,110]),string (mkS [110,117,108,108]),string (mkS [102,108,111,97,116]),string (mkS [100,111,117,98,108,101])] (nat_lit 0+toNat e*1) [string d]/\d=d/\True/\∃(z:zL),Bl d z (vF c (z.2.1=qg b l/\Bq l c b f z))
 def Bu:=True/\Jb (e+1)/\p
 def Md:=m.1.1=c.1/\m.1.2.1=c.2.1/\m.1.2.2=c.2.2/\m.2.2.1=qg b e/\qa qo m.2.2.2.2=qa qo f/\length m.2.2.2.2=length f/\p
 def Mh:=(∀d,True/\qb qm c b d->qb qm m.1 m.2.1 d)
 def UQ:=∃d,(True/\qb qm c b d)/\GJ.ok a.1 d
 def Mb:=((True/\qb qm c b h)/\GJ.ok a.1 h)/\q2u h (Addr.mk i t none) [int i64 4,int i64 0,string (mkS [97,114,114,97,121]),slice noA 0 0,slice noA 0 0,int i64 (GJ.k a.1),int i64 (GJ.n a.1),string (GJ.s a.1),slice (GJ.y a.1).1 (GJ.y a.1).2.1 (GJ.y a.1).2.2,slice (GJ.x a.1).1 (GJ.x a.1).2.1 (GJ.x a.1).2.2]
 abbrev Yx:=mkS [116,121,112,101]
 abbrev Bs:=q2u h (Addr.mk i t none) [string (Yx),string (mkS [105,116,101,109,115])]
 def Mg:=GJ.k a.1=6/\GJ.n a.1=0/\GJ.s a.1=mkS []/\p
 abbrev Kq:=Addr.mk i (t+nat_lit 0) none
 def Bv:=a.2.1=o.2.1/\qa qo a.2.2=qa qo o.2.2/\length a.2.2=length o.2.2/\p
 def Bn:=c.1=m.1.1/\c.2.1=m.1.2.1/\c.2.2=m.1.2.2/\Bv a p o
 def Bh:=Mg a ((GJ.y a.1).1=some (Kq i t)/\(GJ.y a.1).2.1=nat_lit 2/\(GJ.y a.1).2.2=nat_lit 2/\(GJ.x a.1).1=some (Kq L U)/\(GJ.x a.1).2.1=nat_lit 2/\(GJ.x a.1).2.2=nat_lit 2/\Bn c a m p o)
 def bj:=True/\∀(d z j:Nat),(∃u,Mb c b d z u a)->∀(B v S:Nat),(∃D,(Mb c b d z D a)/\Bs B v D)->∃(i8:zL),Bh c d z i8 m B (kJ b e f i8/\(∀E,(Mb c b d z E a)/\Bs B v E->GJ.ok i8.1 E)/\True) v a
 def bg:=mkS [97,114,114,97,121]=mkS [97,114,114,97,121]/\Bu e (∃(d:jW),d.2.2.2.1=e+1/\Md l c b f d ((jU d<i/\y8 4 d)/\Mh c b d/\∀(j:zL),kJ d.2.1 d.2.2.1 d.2.2.2.2 j->(UQ c b j)->bj l c b f j d))
 def Mc:=((True/\qb qm c b h)/\GJ.ok a.1 h)/\q2u h (Addr.mk i t none) [int i64 4,int i64 0,string (mkS [109,97,112]),slice noA 0 0,slice noA 0 0,int i64 (GJ.k a.1),int i64 (GJ.n a.1),string (GJ.s a.1),slice (GJ.y a.1).1 (GJ.y a.1).2.1 (GJ.y a.1).2.2,slice (GJ.x a.1).1 (GJ.x a.1).2.1 (GJ.x a.1).2.2]
 abbrev Br:=q2u h (Addr.mk i t none) [string (Yx),string (mkS [118,97,108,117,101,115])]
 def bk:=True/\∀(d z j:Nat),(∃u,Mc c b d z u a)->∀(B v S:Nat),(∃D,(Mc c b d z D a)/\Br B v D)->∃(i8:zL),Bh c d z i8 m B (kJ b e f i8/\(∀E,(Mc c b d z E a)/\Br B v E->GJ.ok i8.1 E)/\True) v a
 def bh:=mkS [109,97,112]=mkS [109,97,112]/\Bu e (∃(d:jW),d.2.2.2.1=e+1/\Md l c b f d ((jU d<i/\y8 4 d)/\Mh c b d/\∀(j:zL),kJ d.2.1 d.2.2.1 d.2.2.2.2 j->(UQ c b j)->bk l c b f j d))
 def Bi:=GJ.k a.1=GJ.k o.1/\GJ.n a.1=GJ.n o.1/\GJ.s a.1=GJ.s o.1/\(GJ.y a.1).1=(GJ.y o.1).1/\(GJ.y a.1).2.1=(GJ.y o.1).2.1/\(GJ.y a.1).2.2=(GJ.y o.1).2.2/\(GJ.x a.1).1=(GJ.x o.1).1/\(GJ.x a.1).2.1=(GJ.x o.1).2.1/\(GJ.x a.1).2.2=(GJ.x o.1).2.2/\p
 def Mj:=0<=qg b e/\qg b e<=(↑(length q):Int)/\p
 def bo:=Ji (0<(↑(length f):Int)) (∃(d:List Int),(↑(length f):Int)=(↑(length f):Int)/\vF c (qg b e=qg b e/\(Mj e b d (0<(↑(length f):Int)/\(↑(length f):Int)<1000000/\zX d))/\Yw c b d/\(0<=qq d (qg b e) (↑(length f):Int)/\qq d (qg b e) (↑(length f):Int)<(↑(length f):Int))/\∃j,qfi (qa qo f) (nat_lit 0+toNat (qq d (qg b e) (↑(length f):Int))*nat_lit 1) [string j]/\j=j/\True/\AV.ssl (nat_lit 3) (nat_lit 0) (length f) (nat_lit 1) (nat_lit 4)=AV.ssl (nat_lit 3) (nat_lit 0) (length f) (nat_lit 1) (nat_lit 4)/\∃(u:zL),Bl j u (vF c (u.2.1=qg d (qg b e)/\Bq e c b f u)))) (∃(v:Unit),l=l/\A=A/\vF c (qg b e=qg b e/\UO c b f (14<=A/\True)))
 def bn:=Ji (e=14) (bo l c b A f e) (∃(D:Unit),A=A/\e=e/\vF c (qg b l=qg b l/\UO c b f (14<=e/\True)))
 def nk:=Ji (e<14) (∃(d:jW),d.2.2.2.1=l/\Md A c b f d ((jU d<i+1/\y8 3 d)/\Mh c b d/\∀(j:zL),kJ d.2.1 d.2.2.1 d.2.2.2.2 j->(UQ c b j)->∃(B:zL),Bi B (Bn c B d (kJ b A f B/\(∀v,(True/\qb qm c b v)/\GJ.ok j.1 v->GJ.ok B.1 v)/\True) j) j)) (bn e c b A f l)
 def nh:=Ji (e=10) (bh l c b A f i) (nk e c b l f A i)
 def ng:=Ji (e<10) (bg l c b A f i) (nh e c b l f A i)
 def Ma:=(True/\qb qm c b h)/\q2u h (Addr.mk i t none) [int i64 4,int i64 0,string (mkS [102,105,120,101,100]),slice noA 0 0,slice noA 0 0,int i64 4,int i64 0,string (mkS [78]++r),slice noA 0 0,slice noA 0 0,int i64 3,int i64 (qq q (qg b e) 4),string (mkS []),slice noA 0 0,slice noA 0 0]
 abbrev Mi:=mkS [110,97,109,101]
 abbrev Bp:=q2u h (Addr.mk i t none) [string (Yx),string (Mi),string (mkS [115,105,122,101])]
 def Bk:=Mg a ((GJ.y a.1).1=some (Kq i t)/\(GJ.y a.1).2.1=nat_lit 3/\(GJ.y a.1).2.2=nat_lit 3/\(GJ.x a.1).1=some (Kq L U)/\(GJ.x a.1).2.1=nat_lit 3/\(GJ.x a.1).2.2=nat_lit 3/\p)
 def Me:=qa qo a.2.2=qa qo f++[string (mkS [78]++r)]/\length a.2.2=length f+nat_lit 1/\kJ b e f a/\p
 def nj:=mkS [102,105,120,101,100]=mkS [102,105,120,101,100]/\True/\mkS [78]++r=mkS [78]++r/\True/\∃(d:List Int),(4:Int)=4/\vF c (qg b e=qg b e/\(Mj e b d (UP 4 d))/\Yw c b d/\True/\∀(j u B:Nat),(∃v,Ma e c b j r d u v)->∀(S D i8:Nat),(∃E,(Ma e c b j r d u E)/\Bp S D E)->∃(F:zL),Bk j u F S (vF c (F.2.1=qg d (qg b e)/\Me e b f r F ((∀M,(Ma e c b j r d u M)/\Bp S D M->GJ.ok F.1 M)/\True))) D)
 def UN:=(True/\qb qm c b h)/\q2u h (Addr.mk i t none) [int i64 4,int i64 0,string (mkS [88]),slice noA 0 0,slice noA 0 0,int i64 4,int i64 0,string (mkS [89]),slice noA 0 0,slice noA 0 0,int i64 4,int i64 0,string (mkS [90]),slice noA 0 0,slice noA 0 0]
 abbrev Bo:=Int.rec (λ(d:Nat)=>(λ(z:Nat)=>(λ(j:Nat)=>j) z) d) (λ(u:Nat)=>(λ(B:Nat)=>(λ(v:Nat)=>(0:Nat)) B) u) ((1:Int)+qq b (qg q e) 3)- nat_lit 0
 def L9:=(UN c b i t h)/\nat_lit 4<=L/\qfu h x15 (take (nat_lit 4*nat_lit 5) ([int i64 4,int i64 0,string (mkS [101,110,117,109]),slice noA 0 0,slice noA 0 0,int i64 4,int i64 0,string (mkS [78]++r),slice noA 0 0,slice noA 0 0,int i64 5,int i64 0,string (mkS []),slice (slA (some (Kq i t)) (nat_lit 3) (nat_lit 0) 5) (Bo e q b) (nat_lit 3- nat_lit 0),slice noA 0 0]++[int i64 4,int i64 0,string (mkS [88]),slice noA 0 0,slice noA 0 0]))
 abbrev Bt:=mkS [115,121,109,98,111,108,115]
 abbrev Bj:=take (nat_lit 4*nat_lit 1) ([string (Yx),string (Mi),string (Bt)]++[string (mkS [100,101,102,97,117,108,116])])
 def ni:=(nat_lit 3+1)*16<=140737488355328/\mkS [88]=mkS [88]/\True/\(nat_lit 3+1)*80<=140737488355328/\∀(d z j:Nat) (u:Option Addr) (B v:Nat),(∃S,L9 e c b i r q t S v u)->∀(i13 i14 i15:Nat) (i16:Option Addr) (i17 N:Nat),(∃V,(L9 e c b i r q t V v u)/\nat_lit 4<=N/\qfu V i16 (Bj))->∃(w:zL),Mg w ((GJ.y w.1).1=u/\(GJ.y w.1).2.1=nat_lit 4/\(GJ.y w.1).2.2=v/\(GJ.x w.1).1=i16/\(GJ.x w.1).2.1=nat_lit 4/\(GJ.x w.1).2.2=N/\vF c (w.2.1=qg Z (qg q (qg b e))/\Me e b f r w ((∀O,(L9 e c b i r q t O v u)/\nat_lit 4<=N/\qfu O i16 (Bj)->GJ.ok w.1 O)/\True)))
 def L_:=(UN c b i t h)/\q2u h (Addr.mk L U none) [int i64 4,int i64 0,string (mkS [101,110,117,109]),slice noA 0 0,slice noA 0 0,int i64 4,int i64 0,string (mkS [78]++r),slice noA 0 0,slice noA 0 0,int i64 5,int i64 0,string (mkS []),slice (slA (some (Kq i t)) (nat_lit 3) (nat_lit 0) 5) (Bo e q b) (nat_lit 3- nat_lit 0),slice noA 0 0]
 abbrev Bm:=q2u h (Addr.mk i t none) [string (Yx),string (Mi),string (Bt)]
 def nf:=nat_lit 3<=nat_lit 3/\((0:Int)<=1+qq b (qg q e) 3/\(1:Int)+qq b (qg q e) (3:Int)<=(↑(nat_lit 3):Int))/\mkS [101,110,117,109]=mkS [101,110,117,109]/\True/\mkS [78]++r=mkS [78]++r/\True/\True/\∃(d:List Int),(2:Int)=2/\vF c (qg b (qg q e)=qg b (qg q e)/\(0<=qg b (qg q e)/\qg b (qg q e)<=(↑(length d):Int)/\UP 2 d)/\(∀z,UN c q i t z->qb qm (c.1,c.2.1,c.2.2) d z)/\Ji (qq d (qg b (qg q e)) (2:Int)=0) (ni e c q f i r b t d) (∀(G H i38:Nat),(∃Y,L_ e c q i r b t Y G H)->∀(I Q i48:Nat),(∃W,(L_ e c q i r b t W G H)/\Bm I Q W)->∃(J:zL),Bk G H J I (vF c (J.2.1=qg d (qg b (qg q e))/\Me e q f r J ((∀R,(L_ e c q i r b t R G H)/\Bm I Q R->GJ.ok J.1 R)/\True))) Q))
 def nd:=mkS [88]=mkS [88]/\True/\mkS [89]=mkS [89]/\True/\mkS [90]=mkS [90]/\True/\∃(d:List Int),(3:Int)=3/\vF c (qg b e=qg b e/\(Mj e b d (UP 3 d))/\Yw c b d/\((-9223372036854775808:Int)<=1+qq d (qg b e) 3/\(1:Int)+qq d (qg b e) (3:Int)<=9223372036854775807)/\∀(j u B:Nat),(∃v,UN c b j u v)->nf e c d f j r b u)
 def nc:=Ji (e=16) (nd l c b f r) (∃(g:O6×jW),g.1=mkS [78]++r/\g.2.2.2.2.1=A/\g.2.1.1=c.1/\g.2.1.2.1=c.2.1/\g.2.1.2.2=c.2.2/\g.2.2.2.1=qg b l/\qa qo g.2.2.2.2.2=qa qo f++[string (mkS [78]++r)]/\length g.2.2.2.2.2=length f+nat_lit 1/\(KQ g<i+1/\size g.1<100/\y8 3 g.2)/\(∀X,True/\qb qm c b X->qb qm g.2.1 g.2.2.1 X)/\∀(C:zL),kJ g.2.2.1 g.2.2.2.1 g.2.2.2.2.2 C->(UQ c b C)->∃(K:zL),Bi K (c.1=g.2.1.1/\c.2.1=g.2.1.2.1/\c.2.2=g.2.1.2.2/\Bv K (kJ b l f K/\(∀T,(True/\qb qm c b T)/\GJ.ok C.1 T->GJ.ok K.1 T)/\True) C) C)
 def na:=(26:Int)≠0/\((-9223372036854775808:Int)<=97+Int.tmod (↑(length f):Int) 26/\(97:Int)+Int.tmod (↑(length f):Int) (26:Int)<=9223372036854775807)/\∃d,size d=1/\qfi [int u8 (IntKind.wrap u8 ((97:Int)+Int.tmod (↑(length f):Int) 26))] 0 (q11 d)/\size (mkS [78])+size d<=9223372036854775807/\length (qa qo f)=length f*1/\(length f+nat_lit 1)*16<=140737488355328/\Ji (e=15) (nj l c b f d) (nc e c b l f A i d)
 def m_:=(Ji (e<8) (bp e c b l f) (ng e c b A f l i))/\∀(I:Unit),14<=e->na e c b l f A i
end
def zqo(c:Nat) (x:SV) (L:List Int) (n d:Int) (N:List O6):qiy P (qef [(23,QU),(22,Uh),(72,Yf),(71,V8)]) (qff [(70,xD.below jU c),(106,HT.below jU (c+1)),(33,JQ.below KQ (c+1))]) Tryz.f70 (xD.below jU (c+1)) (PL) ⟨x,L,n,d,N⟩=(jU (x,L,n,d,N)<c+1/\y8 4 (x,L,n,d,N)->(∃(p:Pub),True/\qb qm x L p)->∃(b:List Int),(20:Int)=20/\vF x (n=n/\(0<=n/\n<=(↑(length b):Int)/\UP 20 b)/\Yw x L b/\(Ji (3<d) (Bg d x b n N L) (∃(h:List Int),vF x (qg b n=qg b n/\True/\Yw x L h/\Ji ((↑(length h):Int)<=qg b n) (Bg d x b n N L) (∃(s:Int),d=d/\s=qq b n 20/\vF x (qg L n=qg b n/\UO x L N ((Mf s L d n)/\True))))))/\∀(s:Int),Mf s L d n->m_ s x L n N d c)):=by kernel_rfl
def zzd:=λc x L n d N=>Eq.trans (zqo c x L n d N) (by delta Ji Jb Jt Jf vF UP Yw UO Mf Bg Bl Bq bp Bu Md Mh UQ Mb Yx Bs Mg Kq Bv Bn Bh bj bg Mc Br bk bh Bi Mj bo bn nk nh ng Ma Mi Bp Bk Me nj UN Bo L9 Bt Bj ni L_ Bm nf nd nc na m_;exact rfl)
section
variable (b:SV) (e:Int) (d:List Int) (D:Int) (l:List O6) (u:Nat) (a:zL) (v:O6) (f:jW) (F:List Int) (z:zL) (p:Prop) (g:Nat->Option Obj) (A:Option Addr) (I:Nat)
 abbrev By:=(2:Int)=2/\b.1=b.1/\b.2.1=b.2.1/\b.2.2=b.2.2/\p
 def BA:=(∀c,True/\qb qm b d c->qb qm (b.1,b.2.1,b.2.2) F c)
 abbrev BC:=Jb (e+1)
 def Bz:=f.2.2.2.1=e+1/\f.1.1=b.1/\f.1.2.1=b.2.1/\f.1.2.2=b.2.2/\p
 def Bx:=qa qo f.2.2.2.2=qa qo l/\length f.2.2.2.2=length l/\(jU f<u/\y8 4 f)/\(∀c,True/\qb qm b d c->qb qm f.1 f.2.1 c)/\p
 def ZM:=(True/\qb qm b d g)/\GJ.ok a.1 g
 abbrev US:=mkS [110,117,108,108]
 abbrev Fg:=[int i64 4,int i64 0,string (US),slice noA 0 0,slice noA 0 0]++[int i64 4,int i64 0,string v,slice noA 0 0,slice noA 0 0]
 def Aw:=(ZM b d a g)/\nat_lit 3<=u/\qfu g A (take (nat_lit 3*nat_lit 5) ([int i64 4,int i64 0,string (US),slice noA 0 0,slice noA 0 0]++[int i64 4,int i64 0,string v,slice noA 0 0,slice noA 0 0]++[int i64 (GJ.k a.1),int i64 (GJ.n a.1),string (GJ.s a.1),slice (GJ.y a.1).1 (GJ.y a.1).2.1 (GJ.y a.1).2.2,slice (GJ.x a.1).1 (GJ.x a.1).2.1 (GJ.x a.1).2.2]))
 def UR:=GJ.k a.1=5/\GJ.n a.1=0/\GJ.s a.1=mkS []/\p
 def Y':=(GJ.x a.1).1=noA/\(GJ.x a.1).2.1=0/\(GJ.x a.1).2.2=0/\b.1=f.1.1/\b.2.1=f.1.2.1/\b.2.2=f.1.2.2/\a.2.1=z.2.1/\qa qo a.2.2=qa qo z.2.2/\length a.2.2=length z.2.2/\kJ d e l a/\p
 def ny:=length (Fg v)=nat_lit 2*5/\(nat_lit 2+nat_lit 1)*80<=140737488355328/\∀(c J o:Nat) (t:Option Addr) (B i:Nat),(∃H,Aw b d i a v H t)->∃(j:zL),UR j ((GJ.y j.1).1=t/\(GJ.y j.1).2.1=nat_lit 3/\(GJ.y j.1).2.2=i/\Y' b e d l j f a ((∀i8,Aw b d i a v i8 t->GJ.ok j.1 i8)/\True))
 def BB:=(GJ.y a.1).1=A/\(GJ.y a.1).2.1=nat_lit 2/\(GJ.y a.1).2.2=u/\p
 def nt:=Ji (GJ.k a.1=6) (ny b e d l a v f) (∀(E r G:Nat) (q:Option Addr) (h m:Nat),(∃C,(ZM b d a C)/\nat_lit 2<=m/\qfu C q (take (nat_lit 2*nat_lit 5) (Fg v)))->∃(i16:zL),UR i16 (BB m i16 (Y' b e d l i16 f a ((∀w,(ZM b d a w)/\nat_lit 2<=m/\qfu w q (take (nat_lit 2*nat_lit 5) (Fg v))->GJ.ok i16.1 w)/\True)) q))
 def Ax:=(ZM b d a g)/\nat_lit 2<=u/\qfu g A (take (nat_lit 2*nat_lit 5) ([int i64 4,int i64 0,string (US),slice noA 0 0,slice noA 0 0]++[int i64 (GJ.k a.1),int i64 (GJ.n a.1),string (GJ.s a.1),slice (GJ.y a.1).1 (GJ.y a.1).2.1 (GJ.y a.1).2.2,slice (GJ.x a.1).1 (GJ.x a.1).2.1 (GJ.x a.1).2.2]))
 def nA:=(nat_lit 1+1)*80<=140737488355328/\∀(c J o:Nat) (t:Option Addr) (B i:Nat),(∃H,Ax b d i a H t)->∃(j:zL),UR j (BB i j (Y' b e d l j f a ((∀i8,Ax b d i a i8 t->GJ.ok j.1 i8)/\True)) t)
 def Bw:=(ZM b d a g)/\q2u g (Addr.mk u I none) [int i64 4,int i64 0,string (US),slice noA 0 0,slice noA 0 0]
 def nw:=Ji (GJ.k a.1=6) (nA b e d l a f) (∀(E r G:Nat),(∃q,Bw b d E a q r)->∃(h:zL),UR h ((GJ.y h.1).1=some (Addr.mk E (r+nat_lit 0) none)/\(GJ.y h.1).2.1=nat_lit 1/\(GJ.y h.1).2.2=nat_lit 1/\Y' b e d l h f a ((∀m,Bw b d E a m r->GJ.ok h.1 m)/\True)))
 def nv:=BC e/\∃(c:jW),Bz b e c (c.2.2.1=qg d D/\Bx b F l u c (∀(o:zL),kJ c.2.1 c.2.2.1 c.2.2.2.2 o->(∃t,ZM b F o t)->nw b D F l o c))
 def nq:=mkS [110,117,108,108]=mkS [110,117,108,108]/\True/\∃(c:List Int),By b (e=e/\(0<=e/\e<=(↑(length c):Int)/\(0:Int)<2/\(2:Int)<1000000/\zX c)/\BA b d c/\Ji (qq c e (2:Int)=0) (∃(o:List Int),By b (qg c e=qg c e/\(0<=qg c e/\qg c e<=(↑(length o):Int)/\(0:Int)<2/\(2:Int)<1000000/\zX o)/\BA b d o/\(0<=qq o (qg c e) 2/\qq o (qg c e) (2:Int)<(↑(2:Nat):Int))/\∃B,qfi [string (mkS [105,110,116]),string (mkS [115,116,114,105,110,103])] ((0:Nat)+toNat (qq o (qg c e) 2)*1) [string B]/\B=B/\True/\(nat_lit 1+1)*80<=140737488355328/\BC D/\∃(i:jW),Bz b D i (i.2.2.1=qg o (qg c e)/\Bx b d l u i (∀(j:zL),kJ i.2.1 i.2.2.1 i.2.2.2.2 j->(∃i8,ZM b d j i8)->nt b e d l j B i)))) (nv b D c e l u d))
end
def zkb(c:Nat) (x:SV) (L:List Int) (n d:Int) (N:List O6):qiy P (qef [(23,QU),(72,Yf)]) (qff [(70,xD.below jU c)]) Tryz.f106 (HT.below jU (c+1)) (zw2) ⟨x,L,n,d,N⟩=(jU (x,L,n,d,N)<c+1/\y8 3 (x,L,n,d,N)->(∃(p:Pub),True/\qb qm x L p)->nq x n L d N c):=by kernel_rfl
def union_eq:=λc x L n d N=>Eq.trans (zkb c x L n d N) (by delta Ji Jb Jt Jf By BA BC Bz Bx ZM US Fg Aw UR Y' ny BB nt Ax nA Bw nw nv nq;exact rfl)
section
variable (b:Q6) (g:List Int) (m E:Int) (e:SV) (u:Nat) (q:List Int) (o:O6) (B:List O6) (a:zL) (d:jW) (z:O6) (p:List Int) (j:List Int×GJ) (t K:Option Addr) (l:Nat) (h:Nat->Option Obj) (D L:Nat) (A:Prop) (M:Q6)
 abbrev Mn:=e.1=e.1/\e.2.1=e.2.1/\e.2.2=e.2.2/\A
 def QK:=(True/\qb qm e g h)/\GJ.oks b.2.2.2 h
 abbrev BJ:=slice (GJ.y a.1).1 (GJ.y a.1).2.1 (GJ.y a.1).2.2
 abbrev BK:=slice (GJ.x a.1).1 (GJ.x a.1).2.1 (GJ.x a.1).2.2
 def BD:=AV.agg [AV.sv (int i64 (GJ.k a.1)),AV.sv (int i64 (GJ.n a.1)),AV.sv (string (GJ.s a.1)),AV.sv (BJ a),AV.sv (BK a)]=AV.agg [AV.sv (int i64 (GJ.k a.1)),AV.sv (int i64 (GJ.n a.1)),AV.sv (string (GJ.s a.1)),AV.sv (BJ a),AV.sv (BK a)]
 def BH:=d.1.1=d.1.1/\d.1.2.1=d.1.2.1/\d.1.2.2=d.1.2.2/\A
 def bu:=qb qm (d.1.1,d.1.2.1,d.1.2.2) j.1 h/\GJ.ok j.2 h
 abbrev UT:=zK j.2 j.1 (qg g a.2.1)
 def Y_:=((QK b g e h)/\GJ.ok a.1 h)/\nat_lit 3<=u/\qfu h t (take (nat_lit 3*nat_lit 5) ([int i64 4,int i64 0,string (mkS [102]++o),slice noA 0 0,slice noA 0 0,int i64 (GJ.k a.1),int i64 (GJ.n a.1),string (GJ.s a.1),slice (GJ.y a.1).1 (GJ.y a.1).2.1 (GJ.y a.1).2.2,slice (GJ.x a.1).1 (GJ.x a.1).2.1 (GJ.x a.1).2.2]++[int i64 (UT q a j).1,int i64 (UT q a j).2.1,string (UT q a j).2.2.1,slice noA 0 0,slice noA 0 0]))
 abbrev Mp:=mkS [110,97,109,101]
 abbrev Mo:=mkS [116,121,112,101]
 def Ml:=nat_lit 3<=u/\qfu h t (take (nat_lit 3*nat_lit 1) ([string (Mp),string (Mo)]++[string (mkS [100,101,102,97,117,108,116])]))
 def BF:=length (qa GJ.cells b.2.2.2)=length b.2.2.2*5/\(length b.2.2.2+nat_lit 1)*80<=140737488355328/\Jb (b.1+1)/\A
 def BG:=qq g m (5:Int)=qq g m 5/\E=E/\b.1=M.1+1/\e.1=d.1.1/\e.2.1=d.1.2.1/\e.2.2=d.1.2.2/\A
 def BI:=qa qo b.2.2.1=qa qo a.2.2/\length b.2.2.1=length a.2.2/\length b.2.2.2=length M.2.2.2+nat_lit 1/\A
 def BL:=Li g m B (qq q m 5) b/\toNat (qq q m 5- b.1)<toNat (qq q m 5- M.1)/\True
 def nH:=BF b (∃(c:Q6),o=o/\BG c g m E e d (c.2.1=(UT q a j).2.2.2/\qa GJ.cells c.2.2.2=qa GJ.cells b.2.2.2++[int i64 6,int i64 0,string (mkS []),slice t (nat_lit 3) u,slice K (nat_lit 3) l]/\BI c a ((∀i,(Y_ b p e u q z a j t i)/\Ml l K i->True/\qb qm e p i)/\(∀r,(Y_ b p e u q z a j t r)/\Ml l K r->GJ.oks c.2.2.2 r)/\BL c p m g B b) b) b)
 def nF:=(nat_lit 2+1)*16<=140737488355328/\∃(c:List Int×GJ),GJ.k c.2=GJ.k a.1/\GJ.n c.2=GJ.n a.1/\GJ.s c.2=GJ.s a.1/\(GJ.y c.2).1=(GJ.y a.1).1/\(GJ.y c.2).2.1=(GJ.y a.1).2.1/\(GJ.y c.2).2.2=(GJ.y a.1).2.2/\(GJ.x c.2).1=(GJ.x a.1).1/\(GJ.x c.2).2.1=(GJ.x a.1).2.1/\(GJ.x c.2).2.2=(GJ.x a.1).2.2/\BH d (qg g a.2.1=qg g a.2.1/\(0<=qg g a.2.1/\qg g a.2.1<=(↑(length c.1):Int)/\zX c.1/\GJ.wf c.2)/\(∀i,(QK b q e i)/\GJ.ok a.1 i->bu d c i)/\(nat_lit 2+1)*80<=140737488355328/\BD a/\∀(r F X:Nat) (G:Option Addr) (U H:Nat),(∃i8,Y_ b q e H g o a c G i8)->∀(Y N C:Nat) (v:Option Addr) (S w:Nat),(∃f,(Y_ b q e H g o a c G f)/\Ml w v f)->nH b p m E e H g z B a d o q c G v w)
 def Wa:=((QK b g e h)/\GJ.ok a.1 h)/\q2u h (Addr.mk u l none) [int i64 4,int i64 0,string (mkS [102]++o),slice noA 0 0,slice noA 0 0,int i64 (GJ.k a.1),int i64 (GJ.n a.1),string (GJ.s a.1),slice (GJ.y a.1).1 (GJ.y a.1).2.1 (GJ.y a.1).2.2,slice (GJ.x a.1).1 (GJ.x a.1).2.1 (GJ.x a.1).2.2]
 abbrev Mm:=q2u h (Addr.mk u l none) [string (Mp),string (Mo)]
 def nI:=BF b (∃(c:Q6),o=o/\BG c g m E e d (c.2.1=qg q a.2.1/\qa GJ.cells c.2.2.2=qa GJ.cells b.2.2.2++[int i64 6,int i64 0,string (mkS []),slice (some (Addr.mk u (l+nat_lit 0) none)) (nat_lit 2) (nat_lit 2),slice (some (Addr.mk D (L+nat_lit 0) none)) (nat_lit 2) (nat_lit 2)]/\BI c a ((∀i,(Wa b p e u z a l i)/\Mm D L i->True/\qb qm e p i)/\(∀r,(Wa b p e u z a l r)/\Mm D L r->GJ.oks c.2.2.2 r)/\BL c p m g B b) b) b)
 def nE:=((-9223372036854775808:Int)<=97+b.1/\(97:Int)+b.1<=9223372036854775807)/\∃c,size c=1/\qfi [int u8 (IntKind.wrap u8 ((97:Int)+b.1))] 0 (q11 c)/\size (mkS [102])+size c<=9223372036854775807/\mkS [102]++c=mkS [102]++c/\True/\True/\BD a/\∃(i:List Int),(3:Int)=3/\BH d (a.2.1=a.2.1/\(0<=a.2.1/\a.2.1<=(↑(length i):Int)/\(0:Int)<3/\(3:Int)<1000000/\zX i)/\(∀r,(QK b g e r)/\GJ.ok a.1 r->qb qm (d.1.1,d.1.2.1,d.1.2.2) i r)/\Ji (qq i a.2.1 (3:Int)=0) (nF b i m E e g c B a d o q) (∀(I J V:Nat),(∃T,Wa b g e I c a J T)->∀(O Q W:Nat),(∃R,(Wa b g e I c a J R)/\Mm O Q R)->nI b q m E e I i o B a d c g J O Q))
 def nD:=Jb (m+1)/\∃(c:jW),c.2.2.2.1=m+1/\c.1.1=e.1/\c.1.2.1=e.2.1/\c.1.2.2=e.2.2/\c.2.2.1=b.2.1/\qa qo c.2.2.2.2=qa qo b.2.2.1/\length c.2.2.2.2=length b.2.2.1/\(jU c<u/\y8 4 c)/\(∀i,QK b g e i->qb qm c.1 c.2.1 i)/\∀(r:zL),kJ c.2.1 c.2.2.1 c.2.2.2.2 r->(∃F,(QK b g e F)/\GJ.ok r.1 F)->nE b g E m e q o B r c
 def Mk:=AV.agg [AV.int i64 5,AV.int i64 0,AV.str [],AV.ssl (nat_lit 7) (nat_lit 0) (length b.2.2.2) (nat_lit 5) (nat_lit 8),AV.nsl]=AV.agg [AV.int i64 5,AV.int i64 0,AV.str [],AV.ssl (nat_lit 7) (nat_lit 0) (length b.2.2.2) (nat_lit 5) (nat_lit 8),AV.nsl]
 def BM:=(QK b g e h)/\length b.2.2.2<=u/\qfu h t (take (length b.2.2.2*nat_lit 5) (qa GJ.cells b.2.2.2))
 def Fh:=(BM b g e u t h)/\q2u h (Addr.mk l D none) [int i64 4,int i64 0,string (mkS [114,101,99,111,114,100]),slice noA 0 0,slice noA 0 0,int i64 4,int i64 0,string o,slice noA 0 0,slice noA 0 0,int i64 4,int i64 0,string (mkS [115]),slice noA 0 0,slice noA 0 0,int i64 5,int i64 0,string (mkS []),slice t (length b.2.2.2) u,slice noA 0 0]
 abbrev BE:=q2u h (Addr.mk u l none) [string (Mo),string (Mp),string (mkS [110,97,109,101,115,112,97,99,101]),string (mkS [102,105,101,108,100,115])]
 def nG:=mkS [114,101,99,111,114,100]=mkS [114,101,99,111,114,100]/\True/\o=o/\True/\mkS [115]=mkS [115]/\True/\True/\Mk b/\Mk b/\Mk b/\∀(c i r:Nat) (F:Option Addr) (X G:Nat),(∃U,BM b g e G F U)->∀(H i8 Y:Nat),(∃N,Fh b g e G o F H N i8)->∀(C v S:Nat),(∃w,(Fh b g e G o F H w i8)/\BE C v w)->∃(f:zL),GJ.k f.1=6/\GJ.n f.1=0/\GJ.s f.1=mkS []/\(GJ.y f.1).1=some (Addr.mk H (i8+nat_lit 0) none)/\(GJ.y f.1).2.1=nat_lit 4/\(GJ.y f.1).2.2=nat_lit 4/\(GJ.x f.1).1=some (Addr.mk C (v+nat_lit 0) none)/\(GJ.x f.1).2.1=nat_lit 4/\(GJ.x f.1).2.2=nat_lit 4/\Mn e (f.2.1=b.2.1/\qa qo f.2.2=qa qo b.2.2.1/\length f.2.2=length b.2.2.1/\kJ g m B f/\(∀i16,(Fh b g e G o F H i16 i8)/\BE C v i16->GJ.ok f.1 i16)/\True)
 def nC:=Ji (b.1<qq g m 5) (nD b q E m e u g o B) (nG b q m e o B)
end
def zq3(c:Nat) (s:O6) (x:SV) (L:List Int) (n d:Int) (N:List O6):qiy P (qef [(23,QU),(72,Yf),(71,V8),(73,He)]) (qff [(70,xD.below jU c)]) Tryz.f33 (JQ.below KQ (c+1)) (zen) ⟨s,x,L,n,d,N⟩=(KQ (s,x,L,n,d,N)<c+1/\size s<100/\y8 3 (x,L,n,d,N)->(∃(p:Pub),True/\qb qm x L p)->∃(b:List Int),(5:Int)=5/\Mn x (n=n/\(0<=n/\n<=(↑(length b):Int)/\(0:Int)<5/\(5:Int)<1000000/\zX b)/\(∀(p:Pub),True/\qb qm x L p->qb qm (x.1,x.2.1,x.2.2) b p)/\(∃(s_1:Q6),s=s/\qq b n (5:Int)=qq b n 5/\d=d/\s_1.1=0/\Mn x (s_1.2.1=qg b n/\qa qo s_1.2.2.1=qa qo N/\length s_1.2.2.1=length N/\length s_1.2.2.2=0/\(∀(p:Pub),True/\qb qm x L p->True/\qb qm x L p)/\(∀(p:Pub),True/\qb qm x L p->GJ.oks s_1.2.2.2 p)/\Li L n N (qq b n 5) s_1/\True))/\∀(s_1:Q6),Li L n N (qq b n 5) s_1->(∃(p:Pub),QK s_1 L x p)->nC s_1 b n d x c L s N)):=by kernel_rfl
def zyu:=λc s x L n d N=>Eq.trans (zq3 c s x L n d N) (by delta Ji Jb Jt Jf Mn QK BJ BK BD BH bu UT Y_ Mp Mo Ml BF BG BI BL nH nF Wa Mm nI nE nD Mk BM Fh BE nG nC;exact rfl)
section
def leaf(k n:Int) (s:O6):GJ:= .mk k n s (none,0,0) [] (none,0,0) []
variable {s:O6} {p:Pub}
def zP{k n:Int}:(leaf k n s).ok p:=by unfold leaf;rw[GJ.ok];exact⟨qQ,qQ,by rw[GJ.oks];trivial⟩
def zQ{k n:Int} (h:s.size<1000) (u: -9223372036854775808<=n) (A:n<9223372036854775808):(leaf k n s).wf:=by unfold leaf;rw[GJ.wf];exact⟨h,by decide,by decide,λt C=>(by cases C),⟨u,A⟩,λ_=>rfl,by rw[GJ.wfs];trivial⟩
variable {l:List GJ}
def q_{g:GJ} (h:g.ok p) (u:GJ.oks l p):GJ.oks (g::l) p:=by rw[GJ.oks];exact⟨h,u⟩
def kH:GJ.oks [] p:=by rw[GJ.oks];trivial
def za{g:GJ} (h:g.wf) (u:GJ.wfs l):GJ.wfs (g::l):=by rw[GJ.wfs];exact⟨h,u⟩
def kI:GJ.wfs []:=by rw[GJ.wfs];trivial
variable {α:Type}
def ZE{f:α->List Value} {l:List α} {a:Option Addr} {n c:Nat} (u:n=l.length) (h:qfv p a n c (qa f l)):qb f (a,n,c) l p:=⟨u,h⟩
def yT{f:α->List Value} {l:List α} {b s n c:Nat} (A:n=l.length) (u:n<=c) (h:q2u p ⟨b,s,none⟩ (qa f l)):qb f (some ⟨b,s+0,none⟩,n,c) l p:=⟨A,u, .inr ⟨_,rfl,rfl,h⟩⟩
def um(x:SV) (l:List GJ):GJ:= .mk 5 0 (mkS []) x l (none,0,0) []
variable {x:SV}
def J1(h:qb GJ.cells x l p) (u:GJ.oks l p):(um x l).ok p:=by unfold um;rw[GJ.ok];exact⟨h,qQ,u⟩
def J2(u:l.length<8) (A:GJ.wfs l):(um x l).wf:=by unfold um;rw[GJ.wf];exact⟨by decide,u,Nat.zero_le _,λt C=>(by cases C),⟨by omega,by omega⟩,λh=>absurd h (by decide),A⟩
def wQ(x:SV) (l:List GJ) (y:SV) (nm:List O6):GJ:= .mk 6 0 (mkS []) x l y nm
variable {nm:List O6}
def ZF{y:SV} (h:qb GJ.cells x l p) (A:qb qo y nm p) (u:GJ.oks l p):(wQ x l y nm).ok p:=by unfold wQ;rw[GJ.ok];exact⟨h,A,u⟩
def ZG{y:SV} (h:l.length<8) (A:nm.length=l.length) (C:∀t∈nm,t.size<1000) (u:GJ.wfs l):(wQ x l y nm).wf:=by unfold wQ;rw[GJ.wf];exact⟨by decide,h,by omega,C,⟨by omega,by omega⟩,λ_=>A,u⟩
variable {L:List Int}
def zpn{n:Int} (h:n<L.length):qg L n=n+1:=by unfold qg;rw[if_neg (by omega)]
def zpo{n m:Int} (h:qq L n m≠0):n<L.length:=by
 unfold qq at h;split at h
 ·exact absurd rfl h
 ·omega
def zuu(c:Nat) (h:c<256):q11 (mkS [c])=[.int .u8 (c:Nat)]:=by simp[q11,mkS];omega
def zl7(n:Nat):IntKind.wrap .u8 (97+(n:Int).tmod 26)=((97+n % 26:Nat):Int):=by rw[J8,Int.tmod_eq_emod_of_nonneg (by omega)];omega
def z5u{α:Type} {f:α->List Value} {l:List α} {p:Pub} {x:Addr} (k:Nat) (h:q2u p x (qa f l)):q2u p x (qa f (l.take k)):=λj v u=>by
 refine h j v ?_;conv at u=>lhs;rw[show qa f (l.take k)=qa f (l.take k)from rfl]
 have e:qa f l=qa f (l.take k)++qa f (l.drop k):=by rw[←zF,List.take_append_drop]
 rw[e,List.getElem?_append_left (List.getElem?_eq_some_iff.mp u).1];exact u
def Il(b s:Nat) (r:Int):SV:=(slA (some ⟨b,s+0,none⟩) 3 0 5,(@Int.rec (λ_=>Nat) (λa=>a) (λ_=>0) (1+r))- 0,3- 0)
def VV(r:Int):List GJ:=[leaf 4 0 (mkS [88]),leaf 4 0 (mkS [89]),leaf 4 0 (mkS [90])].take (1+r).toNat
def Py{b s:Nat} {r:Int} (u:0<=r) (A:r<3) (h:q2u p ⟨b,s,none⟩ (qa GJ.cells [leaf 4 0 (mkS [88]),leaf 4 0 (mkS [89]),leaf 4 0 (mkS [90])])):qb GJ.cells (Il b s r) (VV r) p/\GJ.oks (VV r) p:=by
 have:r=0\/r=1\/r=2:=by omega
 rcases this with rfl|rfl|rfl
 ·exact⟨⟨rfl,show 1<=3 by decide, .inr ⟨⟨b,s,none⟩,rfl,rfl,z5u 1 h⟩⟩,q_ zP kH⟩
 ·exact⟨⟨rfl,show 2<=3 by decide, .inr ⟨⟨b,s,none⟩,rfl,rfl,z5u 2 h⟩⟩,q_ zP (q_ zP kH)⟩
 ·exact⟨⟨rfl,show 3<=3 by decide, .inr ⟨⟨b,s,none⟩,rfl,rfl,h⟩⟩,q_ zP (q_ zP (q_ zP kH))⟩
def Lk{r:Int} (h:0<=r) (u:r<3):(VV r).length<8/\GJ.wfs (VV r):=by
 have:r=0\/r=1\/r=2:=by omega
 rcases this with rfl|rfl|rfl
 ·exact⟨by decide,za (zQ (by decide) (by omega) (by omega)) kI⟩
 ·exact⟨by decide,za (zQ (by decide) (by omega) (by omega)) (za (zQ (by decide) (by omega) (by omega)) kI)⟩
 ·exact⟨by decide,za (zQ (by decide) (by omega) (by omega)) (za (zQ (by decide) (by omega) (by omega)) (za (zQ (by decide) (by omega) (by omega)) kI))⟩
def zqq(c:Nat) (ht:q1i P 70 (xD.below jU c)):q1i P 106 (HT.below jU (c+1)):=by
 refine zI (qbu (qfr J3 (qfr HF qil))) (qcl (qfq ht qik)) (W:=zw2) Tryz.func106 λ⟨(x:SV),(L:List Int),(n:Int),(d:Int),N⟩=>(union_eq c x L n d N).mpr ?_;rintro⟨H,V,J,hL,hd0,hd1,hN,C⟩ ⟨p,_,hp⟩;have H:(10- d).toNat<c+1:=H;simp only[qy,Int.toNat_natCast];have X:=yk J;refine⟨L,⟨V,J,by omega,by omega,hL⟩,λq hq=>hq,λh0=> ?_,λh0=> ?_⟩
 ·have Y:=yk X.2.1;have hr:=ym (n:=qg L n) (m:=2) hL (by omega);obtain⟨s,hs,O⟩:∃s:O6,(∀(j:Nat) (v:Value),[Value.string s][j]? =some v->[Value.string (mkS [105,110,116]),Value.string (mkS [115,116,114,105,110,103])][0+(qq L (qg L n) 2).toNat*1+j]? =some v)/\s.size<1000:=by
   have:qq L (qg L n) 2=0\/qq L (qg L n) 2=1:=(by omega);rcases this with e|e
   ·rw[e];exact⟨mkS [105,110,116],λj v G=>by cases j with|zero=>exact G|succ j=>simp at G,by decide⟩
   ·rw[e];exact⟨mkS [115,116,114,105,110,103],λj v G=>by cases j with|zero=>exact G|succ j=>simp at G,by decide⟩
  refine⟨L,⟨by omega,X.2.1,by omega,by omega,hL⟩,λq hq=>hq,hr,s,hs,by decide,by omega,⟨x,L,qg L (qg L n),d+1,N⟩,rfl,rfl,rfl,rfl,rfl,rfl,rfl,⟨?_,by omega,Y.2.1,hL,by omega,by omega,by omega,C⟩,λq hq=>hq,?_⟩
  ·show(10- (d+1)).toNat<c;omega
  rintro⟨g,n',N'⟩ ⟨hw,Z,h,u,p4,T⟩ _;simp only at Z h u p4;refine⟨λU=>⟨rfl,by decide,λ_ _ _ a m A _=>⟨⟨um (a,3,A) [leaf 4 0 (mkS [110,117,108,108]),leaf 4 0 s,g],n',N'⟩,rfl,rfl,rfl,rfl,rfl,rfl,rfl,rfl,rfl,rfl,rfl,rfl,rfl,rfl,rfl,⟨?_,by omega,h,u,by omega,T⟩,λq hq=> ?_⟩⟩,λU _ _ _ a m A _=>⟨⟨um (a,2,A) [leaf 4 0 (mkS [110,117,108,108]),leaf 4 0 s],n',N'⟩,rfl,rfl,rfl,rfl,rfl,rfl,rfl,rfl,rfl,rfl,rfl,rfl,rfl,rfl,rfl,⟨?_,by omega,h,u,by omega,T⟩,λq hq=> ?_⟩⟩
  ·exact J2 (by simp) (za (zQ (by decide) (by omega) (by omega)) (za (zQ O (by omega) (by omega)) (za hw kI)))
  ·exact J1 (ZE rfl hq.2) (q_ zP (q_ zP (q_ hq.1.2 kH)))
  ·exact J2 (by simp) (za (zQ (by decide) (by omega) (by omega)) (za (zQ O (by omega) (by omega)) kI))
  ·exact J1 (ZE rfl hq.2) (q_ zP (q_ zP kH))
 ·refine⟨by omega,⟨x,L,qg L n,d+1,N⟩,rfl,rfl,rfl,rfl,rfl,rfl,rfl,⟨?_,by omega,X.2.1,hL,by omega,by omega,by omega,C⟩,λq hq=>hq,?_⟩
  ·show(10- (d+1)).toNat<c;omega
  rintro⟨g,n',N'⟩ ⟨hw,Z,h,u,p4,T⟩ _;simp only at Z h u p4;refine⟨λU=>⟨by decide,λ_ _ _ a m A _=>⟨⟨um (a,2,A) [leaf 4 0 (mkS [110,117,108,108]),g],n',N'⟩,rfl,rfl,rfl,rfl,rfl,rfl,rfl,rfl,rfl,rfl,rfl,rfl,rfl,rfl,rfl,⟨?_,by omega,h,u,by omega,T⟩,λq hq=> ?_⟩⟩,λU b2 s2 _ _=>⟨⟨um (some ⟨b2,s2+0,none⟩,1,1) [leaf 4 0 (mkS [110,117,108,108])],n',N'⟩,rfl,rfl,rfl,rfl,rfl,rfl,rfl,rfl,rfl,rfl,rfl,rfl,rfl,rfl,rfl,⟨?_,by omega,h,u,by omega,T⟩,λq hq=> ?_⟩⟩
  ·exact J2 (by simp) (za (zQ (by decide) (by omega) (by omega)) (za hw kI))
  ·exact J1 (ZE rfl hq.2) (q_ zP (q_ hq.1.2 kH))
  ·exact J2 (by simp) (za (zQ (by decide) (by omega) (by omega)) kI)
  ·exact J1 (yT rfl (Nat.le_refl _) hq.2) (q_ zP kH)
def zze(c:Nat) (ht:q1i P 70 (xD.below jU c)) (hu:q1i P 106 (HT.below jU (c+1))) (hr:q1i P 33 (JQ.below KQ (c+1))):q1i P 70 (xD.below jU (c+1)):=by
 refine zI (qbu (qfr J3 (qfr I5 (qfr HF (qfr ze7 qil))))) (qcl (qfq ht (qfq hu (qfq hr qik)))) (W:=PL) Tryz.func70 λ⟨(x:SV),(L:List Int),(n:Int),(d:Int),N⟩=>(zzd c x L n d N).mpr ?_;rintro⟨hmu,hn0,hn1,hL,hd0,hd1,hN,A⟩ ⟨p,_,hp⟩;have hmu:(10- d).toNat<c+1:=hmu;simp only[qy,Int.toNat_natCast,exists_const];have H:=yk hn1;have hLl:=hL.1;have Z:=ym (n:=n) (m:=20) hL (by omega);have small8:3<d->(8:Int)≠0/\∃s,s=(qq L n 20).tmod 8/\qg L n=qg L n/\0<=s/\s<20/\(8<=s->d<=3/\n<L.length):=λh=>by have e:(qq L n 20).tmod 8=qq L n 20 % 8:=Int.tmod_eq_emod_of_nonneg Z.1;exact⟨by decide,_,rfl,rfl,by omega,by omega,λh=>by omega⟩
 have small9:(8:Int)≠0/\∃s,s=(qq L n 20).tmod 8/\qg L n=qg L n/\0<=s/\s<20/\(8<=s->d<=3/\n<L.length):=by have e:(qq L n 20).tmod 8=qq L n 20 % 8:=Int.tmod_eq_emod_of_nonneg Z.1;exact⟨by decide,_,rfl,rfl,by omega,by omega,λh=>by omega⟩
 refine⟨L,⟨hn0,hn1,by omega,by omega,hL⟩,λq hq=>hq,⟨small8,λhd3=>⟨L,λq hq=>hq,λ_=>small9,λ_=>⟨_,rfl,rfl,Z.1,Z.2,λh=>⟨by omega,zpo (m:=20) (by omega)⟩⟩⟩⟩,?_⟩;rintro k ⟨hk0,hk1,C⟩;refine⟨⟨λh8=> ?_,λh8=>⟨λh10=> ?_,λh10=>⟨λh1=> ?_,λh1=>⟨λh14=> ?_,λh14=>⟨λe14=>⟨λhN0=> ?_,λ_=>by omega⟩,λ_=>by omega⟩⟩⟩⟩⟩,?_⟩
 ·obtain⟨s,hs,hsz⟩:∃s:O6,(∀(j:Nat) (v:Value),[Value.string s][j]? =some v->[Value.string (mkS [105,110,116]),Value.string (mkS [108,111,110,103]),Value.string (mkS [115,116,114,105,110,103]),Value.string (mkS [98,121,116,101,115]),Value.string (mkS [98,111,111,108,101,97,110]),Value.string (mkS [110,117,108,108]),Value.string (mkS [102,108,111,97,116]),Value.string (mkS [100,111,117,98,108,101])][0+k.toNat*1+j]? =some v)/\s.size<1000:=by have:k=0\/k=1\/k=2\/k=3\/k=4\/k=5\/k=6\/k=7:=(by omega);rcases this with rfl|rfl|rfl|rfl|rfl|rfl|rfl|rfl;all_goals refine⟨_,λj v hj=>by cases j with|zero=>exact hj|succ j=>simp at hj,by decide⟩
  exact⟨⟨hk0,h8⟩,s,hs,⟨leaf 4 0 s,qg L n,N⟩,rfl,rfl,rfl,rfl,rfl,rfl,rfl,rfl,rfl,rfl,rfl,rfl,⟨zQ hsz (by omega) (by omega),H.1,H.2.1,Nat.le_refl _,by omega,A⟩,λq hq=>zP⟩
 ·have hd:=C (by omega);refine⟨by omega,⟨x,L,qg L n,d+1,N⟩,rfl,rfl,rfl,rfl,rfl,rfl,rfl,⟨?_,by omega,H.2.1,hL,by omega,by omega,by omega,A⟩,λq hq=>hq,?_⟩
  ·show(10- (d+1)).toNat<c;omega
  rintro⟨g,n',N'⟩ ⟨hw,p1,O,U,p4,p5⟩ _ T s1 u1 _ b2 s2 u2 _;simp only at p1 O U p4;exact⟨⟨wQ (some ⟨T,s1+0,none⟩,2,2) [leaf 4 0 (mkS [97,114,114,97,121]),g] (some ⟨b2,s2+0,none⟩,2,2) [mkS [116,121,112,101],mkS [105,116,101,109,115]],n',N'⟩,rfl,rfl,rfl,rfl,rfl,rfl,rfl,rfl,rfl,rfl,rfl,rfl,rfl,rfl,rfl,⟨ZG (by simp) rfl (by decide) (za (zQ (by decide) (by omega) (by omega)) (za hw kI)),by omega,O,U,by omega,p5⟩,λq hq=>ZF (yT rfl (Nat.le_refl _) hq.1.2) (yT rfl (Nat.le_refl _) hq.2) (q_ zP (q_ hq.1.1.2 kH))⟩
 ·have hd:=C (by omega);refine⟨by omega,⟨x,L,qg L n,d+1,N⟩,rfl,rfl,rfl,rfl,rfl,rfl,rfl,⟨?_,by omega,H.2.1,hL,by omega,by omega,by omega,A⟩,λq hq=>hq,?_⟩
  ·show(10- (d+1)).toNat<c;omega
  rintro⟨g,n',N'⟩ ⟨hw,p1,O,U,p4,p5⟩ _ T s1 u1 _ b2 s2 u2 _;simp only at p1 O U p4;exact⟨⟨wQ (some ⟨T,s1+0,none⟩,2,2) [leaf 4 0 (mkS [109,97,112]),g] (some ⟨b2,s2+0,none⟩,2,2) [mkS [116,121,112,101],mkS [118,97,108,117,101,115]],n',N'⟩,rfl,rfl,rfl,rfl,rfl,rfl,rfl,rfl,rfl,rfl,rfl,rfl,rfl,rfl,rfl,⟨ZG (by simp) rfl (by decide) (za (zQ (by decide) (by omega) (by omega)) (za hw kI)),by omega,O,U,by omega,p5⟩,λq hq=>ZF (yT rfl (Nat.le_refl _) hq.1.2) (yT rfl (Nat.le_refl _) hq.2) (q_ zP (q_ hq.1.1.2 kH))⟩
 ·have hd:=C (by omega);refine⟨⟨x,L,qg L n,d,N⟩,rfl,rfl,rfl,rfl,rfl,rfl,rfl,⟨?_,by omega,H.2.1,hL,by omega,by omega,by omega,A⟩,λq hq=>hq,?_⟩
  ·show(10- d).toNat<c+1;omega
  rintro⟨g,n',N'⟩ ⟨hw,p1,O,U,p4,p5⟩ _;simp only at p1 O U p4;exact⟨⟨g,n',N'⟩,rfl,rfl,rfl,rfl,rfl,rfl,rfl,rfl,rfl,rfl,rfl,rfl,rfl,rfl,rfl,⟨hw,by omega,O,U,by omega,p5⟩,λq hq=>hq.2⟩
 ·have hd:=C (by omega);have hN0:0<N.length:=by omega
  have J:=yk H.2.1;have hr:=ym (n:=qg L n) (m:=N.length) hL (by omega);obtain⟨i,hi⟩:=Int.eq_ofNat_of_zero_le hr.1;have hil:i<N.length:=by omega
  refine⟨L,⟨by omega,H.2.1,by omega,by omega,hL⟩,λq hq=>hq,hr,N[i],?_,⟨leaf 4 0 N[i],qg L (qg L n),N⟩,rfl,rfl,rfl,rfl,rfl,rfl,rfl,rfl,rfl,rfl,rfl,rfl,⟨zQ (by have:=A N[i] (List.getElem_mem _);omega) (by omega) (by omega),by omega,J.2.1,Nat.le_refl _,by omega,A⟩,λq hq=>zP⟩;rw[hi,Int.toNat_natCast];intro j v hj;cases j with
  |zero=>rw[Nat.zero_add,JY jS N i hil 0 (by decide)];exact hj
  |succ j=>simp at hj
 intro _ h14;have hd:=C (by omega);have e26:(N.length:Int).tmod 26=(N.length:Int) % 26:=Int.tmod_eq_emod_of_nonneg (by omega);have hz:(mkS [97+N.length % 26]).size=1:=rfl;have hn2:(mkS [78]++mkS [97+N.length % 26]).size=2:=by rw[ByteArray.size_append,hz];rfl
 have hnl:n<L.length:=hd.2;have hnn:=zpn hnl;refine⟨by decide,by omega,mkS [97+N.length % 26],rfl,?_,by rw[hz];decide,qB jS N,by omega,?_⟩
 ·intro j v hj;rw[zuu _ (by omega)]at hj;rw[zl7,Nat.zero_add];exact hj
 have V:∀t∈N++[(mkS [78]++mkS [97+N.length % 26])],t.size<100:=λt ht=>by
  rcases List.mem_append.1 ht with h|h
  ·exact A t h
  ·simp at h;rw[h];omega
 have X:(N++[(mkS [78]++mkS [97+N.length % 26])]).length=N.length+1:=by simp
 have Y:qa qo (N++[(mkS [78]++mkS [97+N.length % 26])])=qa qo N++[Value.string (mkS [78]++mkS [97+N.length % 26])]:=by rw[zF];rfl
 generalize (mkS [78]++mkS [97+N.length % 26])=name at*;generalize N++[name]=N1 at*;have J:=yk H.2.1;refine⟨λh15=> ?_,λh15=>⟨λh16=> ?_,λh16=> ?_⟩⟩
 ·have hr4:=ym (n:=qg L n) (m:=4) hL (by omega);refine⟨L,⟨by omega,H.2.1,by omega,by omega,hL⟩,λq hq=>hq,λT s1 u1 _ b2 s2 u2 _=>⟨⟨wQ (some ⟨T,s1+0,none⟩,3,3) [leaf 4 0 (mkS [102,105,120,101,100]),leaf 4 0 name,leaf 3 (qq L (qg L n) 4) (mkS [])] (some ⟨b2,s2+0,none⟩,3,3) [mkS [116,121,112,101],mkS [110,97,109,101],mkS [115,105,122,101]],qg L (qg L n),N1⟩,rfl,rfl,rfl,rfl,rfl,rfl,rfl,rfl,rfl,rfl,Y,X,⟨?_,by omega,J.2.1,by omega,by omega,V⟩,λq hq=> ?_⟩⟩
  ·exact ZG (by simp) rfl (by decide) (za (zQ (by decide) (by omega) (by omega)) (za (zQ (by omega) (by omega) (by omega)) (za (zQ (by decide) (by omega) (by omega)) kI)))
  ·exact ZF (yT rfl (Nat.le_refl _) hq.1.2) (yT rfl (Nat.le_refl _) hq.2) (q_ zP (q_ zP (q_ zP kH)))
 ·have u:=ym (n:=qg L n) (m:=3) hL (by omega);have nb3:=yk J.2.1;generalize hrr:qq L (qg L n) 3=r at u;refine⟨L,⟨by omega,H.2.1,by omega,by omega,hL⟩,λq hq=>hq,?_⟩;rw[hrr];refine⟨by omega,λT s1 u1 _=>⟨Nat.le_refl _,by omega,L,⟨by omega,J.2.1,by omega,by omega,hL⟩,λq hq=>hq.1,?_,?_⟩⟩
  ·refineλ_=>⟨by decide,by decide,λ_ _ _ a _ cc _ _ _ _ a2 _ cc2 _=>⟨⟨wQ (a,4,cc) [leaf 4 0 (mkS [101,110,117,109]),leaf 4 0 name,um (Il T s1 r) (VV r),leaf 4 0 (mkS [88])] (a2,4,cc2) [mkS [116,121,112,101],mkS [110,97,109,101],mkS [115,121,109,98,111,108,115],mkS [100,101,102,97,117,108,116]],qg L (qg L (qg L n)),N1⟩,rfl,rfl,rfl,rfl,rfl,rfl,rfl,rfl,rfl,rfl,Y,X,⟨?_,by omega,nb3.2.1,by omega,by omega,V⟩,λq hq=> ?_⟩⟩
   ·exact ZG (by simp) rfl (by decide) (za (zQ (by decide) (by omega) (by omega)) (za (zQ (by omega) (by omega) (by omega)) (za (J2 (Lk u.1 u.2).1 (Lk u.1 u.2).2) (za (zQ (by decide) (by omega) (by omega)) kI))))
   ·have G:=Py (b:=T) (s:=s1) u.1 u.2 hq.1.1.2;exact ZF (ZE rfl hq.1.2) (ZE rfl hq.2) (q_ zP (q_ zP (q_ (J1 G.1 G.2) (q_ zP kH))))
  ·refineλ_ b3 s3 _ _ b4 s4 _ _=>⟨⟨wQ (some ⟨b3,s3+0,none⟩,3,3) [leaf 4 0 (mkS [101,110,117,109]),leaf 4 0 name,um (Il T s1 r) (VV r)] (some ⟨b4,s4+0,none⟩,3,3) [mkS [116,121,112,101],mkS [110,97,109,101],mkS [115,121,109,98,111,108,115]],qg L (qg L (qg L n)),N1⟩,rfl,rfl,rfl,rfl,rfl,rfl,rfl,rfl,rfl,rfl,Y,X,⟨?_,by omega,nb3.2.1,by omega,by omega,V⟩,λq hq=> ?_⟩
   ·exact ZG (by simp) rfl (by decide) (za (zQ (by decide) (by omega) (by omega)) (za (zQ (by omega) (by omega) (by omega)) (za (J2 (Lk u.1 u.2).1 (Lk u.1 u.2).2) kI)))
   ·have G:=Py (b:=T) (s:=s1) u.1 u.2 hq.1.1.2;exact ZF (yT rfl (Nat.le_refl _) hq.1.2) (yT rfl (Nat.le_refl _) hq.2) (q_ zP (q_ zP (q_ (J1 G.1 G.2) kH)))
 ·refine⟨⟨name,x,L,qg L n,d,N1⟩,rfl,rfl,rfl,rfl,rfl,rfl,Y,X,⟨?_,by show name.size<100;omega,by omega,H.2.1,hL,hd0,hd.1,by omega,V⟩,λq hq=>hq,?_⟩
  ·show(10- d).toNat<c+1;omega
  rintro⟨g,n',N'⟩ ⟨hw,p1,O,U,p4,p5⟩ _;simp only at p1 O U p4;exact⟨⟨g,n',N'⟩,rfl,rfl,rfl,rfl,rfl,rfl,rfl,rfl,rfl,rfl,rfl,rfl,rfl,rfl,rfl,⟨hw,by omega,O,by omega,by omega,p5⟩,λq hq=>hq.2⟩
end
def I4:∀{l m:List GJ} {p:Pub},GJ.oks l p->GJ.oks m p->GJ.oks (l++m) p
  | [],m,p,h,u=>u
  | g::l,m,p,h,u=>by rw[GJ.oks]at h;exact q_ h.1 (I4 h.2 u)
def Oa:∀{l m:List GJ},GJ.wfs l->GJ.wfs m->GJ.wfs (l++m)
  | [],m,h,u=>u
  | g::l,m,h,u=>by rw[GJ.wfs]at h;exact za h.1 (Oa h.2 u)
def zjn(c:Nat) (ht:q1i P 70 (xD.below jU c)):q1i P 33 (JQ.below KQ (c+1)):=by
 refine zI (qbu (qfr J3 (qfr HF (qfr ze7 (qfr zx7 qil))))) (qcl (qfq ht qik)) (W:=zen) Tryz.func33 λ⟨s,(x:SV),(L:List Int),(n:Int),(d:Int),N⟩=>(zyu c s x L n d N).mpr ?_;rintro⟨A,hss,X,C,hL,hd0,hd1,hN,U⟩ ⟨p,_,hp⟩;have A:(10- d).toNat<c+1:=A;simp only[qy,Int.toNat_natCast,exists_const];have nb:=yk C;have hLl:=hL.1;have hr5:=ym (n:=n) (m:=5) hL (by omega);refine⟨L,⟨X,C,by omega,by omega,hL⟩,λq hq=>hq,⟨⟨0,qg L n,N,[]⟩,rfl,rfl,rfl,rfl,rfl,λq hq=>kH,by omega,by omega,by omega,rfl,kI,nb.1,nb.2.1,Nat.le_refl _,by omega,U⟩,?_⟩;rintro⟨i,n1,N1,fs⟩ ⟨i0,i1,i2,V,h,q1,Z,q3,q4,q5⟩ _;simp only at i0 i1 i2 V h q1 Z q3 q4 q5⊢;refine⟨λhlt=>⟨by omega,⟨x,L,n1,d+1,N1⟩,rfl,rfl,rfl,rfl,rfl,rfl,rfl,⟨?_,by omega,Z,hL,by omega,by omega,by omega,q5⟩,λq hq=>hq.1,?_⟩,λhge=> ?_⟩
 ·show(10- (d+1)).toNat<c;omega
 ·rintro⟨g,n2,N2⟩ ⟨hw,p1,Y,p3,p4,p5⟩ _;simp only at p1 Y p3 p4;have hr3:=ym (n:=n2) (m:=3) hL (by omega);have u:=yk Y;have T:=zx5 (g:=g) (L:=L) (n:=qg L n2) hL u.2.1;obtain⟨e,rfl⟩:=Int.eq_ofNat_of_zero_le i0;have hz:(mkS [97+e]).size=1:=rfl;have hsz:(mkS [102]++mkS [97+e]).size=2:=by rw[ByteArray.size_append,hz];rfl
  refine⟨by omega,mkS [97+e],rfl,?_,by rw[hz];decide,L,⟨by show 0<=n2;omega,Y,by omega,by omega,hL⟩,λq hq=>hq.1.1,λh0=>⟨by decide,⟨L,g⟩,rfl,rfl,rfl,rfl,rfl,rfl,rfl,rfl,rfl,⟨by show 0<=qg L n2;omega,u.2.1,hL,hw⟩,λq hq=>⟨hq.1.1,hq.2⟩,by decide,λ_ _ _ a _ J _ _ _ _ a2 _ O _=>⟨qB ZB fs,by omega,by omega,⟨(e:Int)+1,(zK g L (qg L n2)).2.2.2,N2,fs++[wQ (a,3,J) [leaf 4 0 (mkS [102]++mkS [97+e]),g,leaf (zK g L (qg L n2)).1 (zK g L (qg L n2)).2.1 (zK g L (qg L n2)).2.2.1] (a2,3,O) [mkS [110,97,109,101],mkS [116,121,112,101],mkS [100,101,102,97,117,108,116]]]⟩,rfl,rfl,rfl,rfl,rfl,?_,rfl,rfl,by simp,λq hq=>hq.1.1.1.1,λq hq=> ?_,?_,?_⟩⟩,λh0 G s3 _ _ H s4 _ _=>⟨qB ZB fs,by omega,by omega,⟨(e:Int)+1,qg L n2,N2,fs++[wQ (some ⟨G,s3+0,none⟩,2,2) [leaf 4 0 (mkS [102]++mkS [97+e]),g] (some ⟨H,s4+0,none⟩,2,2) [mkS [110,97,109,101],mkS [116,121,112,101]]]⟩,rfl,rfl,rfl,rfl,rfl,?_,rfl,rfl,by simp,λq hq=>hq.1.1.1.1,λq hq=> ?_,?_,?_⟩⟩
  ·intro j v hj;rw[zuu _ (by omega)]at hj;rw[show IntKind.wrap .u8 (97+(e:Int))=((97+e:Nat):Int)by rw[J8];omega,Nat.zero_add];exact hj
  ·rw[zF];rfl
  ·exact I4 hq.1.1.1.2 (q_ (ZF (ZE rfl hq.1.2) (ZE rfl hq.2) (q_ zP (q_ hq.1.1.2 (q_ zP kH)))) kH)
  ·refine⟨by omega,by omega,i2,by rw[List.length_append];show((fs.length+1:Nat):Int)=_;omega,Oa h (za (ZG (by simp) rfl (by decide) (za (zQ (by omega) (by omega) (by omega)) (za hw (za (zQ (by omega) (by omega) (by omega)) kI)))) kI),by omega,T.1.2,by omega,by omega,p5⟩
  ·show(qq L n 5- ((e:Int)+1)).toNat<_;omega
  ·rw[zF];rfl
  ·exact I4 hq.1.1.1.2 (q_ (ZF (yT rfl (Nat.le_refl _) hq.1.2) (yT rfl (Nat.le_refl _) hq.2) (q_ zP (q_ hq.1.1.2 kH))) kH)
  ·refine⟨by omega,by omega,i2,by rw[List.length_append];show((fs.length+1:Nat):Int)=_;omega,Oa h (za (ZG (by simp) rfl (by decide) (za (zQ (by omega) (by omega) (by omega)) (za hw kI))) kI),by omega,u.2.1,by omega,by omega,p5⟩
  ·show(qq L n 5- ((e:Int)+1)).toNat<_;omega
 ·intro _ _ _ a _ J _ G s3 _ _ H s4 _ _;refine⟨⟨wQ (some ⟨G,s3+0,none⟩,4,4) [leaf 4 0 (mkS [114,101,99,111,114,100]),leaf 4 0 s,leaf 4 0 (mkS [115]),um (a,fs.length,J) fs] (some ⟨H,s4+0,none⟩,4,4) [mkS [116,121,112,101],mkS [110,97,109,101],mkS [110,97,109,101,115,112,97,99,101],mkS [102,105,101,108,100,115]],n1,N1⟩,rfl,rfl,rfl,rfl,rfl,rfl,rfl,rfl,rfl,rfl,rfl,rfl,⟨?_,q1,Z,q3,q4,q5⟩,λq hq=> ?_⟩
  ·exact ZG (by simp) rfl (by decide) (za (zQ (by decide) (by omega) (by omega)) (za (zQ (by omega) (by omega) (by omega)) (za (zQ (by decide) (by omega) (by omega)) (za (J2 (by omega) h) kI))))
  ·have e1:List.take (fs.length*5) (qa GJ.cells fs)=qa GJ.cells fs:=List.take_of_length_le (by rw[qB ZB];exact Nat.le_refl _);have e2:=hq.1.1.2;rw[e1]at e2;exact ZF (yT rfl (Nat.le_refl _) hq.1.2) (yT rfl (Nat.le_refl _) hq.2) (q_ zP (q_ zP (q_ zP (q_ (J1 (ZE rfl e2) hq.1.1.1.2) kH))))
def W4:∀c,q1i P 70 (xD.below jU c)/\q1i P 33 (JQ.below KQ c)
 |0=>⟨CtR.below_zero (by decide) (by decide) (Sen.enters_of Tryz.func70 (by kernel_rfl)) λs=>rfl,CtR.below_zero (by decide) (by decide) (Sen.enters_of Tryz.func33 (by kernel_rfl)) λs=>rfl⟩
 |c+1=>⟨zze c (W4 c).1 (zqq c (W4 c).1) (zjn c (W4 c).1),zjn c (W4 c).1⟩
def zq4:q1i P 33 JQ:=CtR.of_below λc=>(W4 c).2
def IV:CtR:=u_ (List AT×SV×Int×GJ) (λ⟨S,x,t,g⟩=>[jP x, .sv (.int .i64 t),g.av]) (λ⟨S,x,t,g⟩=>qv S/\g.wf) (λ⟨S,x,t,g⟩=>sgM S x g) (Int×GV) (λ_ _=>True) (λ_ ⟨e,v⟩=>vM v) λ_ ⟨e,v⟩=> .tup [v.av, .sv (.int .i64 e)]
def sM(S:List AT) (x:SV):PF:=⟨true,qc S x,λ_ _ h e=>uC h e⟩
def Hp:CtR:=u_ (List AT×SV) (λ⟨S,x⟩=>[jP x]) (λ⟨S,x⟩=>qv S) (λ⟨S,x⟩=>sM S x) (Int×Int×Int) (λ_ _=>True) (λ_ _=>{}) λ_ ⟨e,t,i⟩=> .tup [.sv (.int .i64 e), .sv (.int .i64 t), .sv (.int .i64 i)]
def zkn:Hp.σ->WayF:=λ⟨S,x⟩=>{
 ann:=λid t _=>match id with
  |0=>some {σ:=Nat,pre:=λj=>j<=S.length,t:=λj=>[(5, .sv (.int .i64 (j:Int)))],h:=λ_=>[],more:=0,μ:=λj=>S.length- j,keep:=[1]}
  |_=>some {σ:=Nat,t:=λk=>[(6, .sv (.int .i64 (k:Int)))],h:=λ_=>[],more:=0,μ:=λk=>100- k,keep:=[1,5]}}
abbrev KX:=SV×List Int×Int
def Yi:KX->Prop:=λ⟨x,L,n⟩=>0<=n/\n<=L.length/\zX L
def Iu:CtR where
 σ:=KX
 args:=λ⟨x,L,n⟩=>[.ptr 1 0]
 h:=λ⟨x,L,n⟩=>jb x n
 m:=2
 pre:=Yi
 mem:=λ⟨x,L,n⟩=>YR x L
 β:=λ_=>GJ×Int
 post:=λ⟨x,L,n⟩ ⟨g,n'⟩=>g.wf/\n<=n'/\n'<=L.length
 pm:=λ_ ⟨g,n'⟩=>gM g
 r:=λ_ ⟨g,n'⟩=>g.av
 h':=λ⟨x,L,n⟩ ⟨g,n'⟩=>jb x n'
 m':=2
def OD:CtR where
 σ:=KX
 args:=λ⟨x,L,n⟩=>[.ptr 1 0]
 h:=λ⟨x,L,n⟩=>jb x n
 m:=2
 pre:=Yi
 mem:=λ⟨x,L,n⟩=>YR x L
 β:=λ_=>List AT×SV×Bool×Int
 post:=λ⟨x,L,n⟩ ⟨S,y,b,n'⟩=>qv S/\(b=true->S≠[])/\n<=n'/\n'<=L.length
 pm:=λ_ ⟨S,y,b,n'⟩=>sM S y
 r:=λ_ ⟨S,y,b,n'⟩=> .tup [jP y, .sv (.bool b)]
 h':=λ⟨x,L,n⟩ ⟨S,y,b,n'⟩=>jb x n'
 m':=2
section
variable (a:qT) (i:List AT) (j:SV) (k:GJ) (d:Int×GV) (l:Prop) (h:(Option Addr×Nat×Nat)×Int)
 def Az:= !(decide (0<=h.2)&&decide (h.2<(↑h.1.2.1:Int)))
 def Ay:=GV.n d.2=0/\GV.s d.2=mkS []/\(GV.x d.2).1=noA/\(GV.x d.2).2.1=0/\(GV.x d.2).2.2=0/\(GV.y d.2).1=noA/\(GV.y d.2).2.1=0/\(GV.y d.2).2.2=0/\GV.b d.2=0/\l
 def nJ:=((!decide (a.2.1=0))=true->∃(g:Int×GV),Ay g (g.1=a.2.1/\True/\(∀e,(True/\qc i j e/\GJ.ok k e)/\GV.ok a.2.2 e->GV.ok g.2 e)/\True))/\((!decide (a.2.1=0))=false->∃(c:Int×GV),GV.n c.2=GV.n a.2.2/\GV.s c.2=GV.s a.2.2/\(GV.x c.2).1=(GV.x a.2.2).1/\(GV.x c.2).2.1=(GV.x a.2.2).2.1/\(GV.x c.2).2.2=(GV.x a.2.2).2.2/\(GV.y c.2).1=(GV.y a.2.2).1/\(GV.y c.2).2.1=(GV.y a.2.2).2.1/\(GV.y c.2).2.2=(GV.y a.2.2).2.2/\GV.b c.2=GV.b a.2.2/\c.1=0/\True/\(∀f,(True/\qc i j f/\GJ.ok k f)/\GV.ok a.2.2 f->GV.ok c.2 f)/\True)
end
def zfz(S:List AT) (x:SV) (t:Int) (g:GJ):qiy P (qef [(30,KH)]) (qff [(74,v9)]) Tryz.f34 IV (λ_=>{}) ⟨S,x,t,g⟩=(qv S/\GJ.wf g->(∃(p:Pub),True/\qc S x p/\GJ.ok g p)->∃(s:(Option Addr×Nat×Nat)×Int),s.1.1=x.1/\s.1.2.1=x.2.1/\s.1.2.2=x.2.2/\s.2=t/\True/\((Az s)=true->∃(b:Int×GV),Ay b (b.1=1/\True/\(∀(p:Pub),True/\qc S x p/\GJ.ok g p->GV.ok b.2 p)/\True))/\((Az s)=false->∃(s:xZ),s.2.2.2.1=t/\GJ.k s.2.2.2.2.1=GJ.k g/\GJ.n s.2.2.2.2.1=GJ.n g/\GJ.s s.2.2.2.2.1=GJ.s g/\(GJ.y s.2.2.2.2.1).1=(GJ.y g).1/\(GJ.y s.2.2.2.2.1).2.1=(GJ.y g).2.1/\(GJ.y s.2.2.2.2.1).2.2=(GJ.y g).2.2/\(GJ.x s.2.2.2.2.1).1=(GJ.x g).1/\(GJ.x s.2.2.2.2.1).2.1=(GJ.x g).2.1/\(GJ.x s.2.2.2.2.1).2.2=(GJ.x g).2.2/\s.2.2.2.2.2=1/\s.2.1.1=x.1/\s.2.1.2.1=x.2.1/\s.2.1.2.2=x.2.2/\s.2.2.1=0/\(qv s.1/\(0<=s.2.2.2.1/\s.2.2.2.1<(↑(length s.1):Int))/\GJ.wf s.2.2.2.2.1/\(0<=s.2.2.1/\s.2.2.1<=2000)/\1<=s.2.2.2.2.2/\s.2.2.2.2.2<=21)/\(∀(p:Pub),True/\qc S x p/\GJ.ok g p->qc s.1 s.2.1 p/\GJ.ok s.2.2.2.2.1 p)/\∀(b:qT),jf s.2.2.1 b->(∃(p:Pub),(True/\qc S x p/\GJ.ok g p)/\GV.ok b.2.2 p)->nJ b S x g)):=by kernel_rfl
def zke:=λS x t g=>Eq.trans (zfz S x t g) (by delta Az Ay nJ;exact rfl)
section
variable (a:SV) (e:List AT) (d f:Nat) (A:Int×GV) (C:Prop) (H:Option Addr) (I:Nat)
 abbrev BN:=a.1=a.1/\a.2.1=a.2.1/\a.2.2=a.2.2/\C
 def Wb:=BN a ((∀c,True/\qc e a c->True/\qc e a c)/\C)
 abbrev Mr:=(↑d:Int)<(↑a.2.1:Int)
 def BO:=(∀c,True/\qc e a c->q2u c (Addr.add (adr a.1 (toNat (↑d:Int)*10)) 8) [slice H f I])
 abbrev Mq:=Jb ((↑d:Int)+1)
 def nT:=Mq d/\∃(c:Nat),(↑f:Int)=(↑f:Int)/\(↑c:Int)=(↑d:Int)+1/\Wb a e (True/\(100:Nat)- c<100- d/\True)
 def nR:=Mq d/\∃(c:Nat),(↑f:Int)=(↑f:Int)/\(↑c:Int)=(↑d:Int)+1/\BN a ((∀g,(True/\qc e a g)/\GV.ok A.2 g->True/\qc e a g)/\True/\(100:Nat)- c<100- d/\True)
 def nQ:=((!decide (A.1=0))=true->∃(c:Int×Int×Int),c.1=A.1/\c.2.1=(↑d:Int)/\c.2.2=(↑f:Int)/\True/\True)/\((!decide (A.1=0))=false->nR a e f d A)
 def nO:=(0<=(↑d:Int)/\Mr a d)/\a.1≠noA/\∃c,∃(g:Nat),∃(h:Nat),BO a e d g c h/\(0<=(↑f:Int)/\(↑f:Int)<(↑g:Int))/\c≠noA/\∃D,∃E,∃(F:Nat),∃(G:Nat),∃(i8:Int),∃(B:Bool),∃(l:Int),∃(m:Int),∃o,∃p,∃(q:Nat),∃(r:Nat),∃i16,∃(t:Nat),∃(u:Nat),(∀v,True/\qc e a v->q2u v (adr c (toNat (↑f:Int)*9)) [string D,slice E F G,int i64 i8,bool B,int i64 l,int i64 m,string o,slice p q r,slice i16 t u])/\((!B)=true->nT a e f d)/\((!B)=false->∃(b:List AT×(Option Addr×Nat×Nat)×Int×GJ),b.2.1.1=a.1/\b.2.1.2.1=a.2.1/\b.2.1.2.2=a.2.2/\b.2.2.1=i8/\GJ.k b.2.2.2=l/\GJ.n b.2.2.2=m/\GJ.s b.2.2.2=o/\(GJ.y b.2.2.2).1=p/\(GJ.y b.2.2.2).2.1=q/\(GJ.y b.2.2.2).2.2=r/\(GJ.x b.2.2.2).1=i16/\(GJ.x b.2.2.2).2.1=t/\(GJ.x b.2.2.2).2.2=u/\(qv b.1/\GJ.wf b.2.2.2)/\(∀i,True/\qc e a i->qc b.1 b.2.1 i/\GJ.ok b.2.2.2 i)/\∀(w:Int×GV),True->(∃z,(True/\qc e a z)/\GV.ok w.2 z)->nQ a e d f w)
 def nS:=Mq d/\∃(c:Nat),(↑c:Int)=(↑d:Int)+1/\Wb a e (c<=length e/\length e- c<length e- d/\True)
 def nN:=(0<=(↑d:Int)/\Mr a d)/\a.1≠noA/\∃c,∃(g:Nat),∃(h:Nat),BO a e d g c h/\Ji ((↑f:Int)<(↑g:Int)) (nO a e d f) (nS a e d)
 def nM:=(∃(c:Nat),(↑d:Int)=(↑d:Int)/\(↑c:Int)=0/\Wb a e (True/\True))/\∀(h:Nat),True->nN a e d h
 def nL:=Ji (Mr a d) (nM a e d) (∃(j:Int×Int×Int),j.1=0/\j.2.1=0/\j.2.2=0/\True/\True)
 def nK:=(∃(c:Nat),(↑c:Int)=0/\Wb a e (c<=length e/\True))/\∀(h:Nat),h<=length e->nL a e h
end
def zf4(S:List AT) (x:SV):qiy P (qef []) (qff [(34,IV)]) Tryz.f20 Hp (zkn) ⟨S,x⟩=(qv S->(∃(p:Pub),True/\qc S x p)->nK x S):=by kernel_rfl
def zhr:=λS x=>Eq.trans (zf4 S x) (by delta Ji Jb Jt Jf BN Wb Mr BO Mq nT nR nQ nO nS nN nM nL nK;exact rfl)
def zfr(x:SV) (L:List Int) (n:Int):qiw P (qef []) (qff [(33,JQ)]) Tryz.f19 Iu (λ_=>{}) ⟨x,L,n⟩=(Yi (x,L,n)->(∃(p:Pub),True/\qb qm x L p)->∃(s:O6×jW),s.1=mkS [84,111,112]/\s.2.2.2.2.1=0/\s.2.1.1=x.1/\s.2.1.2.1=x.2.1/\s.2.1.2.2=x.2.2/\s.2.2.2.1=n/\qa qo s.2.2.2.2.2=[string (mkS [84,111,112])]/\length s.2.2.2.2.2=nat_lit 1/\(size s.1<100/\y8 3 s.2)/\(∀(p:Pub),True/\qb qm x L p->qb qm s.2.1 s.2.2.1 p)/\∀(b:zL),kJ s.2.2.1 s.2.2.2.1 s.2.2.2.2.2 b->(∃(p:Pub),(True/\qb qm x L p)/\GJ.ok b.1 p)->∃(h:GJ×Int),GJ.k h.1=GJ.k b.1/\GJ.n h.1=GJ.n b.1/\GJ.s h.1=GJ.s b.1/\(GJ.y h.1).1=(GJ.y b.1).1/\(GJ.y h.1).2.1=(GJ.y b.1).2.1/\(GJ.y h.1).2.2=(GJ.y b.1).2.2/\(GJ.x h.1).1=(GJ.x b.1).1/\(GJ.x h.1).2.1=(GJ.x b.1).2.1/\(GJ.x h.1).2.2=(GJ.x b.1).2.2/\x.1=s.2.1.1/\x.2.1=s.2.1.2.1/\x.2.2=s.2.1.2.2/\h.2=b.2.1/\(GJ.wf h.1/\n<=h.2/\h.2<=(↑(length L):Int))/\(∀(p:Pub),(True/\qb qm x L p)/\GJ.ok b.1 p->GJ.ok h.1 p)/\True):=by kernel_rfl
section
variable (a:List AT×(Option Addr×Nat×Nat)×Int) (d:SV) (f:KX) (g:GJ×Int) (k:Int) (h:List Int) (b:List AT×(Option Addr×Nat×Nat)×Bool×Int) (m:Prop)
 def AB:=b.2.1.1=a.2.1.1/\b.2.1.2.1=a.2.1.2.1/\b.2.1.2.2=a.2.1.2.2/\m
 def AA:=d.1=f.1.1/\d.2.1=f.1.2.1/\d.2.2=f.1.2.2/\b.2.2.2=g.2/\(qv b.1/\(b.2.2.1=true->b.1≠[])/\k<=b.2.2.2/\b.2.2.2<=(↑(length h):Int))/\(∀c,((True/\qb qm d h c)/\GJ.ok g.1 c)/\qc a.1 a.2.1 c->qc b.1 b.2.1 c)/\True
 def nU:=((!decide (a.2.2=0))=true->∃(c:List AT×(Option Addr×Nat×Nat)×Bool×Int),AB a c (c.2.2.1=false/\AA a d f g k h c))/\((!decide (a.2.2=0))=false->∃(e:List AT×Option Addr×Nat×Nat),e.2.1=a.2.1.1/\e.2.2.1=a.2.1.2.1/\e.2.2.2=a.2.1.2.2/\qv e.1/\(∀i,((True/\qb qm d h i)/\GJ.ok g.1 i)/\qc a.1 a.2.1 i->qc e.1 e.2 i)/\∀(l:Int×Int×Int),True->∃(j:List AT×(Option Addr×Nat×Nat)×Bool×Int),AB a j (j.2.2.1=decide (l.1=0)/\AA a d f g k h j))
end
def znx(x:SV) (L:List Int) (n:Int):qiy P (qef []) (qff [(19,Iu),(18,Ok),(20,Hp)]) Tryz.f9 OD (λ_=>{}) ⟨x,L,n⟩=(Yi (x,L,n)->(∃(p:Pub),True/\qb qm x L p)->∃(s:KX),s.1.1=x.1/\s.1.2.1=x.2.1/\s.1.2.2=x.2.2/\s.2.2=n/\Yi s/\(∀(p:Pub),True/\qb qm x L p->qb qm s.1 s.2.1 p)/\∀(b:GJ×Int),GJ.wf b.1/\s.2.2<=b.2/\b.2<=(↑(length s.2.1):Int)->(∃(p:Pub),(True/\qb qm x L p)/\GJ.ok b.1 p)->∃(s_1:GJ),GJ.k s_1=GJ.k b.1/\GJ.n s_1=GJ.n b.1/\GJ.s s_1=GJ.s b.1/\(GJ.y s_1).1=(GJ.y b.1).1/\(GJ.y s_1).2.1=(GJ.y b.1).2.1/\(GJ.y s_1).2.2=(GJ.y b.1).2.2/\(GJ.x s_1).1=(GJ.x b.1).1/\(GJ.x s_1).2.1=(GJ.x b.1).2.1/\(GJ.x s_1).2.2=(GJ.x b.1).2.2/\GJ.wf s_1/\(∀(p:Pub),(True/\qb qm x L p)/\GJ.ok b.1 p->GJ.ok s_1 p)/\∀(h:List AT×(Option Addr×Nat×Nat)×Int),qv h.1/\(h.2.2=0->h.1≠[])->(∃(p:Pub),((True/\qb qm x L p)/\GJ.ok b.1 p)/\qc h.1 h.2.1 p)->nU h x s b n L):=by kernel_rfl
def zwk:=λx L n=>Eq.trans (znx x L n) (by delta AB AA nU;exact rfl)
def zkf:q1i P 34 IV:=by refine zI (qbu (qfr W7 qil)) (qcl (qfq j97 qik)) (W:=λ_=>{}) Tryz.func34 λ⟨S,(x:SV),(t:Int),g⟩=>(zke S x t g).mpr ?_;rintro⟨hS,u⟩ ⟨p,_,hx,A⟩;have sl:x.2.1=S.length:=hx.1.1;simp only[qy,exists_const,forall_const,Int.toNat_natCast];refine⟨⟨x,t⟩,rfl,rfl,rfl,rfl,λh=>⟨⟨1,zV⟩,rfl,rfl,rfl,rfl,rfl,rfl,rfl,rfl,rfl,rfl,λq hq=>kL q⟩,λh=> ?_⟩;simp only[sl,Bool.and_eq_true,decide_eq_true_eq]at h;refine⟨⟨S,x,0,t,g,1⟩,rfl,rfl,rfl,rfl,rfl,rfl,rfl,rfl,rfl,rfl,rfl,rfl,rfl,rfl,rfl,⟨hS,h,u,⟨(by show(0:Int)<=0;decide),(by show(0:Int)<=2000;decide)⟩,(by show(1:Int)<=1;decide),(by show(1:Int)<=21;decide)⟩,λq hq=>hq,?_⟩;rintro⟨a,e,v⟩ _ _;exact⟨λ_=>⟨⟨e,zV⟩,rfl,rfl,rfl,rfl,rfl,rfl,rfl,rfl,rfl,rfl,λq hq=>kL q⟩,λ_=>⟨⟨0,v⟩,rfl,rfl,rfl,rfl,rfl,rfl,rfl,rfl,rfl,rfl,λq hq=>hq.2⟩⟩
def zhs:q1i P 20 Hp:=by
  refine zI (qbu qil) (qcl (qfq zkf qik)) (W:=zkn) Tryz.func20 λ⟨S,(x:SV)⟩=>(zhr S x).mpr ?_;rintro hS ⟨p,_,hx⟩;have sl:x.2.1=S.length:=hx.1.1;have X:=hS.1;simp only[qy,exists_const,forall_const,Int.toNat_natCast,sl];refine⟨⟨0,rfl,Nat.zero_le _⟩,?_⟩;rintro j hj;refine⟨λhlt=>⟨⟨0,rfl⟩,λk=> ?_⟩,λY=>⟨⟨0,0,0⟩,rfl,rfl,rfl⟩⟩;have A:j<S.length:=by omega
  have u:=λq (hq:qc S x q)=>yp hq A;have h:=λq (hq:qc S x q)=>hq.2 S[j] (List.getElem_mem A);have H:=hS.2 S[j] (List.getElem_mem A);generalize S[j]=a at*;obtain⟨_,_,V,_⟩:=uD (h p hx);have U:=H.2.2.2.2.2.2.2.1;have T:∀q,qc S x q->q2u q ((adr x.1 (j*10)).add 8) [.slice a.f.1 a.fs.length a.f.2.2]:=λq hq i v hi=>by
    cases i with
    | zero=>
      rw[←V]at hi;have:=(u q hq).2 8 v hi;rw[Addr.add_add];exact this
    |succ i=>simp at hi
  refine⟨⟨by omega,by omega⟩,(u p hx).1,a.f.1,a.fs.length,a.f.2.2,T,λZ=>⟨⟨by omega,by omega⟩,(u p hx).1,a.f.1,a.fs.length,a.f.2.2,T,⟨by omega,by omega⟩,?_⟩,λZ=>⟨⟨by omega,by omega⟩,j+1,by omega,by omega,by omega⟩⟩;have C:k<a.fs.length:=by omega
  have N:=H.2.2.2.2.1 _ (List.getElem_mem C);have J:=λq (hq:qc S x q)=>(h q hq).2.2.2.2 a.fs[k] (List.getElem_mem C);have G:=λq (hq:qc S x q)=>vV (h q hq) C;have O:k<100:=by omega
  generalize a.fs[k]=f at*;refine⟨(G p hx).1,f.nm,f.al.1,f.al.2.1,f.al.2.2,f.ty,f.hd,f.df.k,f.df.n,f.df.s,f.df.y.1,f.df.y.2.1,f.df.y.2.2,f.df.x.1,f.df.x.2.1,f.df.x.2.2,λq hq=>(G q hq).2,λ_=>⟨⟨by omega,by omega⟩,k+1,by omega,by omega⟩,λ_=>⟨⟨S,x,f.ty,f.df⟩,rfl,sl,rfl,rfl,rfl,rfl,rfl,rfl,rfl,rfl,rfl,rfl,rfl,⟨hS,N.2⟩,λq hq=>⟨hq,(J q hq).2⟩,?_⟩⟩;rintro⟨e,v⟩ _;exact⟨λ_=>⟨⟨e,j,k⟩,rfl,rfl,rfl⟩,λ_=>⟨⟨by omega,by omega⟩,k+1,by omega,λq hq=>hq.1,by omega⟩⟩
def zfs:q1i P 19 Iu:=by refine qi5 mixed (qbu qil) (qcl (qfq zq4 qik)) (W:=λ_=>{}) Tryz.func19 (by kernel_rfl) (show 1<=2 by decide) (show 2<=2 by decide) (λs=>by kernel_rfl) λ⟨(x:SV),L,(n:Int)⟩=>(zfr x L n).mpr ?_;rintro⟨h,u,hL⟩ ⟨p,_,hx⟩;simp only[qy,exists_const,forall_const,Int.toNat_natCast];refine⟨⟨mkS [84,111,112],x,L,n,0,[mkS [84,111,112]]⟩,rfl,rfl,rfl,rfl,rfl,rfl,rfl,rfl,⟨(by show(3:Nat)<100;decide),⟨h,u,hL,(by show(0:Int)<=0;decide),(by show(0:Int)<=3;decide),(by show((1:Nat):Int)<=n+1;omega),λt A=>(by simp at A;subst A;show 3<100;decide)⟩⟩,λq hq=>hq,?_⟩;rintro⟨g,n',N'⟩ ⟨hw,C,G,_⟩ _;exact⟨⟨g,n'⟩,rfl,rfl,rfl,rfl,rfl,rfl,rfl,rfl,rfl,rfl,rfl,rfl,rfl,⟨hw,C,G⟩,λq hq=>hq.2⟩
def zwl:q1i P 9 OD:=by refine zI (qbu qil) (qcl (qfq zfs (qfq zow (qfq zhs qik)))) (W:=λ_=>{}) Tryz.func9 λ⟨(x:SV),L,(n:Int)⟩=>(zwk x L n).mpr ?_;rintro⟨A,C,hL⟩ ⟨p,_,hx⟩;simp only[qy,exists_const,forall_const,Int.toNat_natCast];refine⟨⟨x,L,n⟩,rfl,rfl,rfl,rfl,⟨A,C,hL⟩,λq hq=>hq,?_⟩;rintro⟨g,n'⟩ ⟨hw,G,H⟩ _;refine⟨g,rfl,rfl,rfl,rfl,rfl,rfl,rfl,rfl,rfl,hw,λq hq=>hq.2,?_⟩;rintro⟨S,y,e⟩ ⟨hS,u⟩ _;simp only at hS u⊢;refine⟨λhe=>⟨⟨S,y,false,n'⟩,rfl,rfl,rfl,rfl,trivial,trivial,trivial,rfl,⟨hS,λh=>(by cases h),G,H⟩,λq hq=>hq.2⟩,λhe=>⟨⟨S,y⟩,rfl,rfl,rfl,hS,λq hq=>hq.2,?_⟩⟩;rintro⟨e2,t,i⟩;exact⟨⟨S,y,decide (e2=0),n'⟩,rfl,rfl,rfl,rfl,trivial,trivial,trivial,rfl,⟨hS,λ_=>u he,G,H⟩,λq hq=>hq.2⟩
section
def qe(R:List Int) (t:Int):Int:=R.getD t.toNat (-1)
def kB(a:AT):Int:=if a.k=9\/a.k=14 then -1 else 0
def vg(R:List Int):List Int->Int->Int
 | [],m=>m
 |b::l,m=>vg R l (if 0<=qe R b/\(m<0\/qe R b<m)then qe R b else m)
def kR(R:List Int):List AF->Int->Int
 | [],m=>m+1
 |f::l,m=>if qe R f.ty<0 then -1 else kR R l (if m<qe R f.ty then qe R f.ty else m)
def yg(R:List Int) (a:AT):Int:=if a.k=14 then(if vg R a.brs (-1)<0 then -1 else vg R a.brs (-1)+1)else kR R a.fs 0
def wO(S:List AT) (R:List Int):List Int:=List.zipWith (λa r=>if 0<=r then r else yg R a) S R
def zD(S:List AT):Nat->List Int
 |0=>S.map kB
 |k+1=>wO S (zD S k)
def qA(S:List AT):List Int:=zD S (S.length+1)
def yD(R B:List Int):Nat->Nat->Nat->Nat
 |0,i,m=>m
 |c+1,i,m=>yD R B c (i+1) (if 0<=qe R (B.getD i 0)/\(qe R (B.getD m 0)<0\/qe R (B.getD i 0)<qe R (B.getD m 0))then i else m)
def zq(R B:List Int):Nat:=yD R B B.length 0 0
def kG(a b:Int):Int:=if 1000000<a+b then 1000000 else a+b
def wfs(W:List Int) (i:Nat):List AF->List Int
 | []=>W
 |f::l=>wfs (W.set i (kG (qe W i) (qe W f.ty))) i l
def wU(R W:List Int) (i:Nat) (a:AT):List Int:=if a.k=14 then(W.set i 1).set i (kG (qe (W.set i 1) i) (qe (W.set i 1) (a.brs.getD (zq R a.brs) 0)))else W.set i 1
def w1(R W:List Int) (i:Nat) (a:AT):List Int:=wfs (wU R W i a) i a.fs
def QY(S:List AT) (R:List Int) (k:Int):Nat->Nat->List Int->List Int
 |0,i,W=>W
 |c+1,i,W=>QY S R k c (i+1) (if qe R i=k then w1 R W i (S.getD i zA)else W)
def wall(S:List AT) (R:List Int):Nat->Int->List Int->List Int
 |0,k,W=>W
 |c+1,k,W=>wall S R c (k+1) (QY S R k S.length 0 W)
def wts(S:List AT) (R:List Int):List Int:=wall S R (S.length+1) 0 (List.replicate S.length 0)
def zN(S:List AT) (t:Int):Bool:=(decide (0<=t)&&decide (t<(S.length:Int)))&&decide (0<=qe (qA S) t)&&decide (qe (wts S (qA S)) t<=2000)
def I8(R:List Int) (i:Nat):qe R i=R.getD i (-1):=by unfold qe;rw[Int.toNat_natCast]
variable {R:List Int}
def wS{i:Nat} (h:i<R.length):qe R i=R[i]:=by rw[I8,List.getD_eq_getElem?_getD,List.getElem?_eq_getElem h];rfl
def zyr{i:Nat} (h:i<R.length):qe R i∈R:=by rw[wS h];exact List.getElem_mem h
def HD(S:List AT) (R:List Int) (h:R.length=S.length):(wO S R).length=S.length:=by unfold wO;simp[h]
def Zx(S:List AT):∀k,(zD S k).length=S.length
 |0=>by rw[zD];simp
 |k+1=>by rw[zD];exact HD S _ (Zx S k)
variable {S:List AT}
def Ox(h:R.length=S.length) {i:Nat} (hi:i<S.length):qe (wO S R) i=if 0<=qe R i then qe R i else yg R S[i]:=by rw[wS (by rw[HD S R h];exact hi),wS (by omega)];unfold wO;simp
def IN(R:List Int):∀(l:List Int) (m:Int), -1<=m-> -1<=vg R l m/\(0<=vg R l m->vg R l m=m\/∃b∈l,qe R b=vg R l m)
  | [],m,h=>by rw[vg];exact⟨h,λ_=> .inl rfl⟩
  | b ::l,m,h=>by
    rw[vg];split;next H=>
      obtain⟨C,G⟩:=IN R l (qe R b) (by omega);refine⟨C,λA=> .inr ?_⟩;rcases G A with e|⟨c,u,e⟩
      · exact⟨b,List.mem_cons_self,e.symm⟩
      · exact⟨c,List.mem_cons_of_mem _ u,e⟩
    next H=>
      obtain⟨C,G⟩:=IN R l m h;refine⟨C,λA=> ?_⟩;rcases G A with e|⟨c,u,e⟩
      · exact .inl e
      · exact .inr ⟨c,List.mem_cons_of_mem _ u,e⟩
def IY (R:List Int):∀(l:List AF) (m:Int),0<=m->kR R l m= -1\/(m<kR R l m/\(∀f∈l,0<=qe R f.ty/\qe R f.ty<kR R l m)/\(kR R l m=m+1\/∃f∈l,qe R f.ty+1=kR R l m))
  | [],m,h=>by rw[kR];exact .inr ⟨by omega,λf u=>(by cases u), .inl rfl⟩
  | g :: l, m,h=>by
    rw[kR];split
    · exact .inl rfl
    next H =>
      split;next hm=>
        rcases IY R l (qe R g.ty) (by omega)with e|⟨A,C,G⟩
        · exact .inl e
        · refine .inr ⟨by omega,λf u=> ?_, .inr ?_⟩
          · rcases List.mem_cons.1 u with rfl|u
            · exact⟨by omega,A⟩
            · exact C f u
          · rcases G with e|⟨f,u,e⟩
            · exact⟨g,List.mem_cons_self,e.symm⟩
            · exact⟨f,List.mem_cons_of_mem _ u,e⟩
      next hm=>
        rcases IY R l m h with e|⟨A,C,G⟩
        · exact .inl e
        · refine .inr ⟨A,λf u=> ?_,?_⟩
          · rcases List.mem_cons.1 u with rfl|u
            · exact⟨by omega,by omega⟩
            · exact C f u
          · rcases G with e|⟨f,u,e⟩
            · exact .inl e
            · exact .inr ⟨f,List.mem_cons_of_mem _ u,e⟩
def yC(S:List AT) (R:List Int) (K:Int):Prop:=R.length=S.length/\∀(i:Nat) (h:i<S.length),(-1<=qe R i/\qe R i<=K)/\(S[i].k≠9->S[i].k≠14->qe R i=0)/\(S[i].k=9->0<=qe R i->∀f∈S[i].fs,0<=qe R f.ty/\qe R f.ty<qe R i)/\(S[i].k=14->0<=qe R i->∃b∈S[i].brs,0<=qe R b/\qe R b<qe R i)/\(2<=qe R i->∃j,j<S.length/\qe R j+1=qe R i)
def vy{n:Nat} {t:Int} (h:0<=t/\t<n):∃j:Nat,j<n/\t=(j:Int):=by obtain⟨j,rfl⟩:=Int.eq_ofNat_of_zero_le h.1;exact⟨j,by omega,rfl⟩
def znl {K:Int} (hS:qv S) (h:yC S R K) (hK:0<=K):yC S (wO S R) (K+1):=by
 obtain⟨V,h⟩:=h;refine⟨HD S R V,λi hi=> ?_⟩;have hg:=hS.2 S[i] (List.getElem_mem hi);have keep:∀t:Int,(0<=t/\t<(S.length:Int))->0<=qe R t->qe (wO S R) t=qe R t:=λt X O=>by obtain⟨j,J,rfl⟩:=vy X;rw[Ox V J,if_pos O]
 have Z:∀t:Int,(0<=t/\t<(S.length:Int))->qe R t<=K:=λt X=>by obtain⟨j,J,rfl⟩:=vy X;exact(h j J).1.2
 obtain⟨⟨b1,b2⟩,p1,p2,p3,p4⟩:=h i hi;have H:=λf (C:f∈S[i].fs)=>(hg.2.2.2.2.1 f C).1;have G:=hg.2.2.1;rw[Ox V hi];split;next O=>
  refine⟨⟨b1,by omega⟩,p1,λU _ f C=> ?_,λU _=> ?_,λT=> ?_⟩
  ·have:=p2 U O f C;rw[keep _ (H f C) this.1];exact this
  ·obtain⟨b,A,q1,q2⟩:=p3 U O;exact⟨b,A,by rw[keep _ (G b A) q1];exact⟨q1,q2⟩⟩
  ·obtain⟨j,J,e⟩:=p4 T;exact⟨j,J,by rw[keep j ⟨by omega,by omega⟩ (by omega)];exact e⟩
 next O =>
  unfold yg;by_cases u:S[i].k=14
  ·rw [if_pos u];obtain⟨c1,c2⟩:=IN R S[i].brs (-1) (by omega);split;next hn=>exact⟨⟨by omega,by omega⟩,λ_ h=>absurd u h,λh=>absurd h (by omega),λ_ h=>absurd h (by omega),λh=>absurd h (by omega)⟩
   next hn=>
    rcases c2 (by omega)with e|⟨b,A,e⟩
    ·omega
    ·have:=Z b (G b A);refine⟨⟨by omega,by omega⟩,λ_ h=>absurd u h,λh=>absurd h (by omega),λ_ _=>⟨b,A,?_⟩,λT=> ?_⟩
     ·rw[keep _ (G b A) (by omega)];omega
     ·obtain⟨j,J,rfl⟩:=vy (G b A);exact⟨j,J,by rw[keep j ⟨by omega,by omega⟩ (by omega)];omega⟩
  ·rw [if_neg u];by_cases N:S[i].k=9
   ·rcases IY R S[i].fs 0 (by omega)with e|⟨h1,T,Y⟩
    ·rw[e];exact⟨⟨by omega,by omega⟩,λh=>absurd N h,λ_ h=>absurd h (by omega),λh=>absurd h u,λh=>absurd h (by omega)⟩
    ·refine⟨⟨by omega,?_⟩,λh=>absurd N h,λ_ _ f C=> ?_,λh=>absurd h u,λh2'=> ?_⟩
     ·rcases Y with e|⟨f,C,e⟩
      ·omega
      ·have:=Z f.ty (H f C);omega
     ·have:=T f C;rw[keep _ (H f C) this.1];exact this
     ·rcases Y with e|⟨f,C,e⟩
      ·omega
      ·have:=T f C;obtain⟨j,J,ej⟩:=vy (H f C);rw[ej]at this e;exact⟨j,J,by rw[keep j ⟨by omega,by omega⟩ this.1];omega⟩
   ·exact absurd (p1 N u) (by omega)
def znm(S:List AT):yC S (S.map kB) 0:=by
 refine⟨by simp,λi hi=> ?_⟩;have e:qe (S.map kB) i=kB S[i]:=by rw[wS (by simpa using hi)];simp
 rw[e];unfold kB;split;next h=>exact⟨⟨by omega,by omega⟩,λu A=>by omega,λ_ h=>absurd h (by omega),λ_ h=>absurd h (by omega),λh=>absurd h (by omega)⟩
 next h=>exact⟨⟨by omega,by omega⟩,λ_ _=>rfl,λu=>absurd (Or.inl u) h,λu=>absurd (Or.inr u) h,λh=>absurd h (by omega)⟩
def OC{S:List AT} (hS:qv S):∀k:Nat,yC S (zD S k) k
  |0=>znm S
  | k+1=>by have:=znl hS (OC hS k) (by omega);rw[zD];exact this
def Yb(hS:qv S):yC S (qA S) (S.length+1):=by have:=OC hS (S.length+1);unfold qA;exact this
def zdx:∀{l R:List Int},l.Nodup->(∀x∈l,x∈R)->l.length<=R.length
  | [],R,_,_=>Nat.zero_le _
  | x::l,R,u,h=>by rw[List.nodup_cons]at u;have hx:=h x List.mem_cons_self;have:=zdx (l:=l) (R:=R.erase x) u.2 λy A=>(List.mem_erase_of_ne (λe=>by subst e;exact u.1 A)).2 (h y (List.mem_cons_of_mem _ A));rw[List.length_erase_of_mem hx]at this;have C:0<R.length:=List.length_pos_of_mem hx;rw[List.length_cons];omega
def jin{S:List AT} {R:List Int} {K:Int} (h:yC S R K) {i:Nat} (hi:i<S.length):qe R i<=S.length:=by
  obtain⟨O,h⟩:=h;have down:∀d:Nat,∀j,j<S.length->qe R j=d->∀m:Nat,1<=m->m<=d->(m:Int)∈R:=by
    intro d;induction d with
    |zero=>intro j C e m A G;omega
    | succ d H=>
      intro j C e m A G;by_cases hm:m=d+1
      · have:=zyr (R:=R) (i:=j) (by omega);rw[e]at this;rw[hm];exact this
      · obtain⟨J,u,e2⟩:=(h j C).2.2.2.2 (by omega);exact H J u (by omega) m A (by omega)
  by_cases N:qe R i<=0
  · omega
  obtain⟨d,hd⟩:=Int.eq_ofNat_of_zero_le (show 0<=qe R i by omega);have hs:=down d i hi hd;have:=zdx (l:=(List.range d).map λ(m:Nat)=>((m+1:Nat):Int)) (R:=R) (by unfold List.Nodup;rw[List.pairwise_map];exact(List.nodup_range (n:=d)).imp λ{a b} h e=>h (by simp at e;omega)) λx hx=>by obtain⟨m,hm,rfl⟩:=List.mem_map.1 hx;rw[List.mem_range]at hm;exact hs (m+1) (by omega) (by omega)
  simp at this;omega
end
section
def HV(R B:List Int):∀(c i m:Nat),c+i=B.length->m<B.length->yD R B c i m<B.length/\(0<=qe R (B.getD m 0)->0<=qe R (B.getD (yD R B c i m) 0)/\qe R (B.getD (yD R B c i m) 0)<=qe R (B.getD m 0))/\∀j,i<=j->j<B.length->0<=qe R (B.getD j 0)->0<=qe R (B.getD (yD R B c i m) 0)/\qe R (B.getD (yD R B c i m) 0)<=qe R (B.getD j 0)
  |0,i,m,h,hm=>by rw[yD];exact⟨hm,λh=>⟨h,by omega⟩,λj G u=>by omega⟩
  | c + 1,i,m,h,hm=>by
    rw[yD];split;next N=>
      obtain⟨G,u,H⟩:=HV R B c (i+1) i (by omega) (by omega);have u:=u N.1;refine⟨G,λO=>⟨u.1,by omega⟩,λj J A C=> ?_⟩;by_cases e:j=i
      · subst e;exact u
      · exact H j (by omega) A C
    next N=>
      obtain⟨G,u,H⟩:=HV R B c (i+1) m (by omega) hm;refine⟨G,u,λj J A C=> ?_⟩;by_cases e:j=i
      · subst e;have:=u (by omega);exact⟨this.1,by omega⟩
      · exact H j (by omega) A C
def HU{R B:List Int} (h:B≠[]):zq R B<B.length:=by have:0<B.length:=List.length_pos_iff.2 h;exact(HV R B B.length 0 0 (by omega) this).1
def W1{B:List Int} {i:Nat} (h:i<B.length):B.getD i 0∈B:=by rw[List.getD_eq_getElem?_getD,List.getElem?_eq_getElem h];exact List.getElem_mem h
variable {S:List AT} {R:List Int} {K:Int}
def Hw(h:yC S R K) {i:Nat} (hi:i<S.length) (J:S[i].k=14) (A:0<=qe R i):zq R S[i].brs<S[i].brs.length/\0<=qe R (S[i].brs.getD (zq R S[i].brs) 0)/\qe R (S[i].brs.getD (zq R S[i].brs) 0)<qe R i:=by
 obtain⟨b,H,C,G⟩:=(h.2 i hi).2.2.2.1 J A;obtain⟨j,u,rfl⟩:=List.getElem_of_mem H;have:=(HV R S[i].brs S[i].brs.length 0 0 (by omega) (by omega)).2.2 j (by omega) u;have ej:S[i].brs.getD j 0=S[i].brs[j]:=by rw[List.getD_eq_getElem?_getD,List.getElem?_eq_getElem u];rfl
 rw[ej]at this;have:=this C;exact⟨HU (λe=>by rw[e]at u;simp at u),this.1,Int.lt_of_le_of_lt this.2 G⟩
variable {W:List Int}
def Qy{i j:Nat} (hi:i<W.length) (v:Int):qe (W.set i v) j=if j=i then v else qe W j:=by
 rw[I8,I8,List.getD_eq_getElem?_getD,List.getD_eq_getElem?_getD];by_cases h:j=i
 ·subst h;rw[List.getElem?_set_self hi,if_pos rfl];rfl
 ·rw[List.getElem?_set_ne (λe=>h e.symm),if_neg h]
def V1{i:Nat} {t:Int} (hi:i<W.length) (v:Int) (u:0<=t):qe (W.set i v) t=if t=i then v else qe W t:=by
 obtain⟨j,rfl⟩:=Int.eq_ofNat_of_zero_le u;rw[Qy hi];by_cases h:j=i
 ·subst h;rw[if_pos rfl,if_pos rfl]
 ·rw[if_neg h,if_neg (by omega)]
def WB(n:Nat) (W:List Int):Prop:=W.length=n/\∀i,i<n->0<=qe W i/\qe W i<=1000000
def H8{n:Nat} (h:WB n W) {t:Int} (A:0<=t/\t<n):0<=qe W t/\qe W t<=1000000:=by obtain⟨j,u,rfl⟩:=vy A;exact h.2 j u
def V7{n:Nat} (h:WB n W) {i:Nat} (hi:i<n) {v:Int} (A:0<=v/\v<=1000000):WB n (W.set i v):=by
 refine⟨by rw[List.length_set];exact h.1,λj u=> ?_⟩;rw[Qy (by have:=h.1;omega)];split
 ·exact A
 ·exact h.2 j u
def H5{a b:Int} (h:0<=a) (u:0<=b):0<=kG a b/\kG a b<=1000000:=by unfold kG;split<;>omega
def jh(W:List Int):List AF->Int
 | []=>0
 |f::l=>qe W f.ty+jh W l
def Yg(n:Nat) (l:List AF):Prop:=∀f∈l,0<=f.ty/\f.ty<n
def IE{n:Nat} {W:List Int} (h:WB n W):∀{l:List AF},Yg n l->0<=jh W l
  | [],_=>Int.le_refl _
  | f::l,u=>by have C:=H8 h (u f List.mem_cons_self);have G:=IE h (l:=l) λg A=>u g (List.mem_cons_of_mem _ A);rw[jh];omega
def G6{W V:List Int}:∀{l:List AF},(∀f∈l,qe V f.ty=qe W f.ty)->jh V l=jh W l
 | [],_=>rfl
 |f::l,h=>by rw[jh,jh,h f List.mem_cons_self,G6 λg u=>h g (List.mem_cons_of_mem _ u)]
def zjv{n:Nat} {W:List Int} (h:WB n W):∀{l:List AF},Yg n l->∀f∈l,qe W f.ty<=jh W l
  | g::l,C,f,u=>by
    have H:=IE h (l:=l) λg A=>C g (List.mem_cons_of_mem _ A);have G:=H8 h (C g List.mem_cons_self);rw[jh];rcases List.mem_cons.1 u with rfl|u
    · omega
    · have:=zjv h (λg A=>C g (List.mem_cons_of_mem _ A)) f u;omega
def zw5{n:Nat} {i:Nat} (hi:i<n):∀{l:List AF} {W:List Int},WB n W->Yg n l->WB n (wfs W i l)/\(∀t:Int,0<=t->t≠i->qe (wfs W i l) t=qe W t)/\qe W i<=qe (wfs W i l) i/\((∀f∈l,f.ty≠i)->kG (qe W i) (jh W l)<=qe (wfs W i l) i)
  | [],W,h,J=>by rw[wfs,jh];refine⟨h,λ_ _ _=>rfl,Int.le_refl _,λ_=> ?_⟩;have:=h.2 i hi;unfold kG;split<;>omega
  | f ::l,W,h,J=>by
    have A:i<W.length:=by have:=h.1;omega
    have X:=H8 h (J f List.mem_cons_self);have V:=h.2 i hi;have hw:=V7 h hi (H5 V.1 X.1);have C:Yg n l:=λg G=>J g (List.mem_cons_of_mem _ G);obtain⟨T,U,N,H⟩:=zw5 hi hw C;rw[Qy A,if_pos rfl]at N H;rw[wfs];refine⟨T,λt O u=> ?_,?_,λu=> ?_⟩
    · rw[U t O u,V1 A _ O,if_neg u]
    · refine Int.le_trans ?_ N;unfold kG;split<;>omega
    · have H:=H λg G=>u g (List.mem_cons_of_mem _ G);have e:jh (W.set i (kG (qe W i) (qe W f.ty))) l=jh W l:=G6 λg G=>(by rw[V1 A _ (C g G).1,if_neg (u g (List.mem_cons_of_mem _ G))]);rw[e]at H;have hp:=IE h C;refine Int.le_trans ?_ H;rw[jh];unfold kG
      (repeat' split)<;>omega
def WI(R W:List Int) (i:Nat) (a:AT):Prop:=1<=qe W i/\(a.k=9->kG 1 (jh W a.fs)<=qe W i)/\(a.k=14->kG 1 (qe W (a.brs.getD (zq R a.brs) 0))<=qe W i)
def jix{R W:List Int} (hS:qv S) (h:yC S R K) (hW:WB S.length W) {i:Nat} (hi:i<S.length) (h0:0<=qe R i):WB S.length (w1 R W i S[i])/\(∀t:Int,0<=t->t≠i->qe (w1 R W i S[i]) t=qe W t)/\WI R (w1 R W i S[i]) i S[i]:=by
 have hg:=hS.2 S[i] (List.getElem_mem hi);have N:Yg S.length S[i].fs:=λf N=>(hg.2.2.2.2.1 f N).1;have C:i<W.length:=by have:=hW.1;omega
 have hr:=h.2 i hi;have A:WB S.length (wU R W i S[i])/\(∀t:Int,0<=t->t≠i->qe (wU R W i S[i]) t=qe W t)/\1<=qe (wU R W i S[i]) i/\(S[i].k≠14->qe (wU R W i S[i]) i=1)/\(S[i].k=14->qe (wU R W i S[i]) i=kG 1 (qe W (S[i].brs.getD (zq R S[i].brs) 0))):=by
  have U:=V7 hW hi (v:=1) (by omega);have G:i<(W.set i 1).length:=by rw[List.length_set];exact C
  unfold wU;split;next H=>
   obtain⟨Y,c2,Z⟩:=Hw h hi H h0;have O:=hg.2.2.1 _ (W1 Y);have u:S[i].brs.getD (zq R S[i].brs) 0≠(i:Int):=λe=>(by rw[e]at Z;omega);have e1:qe (W.set i 1) i=1:=(by rw[Qy C,if_pos rfl]);have e2:qe (W.set i 1) (S[i].brs.getD (zq R S[i].brs) 0)=qe W (S[i].brs.getD (zq R S[i].brs) 0):=(by rw[V1 C _ O.1,if_neg u]);rw[e1,e2];have hv:=H8 hW O;refine⟨V7 U hi (H5 (by omega) hv.1),λt J u=> ?_,?_,λh=>absurd H h,λ_=> ?_⟩
   ·rw[V1 G _ J,if_neg u,V1 C _ J,if_neg u]
   ·rw[Qy G,if_pos rfl];unfold kG;split<;>omega
   ·rw[Qy G,if_pos rfl]
  next H=>
   refine⟨U,λt J u=>by rw[V1 C _ J,if_neg u],by rw[Qy C,if_pos rfl];exact Int.le_refl _,λ_=>by rw[Qy C,if_pos rfl],λh=>absurd h H⟩
 obtain⟨A1,A2,A3,A4,A5⟩:=A;obtain⟨b1,X,b3,V⟩:=zw5 hi A1 N;unfold w1;refine⟨b1,λt J u=>by rw[X t J u,A2 t J u],by omega,λH=> ?_,λH=> ?_⟩
 ·have hlt:=hr.2.2.1 H h0;have u:∀f∈S[i].fs,f.ty≠(i:Int):=λf N e=>by have:=hlt f N;rw[e]at this;omega
  have V:=V u;rw[A4 (by omega)]at V;rw[G6 (W:=wU R W i S[i]) λf T=>X f.ty (N f T).1 (u f T)];exact V
 ·obtain⟨Y,c2,Z⟩:=Hw h hi H h0;have O:=hg.2.2.1 _ (W1 Y);have u:S[i].brs.getD (zq R S[i].brs) 0≠(i:Int):=λe=>by rw[e]at Z;omega
  rw[X _ O.1 u,A2 _ O.1 u,←A5 H];exact b3
def WK(S:List AT) (R:List Int) (k:Int) (i:Nat) (W:List Int):Prop:=WB S.length W/\∀(j:Nat) (h:j<S.length),0<=qe R j->(qe R j<k\/qe R j=k/\j<i)->WI R W j S[j]
def zwh{R W:List Int} {K k:Int} (hS:qv S) (h:yC S R K) (hk:0<=k) {i:Nat} (hi:i<S.length) (U:WK S R k i W):WK S R k (i+1) (if qe R i=k then w1 R W i (S.getD i zA)else W):=by
 have e:S.getD i zA=S[i]:=by rw[List.getD_eq_getElem?_getD,List.getElem?_eq_getElem hi];rfl
 rw[e];split;next hr=>
  obtain⟨a1,H,a3⟩:=jix hS h U.1 hi (by omega);refine⟨a1,λj A J hc=> ?_⟩;by_cases G:j=i
  ·subst G;exact a3
  have hw:=U.2 j A J (by omega);have Z:=λT=>(h.2 j A).2.2.1 T J;have Y:=λf (V:f∈S[j].fs)=>((hS.2 S[j] (List.getElem_mem A)).2.2.2.2.1 f V).1.1;have X:=λb (hb:b∈S[j].brs)=>((hS.2 S[j] (List.getElem_mem A)).2.2.1 b hb).1;have u:(j:Int)≠(i:Int):=by omega
  have C:0<=(j:Int):=by omega
  have O:qe R j<=k:=by omega
  rw[←hr]at O;have ne:∀t:Int,qe R t<qe R j->t≠(i:Int):=λt h1 e=>by rw[e]at h1;exact absurd O (Int.not_le.2 h1)
  refine⟨by rw[H j C u];exact hw.1,λT=> ?_,λN=> ?_⟩
  ·rw[G6 (W:=W) λf V=>H f.ty (Y f V) (ne _ (Z T f V).2),H j C u];exact hw.2.1 T
  ·obtain⟨c1,c2,c3⟩:=Hw h A N J;rw[H _ (X _ (W1 c1)) (ne _ c3),H j C u];exact hw.2.2 N
 next hr=>exact⟨U.1,λj A J hc=>U.2 j A J (by
  by_cases G:j=i
  ·subst G;omega
  ·omega)⟩
def zl8{S:List AT} {R:List Int} {K k:Int} (hS:qv S) (h:yC S R K) (C:0<=k):∀(c i:Nat) (W:List Int),c+i=S.length->WK S R k i W->WK S R (k+1) 0 (QY S R k c i W)
  | 0,i,W,A,u=>by rw[QY];exact⟨u.1,λj H G A=>u.2 j H G (by omega)⟩
  | c+1,i,W,A,u=>by rw[QY];exact zl8 hS h C c (i+1) _ (by omega) (zwh hS h C (by omega) u)
def zl1{S:List AT} {R:List Int} {K:Int} (hS:qv S) (h:yC S R K):∀(c:Nat) (k:Int) (W:List Int),0<=k->WK S R k 0 W->WK S R (k+c) 0 (wall S R c k W)
  |0,k,W,A,u=>by rw[wall];simpa using u
  | c+1,k,W,A,u=>by rw[wall];have:=zl1 hS h c (k+1) _ (by omega) (zl8 hS h A S.length 0 W (by omega) u);rw[show k+((c+1:Nat):Int)=k+1+c by omega];exact this
def H6(hS:qv S) (h:yC S R K):WB S.length (wts S R)/\∀(j:Nat) (u:j<S.length),0<=qe R j->WI R (wts S R) j S[j]:=by have C:WK S R 0 0 (List.replicate S.length 0):=⟨⟨by simp,λi hi=>by rw[wS (by simpa using hi)];simp⟩,λj u A G=>by omega⟩;have:=zl1 hS h (S.length+1) 0 _ (by omega) C;refine⟨this.1,λj u A=>this.2 j u A (.inl ?_)⟩;have:=jin h u;omega
def uI{t:Int}:zN S t=true↔(0<=t/\t<(S.length:Int))/\0<=qe (qA S) t/\qe (wts S (qA S)) t<=2000:=by unfold zN;simp[and_assoc]
def IX{S:List AT} (hS:qv S) {i:Nat} (hi:i<S.length) (H:S[i].k=9) (h:zN S i=true):1+jh (wts S (qA S)) S[i].fs<=qe (wts S (qA S)) i/\∀f∈S[i].fs,zN S f.ty=true:=by
 obtain⟨_,C,O⟩:=uI.1 h;have G:=Yb hS;obtain⟨w1,N⟩:=H6 hS G;have hw:=(N i hi C).2.1 H;have J:=hS.2 S[i] (List.getElem_mem hi);have A:Yg S.length S[i].fs:=λf A=>(J.2.2.2.2.1 f A).1;have e:1+jh (wts S (qA S)) S[i].fs<=qe (wts S (qA S)) i:=by unfold kG at hw;split at hw<;>omega
 refine⟨e,λf u=>uI.2 ⟨A f u,((G.2 i hi).2.2.1 H C f u).1,?_⟩⟩;have:=zjv w1 A f u;omega
def zj3(hS:qv S) {i:Nat} (hi:i<S.length) (C:S[i].k=14) (h:zN S i=true):1+qe (wts S (qA S)) (S[i].brs.getD (zq (qA S) S[i].brs) 0)<=qe (wts S (qA S)) i:=by obtain⟨_,u,H⟩:=uI.1 h;have A:=Yb hS;obtain⟨w1,G⟩:=H6 hS A;have hw:=(G i hi u).2.2 C;unfold kG at hw;split at hw<;>omega
end
end
end Go.Proofs.YtniogjgfomaicaaGreat.Wd
