/-
  What the functions do: contracts, and their questions answered. No condition but what its theorems ask.
-/
import Derived.Test.YtniogjgfomaicaaGreatT3
import Derived.WalkKit
import Derived.ProofKit
import Derived.OpenShut
import Derived.ShutString
import Derived.ChangeOld
import Derived.Lib.SmallJoins
namespace Go.Proofs.YtniogjgfomaicaaGreat.Wd
open Go.Proofs.YtniogjgfomaicaaGreat.Eng Go.Proofs.YtniogjgfomaicaaGreat.Sen Go.RowKit
set_option linter.defProp false
set_option linter.unusedVariables false
set_option linter.unusedSimpArgs false
set_option maxRecDepth 1000000
open Go.Value (int string slice bool)
open Go.IntKind (i64 u64 u8 u32 i32)
open _root_.List (length take drop)
open _root_.ByteArray (size)
open _root_.Int (toNat)
noncomputable section
def Hd(p:Prop):Prop:=p
set_option maxHeartbeats 8000000 in
def j8c (c:Nat) (hv0:q1i P 31 (wv.below v8 c)):q1i P 62 ((Z7 EJ).below xU (c+1)):=by
 refine zI (qbu (qfr VZ (qfr W3 (qfr IG (qfr G9 qil))))) (qcl (qfq hv0 (qfq Ya qik))) (W:=G1 false) Tryz.func62 λ⟨S,⟨(x:SV),(y:SV),D,(n:Int),(all:Int),(e:Int)⟩,a,(H:Int)⟩=>(zq1 c S x y D n all e a H).mpr ?_;rintro⟨hmu,hok,haS,hk,hd,⟨ha0,ha1⟩,he,hp1,hp2⟩ ⟨p,_,hx,hao,hyl,hy⟩;subst he;have hmu:(25- H).toNat<c+1:=hmu;have hk:a.k=13:=hk;have hmp:decide (a.k=13)=true:=decide_eq_true hk;have hit:=(hok.2.2 a haS).2.2.1 (.inr hk);simp only[qy,exists_const,forall_const,Int.toNat_natCast,hk];refine⟨⟨⟨D.size+1- n.toNat,n,all,0,zV⟩,rfl,rfl,rfl,rfl,rfl,rfl,rfl,rfl,rfl,rfl,rfl,rfl,λq _=>kL q,⟨rfl,rfl,rfl,rfl⟩,⟨⟨hd,Int.le_refl _⟩,⟨Int.le_refl _,by show all<=2001;omega⟩,λ_=>ha1,by show((0:Nat):Int)<=all;omega⟩,(by have:=hd.1;have:=hd.2.1;show(D.size:Int)<((D.size+1- n.toNat:Nat):Int)+n;omega), .inl ⟨rfl,rfl⟩⟩,?_⟩;rintro⟨F,n1,G,e1,u⟩ ⟨⟨u1,u2,u3,u4⟩,⟨⟨c1,c0⟩,⟨c2,c3⟩,c4,c5⟩,cF,cT⟩ ⟨p1,hp1',hfs⟩;simp only at u1 u2 u3 u4 c0 c1 c2 c3 c4 c5 cF cT hfs⊢;have c5:(u.l.length:Int)<=G:=by rw[GV.pvs_len]at c5;exact c5
 have ret:∀(n' A N:Int),qC D n'->n<=n'->all<=A->A<=2001->(N=0->A<=2000)->vu (zW S a H D n all) N (zW S a H D n all= .ok ((u.ks,GV.pvs u.l),n'.toNat,A.toNat))->j1 (wq (zk S D H) D a n.toNat all.toNat) D n all 0 (u,n',A,N):=λn' A N O hn h2 h3 h4 h5=>zvk (u.ks,GV.pvs u.l) (by rw[GV.pv_eq,u1,u2,u3]) O h2 h3 h4 ha0 hn h5;refine⟨λhz=> ?_,λhnz=> ?_⟩
 ·subst hz;have hB:vk (zk S D H a.it) D true F (u.ks,GV.pvs u.l) n1.toNat G.toNat=zW S a H D n all:=by
   rcases cT with⟨_,q⟩|⟨k,q,_⟩
   ·rw[hmp]at q;exact q
   ·omega
  have c4':=c4 rfl;have hh:=Pf (show n1.toNat<=D.size by have:=c1.1;have:=c1.2.1;omega) (show D.size<F+n1.toNat by have:=c1.1;omega) hB;have hl:=Lg c1;refine⟨⟨x,y,D,n1,G,0⟩,rfl,rfl,rfl,rfl,rfl,rfl,rfl,rfl,rfl,c1,λq hq=>hq.1.2.2,?_⟩;simp only[J6 c1,true_and,and_true,eq_self];have hl2:=Lg hl.ok;have hg2:=J6 hl.ok;rw[Int.toNat_natCast]at hl2 hg2;generalize qi D n1.toNat=T at*;obtain⟨v,J,n2⟩:=T;simp only at hh hl hl2 hg2⊢;obtain⟨l1,l0,l2,l3,l4,l5⟩:=hl;obtain⟨m1,m0,m2,m3,m4,m5⟩:=hl2;refine⟨λhe=> ?_,λhe=>⟨λhv=> ?_,λhv=>⟨⟨λhv0=> ?_,λhv0=> ?_⟩,?_⟩⟩⟩
  ·refine⟨⟨u,n2,G,J⟩,rfl,rfl,rfl,rfl,rfl,rfl,rfl,rfl,rfl,rfl,rfl,rfl,ret n2 G J l1 (by omega) c2 c3 (λh=>absurd h he) (yn (hh.1 (by omega)) (by omega)),λq hq=>hq.2⟩
  ·have he0:J=0:=(by omega);subst he0;refine⟨⟨u,n2,G,0⟩,rfl,rfl,rfl,rfl,rfl,rfl,rfl,rfl,rfl,rfl,rfl,rfl,ret n2 G 0 l1 (by omega) c2 c3 (λ_=>c4') (xB rfl (by rw[hh.2.1 rfl hv,Int.toNat_natCast])),λq hq=>hq.2⟩
  ·have er0:J=0:=(by omega);subst er0;refine⟨_,rfl,λhneg=> ?_,λhnn=> ?_⟩
   ·have hvm:v= -9223372036854775808:=by
     by_cases h:v= -9223372036854775808
     ·exact h
     ·rw[Hl (by omega) l4]at hneg;omega
    subst hvm;refine⟨⟨x,y,n2,G,0,2⟩,rfl,rfl,rfl,rfl,rfl,rfl,rfl,rfl,rfl,rfl,⟨x,y,D,n2,G,2⟩,rfl,rfl,rfl,rfl,rfl,rfl,rfl,rfl,rfl,l1,λq hq=>hq.1.2.2,?_⟩;have hbad:qL D n2 2=((0:Int),((n2:Nat):Int),(2:Int)):=(by unfold qL;rw[if_pos (by decide)]);simp only[hbad,true_and,and_true,eq_self];refine⟨λh=>absurd h (by decide),λ_=>⟨⟨D.size+1,_,0,n2,2,u⟩,rfl,rfl,rfl,rfl,rfl,rfl,rfl,rfl,rfl,rfl,rfl,rfl,rfl,λq hq=>hq.2,⟨u1,u2,u3,u4⟩,⟨⟨⟨l1,by show n<=((n2:Nat):Int);omega⟩,⟨c2,c3⟩,λh=>absurd h (by show¬(2:Int)=0;decide),by show((GV.pvs u.l).length:Int)<=_;rw[GV.pvs_len];exact c5⟩,by show IntKind.wrap .i64 (0 - -9223372036854775808)<=_;rw[Hk];decide,by show(D.size:Int)<((D.size+1:Nat):Int)+n2;omega,yn (hh.2.2.2.1 rfl rfl) rfl⟩⟩⟩
   ·have hvm:v≠ -9223372036854775808:=λh=>(by subst h;rw[Hk]at hnn;exact hnn (by decide));have hh5:=hh.2.2.2.2 rfl hv0 hvm;rw[Hl (by omega) l4];refine⟨⟨x,y,D,n2,G,0⟩,rfl,rfl,rfl,rfl,rfl,rfl,rfl,rfl,rfl,l1,λq hq=>hq.1.2.2,?_⟩;simp only[hg2,true_and,and_true,eq_self];have hm0:n<=(((qi D n2).2.2:Nat):Int):=(by omega);generalize qi D n2=U at*;obtain⟨z,X,n3⟩:=U;simp only at hm0 hh5 m1 m2 m3 m4 m5⊢;have cut:∀(F':Nat) (e2:Int),D.size<F'+n3->vu (zW S a H D n all) e2 (1<= -v/\(j9 (zk S D H a.it) D (decide (a.k=13)) (-v).toNat (u.ks,GV.pvs u.l) ((n3:Nat):Int).toNat G.toNat).bind (kE S a H D F' n3 z)=zW S a H D n all)->JL S a H D n all F' (-v) z n3 G e2 (u.ks,GV.pvs u.l):=λF' e2 O h2=>⟨⟨⟨m1,hm0⟩,⟨c2,c3⟩,λ_=>c4',by show((GV.pvs u.l).length:Int)<=_;rw[GV.pvs_len];exact c5⟩,Pt l3 hvm,Pm O,h2⟩;refine⟨λhz=>⟨⟨x,y,n3,G,X,2⟩,rfl,rfl,rfl,rfl,rfl,rfl,rfl,rfl,rfl,rfl,⟨D.size+1,_,_,n3,(if((X:Nat):Int)=0 then 2 else((X:Nat):Int)),u⟩,rfl,rfl,rfl,rfl,rfl,rfl,rfl,rfl,rfl,rfl,rfl,rfl,rfl,rfl,rfl,rfl,rfl,rfl,rfl,rfl,λq hq=>hq.2,⟨u1,u2,u3,u4⟩,?_⟩,λhz=> ?_⟩
    ·refine cut _ _ (by omega) ?_;show vu _ (if((X:Nat):Int)=0 then(2:Int)else((X:Nat):Int)) _;by_cases h:X=0
     ·rw[h];exact yn (hh5.2.1 h hz) rfl
     ·have h9:(if((X:Nat):Int)=0 then(2:Int)else((X:Nat):Int))=((X:Nat):Int):=if_neg (λq=>h (Int.natCast_eq_zero.1 q));rw[h9];exact yn (hh5.1 h) (Lh h)
    ·by_cases h:X=0
     ·obtain⟨F',f1,f2⟩:=hh5.2.2 h (by omega);refine⟨⟨F',_,_,n3,_,u⟩,rfl,rfl,rfl,rfl,rfl,rfl,rfl,rfl,rfl,rfl,rfl,rfl,rfl,λq hq=>hq.2,⟨u1,u2,u3,u4⟩,cut _ _ f1 (xB (Int.natCast_eq_zero.2 h) ⟨by omega,?_⟩)⟩;rw[hmp,Int.toNat_natCast,←f2];unfold kE K4;rw[hmp,Int.toNat_natCast]
     ·exact⟨⟨D.size+1,_,_,n3,_,u⟩,rfl,rfl,rfl,rfl,rfl,rfl,rfl,rfl,rfl,rfl,rfl,rfl,rfl,λq hq=>hq.2,⟨u1,u2,u3,u4⟩,cut _ _ (by omega) (yn (hh5.1 h) (Lh h))⟩
  ·have er0:J=0:=(by omega);obtain⟨F',f1,f2⟩:=hh.2.2.1 er0 (by omega);refine⟨⟨F',_,_,n2,_,u⟩,rfl,rfl,rfl,rfl,rfl,rfl,rfl,rfl,rfl,rfl,rfl,rfl,rfl,λq hq=>hq.2,⟨u1,u2,u3,u4⟩,⟨⟨⟨l1,by show n<=((n2:Nat):Int);omega⟩,⟨c2,c3⟩,λ_=>c4',by show((GV.pvs u.l).length:Int)<=_;rw[GV.pvs_len];exact c5⟩,by show v<=_;omega,by show(D.size:Int)<F'+((n2:Nat):Int);omega,xB he ⟨by show 1<=v;omega,?_⟩⟩⟩;rw[hmp,Int.toNat_natCast,←f2];unfold kE K4;rw[hmp,Int.toNat_natCast]
  clear hh hg2 m0 m1 m2 m3 m4 m5 l0 l1 l2 l3 l4 l5;rintro⟨F2,cnt,sz,n3,e3,w⟩ ⟨⟨w1,w2,w3,w4⟩,⟨⟨d1,d0⟩,⟨d2,d3⟩,d4,d5⟩,dC,dF,dT⟩ ⟨p3,hp3,hgs⟩;simp only at w1 w2 w3 w4 d0 d1 d2 d3 d4 d5 dC dF dT hgs⊢;refine⟨⟨⟨F2,0,n3,G,e3,w⟩,rfl,rfl,rfl,rfl,rfl,rfl,rfl,rfl,rfl,rfl,rfl,rfl,rfl,λq hq=>hq.2,⟨w1,w2,w3,w4⟩,⟨⟨.inl rfl,Int.le_refl _,λ_=>by show G+((0:Nat):Int)<=G;omega⟩,⟨⟨d1,d0⟩,⟨d2,d3⟩,d4,d5⟩,⟨d1.1,Int.le_refl _⟩,dF,?_⟩⟩,?_⟩
  ·rcases dT with⟨q1,q2,Y⟩|q
   ·refine .inl ⟨q1,q2,?_⟩;show(j9 _ _ _ (cnt- ((0:Nat):Int)).toNat _ _ _).bind _=_;rw[show(cnt- ((0:Nat):Int))=cnt by omega];exact Y
   ·exact .inr q
  rintro⟨F3,i,n4,C,e4,v⟩ ⟨⟨v1,v2,v3,v4⟩,⟨e1,e2,e2'⟩,⟨⟨g1,g0⟩,⟨g2,g3⟩,g4,g5⟩,⟨e5,e6⟩,eF,eT⟩ ⟨p4,hp4,hus⟩;simp only at v1 v2 v3 v4 e1 e2 e2' g0 g1 g2 g3 g4 g5 e5 e6 eF eT hus⊢;have g5:(v.l.length:Int)<=C:=by rw[GV.pvs_len]at g5;exact g5
  have nx:∀N:Int,(N=0->C<=2000)->(N=0->G<C)->vu (zW S a H D n all) N (vk (zk S D H a.it) D (decide (a.k=13)) F3 (v.ks,GV.pvs v.l) n4.toNat C.toNat=zW S a H D n all)->Zq S a H D n all F3 n4 C N (v.ks,GV.pvs v.l)/\(2*(2001- C).toNat+if N=0 then 1 else 0)<2*(2001- G).toNat+if True then 1 else 0:=λN O h2 h3=>by
   refine⟨⟨⟨⟨g1,g0⟩,⟨g2,g3⟩,O,by show((GV.pvs v.l).length:Int)<=_;rw[GV.pvs_len];exact g5⟩,by omega,h3⟩,?_⟩;rw[if_pos trivial];split
   ·rename_i h;have:=h2 h;have:=O h;omega
   ·omega
  have h64: -9223372036854775808<=n4- n3/\n4- n3<=9223372036854775807:=by have:=g1.1;have:=g1.2.1;have:=g1.2.2;have:=d1.1;omega
  have bad:e4≠0->_:=λV=>nx e4 (λh=>absurd h V) (λh=>absurd h V) (by
   rcases eT with⟨q,_⟩|q
   ·exact absurd q V
   ·exact .inr q)
  have good:¬(i:Int)<cnt->e4=0->G<C/\kE S a H D F3 n3 sz ((v.ks,GV.pvs v.l),n4.toNat,C.toNat)=zW S a H D n all:=λh h0=>by
   rcases eT with⟨_,q2,Y⟩|⟨k,q,_⟩
   ·rw[show(cnt- (i:Int)).toNat=0 by omega,j9,qR]at Y;exact⟨by have:=e2' h0;omega,Y⟩
   ·omega
  have bke:uj n3.toNat sz n4.toNat=true↔0<=sz/\n4- n3≠sz:=by unfold uj;have:=g1.1;have:=d1.1;rw[Bool.and_eq_true,decide_eq_true_eq,decide_eq_true_eq,Int.toNat_of_nonneg (by omega),Int.toNat_of_nonneg (by omega)]
  have nu:∀{p q:Prop},p/\q->(uK v/\p)/\q:=λh=>⟨⟨⟨v1,v2,v3,v4⟩,h.1⟩,h.2⟩;refine⟨λhlt=>⟨λh0=> ?_,λV=>⟨λh=>absurd h V,λ_=>⟨⟨F3,n4,C,e4,v⟩,rfl,rfl,rfl,rfl,rfl,rfl,rfl,rfl,rfl,rfl,rfl,rfl,λq hq=>hq.1.1.1,λq hq=>hq.2,nu (bad V)⟩⟩⟩,λhge=>⟨λh0=>⟨λhs=>⟨h64,λhn=>⟨⟨F3,n4,C,2,v⟩,rfl,rfl,rfl,rfl,rfl,rfl,rfl,rfl,rfl,rfl,rfl,rfl,λq hq=>hq.1.1.1,λq hq=>hq.2,?_⟩,λhn=>⟨⟨F3,n4,C,e4,v⟩,rfl,rfl,rfl,rfl,rfl,rfl,rfl,rfl,rfl,rfl,rfl,rfl,λq hq=>hq.1.1.1,λq hq=>hq.2,?_⟩⟩,λhs=>⟨⟨F3,n4,C,e4,v⟩,rfl,rfl,rfl,rfl,rfl,rfl,rfl,rfl,rfl,rfl,rfl,rfl,λq hq=>hq.1.1.1,λq hq=>hq.2,?_⟩⟩,λV=>⟨⟨F3,n4,C,e4,v⟩,rfl,rfl,rfl,rfl,rfl,rfl,rfl,rfl,rfl,rfl,rfl,rfl,λq hq=>hq.1.1.1,λq hq=>hq.2,nu (bad V)⟩⟩⟩
  ·subst h0;obtain⟨q2,Y⟩:1<=cnt/\(j9 (zk S D H a.it) D true (cnt- (i:Int)).toNat (v.ks,GV.pvs v.l) n4.toNat C.toNat).bind (kE S a H D F3 n3 sz)=zW S a H D n all:=by
    rcases eT with⟨_,q2,Y⟩|⟨k,q,_⟩
    ·rw[hmp]at Y;exact⟨q2,Y⟩
    ·omega
   rw[zva (by omega)]at Y;unfold K_ at Y;rw[if_pos rfl,Lj]at Y;have g4':=g4 rfl;have e2'':=e2' rfl;have hk1:(cnt- (i:Int)).toNat- 1=(cnt- ((i+1:Nat):Int)).toNat:=(by omega);have ht:=zea (D:=D) (i:=n4.toNat) (by have:=g1.1;have:=g1.2.1;omega);have hn4:=g1.1;refine⟨λh=>absurd h (by decide),λ_=>⟨⟨x,y,D,n4,C,0⟩,rfl,rfl,rfl,rfl,rfl,rfl,rfl,rfl,rfl,g1,λq hq=>hq.1.1.1.2.2,?_⟩⟩;simp only[Pz g1];unfold Zt wP G0 at Y;generalize kk D n4.toNat=T at ht Y⊢;obtain⟨k,J,m⟩:=T;simp only at ht Y⊢;have hdm:qC D m:=⟨by omega,by omega,g1.2.2⟩;have err:∀(n' A N:Int),qC D n'->n4<=n'->(C<=A/\A<=2001)->N≠0->Hd (∃j:Nat,N=j+1/\zW S a H D n all= .no j)->VS S a H D n all F3 G cnt sz n3 (i+1) n' A N (v.ks,GV.pvs v.l):=λn' A N z1 z2 z3 z4 z5=>⟨⟨.inr (by omega),by omega,λh=>absurd h z4⟩,⟨⟨z1,by omega⟩,⟨by omega,by omega⟩,λh=>absurd h z4,by show((GV.pvs v.l).length:Int)<=_;rw[GV.pvs_len];omega⟩,⟨e5,by omega⟩,by omega, .inr z5⟩;generalize hE:(if J=0/\qz k=false then(2:Int)else J)=E at Y;have bd:Hd (J≠0\/qz k=false->∃j:Nat,(if J=0 then(2:Int)else J)=j+1/\zW S a H D n all= .no j):=λh=>by
    have h2:E=if J=0 then(2:Int)else J:=by
     rw[←hE];by_cases O:J=0
     ·rw[if_pos ⟨O,h.resolve_left (λq=>q O)⟩,if_pos O]
     ·rw[if_neg (λq=>O q.1),if_neg O]
    have h3:1<=E:=(by rw[h2];split<;>omega);rw[if_neg (show¬E=0 by omega),vX]at Y;exact⟨(E- 1).toNat,by rw[←h2];omega,Y.symm⟩
   have hEg:Hd (J=0->qz k=true->E=0):=λZ hv=>(by rw[←hE,if_neg (by rw[hv];simp),Z]);clear hE eT;have e0:0<=if J=0 then(2:Int)else J:=(by split<;>omega);have hmu2:v8 (S,(x,y,D,m,C,J),a.it,H+1)<c:=(by show(25- (H+1)).toNat<c;omega);have h22: -9223372036854775808<=H+1/\H+1<=9223372036854775807:=(by omega);have h21:1<=H+1/\H+1<=21:=(by omega);have h44:0<=C/\C<=2000:=(by omega);refine⟨by omega,λhv=> ?_,λhv=> ?_⟩
   ·refine⟨⟨x,y,m,C,J,2⟩,rfl,rfl,rfl,rfl,rfl,rfl,rfl,rfl,rfl,rfl,h22,⟨S,⟨x,y,D,m,C,(if J=0 then 2 else J)⟩,a.it,H+1⟩,rfl,rfl,rfl,rfl,rfl,rfl,rfl,rfl,rfl,rfl,rfl,⟨hmu2,hok,hdm,h44,e0,hit,h21⟩,λq hq=>⟨hq.1.1.1.1,hq.1.1.1.2.2⟩,?_⟩;rintro⟨r,n',A,N⟩ ⟨O,h2,h3,h4,h6⟩ _;have V:(if J=0 then(2:Int)else J)≠0:=(by split<;>omega);rw[if_neg V]at O;have O:N=if J=0 then(2:Int)else J:=O;have h6:m<=n':=h6;have h3:C+1<=A/\A<=2001:=h3;refine⟨λh=>absurd (O.symm.trans h) V,λh=>⟨⟨by omega,by omega⟩,⟨F3,i+1,n',A,N,v⟩,by show((i+1:Nat):Int)=_;omega,?_⟩⟩;simp only[true_and,and_true,eq_self];refine⟨λq hq=>hq.1.1,λq hq=>hq.1.2,⟨⟨v1,v2,v3,v4⟩,err n' A N h2 (by omega) ⟨by omega,by omega⟩ h (by rw[O];exact(show _->_ from bd) (.inr hv))⟩,by omega⟩
   ·refine⟨h22,⟨S,⟨x,y,D,m,C,J⟩,a.it,H+1⟩,rfl,rfl,rfl,rfl,rfl,rfl,rfl,rfl,rfl,rfl,rfl,⟨hmu2,hok,hdm,h44,by show 0<=J;omega,hit,h21⟩,λq hq=>⟨hq.1.1.1.1,hq.1.1.1.2.2⟩,?_⟩;rintro⟨r,n',A,N⟩ ⟨O,h2,h3,h4,h6⟩ _;have h6:m<=n':=h6;have h3:C+1<=A/\A<=2001:=h3;by_cases Z:J=0
    ·rw[if_pos Z]at O;have hE0:E=0:=(show _->_->_ from hEg) Z hv;rw[if_pos hE0,qR]at Y;rw[show(21- (H+1)).toNat=(20- H).toNat by omega]at O;simp only[Lj]at Y;have hag:=IM O Y;simp only[qR]at hag;rw[hk1]at hag;refine⟨λh=>⟨⟨v,k,r⟩,rfl,rfl,rfl,rfl,rfl,rfl,rfl,rfl,rfl,rfl,rfl,rfl,rfl,rfl,rfl,rfl,rfl,rfl,rfl,⟨v4,by show v.l.length<_;omega⟩,λq hq=>⟨hq.1.2,hq.2⟩,?_⟩,λh=>⟨⟨by omega,by omega⟩,⟨F3,i+1,n',A,N,v⟩,by show((i+1:Nat):Int)=_;omega,?_⟩⟩
     ·intro b hb2 _;have hb2:b.pv=PV.mk v.n v.s (jV k v.ks (GV.pvs v.l) r.pv) (q9 k v.ks) v.b:=hb2;rw[GV.pv_eq]at hb2;injection hb2 with b1 b2 b3 b4 b5
      have hpl:=I7 k v.ks (GV.pvs v.l) r.pv (by rw[GV.pvs_len];exact v4);rw[←b3,←b4,GV.pvs_len,GV.pvs_len]at hpl;refine⟨⟨by omega,by omega⟩,⟨F3,i+1,n',A,N,b⟩,by show((i+1:Nat):Int)=_;omega,?_⟩;simp only[true_and,and_true,eq_self];refine⟨λq hq=>hq.1.1.1,λq hq=>hq.2,⟨⟨b1.trans v1,b2.trans v2,b5.trans v3,hpl.1⟩,⟨.inr (by omega),by omega,λ_=>by omega⟩,⟨⟨h2,by omega⟩,⟨by omega,by omega⟩,h4,by show((GV.pvs b.l).length:Int)<=_;rw[GV.pvs_len];omega⟩,⟨e5,by omega⟩,by omega,?_⟩,by omega⟩;rw[hmp,b3,b4];rcases hag with⟨w1,w2⟩|w
      ·exact .inl ⟨w1,q2,w2⟩
      ·exact .inr w
     ·simp only[true_and,and_true,eq_self];refine⟨λq hq=>hq.1.1,λq hq=>hq.1.2,⟨⟨v1,v2,v3,v4⟩,err n' A N h2 (by omega) ⟨by omega,by omega⟩ h ?_⟩,by omega⟩;rcases hag with⟨w1,_⟩|w
      ·exact absurd w1 h
      ·exact w
    ·rw[if_neg Z]at O;have O:N=J:=O;refine⟨λh=>absurd (O.symm.trans h) Z,λh=>⟨⟨by omega,by omega⟩,⟨F3,i+1,n',A,N,v⟩,by show((i+1:Nat):Int)=_;omega,?_⟩⟩;simp only[true_and,and_true,eq_self];have:=(show _->_ from bd) (.inl Z);rw[if_neg Z]at this;exact⟨λq hq=>hq.1.1,λq hq=>hq.1.2,⟨⟨v1,v2,v3,v4⟩,err n' A N h2 (by omega) ⟨by omega,by omega⟩ h (by rw[O];exact this)⟩,by omega⟩
  ·obtain⟨z1,z2⟩:=good hge h0;unfold kE at z2;rw[if_pos (bke.2 ⟨hs,hn⟩)]at z2;exact nu<|nx 2 (λh=>absurd h (by decide)) (λh=>absurd h (by decide)) (yn z2.symm rfl)
  ·obtain⟨z1,z2⟩:=good hge h0;unfold kE at z2;rw[if_neg (λh=>(bke.1 h).2 hn)]at z2;exact nu<|nx e4 g4 (λ_=>z1) (xB h0 z2)
  ·obtain⟨z1,z2⟩:=good hge h0;unfold kE at z2;rw[if_neg (λh=>hs (bke.1 h).1)]at z2;exact nu<|nx e4 g4 (λ_=>z1) (xB h0 z2)
 ·exact⟨⟨u,n1,G,e1⟩,rfl,rfl,rfl,rfl,rfl,rfl,rfl,rfl,rfl,rfl,rfl,rfl,ret n1 G e1 c1 c0 c2 c3 c4 (by
   rcases cT with⟨q,_⟩|⟨k,q1,q2⟩
   ·exact absurd q hnz
   ·exact yn q2 q1),λq hq=>hq.2⟩
def j8d(c:Nat) (T:q1i P 31 (wv.below v8 c)):q1i P 62 ((Z7 Fu).below xU (c+1)):=by
 have hA:=j8b c T;have Z:=j8c c T;refine⟨hA.1,hA.2.1,hA.2.2.1,λs=> ?_⟩;obtain⟨Y,e0,rA⟩:=hA.2.2.2 s;obtain⟨O,e1,rM⟩:=Z.2.2.2 s;have e:O=Y:=Option.some.inj (e1.symm.trans e0);subst e;refine⟨O,e0,λF I w vs u A C G hp H J N=> ?_⟩;obtain⟨m,U,V,p3,X⟩:=hp;rcases p3 with h|h
 ·exact rA F I w vs u A C G ⟨m,U,V,h,X⟩ H J N
 ·exact rM F I w vs u A C G ⟨m,U,V,h,X⟩ H J N
def Oz:∀c,q1i P 31 (wv.below v8 c)
 |0=>CtR.below_zero (by decide) (by decide) (Sen.enters_of Tryz.func31 (by kernel_rfl)) λs=>rfl
 |c+1=>j8h c (Oz c) (j8d c (Oz c))
def j8i:q1i P 31 wv:=CtR.of_below Oz
def RB(R:z') (v:PV) (n e:Int):Prop:=match R with
 | .no k=>e=k+1/\n=0/\v=zV.pv
 | .ok r=>e=0/\v=r.1/\n=r.2.1
abbrev Xo:=List AT×SV×Int×SV×O6
abbrev ug:=GV×Int×Int
def ZA(S:List AT) (t:Int) (D:O6) (b:ug):Prop:=(0<=t/\t<S.length->RB (jB S D 20 t 0 0) b.1.pv b.2.1 b.2.2)/\(¬(0<=t/\t<S.length)->b.2.2=1/\b.2.1=0/\b.1.pv=zV.pv)/\0<=b.2.1/\b.2.1<=D.size
def OE:CtR where
 σ:=Xo
 args:=λ⟨S,x,t,y,D⟩=>[jP x, .sv (.int .i64 t),zE y]
 h:=λ_=>[]
 m:=1
 pre:=λ⟨S,x,t,y,D⟩=>kg S/\D.size<1000000000000000000
 mem:=λ⟨S,x,t,y,D⟩=>rvM S x y D
 β:=λ_=>ug
 post:=λ⟨S,x,t,y,D⟩ b=>ZA S t D b
 pm:=λ_ ⟨r,n',u⟩=>vM r
 r:=λ_ ⟨r,n',u⟩=> .tup [r.av, .sv (.int .i64 n'), .sv (.int .i64 u)]
 h':=λ_ _=>[]
 m':=1
def zh4(r E:O6):z_ (r++E) r 0:=⟨Int.le_refl _,λj h=>by have:j<r.data.toList.length:=h;show((r++E).data.toList)[0+j]? =_;rw[Nat.zero_add,show(r++E).data.toList=r.data.toList++E.data.toList by simp,List.getElem?_append_left this]⟩
def zx2{S:List AT} (hS:kg S) {v:PV} {r E:O6} (u:v.sm) (A:PV.fits S 0 v=true) (G:PV.bl S 0 v r) (C:(r++E).size<100000000000000000) {b:ug} (h:ZA S 0 (r++E) b):b.2.2=3\/(b.2.2=0/\b.2.1=r.size/\b.1.pv=v):=by
 have hr:=JR A;have h:=h.1 ⟨by decide,by omega⟩;rcases Po hS C 20 0 v r 0 0 u A G (zh4 r E) (Nat.zero_le _)with e|⟨c,e⟩
 ·rw[e]at h;exact .inl h.1
 ·rw[e]at h;exact .inr ⟨h.1,by rw[h.2.2];show((0+r.size:Nat):Int)=_;omega,h.2.1⟩
def Pc(y:SV) (R:List Int):PF:=⟨true,qb qh y R,λ_ _ h e=>ji h e⟩
def inL(R:List Int):List SV->PF
 | [y]=>Pc y R
 |_=>{}
def Pa(R:List Int):GS:=some {β:=Unit,ks:=[1],pre:=λ_=>True,mem:=λ_ xs=>inL R xs}
def Im(S:List AT) (x y:SV) (R:List Int):PF:=⟨true,λp=>qc S x p/\qb qh y R p,λ_ _ h e=>⟨uC h e.1,ji h e.2⟩⟩
def arM(a:AT) (y:SV) (R:List Int):PF:=⟨true,λp=>a.ok p/\qb qh y R p,λ_ _ h e=>⟨AT.ok_mono h e.1,ji h e.2⟩⟩
def KT(n:Nat) (R:List Int):Prop:=R.length=n/\∀t:Int,0<=t/\t<n-> -1<=qe R t/\qe R t<=100
def rid:AV->Option Nat
 | .ssl r _ _ _ _=>some r
 | .msl r _ _=>some r
 |_=>none
def XI(t:T AV) (k:Nat):Option Nat:=match t.get k with
 |some a=>rid a
 |none=>none
def EN(t:T AV) (k:Nat):Option Nat:=match t.get k with
 |some (.ptr b _)=>some b
 |_=>none
abbrev RA:=List AT×SV×Int×SV×List Int
def IU:Ct:=yE RA (λ⟨S,x,t,y,R⟩=>[jP x, .sv (.int .i64 t),zE y]) (λ⟨S,x,t,y,R⟩=>qv S/\KT S.length R/\0<=t/\t<S.length) (λ⟨S,x,t,y,R⟩=>Im S x y R) λ⟨S,x,t,y,R⟩=> .sv (.int .i64 (yg R (qd S t)))
def zkt:RA->WayF:=λ⟨S,x,t,y,R⟩=>{
 ann:=λid _ _=>match id with
  |0=>some {σ:=Nat×Int,pre:=λ⟨j,m⟩=>j<=(qd S t).brs.length/\(-1<=m/\m<=100)/\vg R ((qd S t).brs.drop j) m=vg R (qd S t).brs (-1),t:=λ⟨j,m⟩=>[(9, .sv (.int .i64 (j:Int))),(8, .sv (.int .i64 m))],h:=λ_=>[],more:=0,μ:=λ⟨j,m⟩=>(qd S t).brs.length- j,keep:=[2,7]}
  |_=>some {σ:=Nat×Int,pre:=λ⟨j,m⟩=>j<=(qd S t).fs.length/\(0<=m/\m<=100)/\kR R ((qd S t).fs.drop j) m=kR R (qd S t).fs 0,t:=λ⟨j,m⟩=>[(12, .sv (.int .i64 (j:Int))),(11, .sv (.int .i64 m))],h:=λ_=>[],more:=0,μ:=λ⟨j,m⟩=>(qd S t).fs.length- j,keep:=[2,7]}}
def Ht:Ct where
 σ:=List AT×SV
 args:=λ⟨S,x⟩=>[jP x]
 h:=λ_=>[]
 m:=1
 pre:=λ⟨S,x⟩=>qv S
 mem:=λ⟨S,x⟩=>sM S x
 r:=λ_=> .tsl 1
 h':=λ_=>[]
 m':=2
 g:=λ⟨S,x⟩=>Pa (qA S)
def jo(A B:List Int) (i:Nat):List Int:=A.take i++B.drop i
def zku:Ht.σ->WayF:=λ⟨S,x⟩=>{
  pub:=λi k=>match i,k with
    |8,0=>[3]
    |17,1=>[67]
    |_,_=>[]
  ann :=λid t _=>match id with
    | 0=>match XI t 3 with
      |some r=>some {σ:=Nat,pre:=λj=>j<=S.length,t:=λj=>[(4, .sv (.int .i64 (j:Int)))],h:=λj=>[(r, .row 3 0 (qa qh (jo (S.map kB) (List.replicate S.length 0) j)))],more:=0,μ:=λj=>S.length- j,keep:=[1,3]}
      |none=>none
    |2=>some {σ:=Nat×SV,pre:=λ⟨j,y⟩=>j<=S.length+1,mem:=λ⟨j,y⟩=>Pc y (zD S j),t:=λ⟨j,y⟩=>[(5, .sv (.int .i64 (j:Int))),(3,zE y)],h:=λ_=>[],more:=0,μ:=λ⟨j,y⟩=>S.length+1- j,keep:=[1]}
    | _ =>match jQ t 5 with
      | some k=>match XI t 6 with
        |some r=>some {σ:=Nat,pre:=λi=>i<=S.length,t:=λi=>[(7, .sv (.int .i64 (i:Int)))],h:=λi=>[(r, .row 3 0 (qa qh (jo (wO S (zD S k.toNat)) (zD S k.toNat) i)))],more:=0,μ:=λi=>S.length- i,keep:=[1,3,5,6]}
        |none=>none
      |none=>none}
def W6:Ct:=yE (AT×SV×List Int) (λ⟨a,y,R⟩=>[a.av,zE y]) (λ⟨a,y,R⟩=>R.length<1000/\a.brs.length<=30/\∀b∈a.brs,0<=b/\b<R.length) (λ⟨a,y,R⟩=>arM a y R) λ⟨a,y,R⟩=> .sv (.int .i64 (zq R a.brs:Nat))
def x7(R B:List Int) (i m:Nat):Bool:=decide (0<=qe R (B.getD i 0)/\(qe R (B.getD m 0)<0\/qe R (B.getD i 0)<qe R (B.getD m 0)))
def zko:W6.σ->WayF:=λ⟨a,y,R⟩=>{
  cut :=λr t _=>match r with
    | 6 =>match jQ t 6 with
      | some i=>match jQ t 5 with
        |some m=>some {σ:=Unit,t:=λ_=>[(52, .sv (.bool (x7 R a.brs i.toNat m.toNat)))],h:=λ_=>[],more:=0,μ:=λ_=>0,keep:=[1,2,5,6]}
        |none=>none
      |none=>none
    |_=>none
  ann:=λ_ _ _=>some {σ:=Nat×Nat,pre:=λ⟨i,m⟩=>i<=a.brs.length/\m<=i/\(m=i->m=0)/\yD R a.brs (a.brs.length- i) i m=zq R a.brs,t:=λ⟨i,m⟩=>[(6, .sv (.int .i64 (i:Int))),(5, .sv (.int .i64 (m:Int)))],h:=λ_=>[],more:=0,μ:=λ⟨i,m⟩=>a.brs.length- i,keep:=[1,2]}}
abbrev Xr:=List AT×SV×SV×List Int
def Iv:Ct where
 σ:=Xr
 args:=λ⟨S,x,y,R⟩=>[jP x,zE y]
 h:=λ_=>[]
 m:=1
 pre:=λ⟨S,x,y,R⟩=>qv S/\KT S.length R
 mem:=λ⟨S,x,y,R⟩=>Im S x y R
 r:=λ_=> .tsl 1
 h':=λ_=>[]
 m':=2
 g:=λ⟨S,x,y,R⟩=>Pa (wts S R)
def kU(S:List AT) (R:List Int) (k:Int) (i:Nat) (W:List Int):List Int:=wall S R (S.length- k.toNat) (k+1) (QY S R k (S.length- i) i W)
def zep:Xr->WayF:=λ⟨S,x,y,R⟩=>{
  pubE:=[86]
  ann :=λid t _=>match XI t 5 with
    | some r=>match id with
      |0=>some {σ:=Nat×List Int,pre:=λ⟨k,W⟩=>k<=S.length+1/\WB S.length W/\wall S R (S.length+1- k) k W=wts S R,t:=λ⟨k,W⟩=>[(6, .sv (.int .i64 (k:Int)))],h:=λ⟨k,W⟩=>[(r, .row 3 0 (qa qh W))],more:=0,μ:=λ⟨k,W⟩=>S.length+1- k,keep:=[1,2,5]}
      | 2=>match jQ t 6 with
        |some k=>some {σ:=Nat×List Int,pre:=λ⟨i,W⟩=>i<=S.length/\WB S.length W/\kU S R k i W=wts S R,t:=λ⟨i,W⟩=>[(7, .sv (.int .i64 (i:Int)))],h:=λ⟨i,W⟩=>[(r, .row 3 0 (qa qh W))],more:=0,μ:=λ⟨i,W⟩=>S.length- i,keep:=[1,2,5,6]}
        |none=>none
      | _ =>match jQ t 6 with
        | some k=>match jQ t 7 with
          |some i=>some {σ:=Nat×List Int,pre:=λ⟨m,W⟩=>m<=(qd S i).fs.length/\WB S.length W/\kU S R k (i.toNat+1) (wfs W i.toNat ((qd S i).fs.drop m))=wts S R,t:=λ⟨m,W⟩=>[(9, .sv (.int .i64 (m:Int)))],h:=λ⟨m,W⟩=>[(r, .row 3 0 (qa qh W))],more:=0,μ:=λ⟨m,W⟩=>(qd S i).fs.length- m,keep:=[1,2,5,6,7,8]}
          |none=>none
        |none=>none
    |none=>none
  cut :=λi t _=>match i with
    | 13=>match XI t 5 with
      | some r=>match jQ t 6 with
        | some k=>match jQ t 7 with
          |some i=>some {σ:=List Int,pre:=λW=>WB S.length W/\kU S R k (i.toNat+1) (wfs W i.toNat (qd S i).fs)=wts S R,t:=λW=>[],h:=λW=>[(r, .row 3 0 (qa qh W))],more:=0,μ:=λ_=>0,keep:=[1,2,5,6,7,8]}
          |none=>none
        |none=>none
      |none=>none
    |_=>none}
def zB(n:Nat):O6:=mkS (List.replicate n 0)
def Fv(S:List AT) (t:Int):Int:=qe (wts S (qA S)) t
def yI(S:List AT) (t:Int) (v:GV):Prop:=PV.fitz S t v.pv/\v.pv.sn/\(v.pv.wt:Int)<=30*Fv S t/\((qd S t).k=12\/(qd S t).k=13->v=zV)
abbrev Z5:=List AT×SV×Int×SV
def JT:CtR:=u_ Z5 (λ⟨S,x,t,y⟩=>[jP x, .sv (.int .i64 t),zE y]) (λ⟨S,x,t,y⟩=>qv S/\zN S t=true) (λ⟨S,x,t,y⟩=>Im S x y (qA S)) GV (λ⟨S,x,t,y⟩ v=>yI S t v) (λ_ v=>vM v) λ_ v=>v.av
def KO:Z5->Nat:=λ⟨S,x,t,y⟩=>(qe (qA S) t).toNat
def xe(S:List AT) (t:Int) (j:Nat) (l:List PV):Prop:=l.length=j/\j<=(qd S t).fs.length/\(∀(i:Nat) (h:i<l.length) (u:i<(qd S t).fs.length),PV.fitz S ((qd S t).fs[i]).ty l[i])/\(∀v∈l,v.sn)/\(PV.wts l:Int)<=30*jh (wts S (qA S)) ((qd S t).fs.take j)
def zkr:Z5->WayF:=λ⟨S,x,t,y⟩=>{
 pubE:=[49,65]
 spl:=λi=>match i with
  |10=>some 10
  |14=>some 8
  |_=>none
 flo:=λi=>match i with
  |10=>some (10,[0,1])
  |14=>some (8,[0])
  |_=>none
 ann:=λ_ u _=>match EN u 8 with
  |some A=>some {σ:=Nat×List GV,pre:=λ⟨j,fs⟩=>xe S t j (GV.pvs fs),mem:=λ⟨j,fs⟩=>Qb fs,t:=λ⟨j,fs⟩=>[(9, .sv (.int .i64 (j:Int)))],h:=λ⟨j,fs⟩=>[(A,Ij 40 fs.length 41),(40, .row 36 0 (qa GV.cells fs))],more:=60,μ:=λ⟨j,fs⟩=>(qd S t).fs.length- j,keep:=[2,3,6,7,8]}
  |none=>none}
def IR:CtR:=u_ (List AT×SV×Int) (λ⟨S,x,t⟩=>[jP x, .sv (.int .i64 t)]) (λ⟨S,x,t⟩=>qv S) (λ⟨S,x,t⟩=>sM S x) (GV×Bool) (λ⟨S,x,t⟩ ⟨v,b⟩=>b=zN S t/\v.pv.sn/\v.pv.wt<=60000/\(b=true->PV.fitz S t v.pv)/\(b=false\/(qd S t).k=12\/(qd S t).k=13->v=zV)) (λ_ ⟨v,b⟩=>vM v) λ_ ⟨v,b⟩=> .tup [v.av, .sv (.bool b)]
def zhn:CtR:=u_ (List AT×SV×Int) (λ⟨S,x,t⟩=>[jP x, .sv (.int .i64 t)]) (λ⟨S,x,t⟩=>qv S/\(qd S t).k=12) (λ⟨S,x,t⟩=>sM S x) Bool (λ⟨S,x,t⟩ b=>b=zN S t) (λ_ _=>vM zV) λ_ b=> .tup [.agg [.int .u64 0, .str [], .nsl, .nsl, .int .i64 0], .sv (.bool b)]
section
variable (f:Int) (e:SV) (b:List AT) (t:SV) (c:List Int) (y:O6) (u:Option Addr) (v z:Nat) (w:Int) (h:Option Addr) (i j:Nat) (k:Bool) (l:O6) (m:Int) (n:Option Addr) (o p:Nat) (q:Option Addr) (r s:Nat) (g:Int) (a:Nat×Int) (A:Int) (K:Prop) (S:Nat×Int)
 abbrev M7:=(0<=f/\f<(↑e.2.1:Int))/\e.1≠noA/\K
 def YE:=e.1=e.1/\e.2.1=e.2.1/\e.2.2=e.2.2/\K
 def YD:=f=f/\y=y/\u=u/\v=v/\z=z/\w=w/\h=h/\i=i/\j=j/\k=k/\l=l/\m=m/\n=n/\o=o/\p=p/\q=q/\r=r/\s=s/\(∀d,True/\qc b e d/\qb qh t c d->True/\qc b e d/\qb qh t c d)/\K
 def M4:=a.1<=length (AT.brs (qd b f))/\((-1:Int)<=a.2/\a.2<=100)/\vg c (drop a.1 (AT.brs (qd b f))) a.2=vg c (AT.brs (qd b f)) (-1:Int)
 def D2:=(∀d,True/\qc b e d/\qb qh t c d->q2u d (adr t.1 (toNat f*1)) [int i64 w])
 abbrev M6:=Jb ((↑a.1:Int)+1)
 def D3:=(M4 f b c a)/\length (AT.brs (qd b f))- a.1<length (AT.brs (qd b f))- S.1/\True
 def AK:=M6 a/\∃(d:Nat×Int),(↑d.1:Int)=(↑a.1:Int)+1/\YE e (d.2=f/\YD w t b e c y u v z m h i j k l g n o p q r s (D3 A b c d a))
 def AJ:=M6 a/\∃(d:Nat×Int),(↑d.1:Int)=(↑a.1:Int)+1/\YE e (d.2=a.2/\YD f t b e c y u v z w h i j k l m n o p q r s (D3 g b c d a))
 def pF:=Ji (a.2<0) (AK f e b t c y u v z w h i j k l m n o p q r s g a A) (Ji (f<a.2) (AK f e b t c y u v z w h i j k l m n o p q r s g a A) (AJ w e b t c y u v z m h i j k l g n o p q r s A a))
 def pE:=(0<=(↑a.1:Int)/\(↑a.1:Int)<(↑v:Int))/\u≠noA/\∃(d:Int),(∀B,True/\qc b e B/\qb qh t c B->q2u B (adr u (toNat (↑a.1:Int)*1)) [int i64 d])/\M7 d t (∃(x:Int),D2 d e b t c x/\Ji (0<=x) (pF x t b e c y h z i f n j o k l w q p r u v s m a g) (AJ f t b e c y h z i w n j o k l m q p r u v s g a))
 def D0:=Jb (a.2+1)/\yg c (qd b f)=a.2+1/\True
 def cL:=Ji (a.2<0) (yg c (qd b f)= -1/\True) (D0 f b c a)
 def pD:=Ji ((↑a.1:Int)<(↑v:Int)) (pE f e b t c y u v z w h i j k l m n o p q r s g a) (cL g b c a)
 def pC:=(∃(d:Nat×Int),(↑d.1:Int)=0/\YE e (d.2= -1/\YD f t b e c y u v z w h i j k l m n o p q r s ((M4 g b c d)/\True)))/\∀(x:Nat×Int),M4 g b c x->pD f t b e c y q r v w u z i k l m h j o n p s g x
 def M5:=a.1<=length (AT.fs (qd b f))/\(0<=a.2/\a.2<=100)/\kR c (drop a.1 (AT.fs (qd b f))) a.2=kR c (AT.fs (qd b f)) 0
 abbrev cK:=M6 a/\∃(d:Nat×Int),(d.2=if f>a.2 then f else a.2)/\YE e ((↑d.1:Int)=(↑a.1:Int)+1/\YD w t b e c y u v z m h i j k l g n o p q r s ((M5 A b c d)/\length (AT.fs (qd b A))- d.1<length (AT.fs (qd b A))- a.1/\True))
 def pI:=(0<=(↑a.1:Int)/\(↑a.1:Int)<(↑v:Int))/\u≠noA/\∃(d:Int),(∀B,True/\qc b e B/\qb qh t c B->q2u B (Addr.add (adr u (toNat (↑a.1:Int)*9)) 2) [int i64 d])/\M7 d t (∃(x:Int),D2 d e b t c x/\Ji (x<0) (yg c (qd b f)= -1/\True) (cK x t b e c y h z i w n j o k l m u v p q r s g a f))
 def pH:=Ji ((↑a.1:Int)<(↑v:Int)) (pI f e b t c y u v z w h i j k l m n o p q r s g a) (D0 f b c a)
 def pG:=(∃(d:Nat×Int),d.2=0/\YE e ((↑d.1:Int)=0/\YD f t b e c y u v z w h i j k l m n o p q r s ((M5 g b c d)/\True)))/\∀(x:Nat×Int),M5 g b c x->pH g t b e c y n o v f u z i k l w h j p q r s m x
 def pB:=M7 f e (∃(d:Int),∃B,∃x,∃(L:Nat),∃(M:Nat),∃(N:Int),∃O,∃(Q:Nat),∃(i8:Nat),∃(R:Bool),∃C,∃(D:Int),∃E,∃(F:Nat),∃(G:Nat),∃H,∃(i16:Nat),∃(I:Nat),(∀J,True/\qc b e J/\qb qh t c J->q2u J (adr e.1 (toNat f*10)) [int i64 d,string B,slice x L M,int i64 N,slice O Q i8,bool R,string C,int i64 D,slice E F G,slice H i16 I])/\Ji (d=14) (pC d t b e c B x L M N O Q i8 R C D E F G H i16 I f) (pG d t b e c B x L M N O Q i8 R C D E F G H i16 I f))
end
def zfo(S:List AT) (x:SV) (t:Int) (y:SV) (R:List Int):qix P (qef []) Tryz.f75 IU (zkt) ⟨S,x,t,y,R⟩=(qv S/\KT (length S) R/\0<=t/\t<(↑(length S):Int)->(∃(p:Pub),True/\qc S x p/\qb qh y R p)->pB t x S y R):=by kernel_rfl
def zji:=λS x t y R=>Eq.trans (zfo S x t y R) (by delta Ji Jb Jt Jf M7 YE YD M4 D2 M6 D3 AK AJ pF pE D0 cL pD pC M5 cK pI pH pG pB;exact rfl)
section
variable (b:SV) (a:List AT) (c g h i:Nat) (d:Nat×Option Addr×Nat×Nat) (m:Nat) (u:Nat->Option Obj) (v:Option Addr) (t:Nat) (q:Prop) (z:Int)
 abbrev kr:=(↑b.2.1:Int)
 def QO:=b.1=b.1/\b.2.1=b.2.1/\b.2.2=b.2.2/\q
 abbrev QQ:=jo (List.map kB a) (List.replicate (length a) 0) c
 def M':=(∀e,True/\qc a b e->True/\qc a b e)
 abbrev Ra:=(↑c:Int)<(↑(toNat (kr b)):Int)
 def D4:=(∀e,True/\qc a b e->q2u e (Addr.add (adr b.1 (toNat (↑c:Int)*10)) 0) [int i64 z])
 abbrev U8:=(0:Nat)+toNat (↑c:Int)*nat_lit 1
 abbrev U6:=Jb ((↑c:Int)+1)
 def U7:=c<=length a/\length a- c<length a- g/\True
 def cM:=(0<=(↑c:Int)/\Ra b c)/\(0:Nat)+toNat (↑c:Int)*nat_lit 1+length [int i64 0]<=length (spl (qa qh (QQ a c)) (U8 c) [int i64 (-1:Int)])/\U6 c/\∃(e:Nat),toNat (kr b)=toNat (kr b)/\(↑e:Int)=(↑c:Int)+1/\QO b (qa qh (QQ a e)=spl (spl (qa qh (QQ a c)) (U8 c) [int i64 (-1:Int)]) (U8 c) [int i64 0]/\M' b a/\U7 a e c)
 def AL:=U6 c/\∃(e:Nat),toNat (kr b)=toNat (kr b)/\(↑e:Int)=(↑c:Int)+1/\QO b (qa qh (QQ a e)=spl (qa qh (QQ a c)) (U8 c) [int i64 (-1:Int)]/\M' b a/\U7 a e c)
 def pQ:=(0<=(↑c:Int)/\(↑c:Int)<(kr b))/\b.1≠noA/\∃(e:Int),D4 b a c e/\((!decide (e=14))=true->cM b a c)/\((!decide (e=14))=false->AL b a c)
 def pO:=(0<=(↑c:Int)/\Ra b c)/\(0:Nat)+toNat (↑c:Int)*nat_lit 1+length [int i64 (-1:Int)]<=length (qa qh (QQ a c))/\(0<=(↑c:Int)/\(↑c:Int)<(kr b))/\b.1≠noA/\∃(e:Int),D4 b a c e/\((!decide (e=9))=true->pQ b a c)/\((!decide (e=9))=false->AL b a c)
 def Je:=(True/\qc a b u)/\True/\toNat (kr b)<=c / nat_lit 1/\qfu u (some (Addr.mk g h none)) (take (toNat (kr b)*nat_lit 1) (qa qh (QQ a i)))
 def uS:=(Je b a c g h i u)/\qb qh d.2 (zD a d.1) u
 abbrev M_:=(↑d.2.2.1:Int)
 def U5:=d.2.1=d.2.1/\d.2.2.1=d.2.2.1/\d.2.2.2=d.2.2.2/\q
 def M9:=(↑d.1:Int)=(↑d.1:Int)/\(0:Nat)+d.2.2.1=0+d.2.2.1/\q
 abbrev ZQ:=jo (wO a (zD a (toNat (↑d.1:Int)))) (zD a (toNat (↑d.1:Int))) c
 def Rb:=(∀e,uS b a c g h i d e->uS b a c g h i d e)
 def cO:=U6 c/\∃(e:Nat),U5 d ((↑e:Int)=(↑c:Int)+1/\M9 d (QO b (qa qh (ZQ a e d)=qa qh (ZQ a c d)/\Rb b a g h i m d/\U7 a e c)))
 def pP:=(0<=(↑c:Int)/\(↑c:Int)<(M_ d))/\d.2.1≠noA/\∃(e:Int),(∀k,uS b a g h i m d k->q2u k (adr d.2.1 (toNat (↑c:Int)*1)) [int i64 e])/\Ji (0<=e) (cO b a c g h i d m) (∃(f:RA),f.2.1.1=b.1/\f.2.1.2.1=b.2.1/\f.2.1.2.2=b.2.2/\f.2.2.1=(↑c:Int)/\f.2.2.2.1.1=d.2.1/\f.2.2.2.1.2.1=d.2.2.1/\f.2.2.2.1.2.2=d.2.2.2/\(qv f.1/\KT (length f.1) f.2.2.2.2/\0<=f.2.2.1/\f.2.2.1<(↑(length f.1):Int))/\(∀x,uS b a g h i m d x->qc f.1 f.2.1 x/\qb qh f.2.2.2.1 f.2.2.2.2 x)/\(0<=(↑c:Int)/\(↑c:Int)<(↑((0:Nat)+d.2.2.1):Int))/\nat_lit 0+toNat (↑c:Int)*nat_lit 1+length [int i64 (yg f.2.2.2.2 (qd f.1 f.2.2.1))]<=length (qa qh (ZQ a c d))/\U6 c/\∃(y:Nat),U5 d ((↑y:Int)=(↑c:Int)+1/\M9 d (QO b (qa qh (ZQ a y d)=spl (qa qh (ZQ a c d)) (nat_lit 0+toNat (↑c:Int)*nat_lit 1) [int i64 (yg f.2.2.2.2 (qd f.1 f.2.2.1))]/\Rb b a g h i m d/\U7 a y c))))
 def M8:=(0:Nat)+d.2.2.1<=c/\qfu u v (take (((0:Nat)+d.2.2.1)*nat_lit 1) (qa qh (ZQ a g d)))
 def cN:=Jb ((↑d.1:Int)+1)/\∃(e:Nat×Option Addr×Nat×Nat),e.2.1=v/\e.2.2.1=0+d.2.2.1/\e.2.2.2=c/\(↑e.1:Int)=(↑d.1:Int)+1/\QO b ((∀k,(uS b a g h i m d k)/\M8 a c t d k v->Je b a g h i m k)/\(∀j,(uS b a g h i m d j)/\M8 a c t d j v->qb qh e.2 (zD a e.1) j)/\e.1<=length a+1/\length a+1- e.1<length a+1- d.1/\True)
 def pN:=Ji ((↑c:Int)<(M_ d)) (pP b a c g h i d m) (∀(i8 B o:Nat) (l:Option Addr) (p n:Nat),(∃r,(uS b a g h i m d r)/\M8 a n c d r l)->cN b a n g h i d m l c)
 def pM:=Ji ((↑d.1:Int)<=(M_ d)) (∃e,length e=d.2.2.1*1/\(∀k,uS b a c g h i d k->qfu k d.2.1 e)/\qj5 e/\((0:Nat)+d.2.2.1)*8<=140737488355328/\(∃(j:Nat),U5 d ((↑j:Int)=0/\M9 d (QO b (qa qh (ZQ a j d)=[]++e/\Rb b a c g h i d/\j<=length a/\True))))/\∀(f:Nat),f<=length a->pN b a f c g h d i) (∃(A:Unit),U5 d (Pl d.2.1/\True/\(∀s,uS b a c g h i d s->qb qh (d.2.1,d.2.2.1,d.2.2.2) (qA a) s)/\True))
 def pL:=(∃(e:Nat×Option Addr×Nat×Nat),e.2.1=some (Addr.mk c g none)/\e.2.2.1=toNat (kr b)/\e.2.2.2=h / nat_lit 1/\(↑e.1:Int)=0/\QO b ((∀k,Je b a h c g i k->Je b a h c g i k)/\(∀j,Je b a h c g i j->qb qh e.2 (zD a e.1) j)/\e.1<=length a+1/\True))/\∀(w:Nat×Option Addr×Nat×Nat),w.1<=length a+1->(∃f,uS b a h c g i w f)->pM b a h c g i w
 def pK:=Ji (Ra b c) (pO b a c) (∀(o l p:Nat),(∃n,Je b a p o l c n)->pL b a o l p c)
 def pJ:=(0<=(kr b)/\(kr b)<=(kr b)/\(↑(8:Nat):Int)*(kr b)<=140737488355328/\(kr b)<140737488355328)/\(∃(e:Nat),toNat (kr b)=toNat (kr b)/\(↑e:Int)=0/\QO b (qa qh (QQ a e)=q6b [int i64 0] (toNat (kr b))/\M' b a/\e<=length a/\True))/\∀(j:Nat),j<=length a->pK b a j
end
def zfp(S:List AT) (x:SV):qix P (qef [(75,IU)]) Tryz.f35 Ht (zku) ⟨S,x⟩=(qv S->(∃(p:Pub),True/\qc S x p)->pJ x S):=by kernel_rfl
def zjk:=λS x=>Eq.trans (zfp S x) (by delta Ji Jb Jt Jf kr QO QQ M' Ra D4 U8 U6 U7 cM AL pQ pO Je uS M_ U5 M9 ZQ Rb cO pP M8 cN pN pM pL pK pJ;exact rfl)
section
variable (d:SV) (a:AT) (e:List Int) (b:Nat×Nat) (c:Int) (j:Prop) (i p:Int) (n:Nat×Nat)
 abbrev ZR:=d.1=d.1/\d.2.1=d.2.1/\d.2.2=d.2.2/\j
 def Vk:=AT.k a=AT.k a/\AT.nm a=AT.nm a/\(AT.al a).1=(AT.al a).1/\(AT.al a).2.1=(AT.al a).2.1/\(AT.al a).2.2=(AT.al a).2.2/\AT.it a=AT.it a/\(AT.sy a).1=(AT.sy a).1/\(AT.sy a).2.1=(AT.sy a).2.1/\(AT.sy a).2.2=(AT.sy a).2.2/\AT.hd a=AT.hd a/\AT.df a=AT.df a/\AT.sz a=AT.sz a/\(AT.f a).1=(AT.f a).1/\(AT.f a).2.1=(AT.f a).2.1/\(AT.f a).2.2=(AT.f a).2.2/\(AT.br a).1=(AT.br a).1/\(AT.br a).2.1=(AT.br a).2.1/\(AT.br a).2.2=(AT.br a).2.2/\(∀g,True/\AT.ok a g/\qb qh d e g->True/\AT.ok a g/\qb qh d e g)/\j
 def Rd:=b.1<=length (AT.brs a)/\b.2<=b.1/\(b.2=b.1->b.2=0)/\yD e (AT.brs a) (length (AT.brs a)- b.1) b.1 b.2=zq e (AT.brs a)
 abbrev YF:=(↑(AT.br a).2.1:Int)
 def D6:=(∀g,True/\AT.ok a g/\qb qh d e g->q2u g (adr (AT.br a).1 (toNat (↑b.1:Int)*1)) [int i64 c])
 def U':=(0<=c/\c<(↑d.2.1:Int))/\d.1≠noA/\j
 def U9:=(∀g,True/\AT.ok a g/\qb qh d e g->q2u g (adr d.1 (toNat c*1)) [int i64 i])
 def jJ:=decide (0<=c)=decide (0<=c)
 def D7:=(∀g,True/\AT.ok a g/\qb qh d e g->q2u g (adr (AT.br a).1 (toNat (↑b.2:Int)*1)) [int i64 c])
 def wk:=decide (c<0)=decide (c<0)
 def KC:=wk c/\wk c/\wk c/\wk c/\j
 def Re:=(Jf (0<=c)->∃(g:Unit),ZR d ((↑b.2:Int)=(↑b.2:Int)/\x7 e (AT.brs a) (toNat (↑b.1:Int)) (toNat (↑b.2:Int))=false/\(↑b.1:Int)=(↑b.1:Int)/\Vk d a e (True/\True)))
 def AM:=(Jt (0<=c)->∃(g:Unit),ZR d ((↑b.2:Int)=(↑b.2:Int)/\x7 e (AT.brs a) (toNat (↑b.1:Int)) (toNat (↑b.2:Int))=true/\(↑b.1:Int)=(↑b.1:Int)/\Vk d a e (True/\True)))/\Re d a e b c
 def D5:=(Jt (0<=c)->∃(g:Unit),ZR d ((↑b.2:Int)=(↑b.2:Int)/\False))/\Re d a e b c
 def pW:=KC c (KC c (KC c (KC c (jJ i/\Ji (c<0) (AM d a e b i) (D5 d a e b i)))))
 def cS:=(Jt (0<=c)->∃(g:Unit),ZR d ((↑b.2:Int)=(↑b.2:Int)/\x7 e (AT.brs a) (toNat (↑b.1:Int)) (toNat (↑b.2:Int))=decide (i<p)/\(↑b.1:Int)=(↑b.1:Int)/\Vk d a e (True/\True)))/\Re d a e b c
 def pV:=KC c ((0<=(↑b.1:Int)/\(↑b.1:Int)<(YF a))/\(AT.br a).1≠noA/\wk c/\∃(g:Int),D6 d a e b g/\wk c/\U' d g (wk c/\∃(h:Int),U9 d a e g h/\wk c/\KC c ((0<=(↑b.2:Int)/\(↑b.2:Int)<(YF a))/\(AT.br a).1≠noA/\wk c/\∃(l:Int),D7 d a e b l/\wk c/\U' d l (wk c/\∃(m:Int),U9 d a e l m/\wk c/\jJ i/\Ji (c<0) (AM d a e b i) (cS d a e b i h m)))))
 def pU:=jJ c/\jJ c/\jJ c/\jJ c/\(0<=(↑b.2:Int)/\(↑b.2:Int)<(YF a))/\(AT.br a).1≠noA/\jJ c/\∃(g:Int),D7 d a e b g/\jJ c/\U' d g (jJ c/\∃(h:Int),U9 d a e g h/\jJ c/\jJ c/\Ji (h<0) (pW d a e b h c) (pV d a e b h c))
 def cP:=jJ c/\jJ c/\jJ c/\jJ c/\jJ c/\jJ c/\jJ c/\jJ c/\jJ c/\jJ c/\D5 d a e b c
 abbrev D9:=Jb ((↑b.1:Int)+1)
 def D8:=(↑b.1:Int)=(↑n.1:Int)+1/\Vk d a e ((Rd a e b)/\length (AT.brs a)- b.1<length (AT.brs a)- n.1/\True)
 def cQ:=D9 b/\∃(g:Nat×Nat),ZR d ((↑g.2:Int)=(↑b.1:Int)/\D8 d a e g b)
 def cR:=D9 b/\∃(g:Nat×Nat),ZR d ((↑g.2:Int)=(↑b.2:Int)/\D8 d a e g b)
 def pX:=(x7 e (AT.brs a) (toNat (↑b.1:Int)) (toNat (↑b.2:Int))=true->cQ d a e b)/\(x7 e (AT.brs a) (toNat (↑b.1:Int)) (toNat (↑b.2:Int))=false->cR d a e b)
 def pT:=((0<=(↑b.1:Int)/\(↑b.1:Int)<(YF a))/\(AT.br a).1≠noA/\∃(g:Int),D6 d a e b g/\U' d g (∃(h:Int),U9 d a e g h/\Ji (0<=h) (pU d a e b h) (cP d a e b h)))/\∀(o:Unit),True->pX d a e b
 def pS:=Ji ((↑b.1:Int)<(YF a)) (pT d a e b) ((↑(zq e (AT.brs a)):Int)=(↑b.2:Int)/\True)
 def pR:=(∃(g:Nat×Nat),ZR d ((↑g.2:Int)=0/\(↑g.1:Int)=0/\Vk d a e ((Rd a e g)/\True)))/\∀(h:Nat×Nat),Rd a e h->pS d a e h
end
def zf5(a:AT) (y:SV) (R:List Int):qix P (qef []) Tryz.f76 W6 (zko) ⟨a,y,R⟩=((length R<1000/\length (AT.brs a)<=30/\∀(b:Int),b∈AT.brs a->0<=b/\b<(↑(length R):Int))->(∃(p:Pub),True/\AT.ok a p/\qb qh y R p)->pR y a R):=by kernel_rfl
def zht:=λa y R=>Eq.trans (zf5 a y R) (by delta Ji Jb Jt Jf ZR Vk Rd YF D6 U' U9 jJ D7 wk KC Re AM D5 pW cS pV pU cP D9 D8 cQ cR pX pT pS pR;exact rfl)
section
variable {R:List Int}
def yW{y:SV} {p:Pub} (h:qb qh y R p) {k:Nat} (u:k<R.length):y.1≠noA/\q2u p (adr y.1 (k*1)) [.int .i64 (qe R (k:Int))]:=by rw[wS u];exact j3 yX (by decide) h u
variable {S:List AT}
def ko{i:Nat} (hi:i<S.length):qd S (i:Int)=S[i]:=by unfold qd;rw[Int.toNat_natCast,List.getElem?_eq_getElem hi];rfl
def HY{a:AT} {p:Pub} (h:a.ok p) {j:Nat} (u:j<a.fs.length):q2u p ((adr a.f.1 (j*9)).add 2) [.int .i64 a.fs[j].ty]:=λi v hi=>by
 cases i with
 |zero=>have:=(vV h u).2 2 v hi;rw[Addr.add_add];exact this
 |succ i=>simp at hi
def zhd{R B:List Int} {j:Nat} (h:j<B.length) (m:Int):vg R (B.drop j) m=vg R (B.drop (j+1)) (if 0<=qe R B[j]/\(m<0\/qe R B[j]<m)then qe R B[j]else m):=by rw[List.drop_eq_getElem_cons h,vg]
def zj6{B:List AF} {j:Nat} (h:j<B.length) (m:Int):kR R (B.drop j) m=if qe R B[j].ty<0 then -1 else kR R (B.drop (j+1)) (if m<qe R B[j].ty then qe R B[j].ty else m):=by rw[List.drop_eq_getElem_cons h,kR]
def zjj:q4a P 75 IU:=by
 refine qw (qbu qil) (W:=zkt) Tryz.func75 λ⟨S,(x:SV),(t:Int),(y:SV),R⟩=>(zji S x t y R).mpr ?_;rintro⟨hS,⟨hRl,hR⟩,ht0,ht1⟩ ⟨p,_,hx,V⟩;obtain⟨i,rfl⟩:=Int.eq_ofNat_of_zero_le ht0;have hi:i<S.length:=by omega
 have sl:x.2.1=S.length:=hx.1.1;have yl:y.2.1=R.length:=V.1;have U:=λq (hq:qc S x q/\qb qh y R q)=>yp hq.1 hi;have J:=λq (hq:qc S x q/\qb qh y R q)=>hq.1.2 S[i] (List.getElem_mem hi);have A:=hS.2 S[i] (List.getElem_mem hi);simp only[qy,exists_const,forall_const,Int.toNat_natCast,sl,yl,ko hi];have N:qc S x p/\qb qh y R p:=⟨hx,V⟩;have h60:=hS.1;obtain⟨_,_,fl,bl⟩:=uD (J p N);have hb30:=A.2.2.2.2.2.2.2.2.1;have hf30:=A.2.2.2.2.2.2.2.1;have X:=A.2.2.1;have Y:=λf (hf:f∈S[i].fs)=>(A.2.2.2.2.1 f hf).1;clear A;refine⟨⟨by omega,by omega⟩,(U p N).1,S[i].k,S[i].nm,S[i].al.1,S[i].al.2.1,S[i].al.2.2,S[i].it,S[i].sy.1,S[i].sy.2.1,S[i].sy.2.2,S[i].hd,S[i].df,S[i].sz,S[i].f.1,S[i].f.2.1,S[i].f.2.2,S[i].br.1,S[i].br.2.1,S[i].br.2.2,λq hq=>(U q hq).2,λhk=>⟨⟨⟨0, -1⟩,rfl,rfl,Nat.zero_le _,⟨by decide,by decide⟩,rfl⟩,?_⟩,λhk=>⟨⟨⟨0,0⟩,rfl,rfl,Nat.zero_le _,⟨by decide,by decide⟩,rfl⟩,?_⟩⟩
 ·rintro⟨j,m⟩ ⟨hj,⟨G,H⟩,T⟩;simp only at hj G H T⊢;refine⟨λhlt=> ?_,λZ=> ?_⟩
  ·have u:j<S[i].brs.length:=(by omega);have hd:=zhd (R:=R) u m;have bin:=X _ (List.getElem_mem u);have bat:=λq hq=>yV (J q hq) u;rw[T]at hd;generalize S[i].brs[j]=b at*;obtain⟨k,hk2,rfl⟩:=vy bin;have C:k<R.length:=(by omega);obtain⟨r1,r2⟩:=hR k bin;refine⟨⟨by omega,by omega⟩,(bat p N).1,(k:Int),λq hq=>(bat q hq).2,⟨by omega,by omega⟩,(yW V C).1,qe R k,λq hq=>(by rw[Int.toNat_natCast];exact(yW hq.2 C).2),λO=>⟨λh1=>⟨⟨by omega,by omega⟩,⟨j+1,qe R k⟩,by show((j+1:Nat):Int)=_;omega,rfl,⟨by show j+1<=_;omega,⟨r1,r2⟩,?_⟩,by show _- (j+1)<_;omega⟩,λh1=>⟨λh2=>⟨⟨by omega,by omega⟩,⟨j+1,qe R k⟩,by show((j+1:Nat):Int)=_;omega,rfl,⟨by show j+1<=_;omega,⟨r1,r2⟩,?_⟩,by show _- (j+1)<_;omega⟩,λh2=>⟨⟨by omega,by omega⟩,⟨j+1,m⟩,by show((j+1:Nat):Int)=_;omega,rfl,⟨by show j+1<=_;omega,⟨G,H⟩,?_⟩,by show _- (j+1)<_;omega⟩⟩⟩,λO=>⟨⟨by omega,by omega⟩,⟨j+1,m⟩,by show((j+1:Nat):Int)=_;omega,rfl,⟨by show j+1<=_;omega,⟨G,H⟩,?_⟩,by show _- (j+1)<_;omega⟩⟩
   ·rw[if_pos ⟨O, .inl h1⟩]at hd;exact hd.symm
   ·rw[if_pos ⟨O, .inr h2⟩]at hd;exact hd.symm
   ·rw[if_neg (by omega)]at hd;exact hd.symm
   ·rw[if_neg (by omega)]at hd;exact hd.symm
  ·rw[List.drop_of_length_le (by omega),vg]at T;unfold yg;rw[if_pos hk,←T];exact⟨λh=>by rw[if_pos h],λh=>⟨⟨by omega,by omega⟩,by rw[if_neg h]⟩⟩
 ·rintro⟨j,m⟩ ⟨hj,⟨G,H⟩,T⟩;simp only at hj G H T⊢;have er:yg R S[i]=kR R S[i].fs 0:=by unfold yg;rw[if_neg hk]
  rw[er,←T];refine⟨λhlt=> ?_,λZ=> ?_⟩
  ·have u:j<S[i].fs.length:=(by omega);have hd:=zj6 (R:=R) u m;have bin:=Y _ (List.getElem_mem u);have bat:=λq hq=>HY (J q hq) u;have bne:=(vV (J p N) u).1;rw[hd];generalize S[i].fs[j]=f at*;obtain⟨k,hk2,e⟩:=vy bin;rw[e]at hd bin⊢;have C:k<R.length:=(by omega);obtain⟨r1,r2⟩:=hR k bin;refine⟨⟨by omega,by omega⟩,bne,(k:Int),λq hq=>(by have:=bat q hq;rw[e]at this;exact this),⟨by omega,by omega⟩,(yW V C).1,qe R k,λq hq=>(by rw[Int.toNat_natCast];exact(yW hq.2 C).2),λO=>by rw[if_pos O],λO=>⟨⟨by omega,by omega⟩,⟨j+1,if m<qe R k then qe R k else m⟩,rfl,by show((j+1:Nat):Int)=_;omega,⟨by show j+1<=_;omega,⟨?_,?_⟩,?_⟩,by show _- (j+1)<_;omega⟩⟩
   ·show 0<=if m<qe R k then qe R k else m;split<;>omega
   ·show(if m<qe R k then qe R k else m)<=100;split<;>omega
   ·rw[if_neg O]
  ·rw[List.drop_of_length_le (by omega),kR];exact⟨⟨by omega,by omega⟩,rfl⟩
def HA{A B:List Int} (h:A.length=B.length) (i:Nat):(jo A B i).length=B.length:=by unfold jo;simp;omega
def zz3{α:Type} (X:List α) (b v:α) (Y:List α):(X++b::Y).set X.length v=X++v::Y:=by
 induction X with
 |nil=>rfl
 |cons a X h=>simp
def zy5{A B:List Int} (h:A.length=B.length) {i:Nat} (hi:i<B.length):(jo A B i).set i (qe A i)=jo A B (i+1):=by
 unfold jo;have hA:i<A.length:=by omega
 have e:(A.take i).length=i:=by simp;omega
 have:=zz3 (A.take i) B[i] A[i] (B.drop (i+1));rw[e]at this;rw[wS hA,List.drop_eq_getElem_cons hi,this,List.take_succ_eq_append_getElem hA,List.append_assoc];rfl
def zpl{A B:List Int} (h:A.length=B.length) {i:Nat} (hi:i<B.length) (e:qe A i=qe B i):jo A B i=jo A B (i+1):=by
 unfold jo;have hA:i<A.length:=by omega
 rw[wS hA,wS hi]at e;rw[List.drop_eq_getElem_cons hi,←e,List.take_succ_eq_append_getElem hA,List.append_assoc];rfl
def zdv(A B:List Int):jo A B 0=B:=by unfold jo;simp
def zj5{A B:List Int} (h:A.length=B.length) {i:Nat} (hi:B.length<=i):jo A B i=A:=by unfold jo;rw[List.take_of_length_le (by omega),List.drop_of_length_le (by omega),List.append_nil]
def JO(W:List Int) (i:Nat) (hi:i<W.length) (v:Int):qa qh (W.set i v)=spl (qa qh W) (0+i*1) [.int .i64 v]:=ze4 yX W i hi v
def HB{A B:List Int} (h:A.length=B.length) {i:Nat} (hi:i<B.length) {v:Int} (e:qe A i=v):qa qh (jo A B (i+1))=spl (qa qh (jo A B i)) (0+i*1) [.int .i64 v]:=by rw[←zy5 h hi,e];exact JO _ _ (by rw[HA h];exact hi) _
def Od:∀n:Nat,q6b [.int .i64 0] n=qa qh (List.replicate n 0)
 |0=>rfl
 |n+1=>by rw[q6b,Od n];rfl
def zjo{K:Int} (h:yC S R K) (C:K<=100):KT S.length R:=⟨h.1,λt A=>by obtain⟨j,u,rfl⟩:=vy A;have:=(h.2 j u).1;omega⟩
end
section
variable (b h:SV) (c:List AT) (e:List Int) (a i:Nat×List Int) (O:Int) (T:O6) (Q:Option Addr) (F p:Nat) (m:Int) (r:Option Addr) (q s:Nat) (t:Bool) (u:O6) (v:Int) (w:Option Addr) (x y:Nat) (j:Option Addr) (l n:Nat) (E:List Int) (A:Nat×List Int) (x26:Prop) (S:Nat->Option Obj)
 abbrev xQ:=True/\qc c b S/\qb qh h e S
 abbrev kv:=(↑b.2.1:Int)
 def ku:=b.1=b.1/\b.2.1=b.2.1/\b.2.2=b.2.2/\x26
 def KD:=toNat (kv b)=toNat (kv b)
 def xP:=(∀d,xQ b h c e d->xQ b h c e d)
 def Rg:=a.1<=length c+1/\WB (length c) a.2/\wall c e (length c+1- a.1) (↑a.1:Int) a.2=wts c e
 def YI:=KD b/\(↑a.1:Int)=(↑a.1:Int)/\x26
 def U_:=a.1<=length c/\WB (length c) a.2/\kU c e (↑i.1:Int) a.1 a.2=wts c e
 abbrev Xa:=Jb ((↑a.1:Int)+1)
 def Xc:=(↑a.1:Int)=(↑i.1:Int)+1
 def cV:=Xa a/\∃(d:Nat×List Int),ku b (Xc d a/\YI b i (ku h (qa qh d.2=qa qh a.2/\xP h b c e/\(U_ c e d i)/\length c- d.1<length c- a.1/\True)))
 def YH:=(0<=(↑a.1:Int)/\(↑a.1:Int)<(↑(toNat (kv b)):Int))
 abbrev ZS:=(0:Nat)+toNat (↑a.1:Int)*nat_lit 1
 abbrev YG:=spl (qa qh a.2) (ZS a) [int i64 1]
 abbrev Xb:=if(1000000:Int)<O+m then 1000000 else O+m
 def Rh:=WB (length c) e/\kU c E (↑a.1:Int) (toNat (↑i.1:Int)+1) (wfs e (toNat (↑i.1:Int)) (AT.fs (qd c (↑i.1:Int))))=wts c E
 def re:=YH b a/\∃(d:Int),qfi (YG a) (ZS a) [int i64 d]/\∃(g:AT×(Option Addr×Nat×Nat)×List Int),AT.k g.1=O/\AT.nm g.1=T/\(AT.al g.1).1=Q/\(AT.al g.1).2.1=F/\(AT.al g.1).2.2=p/\AT.it g.1=m/\(AT.sy g.1).1=r/\(AT.sy g.1).2.1=q/\(AT.sy g.1).2.2=s/\AT.hd g.1=t/\AT.df g.1=u/\AT.sz g.1=v/\(AT.f g.1).1=w/\(AT.f g.1).2.1=x/\(AT.f g.1).2.2=y/\(AT.br g.1).1=j/\(AT.br g.1).2.1=l/\(AT.br g.1).2.2=n/\g.2.1.1=b.1/\g.2.1.2.1=b.2.1/\g.2.1.2.2=b.2.2/\(length g.2.2<1000/\length (AT.brs g.1)<=30/\∀(o:Int),o∈AT.brs g.1->0<=o/\o<(↑(length g.2.2):Int))/\(∀B,xQ h b c e B->AT.ok g.1 B/\qb qh g.2.1 g.2.2 B)/\(0<=(↑(zq g.2.2 (AT.brs g.1)):Int)/\(↑(zq g.2.2 (AT.brs g.1)):Int)<(↑l:Int))/\j≠noA/\∃(z:Int),(∀U,xQ h b c e U->q2u U (adr j (toNat (↑(zq g.2.2 (AT.brs g.1)):Int)*1)) [int i64 z])/\(0<=z/\z<(↑(toNat (kv b)):Int))/\∃(R:Int),qfi (YG a) ((0:Nat)+toNat z*nat_lit 1) [int i64 R]/\Jb (d+R)/\YH b a/\(0:Nat)+toNat (↑a.1:Int)*nat_lit 1+length [int i64 (Xb d R)]<=length (YG a)/\∃(V:Int),qfi (YG a) (ZS a) [int i64 V]/\AV.sv (int i64 V)=AV.sv (int i64 d)/\AV.sv (slice j l n)=AV.sv (slice j l n)/\∃(i8:List Int),ku b ((↑a.1:Int)=(↑a.1:Int)/\YI b i (ku h (O=O/\T=T/\Q=Q/\F=F/\p=p/\m=m/\r=r/\q=q/\s=s/\t=t/\u=u/\v=v/\w=w/\x=x/\y=y/\j=j/\l=l/\n=n/\qa qh i8=spl (YG a) (ZS a) [int i64 (Xb d R)]/\xP h b c e/\(Rh c i8 i a e)/\True)))
 def Rf:=a.1<=length (AT.fs (qd c (↑i.1:Int)))/\WB (length c) a.2/\kU c e (↑A.1:Int) (toNat (↑i.1:Int)+1) (wfs a.2 (toNat (↑i.1:Int)) (drop a.1 (AT.fs (qd c (↑i.1:Int)))))=wts c e
 def rh:=YH b a/\∃(d:Int),qfi (qa qh i.2) (ZS a) [int i64 d]/\(0<=(↑i.1:Int)/\(↑i.1:Int)<(↑F:Int))/\Q≠noA/\∃(g:Int),(∀o,xQ h b c e o->q2u o (Addr.add (adr Q (toNat (↑i.1:Int)*9)) 2) [int i64 g])/\(0<=g/\g<(↑(toNat (kv b)):Int))/\∃(B:Int),qfi (qa qh i.2) ((0:Nat)+toNat g*nat_lit 1) [int i64 B]/\Jb (d+B)/\YH b a/\(0:Nat)+toNat (↑a.1:Int)*nat_lit 1+length [int i64 (Xb d B)]<=length (qa qh i.2)/\Xa i/\∃(z:Nat×List Int),ku b ((↑a.1:Int)=(↑a.1:Int)/\KD b/\Xc z i/\(↑A.1:Int)=(↑A.1:Int)/\ku h (O=O/\T=T/\r=r/\p=p/\q=q/\m=m/\w=w/\s=s/\x=x/\t=t/\u=u/\v=v/\Q=Q/\F=F/\y=y/\j=j/\l=l/\n=n/\qa qh z.2=spl (qa qh i.2) (ZS a) [int i64 (Xb d B)]/\xP h b c e/\(Rf c e z a A)/\length (AT.fs (qd c (↑a.1:Int)))- z.1<length (AT.fs (qd c (↑a.1:Int)))- i.1/\True))
 def cW:=Xa a/\∃(d:Nat×List Int),ku b (Xc d a/\YI b i (ku h (qa qh d.2=qa qh A.2/\xP h b c e/\(U_ c e d i)/\length c- d.1<length c- a.1/\True)))
 def rf:=Ji ((↑a.1:Int)<(↑F:Int)) (rh b h c e i a O T Q F p m r q s t u v w x y j l n A) (cW b h c e i A a)
 def p_:=(∃(d:Nat×List Int),ku b ((↑a.1:Int)=(↑a.1:Int)/\KD b/\(↑d.1:Int)=0/\(↑i.1:Int)=(↑i.1:Int)/\ku h (O=O/\T=T/\Q=Q/\F=F/\p=p/\m=m/\r=r/\q=q/\s=s/\t=t/\u=u/\v=v/\w=w/\x=x/\y=y/\j=j/\l=l/\n=n/\qa qh d.2=qa qh e/\xP h b c E/\(Rf c E d a i)/\True)))/\∀(o:Nat×List Int),Rf c E o a i->rf b h c E o a O T w x F m Q p q t u v r s y j l n i
 def p9:=YH b a/\(0:Nat)+toNat (↑a.1:Int)*nat_lit 1+length [int i64 1]<=length (qa qh a.2)/\(0<=(↑a.1:Int)/\(↑a.1:Int)<(kv h))/\h.1≠noA/\∃(d:Int),∃g,∃o,∃(B:Nat),∃(z:Nat),∃(U:Int),∃R,∃(V:Nat),∃(i8:Nat),∃(i9:Bool),∃G,∃(H:Int),∃I,∃(J:Nat),∃(K:Nat),∃L,∃(i16:Nat),∃(M:Nat),(∀W,xQ h b c e W->q2u W (adr h.1 (toNat (↑a.1:Int)*10)) [int i64 d,string g,slice o B z,int i64 U,slice R V i8,bool i9,string G,int i64 H,slice I J K,slice L i16 M])/\(Ji (d=14) (re b h c e a i d g o B z U R V i8 i9 G H I J K L i16 M) (∃(X:List Int),ku b ((↑a.1:Int)=(↑a.1:Int)/\YI b i (ku h (d=d/\g=g/\o=o/\B=B/\z=z/\U=U/\R=R/\V=V/\i8=i8/\i9=i9/\G=G/\H=H/\I=I/\J=J/\K=K/\L=L/\i16=i16/\M=M/\qa qh X=spl (qa qh a.2) (ZS a) [int i64 1]/\xP h b c e/\(Rh c X i a e)/\True)))))/\∀(Y:List Int),Rh c Y i a e->p_ b h c Y a i d g o B z U R V i8 i9 G H I J K L i16 M e
 def p7:=(0<=(↑a.1:Int)/\(↑a.1:Int)<(kv b))/\b.1≠noA/\∃(d:Int),(∀g,xQ h b c e g->q2u g (adr b.1 (toNat (↑a.1:Int)*1)) [int i64 d])/\((!decide (d=(↑i.1:Int)))=true->cV b h c e a i)/\((!decide (d=(↑i.1:Int)))=false->p9 b h c e a i)
 def cU:=Xa a/\∃(d:Nat×List Int),ku b (KD b/\Xc d a/\ku h (qa qh d.2=qa qh i.2/\xP h b c e/\(Rg c e d)/\length c+1- d.1<length c+1- a.1/\True))
 def p6:=Ji ((↑a.1:Int)<(kv b)) (p7 b h c e a i) (cU b h c e i a)
 def p0:=(∃(d:Nat×List Int),ku b ((↑d.1:Int)=0/\YI b a (ku h (qa qh d.2=qa qh a.2/\xP h b c e/\(U_ c e d a)/\True))))/\∀(o:Nat×List Int),U_ c e o a->p6 b h c e o a
 def D_:=(xQ b h c e S)/\True/\toNat (kv h)<=F / nat_lit 1/\qfu S (some (Addr.mk p q none)) (take (toNat (kv h)*nat_lit 1) (qa qh a.2))
 def pZ:=Ji ((↑a.1:Int)<=(kv b)) (p0 b h c e a) (∀(C D N:Nat),(∃i55,D_ h b c e a N C D i55)->∃(i56:Unit),some (Addr.mk C D none)=some (Addr.mk C D none)/\KD b/\N / nat_lit 1=N / nat_lit 1/\Pl (some (Addr.mk C D none))/\True/\(∀Z,D_ h b c e a N C D Z->qb qh (some (Addr.mk C D none),toNat (kv b),N / nat_lit 1) (wts c e) Z)/\True)
 def pY:=(0<=(kv b)/\(kv b)<=(kv b)/\(↑(8:Nat):Int)*(kv b)<=140737488355328/\(kv b)<140737488355328)/\(∃(d:Nat×List Int),ku b (KD b/\(↑d.1:Int)=0/\ku h (qa qh d.2=q6b [int i64 0] (toNat (kv b))/\xP h b c e/\(Rg c e d)/\True)))/\∀(o:Nat×List Int),Rg c e o->pZ b h c e o
end
def zbf(S:List AT) (x y:SV) (R:List Int):qix P (qef [(76,W6)]) Tryz.f36 Iv (zep) ⟨S,x,y,R⟩=(qv S/\KT (length S) R->(∃(p:Pub),xQ x y S R p)->pY y x S R):=by kernel_rfl
def zg2:=λS x y R=>Eq.trans (zbf S x y R) (by delta Ji Jb Jt Jf xQ kv ku KD xP Rg YI U_ Xa Xc cV YH ZS YG Xb Rh re Rf rh cW rf p_ p9 p7 cU p6 p0 D_ pZ pY;exact rfl)
section
variable (o:Int) (e:SV) (g:List AT) (h:SV) (G:Nat) (Q:O6) (H:Option Addr) (J:Nat) (M:Int) (R:Option Addr) (p q:Nat) (r:Bool) (t:O6) (u:Int) (v:Option Addr) (w z:Nat) (j:Option Addr) (l A:Nat) (i:Int) (E:Nat) (a:Nat×List GV) (c:GV) (O:AT×(Option Addr×Nat×Nat)×List Int) (I:Nat->Option Obj) (X:Prop) (m:Z5)
 abbrev jT:=True/\qc g e I/\qb qh h (qA g) I
 def Ri:=(GV.y c).1=noA/\(GV.y c).2.1=0/\(GV.y c).2.2=0/\X
 def Ec:=(GV.x c).1=noA/\(GV.x c).2.1=0/\(GV.x c).2.2=0/\Ri c (GV.b c=0/\yI g o c/\(∀d,jT e g h d->GV.ok c d)/\True)
 def ry:=(0<=o/\o<=o/\(↑(1:Nat):Int)*o<=140737488355328/\o<140737488355328)/\∃d,size d=toNat o/\qfi (q6b [int u8 0] (toNat o)) 0 (q11 d)/\∃(B:GV),GV.n B=0/\GV.s B=d/\Ec M e g h B
 def Xd:=e.1=e.1/\e.2.1=e.2.1/\e.2.2=e.2.2/\X
 def Ea:=m.2.1.1=e.1/\m.2.1.2.1=e.2.1/\m.2.1.2.2=e.2.2/\m.2.2.1=o/\m.2.2.2.1=h.1/\m.2.2.2.2.1=h.2.1/\m.2.2.2.2.2=h.2.2/\(KO m<G/\qv m.1/\zN m.1 m.2.2.1=true)/\X
 def Ed:=qc m.1 m.2.1 I/\qb qh m.2.2.2 (qA m.1) I
 def ru:=length (qa GV.cells a.2)=length a.2*5/\(length a.2+nat_lit 1)*80<=140737488355328/\Jb ((↑a.1:Int)+1)/\∃(d:Nat×List GV),(↑d.1:Int)=(↑a.1:Int)+1/\Xd e (Xd h (o=o/\Q=Q/\H=H/\G=G/\J=J/\M=M/\R=R/\p=p/\q=q/\r=r/\t=t/\u=u/\v=v/\w=w/\z=z/\j=j/\l=l/\A=A/\length d.2=length a.2+nat_lit 1/\qa GV.cells d.2=qa GV.cells a.2++[int u64 (GV.n c),string (GV.s c),slice (GV.x c).1 (GV.x c).2.1 (GV.x c).2.2,slice (GV.y c).1 (GV.y c).2.1 (GV.y c).2.2,int i64 (GV.b c)]/\(∀B,((jT h g e B)/\GV.oks a.2 B)/\GV.ok c B->jT h g e B)/\(∀D,((jT h g e D)/\GV.oks a.2 D)/\GV.ok c D->GV.oks d.2 D)/\xe g i d.1 (GV.pvs d.2)/\length (AT.fs (qd g i))- d.1<length (AT.fs (qd g i))- a.1/\True))
 def Fo:=(0<=(↑a.1:Int)/\(↑a.1:Int)<(↑G:Int))/\H≠noA/\∃(d:Int),(∀B,(jT e g h B)/\GV.oks a.2 B->q2u B (Addr.add (adr H (toNat (↑a.1:Int)*9)) 2) [int i64 d])/\∃(D:Z5),Ea d e h J ((∀K,(jT e g h K)/\GV.oks a.2 K->Ed K D)/\∀(L:GV),yI D.1 D.2.2.1 L->(∃U,((jT e g h U)/\GV.oks a.2 U)/\GV.ok L U)->ru o h g e p Q R q M v w z r t u H G l j A E i a L) D
 def rr:=(Fo o e g h G Q H J M R p q r t u v w z j l A i E a)/\(Fo o e g h G Q H J M R p q r t u v w z j l A i E a)/\Fo o e g h G Q H J M R p q r t u v w z j l A i E a
 def rq:=Ji ((↑a.1:Int)<(↑G:Int)) (rr o e g h G Q H J M R p q r t u v w z j l A i E a) (∀(S i28 i29:Nat) (V:Option Addr) (i31 i32:Nat),(∃W,((jT e g h W)/\GV.oks a.2 W)/\length a.2<=i32/\qfu W V (take (length a.2*nat_lit 5) (qa GV.cells a.2)))->∃(F:GV),GV.n F=0/\GV.s F=mkS []/\(GV.x F).1=V/\(GV.x F).2.1=length a.2/\(GV.x F).2.2=i32/\Ri F (GV.b F=0/\yI g i F/\(∀T,((jT e g h T)/\GV.oks a.2 T)/\length a.2<=i32/\qfu T V (take (length a.2*nat_lit 5) (qa GV.cells a.2))->GV.ok F T)/\True))
 def rp:=(∃(d:Nat×List GV),(↑d.1:Int)=0/\Xd e (Xd h (o=o/\Q=Q/\H=H/\G=G/\J=J/\M=M/\R=R/\p=p/\q=q/\r=r/\t=t/\u=u/\v=v/\w=w/\z=z/\j=j/\l=l/\A=A/\length d.2=0/\(∀B,jT h g e B->jT h g e B)/\(∀D,jT h g e D->GV.oks d.2 D)/\xe g i d.1 (GV.pvs d.2)/\True)))/\∀(K:Nat×List GV),xe g i K.1 (GV.pvs K.2)->(∃L,(jT h g e L)/\GV.oks K.2 L)->rq o h g e w Q v E M H G J r t u R p q j z l i A K
 abbrev Xe:=(↑(zq O.2.2 (AT.brs O.1)):Int)
 def Eb:=((jT e g h I)/\GV.ok c I)/\q2u I (Addr.mk G J none) [int u64 (GV.n c),string (GV.s c),slice (GV.x c).1 (GV.x c).2.1 (GV.x c).2.2,slice (GV.y c).1 (GV.y c).2.1 (GV.y c).2.2,int i64 (GV.b c)]
 def AN:=(0<=(Xe O)/\(Xe O)<(↑G:Int))/\H≠noA/\∃(d:Int),(∀B,jT e g h B->q2u B (adr H (toNat (Xe O)*1)) [int i64 d])/\∃(D:Z5),Ea d e h J ((∀K,jT e g h K->Ed K D)/\∀(L:GV),yI D.1 D.2.2.1 L->(∃U,(jT e g h U)/\GV.ok L U)->∀(Y Z i8:Nat),(∃i9,Eb e g h Y Z L i9)->∃(C:GV),GV.n C=0/\GV.s C=mkS []/\(GV.x C).1=some (Addr.mk Y (Z+nat_lit 0) none)/\(GV.x C).2.1=nat_lit 1/\(GV.x C).2.2=nat_lit 1/\Ri C (GV.b C=(Xe O)/\yI g o C/\(∀N,Eb e g h Y Z L N->GV.ok C N)/\True)) D
 def rv:=Ji (o=14) (∃(d:AT×(Option Addr×Nat×Nat)×List Int),AT.k d.1=o/\AT.nm d.1=Q/\(AT.al d.1).1=H/\(AT.al d.1).2.1=G/\(AT.al d.1).2.2=J/\AT.it d.1=M/\(AT.sy d.1).1=R/\(AT.sy d.1).2.1=p/\(AT.sy d.1).2.2=q/\AT.hd d.1=r/\AT.df d.1=t/\AT.sz d.1=u/\(AT.f d.1).1=v/\(AT.f d.1).2.1=w/\(AT.f d.1).2.2=z/\(AT.br d.1).1=j/\(AT.br d.1).2.1=l/\(AT.br d.1).2.2=A/\d.2.1.1=e.1/\d.2.1.2.1=e.2.1/\d.2.1.2.2=e.2.2/\(length d.2.2<1000/\length (AT.brs d.1)<=30/\∀(B:Int),B∈AT.brs d.1->0<=B/\B<(↑(length d.2.2):Int))/\(∀D,jT h g e D->AT.ok d.1 D/\qb qh d.2.1 d.2.2 D)/\(AN i h g e l j E d)/\AN i h g e l j E d) (∃(S:GV),GV.n S=0/\GV.s S=mkS []/\Ec i h g e S)
 def rm:=Ji (o=9) (rp o e g h G Q H J M R p q r t u v w z j l A i E) (rv o e g h G Q H J M R p q r t u v w z j l A i E)
 def rl:=(0<=o/\o<(↑e.2.1:Int))/\e.1≠noA/\∃(d:Int),∃B,∃D,∃(K:Nat),∃(L:Nat),∃(U:Int),∃Y,∃(Z:Nat),∃(i8:Nat),∃(i9:Bool),∃C,∃(N:Int),∃i12,∃(i13:Nat),∃(i14:Nat),∃i15,∃(i16:Nat),∃(i17:Nat),(∀i18,jT e g h i18->q2u i18 (adr e.1 (toNat o*10)) [int i64 d,string B,slice D K L,int i64 U,slice Y Z i8,bool i9,string C,int i64 N,slice i12 i13 i14,slice i15 i16 i17])/\Ji (d=11) (ry N e g h o) (rm d h g e K B D L U Y Z i8 i9 C N i12 i13 i14 i15 i16 i17 o G)
end
def zfj(n:Nat) (S:List AT) (x:SV) (t:Int) (y:SV):qiy P (qef [(76,W6)]) (qff [(37,JT.below KO n)]) Tryz.f37 (JT.below KO (n+1)) (zkr) ⟨S,x,t,y⟩=(KO (S,x,t,y)<n+1/\qv S/\zN S t=true->(∃(p:Pub),jT x S y p)->rl t x S y n):=by kernel_rfl
def ziu:=λn S x t y=>Eq.trans (zfj n S x t y) (by delta Ji Jb Jt Jf jT Ri Ec ry Xd Ea Ed ru Fo rr rq rp Xe Eb AN rv rm rl;exact rfl)
section
variable (g:Int) (h:Nat) (f:Option Addr) (d:List AT) (e:SV) (j:Nat) (m:List AT×Option Addr×Nat×Nat) (r:Option Addr) (t v:Nat) (i:Xr) (a:GV×Bool) (E:Prop) (o:Nat->Option Obj) (q:(Option Addr×Nat×Nat)×Int)
 abbrev Jh:=(True/\qc d e o)/\qb qh (f,h,j) (qA m.1) o
 def AR:= !(decide (0<=q.2)&&decide (q.2<(↑q.1.2.1:Int)))
 def AQ:=(a.2=zN d g/\PV.sn (GV.pv a.1)/\PV.wt (GV.pv a.1)<=60000/\(a.2=true->PV.fitz d g (GV.pv a.1))/\(a.2=false\/AT.k (qd d g)=12\/AT.k (qd d g)=13->a.1=zV))
 def Fp:=GV.n a.1=0/\GV.s a.1=mkS []/\(GV.x a.1).1=noA/\(GV.x a.1).2.1=0/\(GV.x a.1).2.2=0/\(GV.y a.1).1=noA/\(GV.y a.1).2.1=0/\(GV.y a.1).2.2=0/\GV.b a.1=0/\a.2=false/\AQ g d a/\E
 def Jg:=(Jh h f d e j m o)/\qb qh (r,t,v) (wts i.1 i.2.2.2) o
 def rB:=(0<=g/\g<(↑h:Int))/\f≠noA/\∃(w:Int),(∀z,Jg j r d e t m f h v i z->q2u z (adr f (toNat g*1)) [int i64 w])/\Ji (2000<w) (∃(A:GV×Bool),Fp g d A ((∀B,Jg j r d e t m f h v i B->GV.ok A.1 B)/\True)) (∃(c:Z5),c.2.1.1=e.1/\c.2.1.2.1=e.2.1/\c.2.1.2.2=e.2.2/\c.2.2.1=g/\c.2.2.2.1=r/\c.2.2.2.2.1=j/\c.2.2.2.2.2=t/\(qv c.1/\zN c.1 c.2.2.1=true)/\(∀p,Jg j r d e t m f h v i p->qc c.1 c.2.1 p/\qb qh c.2.2.2 (qA c.1) p)/\∀(l:GV),yI c.1 c.2.2.1 l->(∃C,(Jg j r d e t m f h v i C)/\GV.ok l C)->∃(i8:GV×Bool),GV.n i8.1=GV.n l/\GV.s i8.1=GV.s l/\(GV.x i8.1).1=(GV.x l).1/\(GV.x i8.1).2.1=(GV.x l).2.1/\(GV.x i8.1).2.2=(GV.x l).2.2/\(GV.y i8.1).1=(GV.y l).1/\(GV.y i8.1).2.1=(GV.y l).2.1/\(GV.y i8.1).2.2=(GV.y l).2.2/\GV.b i8.1=GV.b l/\i8.2=true/\AQ g d i8/\(∀u,(Jg j r d e t m f h v i u)/\GV.ok l u->GV.ok i8.1 u)/\True)
 def rz:=(0<=g/\g<(↑h:Int))/\f≠noA/\∃(w:Int),(∀z,Jh h f d e j m z->q2u z (adr f (toNat g*1)) [int i64 w])/\Ji (w<0) (∃(A:GV×Bool),Fp g d A ((∀B,Jh h f d e j m B->GV.ok A.1 B)/\True)) (∃(c:Xr),c.2.1.1=e.1/\c.2.1.2.1=e.2.1/\c.2.1.2.2=e.2.2/\c.2.2.1.1=f/\c.2.2.1.2.1=h/\c.2.2.1.2.2=j/\(qv c.1/\KT (length c.1) c.2.2.2)/\(∀p,Jh h f d e j m p->qc c.1 c.2.1 p/\qb qh c.2.2.1 c.2.2.2 p)/\∀(l:Unit),True->∀(C:Option Addr) (i8 u:Nat),(∃D,Jg h f d e j m C i8 u c D)->rB g i8 C d e h m f j u c)
end
def zfi(S:List AT) (x:SV) (t:Int):qiy P (qef [(35,Ht),(30,KH),(36,Iv)]) (qff [(37,JT)]) Tryz.f21 IR (λ_=>{}) ⟨S,x,t⟩=(qv S->(∃(p:Pub),True/\qc S x p)->∃(s:List AT×Option Addr×Nat×Nat),s.2.1=x.1/\s.2.2.1=x.2.1/\s.2.2.2=x.2.2/\qv s.1/\(∀(p:Pub),True/\qc S x p->qc s.1 s.2 p)/\∀(b:Unit),True->∀(a:Option Addr) (n c:Nat),(∃(p:Pub),Jh n a S x c s p)->∃(s_1:(Option Addr×Nat×Nat)×Int),s_1.1.1=x.1/\s_1.1.2.1=x.2.1/\s_1.1.2.2=x.2.2/\s_1.2=t/\True/\((AR s_1)=true->∃(b:GV×Bool),Fp t S b ((∀(p:Pub),Jh n a S x c s p->GV.ok b.1 p)/\True))/\((AR s_1)=false->rz t n a S x c s)):=by kernel_rfl
def zis:=λS x t=>Eq.trans (zfi S x t) (by delta Ji Jt Jf Jh AR AQ Fp Jg rB rz;exact rfl)
section
variable {i:Nat}
def V5{B:List Int} (h:i<B.length):B.getD i 0=B[i]:=by rw[List.getD_eq_getElem?_getD,List.getElem?_eq_getElem h];rfl
def z9b:q4a P 76 W6:=by
 refine qw (qbu qil) (W:=zko) Tryz.func76 λ⟨a,(y:SV),R⟩=>(zht a y R).mpr ?_;rintro⟨hRl,hb30,N⟩ ⟨p,_,Z,hy⟩;obtain⟨_,_,_,bl⟩:=uD Z;have yl:y.2.1=R.length:=hy.1;simp only[qy,exists_const,forall_const,Int.toNat_natCast,yl,bl];refine⟨⟨⟨0,0⟩,rfl,rfl,Nat.zero_le _,Nat.le_refl _,λ_=>rfl,rfl⟩,?_⟩;rintro⟨i,m⟩ ⟨hi,X,V,A⟩;simp only at hi X V A⊢;refine⟨λhlt=>⟨?_,?_⟩,λhge=> ?_⟩
 ·have C:i<a.brs.length:=by omega
  have G:m<a.brs.length:=by omega
  have gi:=V5 C;have Y:=V5 G;have u:a.ok p/\qb qh y R p:=⟨Z,hy⟩;have ci:=λq (hq:a.ok q/\qb qh y R q)=>yV hq.1 C;have H:=λq (hq:a.ok q/\qb qh y R q)=>yV hq.1 G;obtain⟨j,hj,ej⟩:=vy (N _ (List.getElem_mem C));obtain⟨k,hk,ek⟩:=vy (N _ (List.getElem_mem G));rw[ej]at gi ci;rw[ek]at Y H;unfold x7;rw[gi,Y];have T:=λq (hq:a.ok q/\qb qh y R q)=>yW hq.2 hj;have U:=λq (hq:a.ok q/\qb qh y R q)=>yW hq.2 hk;refine⟨⟨by omega,by omega⟩,(ci p u).1,(j:Int),λq hq=>(ci q hq).2,⟨by omega,by omega⟩,(T p u).1,qe R j,λq hq=>(T q hq).2,λO=>⟨⟨by omega,by omega⟩,(H p u).1,(k:Int),λq hq=>(H q hq).2,⟨by omega,by omega⟩,(U p u).1,qe R k,λq hq=>(U q hq).2,?_⟩,?_⟩
  ·refine⟨λJ=>⟨λ_=>⟨λ_=>decide_eq_true ⟨O, .inl J⟩,λh=>absurd O h⟩,λh=>absurd J h⟩,λJ=>⟨⟨by omega,by omega⟩,(ci p u).1,(j:Int),λq hq=>(ci q hq).2,⟨by omega,by omega⟩,(T p u).1,qe R j,λq hq=>(T q hq).2,⟨by omega,by omega⟩,(H p u).1,(k:Int),λq hq=>(H q hq).2,⟨by omega,by omega⟩,(U p u).1,qe R k,λq hq=>(U q hq).2,λh=>absurd h J,λ_=>⟨λ_=> ?_,λh=>absurd O h⟩⟩⟩;exact qV ⟨λh=>h.2.resolve_left J,λh=>⟨O, .inr h⟩⟩
  ·exactλh=>⟨λg=>absurd g h,λ_=>decide_eq_false λg=>h g.1⟩
 ·have e:a.brs.length- i=(a.brs.length- (i+1))+1:=by omega
  rw[e,yD]at A;refine⟨λh=>⟨⟨by omega,by omega⟩,⟨i+1,i⟩,rfl,by show((i+1:Nat):Int)=_;omega,⟨by show i+1<=_;omega,by show i<=i+1;omega,λh=>(by have h:i=i+1:=h;omega),?_⟩,by show _- (i+1)<_;omega⟩,λh=>⟨⟨by omega,by omega⟩,⟨i+1,m⟩,rfl,by show((i+1:Nat):Int)=_;omega,⟨by show i+1<=_;omega,by show m<=i+1;omega,λh=>(by have h:m=i+1:=h;omega),?_⟩,by show _- (i+1)<_;omega⟩⟩
  ·unfold x7 at h;rw[if_pos (of_decide_eq_true h)]at A;exact A
  ·unfold x7 at h;rw[if_neg (of_decide_eq_false h)]at A;exact A
 ·rw[show a.brs.length- i=0 by omega,yD]at A;rw[A]
variable {S:List AT} {R:List Int} {k:Nat}
def zkx(h:k<=S.length) (W:List Int):kU S R (k:Int) 0 W=wall S R (S.length+1- k) k W:=by unfold kU;rw[show S.length+1- k=(S.length- k)+1 by omega,wall,Int.toNat_natCast,Nat.sub_zero]
def zkw{k:Int} (hi:i<S.length) (h:¬qe R i=k) (W:List Int):kU S R k i W=kU S R k (i+1) W:=by unfold kU;rw[show S.length- i=(S.length- (i+1))+1 by omega,QY,if_neg h]
def zkv{k:Int} (hi:i<S.length) (h:qe R i=k) (W:List Int):kU S R k i W=kU S R k (i+1) (wfs (wU R W i S[i]) i S[i].fs):=by
 unfold kU;have e:S.getD i zA=S[i]:=by rw[List.getD_eq_getElem?_getD,List.getElem?_eq_getElem hi];rfl
 rw[show S.length- i=(S.length- (i+1))+1 by omega,QY,if_pos h,e,w1]
def zqu(hi:S.length<=i) (W:List Int):kU S R (k:Int) i W=wall S R (S.length+1- (k+1)) ((k+1:Nat):Int) W:=by unfold kU;rw[show S.length- i=0 by omega,QY,Int.toNat_natCast,show S.length+1- (k+1)=S.length- k by omega];rfl
def G4{W:List Int} (u:k<W.length):∀(j:Nat) v,[Value.int .i64 (qe W k)][j]? =some v->(qa qh W)[0+k*1+j]? =some v:=λj v h=>by
  cases j with
  |succ j=>simp at h
  | zero=>
    have e:qa qh W=W.map (Value.int .i64):=by
      clear u h;induction W with
      |nil=>rfl
      |cons a W A=>show [Value.int .i64 a]++qa qh W=_;rw[A];rfl
    rw[e,Nat.zero_add,Nat.mul_one,Nat.add_zero,List.getElem?_map,List.getElem?_eq_getElem u,←h,wS u];rfl
def zg3:q4a P 36 Iv:=by
 refine qw (qbu (qfr z9b qil)) (W:=zep) Tryz.func36 λ⟨S,(x:SV),(y:SV),R⟩=>(zg2 S x y R).mpr ?_;rintro⟨hS,hRl,hR⟩ ⟨p,_,hx,hy⟩;have sl:x.2.1=S.length:=hx.1.1;have yl:y.2.1=S.length:=hy.1.trans hRl;have h60:=hS.1;have N:qc S x p/\qb qh y R p:=⟨hx,hy⟩;simp only[qy,exists_const,forall_const,Int.toNat_natCast,sl,yl];have WB0:WB S.length (List.replicate S.length 0):=⟨by simp,λi hi=>by rw[wS (by simpa using hi)];simp⟩;refine⟨⟨by omega,by omega,by omega,by omega⟩,⟨⟨0,List.replicate S.length 0⟩,rfl,(Od _).symm,Nat.zero_le _,WB0,rfl⟩,?_⟩;rintro⟨k,W⟩ ⟨hk,hW,hw⟩;simp only at hk hW hw⊢;refine⟨λhle=> ?_,λhgt=> ?_⟩
 ·refine⟨⟨⟨0,W⟩,rfl,rfl,Nat.zero_le _,hW,by show kU S R (k:Int) 0 W=_;rw[zkx (by omega)];exact hw⟩,?_⟩;rintro⟨i,V⟩ ⟨hi,hV,hv⟩;simp only at hi hV hv⊢;refine⟨λhlt=> ?_,λhge=>⟨⟨by omega,by omega⟩,⟨k+1,V⟩,by show((k+1:Nat):Int)=_;omega,rfl,⟨by show k+1<=_;omega,hV,by show wall S R _ _ V=_;rw[←zqu (i:=i) (by omega)];exact hv⟩,by show _- (k+1)<_;omega⟩⟩;have A:i<S.length:=by omega
  have hat:=λq (hq:qc S x q/\qb qh y R q)=>yp hq.1 A;have J:=λq (hq:qc S x q/\qb qh y R q)=>hq.1.2 S[i] (List.getElem_mem A);have G:=hS.2 S[i] (List.getElem_mem A);have ri:=λq (hq:qc S x q/\qb qh y R q)=>yW hq.2 (show i<R.length by omega);obtain⟨_,_,fl,bl⟩:=uD (J p N);have hbr:=G.2.2.1;have hne:=G.2.2.2.1;have hfr:=λf (hf:f∈S[i].fs)=>(G.2.2.2.2.1 f hf).1;have hb30:=G.2.2.2.2.2.2.2.2.1;have hf30:=G.2.2.2.2.2.2.2.1;clear G;have hVl:V.length=S.length:=hV.1;have hrw:=qB yX V;have sp1:spl (qa qh V) (0+i*1) [.int .i64 1]=qa qh (V.set i 1):=(JO V i (by omega) 1).symm;have T:=V7 hV A (v:=1) (by omega);simp only[ko A,sp1,hrw,qB yX,List.length_set,List.length_singleton];refine⟨⟨by omega,by omega⟩,(ri p N).1,qe R i,λq hq=>(ri q hq).2,λhnk=>⟨⟨by omega,by omega⟩,⟨i+1,V⟩,by show((i+1:Nat):Int)=_;omega,rfl,⟨by show i+1<=_;omega,hV,by show kU S R _ (i+1) V=_;rw[←zkw A hnk];exact hv⟩,by show _- (i+1)<_;omega⟩,λhkk=>⟨⟨by omega,by omega⟩,by omega,⟨by omega,by omega⟩,(hat p N).1,S[i].k,S[i].nm,S[i].al.1,S[i].al.2.1,S[i].al.2.2,S[i].it,S[i].sy.1,S[i].sy.2.1,S[i].sy.2.2,S[i].hd,S[i].df,S[i].sz,S[i].f.1,S[i].f.2.1,S[i].f.2.2,S[i].br.1,S[i].br.2.1,S[i].br.2.2,λq hq=>(hat q hq).2,⟨λO=> ?_,λO=> ?_⟩,?_⟩⟩
  ·have Y:zq R S[i].brs<S[i].brs.length:=HU (hne O);have bat:=λq (hq:qc S x q/\qb qh y R q)=>yV (J q hq) Y;have gd:=V5 Y;have bin:=hbr _ (List.getElem_mem Y);have Z:=zkv A hkk V;have X:wU R V i S[i]=(V.set i 1).set i (kG (qe (V.set i 1) i) (qe (V.set i 1) (S[i].brs.getD (zq R S[i].brs) 0))):=(by unfold wU;rw[if_pos O]);rw[gd]at X;generalize S[i].brs[zq R S[i].brs]=b at*;obtain⟨t,ht,rfl⟩:=vy bin;have e1:qe (V.set i 1) i=1:=(by rw[Qy (by omega),if_pos rfl]);have hl1:(V.set i 1).length=S.length:=T.1;have g1:=G4 (W:=V.set i 1) (k:=i) (by omega);have g2:=G4 (W:=V.set i 1) (k:=t) (by omega);have rt:=T.2 t ht;rw[e1]at g1 X;refine⟨⟨by omega,by omega⟩,1,g1,⟨S[i],y,R⟩,rfl,rfl,rfl,rfl,rfl,rfl,rfl,rfl,rfl,rfl,rfl,rfl,rfl,rfl,rfl,rfl,rfl,rfl,rfl,yl,rfl,⟨by show R.length<1000;omega,hb30,λb hb=>by have:=hbr b hb;show 0<=b/\b<(R.length:Int);omega⟩,λq hq=>⟨J q hq,hq.2⟩,⟨by omega,by show((zq R S[i].brs:Nat):Int)<_;omega⟩,(bat p N).1,(t:Int),λq hq=>(bat q hq).2,⟨by omega,by omega⟩,qe (V.set i 1) t,λj v h=>g2 j v h,⟨by omega,by omega⟩,⟨by omega,by omega⟩,by omega,1,g1,rfl,wU R V i S[i],?_,?_,?_⟩
   ·rw[X];exact JO _ _ (by omega) _
   ·rw[X];exact V7 T A (H5 (by omega) rt.1)
   ·rw[←Z];exact hv
  ·have Z:=zkv A hkk V;have X:wU R V i S[i]=V.set i 1:=(by unfold wU;rw[if_neg O]);refine⟨wU R V i S[i],by rw[X],by rw[X];exact T,by rw[←Z];exact hv⟩
  ·rintro V2 ⟨hV2,hw2⟩;refine⟨⟨⟨0,V2⟩,rfl,rfl,Nat.zero_le _,hV2,hw2⟩,?_⟩;rintro⟨m,V3⟩ ⟨hm,C,H⟩;simp only at hm C H⊢;refine⟨λhlt=> ?_,λhge=>⟨⟨by omega,by omega⟩,⟨i+1,V3⟩,by show((i+1:Nat):Int)=_;omega,rfl,⟨by show i+1<=_;omega,C,?_⟩,by show _- (i+1)<_;omega⟩⟩
   ·have U:m<S[i].fs.length:=(by omega);have bat:=λq hq=>HY (J q hq) U;have bne:=(vV (J p N) U).1;have bin:=hfr _ (List.getElem_mem U);rw[List.drop_eq_getElem_cons U,wfs]at H;generalize S[i].fs[m]=f at*;obtain⟨t,ht,e⟩:=vy bin;rw[e]at H;have hl3:V3.length=S.length:=C.1;have g1:=G4 (W:=V3) (k:=i) (by omega);have g2:=G4 (W:=V3) (k:=t) (by omega);have r1:=C.2 i A;have r2:=C.2 t ht;refine⟨⟨by omega,by omega⟩,qe V3 i,g1,⟨by omega,by omega⟩,bne,(t:Int),λq hq=>(by have:=bat q hq;rw[e]at this;exact this),⟨by omega,by omega⟩,qe V3 t,λj v h=>g2 j v h,⟨by omega,by omega⟩,⟨by omega,by omega⟩,by omega,⟨by omega,by omega⟩,⟨m+1,V3.set i (kG (qe V3 i) (qe V3 t))⟩,by show((m+1:Nat):Int)=_;omega,JO _ _ (by omega) _,⟨by show m+1<=_;omega,V7 C A (H5 r1.1 r2.1),H⟩,by show _- (m+1)<_;omega⟩
   ·rw[List.drop_of_length_le (by omega),wfs]at H;exact H
 ·rw[show S.length+1- k=0 by omega,wall]at hw;rintro b s u _;have hl:W.length=S.length:=hW.1;refine⟨trivial,λq hq=>⟨by show S.length=(wts S R).length;rw[←hw,hl],hq.2.1,?_⟩⟩;have h2:=hq.2.2;rw[List.take_of_length_le (by rw[qB yX,hl];exact Nat.le_refl _)]at h2;rw[←hw];exact h2
end
def zjl:q4a P 35 Ht:=by
 refine qw (qbu (qfr zjj qil)) (W:=zku) Tryz.func35 λ⟨S,(x:SV)⟩=>(zjk S x).mpr ?_;rintro hS ⟨p,_,hx⟩;have sl:x.2.1=S.length:=hx.1.1;have h60:=hS.1;simp only[qy,exists_const,forall_const,Int.toNat_natCast,sl];have J:(S.map kB).length=(List.replicate S.length (0:Int)).length:=by simp
 refine⟨⟨by omega,by omega,by omega,by omega⟩,⟨0,rfl,by rw[zdv];exact(Od _).symm,Nat.zero_le _⟩,?_⟩;intro i hi;refine⟨λV=> ?_,λU=> ?_⟩
 ·have A:i<S.length:=by omega
  have C:=λq (hq:qc S x q)=>yp hq A;have Z:∀q,qc S x q->q2u q ((adr x.1 (i*10)).add 0) [.int .i64 S[i].k]:=λq hq j v N=>by
   cases j with
   |zero=>have:=(C q hq).2 0 v N;rw[Addr.add_add];exact this
   |succ j=>simp at N
  have ei:qe (S.map kB) i=kB S[i]:=by rw[wS (by simpa using A)];simp
  have G:(qa qh (jo (S.map kB) (List.replicate S.length 0) i)).length=S.length*1:=by rw[qB yX,HA J];simp
  have two:spl (spl (qa qh (jo (S.map kB) (List.replicate S.length 0) i)) (0+i*1) [.int .i64 (-1)]) (0+i*1) [.int .i64 0]=spl (qa qh (jo (S.map kB) (List.replicate S.length 0) i)) (0+i*1) [.int .i64 0]:=by have hm:i<(jo (S.map kB) (List.replicate S.length 0) i).length:=(by rw[HA J];simpa using A);rw[←JO _ _ hm,←JO _ _ (by rw[List.length_set];exact hm),←JO _ _ hm,List.set_set]
  simp only[G,two,q73,List.length_singleton];refine⟨⟨by omega,by omega⟩,by omega,⟨by omega,by omega⟩,(C p hx).1,S[i].k,Z,λh9=>⟨⟨by omega,by omega⟩,(C p hx).1,S[i].k,Z,λT=>⟨⟨by omega,by omega⟩,by omega,⟨by omega,by omega⟩,i+1,by omega,HB J (by simpa using A) ?_,by omega,by omega⟩,λT=>⟨⟨by omega,by omega⟩,i+1,by omega,HB J (by simpa using A) ?_,by omega,by omega⟩⟩,λh9=>⟨⟨by omega,by omega⟩,i+1,by omega,HB J (by simpa using A) ?_,by omega,by omega⟩⟩
  ·rw[ei];unfold kB;rw[if_neg (by omega)]
  ·rw[ei];unfold kB;rw[if_pos (by omega)]
  ·rw[ei];unfold kB;rw[if_pos (by omega)]
 ·have ex:jo (S.map kB) (List.replicate S.length 0) i=zD S 0:=by rw[zj5 J (by simp;omega)];rfl
  have tk:∀k,List.take (S.length*1) (qa qh (zD S k))=qa qh (zD S k):=λk=>List.take_of_length_le (by rw[qB yX,Zx];exact Nat.le_refl _);rw[ex,tk];rintro b s u _;refine⟨⟨⟨0,(some ⟨b,s,none⟩,S.length,u / 1)⟩,rfl,rfl,rfl,rfl,λq hq=>⟨(Zx S 0).symm,hq.2.1,hq.2.2⟩,Nat.zero_le _⟩,?_⟩;rintro⟨j,y⟩ N ⟨p1,hp1,H⟩;simp only at N H⊢;have Y:y.2.1=S.length:=H.1.trans (Zx S j);have X:=Zx S j;have ls:=HD S _ X;have lm:(wO S (zD S j)).length=(zD S j).length:=by omega
  simp only[Y];refine⟨λhle=>⟨qa qh (zD S j),by rw[qB yX,Zx],λq hq=>hq.2.2.2,JS (λx v hv=>by simp[qh]at hv;subst hv;rfl) _,by omega,⟨0,rfl,by rw[zdv];rfl,Nat.zero_le _⟩,?_⟩,λhgt=> ?_⟩
  ·intro i hi;refine⟨λV=> ?_,λU=> ?_⟩
   ·have A:i<S.length:=(by omega);have ra:=Ox X A;have G:(qa qh (jo (wO S (zD S j)) (zD S j) i)).length=S.length*1:=(by rw[qB yX,HA lm,X]);simp only[G,List.length_singleton];refine⟨⟨by omega,by omega⟩,(yW H (show i<(zD S j).length by omega)).1,qe (zD S j) i,λq hq=>(yW hq.2 (show i<(zD S j).length by omega)).2,λO=>⟨⟨by omega,by omega⟩,i+1,by omega,?_,by omega,by omega⟩,λO=>⟨⟨S,x,(i:Int),y,zD S j⟩,rfl,sl,rfl,rfl,rfl,Y,rfl,⟨hS,zjo (OC hS j) (by omega),by show 0<=(i:Int);omega,by show(i:Int)<_;omega⟩,λq hq=>⟨hq.1.1,hq.2⟩,⟨by omega,by omega⟩,by omega,⟨by omega,by omega⟩,i+1,by omega,HB lm (by omega) ?_,by omega,by omega⟩⟩
    ·rw[if_pos O]at ra;rw[zpl lm (by omega) ra]
    ·rw[if_neg O]at ra;rw[ra];show yg _ _=yg _ (qd S (i:Int));rw[ko A]
   ·have e2:jo (wO S (zD S j)) (zD S j) i=zD S (j+1):=(by rw[zj5 lm (by omega)];rfl);have e3:(0+S.length)*1=S.length*1:=(by omega);rw[e2,e3,tk];rintro a c _;exact⟨⟨by omega,by omega⟩,⟨j+1,(a,0+S.length,c)⟩,rfl,rfl,rfl,by show((j+1:Nat):Int)=_;omega,λq hq=>hq.1.1,λq hq=>⟨by show 0+S.length=(zD S (j+1)).length;rw[Zx,Nat.zero_add],hq.2.1,hq.2.2⟩,by show j+1<=_;omega,by show _- (j+1)<_;omega⟩
  ·obtain rfl:j=S.length+1:=(by omega);refine⟨trivial,λq hq=> ?_⟩;have:=hq.2;unfold qA;exact⟨by show S.length=_;rw[Zx],by have h:=this.2;rw[Y]at h;exact h⟩
section
variable {S:List AT}
def zj4(hS:qv S) {i:Nat} (hi:i<S.length) (h:zN S i=true):1<=Fv S i:=by obtain⟨_,u,A⟩:=uI.1 h;exact((H6 hS (Yb hS)).2 i hi u).1
def zdu(hS:qv S) {i:Nat} (hi:i<S.length) (h:zN S i=true) (X:S[i].k≠9) (u:S[i].k≠11) (T:S[i].k≠14):yI S i zV:=by
 have hp:=zj4 hS hi h;have N:=hS.2 S[i] (List.getElem_mem hi);have O:=N.1;have G:=N.2.2.2.2.2.1;have e0:(mkS []).size=0:=rfl;refine⟨?_,?_,?_,λ_=>rfl⟩
 ·rw [QB];by_cases H:qI S[i].k=true
  ·refine zv5 hi H ?_;unfold zS
   (repeat' split)<;>first|rfl| (exact decide_eq_true (by first|omega|rfl))|skip
   next C=>
    have:=List.length_pos_iff.2 (G C);exact decide_eq_true (by omega)
  ·by_cases J:qG S[i].k=true
   ·refine Oq hi J ?_ (by rw[if_neg u,jM];decide);unfold jC;split
    ·decide+kernel
    ·first|rfl|rw[if_neg u]
   ·have U:¬(S[i].k=1\/S[i].k=2\/S[i].k=3\/S[i].k=4\/S[i].k=5\/S[i].k=6\/S[i].k=10):=λh=>H (by unfold qI;exact decide_eq_true h);have V:¬(S[i].k=7\/S[i].k=8\/S[i].k=11):=λh=>J (by unfold qG;exact decide_eq_true h);rcases(by omega:S[i].k=12\/S[i].k=13)with h|h
    ·exact zde hi h λv A=>by cases A
    ·exact zdf hi h rfl rfl λv A=>by cases A
 ·rw[QB];exact yq (by decide) (by rw[jM];decide) (by decide) (by decide) (λk O=>by cases O) λv A=>by cases A
 ·rw[QB,wZ,PV.wts,qx,jM];omega
def zla(n:Nat):(zB n).size=n:=by unfold zB mkS;show(List.toArray _).size=n;simp
def zy1(hS:qv S) {i:Nat} (hi:i<S.length) (h:zN S i=true) (u:S[i].k=11):yI S i (.mk 0 (zB S[i].sz.toNat) (none,0,0) [] (none,0,0) [] 0):=by
 have hp:=zj4 hS hi h;have H:=(hS.2 S[i] (List.getElem_mem hi)).2.2.2.2.2.2.1 u;have ep:(GV.mk 0 (zB S[i].sz.toNat) (none,0,0) [] (none,0,0) [] 0).pv= .mk 0 (zB S[i].sz.toNat) [] [] 0:=by rw[GV.pv,GV.pvs]
 have A:=zla S[i].sz.toNat;refine⟨?_,?_,?_,λh=>by rw[ko hi]at h;omega⟩
 ·rw[ep];refine Oq hi (by unfold qG;exact decide_eq_true (by omega)) ?_ (by rw[if_pos u,A];omega);unfold jC;rw[if_neg (by omega),if_pos u,A];exact decide_eq_true (by omega)
 ·rw[ep];exact yq (by decide) (by rw[A];omega) (by decide) (by decide) (λk C=>by cases C) λv G=>by cases G
 ·rw[ep,wZ,PV.wts,qx,A];omega
def zy2(hS:qv S) {i:Nat} (hi:i<S.length) (h:zN S i=true) (u:S[i].k=9) {fs:List GV} {x:SV} (G:xe S i S[i].fs.length (GV.pvs fs)):yI S i (.mk 0 (mkS []) x fs (none,0,0) [] 0):=by
 obtain⟨N,O,A,T,C⟩:=G;rw[ko hi]at O C;simp only[ko hi]at A;have hw:=(IX hS hi u h).1;have H:=hS.2 S[i] (List.getElem_mem hi);have U:=H.2.2.2.2.2.2.2.1;rw[List.take_length]at C;have ep:(GV.mk 0 (mkS []) x fs (none,0,0) [] 0).pv= .mk 0 (mkS []) (GV.pvs fs) [] 0:=by rw[GV.pv]
 refine⟨?_,?_,?_,λh=> ?_⟩
 ·rw[ep];exact zdg hi u N A
 ·rw[ep];exact yq (by decide) (by rw[jM];decide) (by omega) (by decide) (λk J=>by cases J) T
 ·rw[ep,wZ,qx,jM];show((30+0+0+PV.wts (GV.pvs fs):Nat):Int)<=30*qe (wts S (qA S)) i;omega
 ·rw[ko hi]at h;omega
def zy3(hS:qv S) {i:Nat} (hi:i<S.length) (h:zN S i=true) (u:S[i].k=14) {w:GV} {x:SV} (hw:yI S (S[i].brs.getD (zq (qA S) S[i].brs) 0) w):yI S i (.mk 0 (mkS []) x [w] (none,0,0) [] (zq (qA S) S[i].brs:Nat)):=by
 have A:=(hS.2 S[i] (List.getElem_mem hi)).2.2.2.1 u;have G:=HU (R:=qA S) A;have hu:=zj3 hS hi u h;have ep:(GV.mk 0 (mkS []) x [w] (none,0,0) [] (zq (qA S) S[i].brs:Nat)).pv= .mk 0 (mkS []) [w.pv] [] (zq (qA S) S[i].brs:Nat):=by rw[GV.pv,GV.pvs,GV.pvs]
 obtain⟨w1,J,N,O⟩:=hw;refine⟨?_,?_,?_,λh=> ?_⟩
 ·rw[ep];exact zdh hi u G w1
 ·rw[ep];exact yq (by decide) (by rw[jM];decide) (by show 1<=_;decide) (by decide) (λk H=>by cases H) λv C=>by simp at C;subst C;exact J
 ·rw[ep,wZ,qx,jM,JZ];unfold Fv at N⊢;omega
 ·rw[ko hi]at h;omega
def j82{S:List AT} (hS:qv S) {i:Nat} (hi:i<S.length) (h:zN S i=true) (u:S[i].k=14):zN S (S[i].brs.getD (zq (qA S) S[i].brs) 0)=true/\qe (qA S) (S[i].brs.getD (zq (qA S) S[i].brs) 0)<qe (qA S) i:=by obtain⟨_,H,N⟩:=uI.1 h;obtain⟨A,C,G⟩:=Hw (Yb hS) hi u H;have J:=(hS.2 S[i] (List.getElem_mem hi)).2.2.1 _ (W1 A);have hu:=zj3 hS hi u h;exact⟨uI.2 ⟨J,C,by omega⟩,G⟩
def IC(l:List GV) (v:GV):GV.pvs (l++[v])=GV.pvs l++[v.pv]:=by rw[GV.pvs_map,GV.pvs_map];simp
def zpi(hS:qv S) {i:Nat} (hi:i<S.length) {j:Nat} {fs:List GV} (O:j<S[i].fs.length) (N:xe S i j (GV.pvs fs)) {w:GV} (hw:yI S (S[i].fs[j]).ty w):xe S i (j+1) (GV.pvs (fs++[w])):=by
 obtain⟨C,U,G,V,X⟩:=N;obtain⟨w1,Y,Z,w4⟩:=hw;rw[IC];unfold xe;simp only[ko hi]at U G X⊢;refine⟨by simp[C],by omega,λk H J=> ?_,λv h=> ?_,?_⟩
 ·by_cases u:k<(GV.pvs fs).length
  ·rw[List.getElem_append_left u];exact G k u J
  ·obtain rfl:k=j:=(by simp at H;omega);rw[List.getElem_append_right (by omega)];simp only[C,Nat.sub_self,List.getElem_cons_zero];exact w1
 ·rcases List.mem_append.1 h with h|h
  ·exact V v h
  ·simp at h;subst h;exact Y
 ·have hs:∀(A B:List AF),jh (wts S (qA S)) (A++B)=jh (wts S (qA S)) A+jh (wts S (qA S)) B:=λA B=>by
   induction A with
   |nil=>rw[List.nil_append,jh,Int.zero_add]
   |cons a A T=>rw[List.cons_append,jh,jh,T];omega
  rw[xy,JZ,List.take_succ_eq_append_getElem O,hs,jh,jh];unfold Fv at Z;omega
end
def zwe:∀n:Nat,q6b [.int .u8 0] n=q11 (zB n)
  |0=>rfl
  | n+1=>by rw[q6b,zwe n];unfold zB mkS q11;simp[List.replicate_succ]
def zpa(n:Nat) (hl:q1i P 37 (JT.below KO n)):q1i P 37 (JT.below KO (n+1)):=by
 refine zI (qbu (qfr z9b qil)) (qcl (qfq hl qik)) (W:=zkr) Tryz.func37 λ⟨S,(x:SV),(t:Int),(y:SV)⟩=>(ziu n S x t y).mpr ?_;rintro⟨Y,hS,u⟩ ⟨p,_,hx,hy⟩;have Y:(qe (qA S) t).toNat<n+1:=Y;obtain⟨ht,hr0,hw⟩:=uI.1 u;obtain⟨i,hi,rfl⟩:=vy ht;have hR:=Yb hS;have J:qc S x p/\qb qh y (qA S) p:=⟨hx,hy⟩;have sl:x.2.1=S.length:=hx.1.1;have hRl:=hR.1;have yl:y.2.1=S.length:=hy.1.trans hRl;have U:=λq (hq:qc S x q/\qb qh y (qA S) q)=>yp hq.1 hi;have G:=λq (hq:qc S x q/\qb qh y (qA S) q)=>hq.1.2 S[i] (List.getElem_mem hi);have O:=hS.2 S[i] (List.getElem_mem hi);have h60:=hS.1;obtain⟨_,_,fl,bl⟩:=uD (G p J);have hbr:=O.2.2.1;have hne:=O.2.2.2.1;have hfr:=λf (hf:f∈S[i].fs)=>(O.2.2.2.2.1 f hf).1;have V:=O.2.2.2.2.2.2.2.2.1;have hf30:=O.2.2.2.2.2.2.2.1;have hsz:=O.2.2.2.2.2.2.1;clear O;simp only[qy,exists_const,forall_const,Int.toNat_natCast,sl,yl,ko hi];refine⟨⟨by omega,by omega⟩,(U p J).1,S[i].k,S[i].nm,S[i].al.1,S[i].al.2.1,S[i].al.2.2,S[i].it,S[i].sy.1,S[i].sy.2.1,S[i].sy.2.2,S[i].hd,S[i].df,S[i].sz,S[i].f.1,S[i].f.2.1,S[i].f.2.2,S[i].br.1,S[i].br.2.1,S[i].br.2.2,λq hq=>(U q hq).2,λH=> ?_,λH=>⟨λT=> ?_,λT=>⟨λC=> ?_,λC=> ?_⟩⟩⟩
 ·have hz:=hsz H;refine⟨⟨by omega,by omega,by omega,by omega⟩,zB S[i].sz.toNat,zla _,λj v hj=> ?_, .mk 0 (zB S[i].sz.toNat) (none,0,0) [] (none,0,0) [] 0,rfl,rfl,rfl,rfl,rfl,rfl,rfl,rfl,rfl,zy1 hS hi u H,λq hq=> ?_⟩
  ·rw[zwe,Nat.zero_add];exact hj
  ·unfold GV.ok;exact⟨qQ,qQ,by unfold GV.oks;trivial⟩
 ·have hrec:=IX hS hi T u;have hrk:=(hR.2 i hi).2.2.1 T hr0;refine⟨⟨⟨0,[]⟩,rfl,rfl,λq hq=>GV.oks_iff.2 λv h=>(by cases h),?_⟩,?_⟩
  ·unfold xe;rw[GV.pvs];exact⟨rfl,Nat.zero_le _,λk h1 h2=>absurd h1 (by simp),λv hv=>(by cases hv),by rw[PV.wts,List.take_zero,jh];decide⟩
  rintro⟨j,fs⟩ N ⟨p1,hp1,hfs⟩;have N:xe S i j (GV.pvs fs):=N;have l1:fs.length=j:=by rw[←GV.pvs_len];exact N.1
  have l2:j<=S[i].fs.length:=by have:=N.2.1;rw[ko hi]at this;exact this
  simp only at hfs⊢;refine⟨λhlt=>⟨?xa,?xb,?xc⟩,λhge=> ?_⟩;case xa|xb|xc=>
   have A:j<S[i].fs.length:=(by omega);have bat:=λq hq=>HY (G q hq) A;have bne:=(vV (G p J) A).1;have bin:=hfr _ (List.getElem_mem A);have blt:=hrk _ (List.getElem_mem A);have bls:=hrec.2 _ (List.getElem_mem A);have hsn:=λw hw=>zpi hS hi A N (w:=w) hw;generalize S[i].fs[j]=f at*;refine⟨⟨by omega,by omega⟩,bne,f.ty,λq hq=>bat q hq.1,⟨S,x,f.ty,y⟩,rfl,sl,rfl,rfl,rfl,yl,rfl,⟨by show(qe (qA S) f.ty).toNat<n;omega,hS,bls⟩,λq hq=>hq.1,?_⟩;rintro w hw _;exact⟨qB jw fs,by omega,⟨by omega,by omega⟩,⟨j+1,fs++[w]⟩,by show((j+1:Nat):Int)=_;omega,by simp,by rw[zF];rfl,λq hq=>hq.1.1,λq hq=>JV hq.1.2 (uH hq.2),hsn w hw,by show _- (j+1)<_;omega⟩
  ·intro a c _;have hj:j=S[i].fs.length:=(by omega);rw[hj]at N;refine⟨.mk 0 (mkS []) (a,fs.length,c) fs (none,0,0) [] 0,rfl,rfl,rfl,rfl,rfl,rfl,rfl,rfl,rfl,zy2 hS hi u T N,λq hq=> ?_⟩;have h2:=hq.2.2;rw[List.take_of_length_le (by rw[qB jw];exact Nat.le_refl _)]at h2;unfold GV.ok;exact⟨⟨rfl,hq.2.1,h2⟩,qQ,hq.1.2⟩
 ·have X:=HU (R:=qA S) (hne C);obtain⟨c1,c2⟩:=j82 hS hi u C;have c3:=(uI.1 c1).2.1;have Z:=λw x hw=>zy3 hS hi u C (w:=w) (x:=x) hw;have gd:=V5 X;have bat:=λq (hq:qc S x q/\qb qh y (qA S) q)=>yV (G q hq) X;rw[gd]at c1 c2 c3 Z;refine⟨⟨S[i],y,qA S⟩,rfl,rfl,rfl,rfl,rfl,rfl,rfl,rfl,rfl,rfl,rfl,rfl,rfl,rfl,rfl,rfl,rfl,rfl,rfl,yl,rfl,⟨by show(qA S).length<1000;omega,V,λb hb=>by have:=hbr b hb;show 0<=b/\b<((qA S).length:Int);omega⟩,λq hq=>⟨G q hq,hq.2⟩,⟨?xa,?xb⟩⟩;case xa|xb=>
   refine⟨⟨by omega,by show((zq (qA S) S[i].brs:Nat):Int)<_;omega⟩,(bat p J).1,S[i].brs[zq (qA S) S[i].brs],λq hq=>(bat q hq).2,⟨S,x,S[i].brs[zq (qA S) S[i].brs],y⟩,rfl,sl,rfl,rfl,rfl,yl,rfl,⟨by show(qe (qA S) _).toNat<n;omega,hS,c1⟩,λq hq=>hq,?_⟩;rintro w hw _ b s _;refine⟨.mk 0 (mkS []) (some ⟨b,s+0,none⟩,1,1) [w] (none,0,0) [] (zq (qA S) S[i].brs:Nat),rfl,rfl,rfl,rfl,rfl,rfl,rfl,rfl,rfl,Z _ _ hw,λq hq=> ?_⟩;unfold GV.ok;exact⟨⟨rfl,Nat.le_refl _, .inr ⟨_,rfl,rfl,hq.2⟩⟩,qQ,uH hq.1.2⟩
 ·exact⟨zV,rfl,rfl,rfl,rfl,rfl,rfl,rfl,rfl,rfl,zdu hS hi u T H C,λq hq=>kL q⟩
def z9l:∀n,q1i P 37 (JT.below KO n)
 |0=>CtR.below_zero (by decide) (by decide) (Sen.enters_of Tryz.func37 (by kernel_rfl)) λs=>rfl
 |n+1=>zpa n (z9l n)
def ziv:q1i P 37 JT:=CtR.of_below z9l
def z9k:q1i P 21 IR:=by
 refine zI (qbu (qfr zjl (qfr W7 (qfr zg3 qil)))) (qcl (qfq ziv qik)) (W:=λ_=>{}) Tryz.func21 λ⟨S,(x:SV),(t:Int)⟩=>(zis S x t).mpr ?_;rintro hS ⟨p,_,hx⟩;have sl:x.2.1=S.length:=hx.1.1;have H:=Yb hS;have J:=H.1;have X:=hS.1;simp only[qy,exists_const,forall_const,Int.toNat_natCast,sl];have no:zN S t=false->∀(Q:(Nat->Option Obj)->Prop),∃b:GV×Bool,b.1.n=0/\b.1.s=mkS []/\b.1.x.1=noA/\b.1.x.2.1=0/\b.1.x.2.2=0/\b.1.y.1=noA/\b.1.y.2.1=0/\b.1.y.2.2=0/\b.1.b=0/\b.2=false/\(b.2=zN S t/\b.1.pv.sn/\b.1.pv.wt<=60000/\(b.2=true->PV.fitz S t b.1.pv)/\(b.2=false\/(qd S t).k=12\/(qd S t).k=13->b.1=zV))/\∀p,Q p->b.1.ok p:=λY Q=>⟨⟨zV,false⟩,rfl,rfl,rfl,rfl,rfl,rfl,rfl,rfl,rfl,rfl,⟨Y.symm,by show zV.pv.sn;rw[QB];exact yq (by decide) (by rw[jM];decide) (by decide) (by decide) (λk hk=>by cases hk) λv O=>(by cases O),by show zV.pv.wt<=_;rw[QB,wZ,PV.wts,qx,jM];decide,λh=>(by cases h),λ_=>rfl⟩,λq _=>kL q⟩;refine⟨⟨S,x⟩,rfl,sl,rfl,hS,λq hq=>hq,?_⟩;rintro a n c ⟨p1,hp1,C⟩;have hn:n=S.length:=C.1.trans J;refine⟨⟨x,t⟩,rfl,sl,rfl,rfl,λh=>no (by simp only[sl]at h;unfold zN;rw[h];rfl) _,λh=> ?_⟩;simp only[sl,Bool.and_eq_true,decide_eq_true_eq]at h;obtain⟨i,hi,rfl⟩:=vy h;have u:=(H6 hS H).1;refine⟨⟨by omega,by omega⟩,(yW C (show i<(qA S).length by omega)).1,qe (qA S) i,λq hq=>(yW hq.2 (show i<(qA S).length by omega)).2,λT=>no ?_ _,λU=>⟨⟨S,x,(a,n,c),qA S⟩,rfl,sl,rfl,rfl,rfl,rfl,⟨hS,zjo H (by omega)⟩,λq hq=>⟨hq.1,hq.2⟩,?_⟩⟩
 ·cases N:zN S (i:Int)with
  |false=>rfl
  |true=>have:=(uI.1 N).2.1;omega
 rintro a5 n2 c1 ⟨p2,_,G⟩;have hn2:n2=S.length:=G.1.trans u.1;have hwl:=u.1;refine⟨⟨by omega,by omega⟩,(yW G (show i<(wts S (qA S)).length by omega)).1,qe (wts S (qA S)) i,λq hq=>(yW hq.2 (show i<(wts S (qA S)).length by omega)).2,λZ=>no ?_ _,λhle=> ?_⟩
 ·cases N:zN S (i:Int)with
  |false=>rfl
  |true=>have:=(uI.1 N).2.2;omega
 have A:zN S (i:Int)=true:=uI.2 ⟨h,by omega,by omega⟩;refine⟨⟨S,x,(i:Int),(a,n,c)⟩,rfl,sl,rfl,rfl,rfl,rfl,rfl,⟨hS,A⟩,λq hq=>⟨hq.1.1,hq.1.2⟩,?_⟩;rintro v O _;obtain⟨v1,v2,V,v4⟩:=O;refine⟨⟨v,true⟩,rfl,rfl,rfl,rfl,rfl,rfl,rfl,rfl,rfl,rfl,⟨A.symm,v2,?_,λ_=>v1,λh=>h.elim (λh=>(by cases h)) v4⟩,λq hq=>hq.2⟩;have V:(v.pv.wt:Int)<=30*qe (wts S (qA S)) i:=V;show v.pv.wt<=60000;omega
def zit:q1i P 21 zhn:=by
  obtain⟨G,H,J,N⟩:=z9k;refine⟨G,H,J,λs=> ?_⟩;obtain⟨h0,e0,r⟩:=N s;refine⟨h0,e0,λF I w vs O T U V hp X Y Z=>(r F I w vs O T U V hp.1 X Y Z).mono λe w' h=> ?_⟩;obtain⟨⟨v,b⟩,A,u,e1,z,C,he,hr,g,hm⟩:=h;have hz:v=zV:=u.2.2.2.2 (.inr (.inl hp.2));subst hz;refine⟨b,A,u.1,e1,z,C,he,?_,g,hm⟩;have hr:VR C (.tup [zV.av, .sv (.bool b)]) z:=hr;cases hr with
  | tup h=>cases h with
    | cons A h2=>cases A with
      | agg h=>
        have:=qh3 (l:=zV.cells) h;subst this;exact .tup (.cons (.agg (.cons (.int _ _) (.cons (.str _) (.cons .nsl (.cons .nsl (.cons (.int _ _) .nil)))))) h2)
def jX(d:Int):Nat:=60000*8 ^ (6- d).toNat
abbrev uY:=List AT×SV×Int×Int×SV×List Int×Int
abbrev z9:=GV×Bool×Int
def jxm(S:List AT) (x y:SV) (L:List Int):PF:=⟨true,λp=>qc S x p/\qb qm y L p,λ_ _ h e=>⟨uC h e.1,ji h e.2⟩⟩
def zo(S:List AT) (t d:Int) (L:List Int) (n:Int) (v:GV) (b:Bool) (n':Int):Prop:=b=zN S t/\(n<=n'/\n'<=L.length)/\v.pv.sn/\v.pv.wt<=jX d/\(b=true->PV.fitz S t v.pv)
def yZ(κ:AT->Prop):CtR where
 σ:=uY
 args:=λ⟨S,x,t,d,y,L,n⟩=>[.ptr 1 0,jP x, .sv (.int .i64 t), .sv (.int .i64 d)]
 h:=λ⟨S,x,t,d,y,L,n⟩=>jb y n
 m:=2
 pre:=λ⟨S,x,t,d,y,L,n⟩=>qv S/\(0<=t/\t<S.length)/\κ (qd S t)/\(0<=d/\d<=6)/\0<=n/\n<=L.length/\zX L
 mem:=λ⟨S,x,t,d,y,L,n⟩=>jxm S x y L
 β:=λ_=>z9
 post:=λ⟨S,x,t,d,y,L,n⟩ ⟨v,b,n'⟩=>zo S t d L n v b n'
 pm:=λ_ ⟨v,b,n'⟩=>vM v
 r:=λ_ ⟨v,b,n'⟩=> .tup [v.av, .sv (.bool b)]
 h':=λ⟨S,x,t,d,y,L,n⟩ ⟨v,b,n'⟩=>jb y n'
 m':=2
def v7:uY->Nat:=λ⟨S,x,t,d,y,L,n⟩=>(10- d).toNat
def KL(k:Int):Bool:=decide (k=12\/k=13)
def XD(a:AT):Prop:=a.k=12
def XF(a:AT):Prop:=a.k≠12
def ue(a:AT):Prop:=True
def dD(h:T AO) (u n:Nat):AO:=match h.get u with
 |some (.cells ty fz g [a,b,_,d,e])=> .cells ty fz g [a,b, .ssl 40 0 n 5 41,d,e]
 |_=> .cells 0 none false []
def x3(S:List AT) (a:AT) (L:List Int) (d n i h:Int) (l:List PV):Prop:=(0<=i/\i+l.length<=3)/\(n<=h/\h<=L.length)/\(∀v∈l,PV.fitz S a.it v/\v.sn)/\PV.wts l<=l.length*jX (d+1)
def Q_(S:List AT) (a:AT) (L:List Int) (d n i h:Int) (v:GV):Prop:=(0<=i/\i<=3)/\(n<=h/\h<=L.length)/\(v.n=0/\v.s=mkS []/\v.b=0)/\(v.ks.length=v.l.length/\v.l.length<=3- i)/\zd v.ks=true/\(∀w∈GV.pvs v.l,PV.fitz S a.it w/\w.sn)/\(∀k∈v.ks,k.size<1000)/\((qx v.ks+PV.wts (GV.pvs v.l):Nat):Int)<=(3- i)*(jX (d+1)+12)
def Zs(S:List AT) (a:AT) (L:List Int) (d n:Int) (j:Nat) (h:Int) (l:List PV):Prop:=(l.length=j/\j<=a.fs.length)/\(n<=h/\h<=L.length)/\(∀(i:Nat) (u:i<l.length) (A:i<a.fs.length),PV.fitz S (a.fs[i]).ty l[i])/\(∀v∈l,v.sn)/\PV.wts l<=l.length*jX (d+1)
def kdc(s b k:Nat) (keep:List Nat) (C:T AV) (A:T AO):Option LT:=match EN C b with
  | some u=>match A.get u with
    |some (.cells ty fz g (_::r))=>some {σ:=Unit,t:=λ_=>[(s, .int .i64 k)],h:=λ_=>[(u, .cells ty fz g (.int .i64 k::r))],more:=0,μ:=λ_=>0,keep:=keep}
    |_=>none
  |none=>none
def Lo(arr:Bool):uY->WayF:=λ⟨S,x,t,d,y,L,n⟩=>{
  pubE:=[206]
  spl:=λi=>match i with
    |24=>some 9
    |32=>some 10
    |43=>some 9
    |_=>none
  flo:=λi=>match i with
    |24=>some (13,[9])
    |32=>some (14,[10])
    |_=>none
  cut :=λi G C=>match i with
    | 6=>match arr with
      |true=>kdc 46 12 12 [0,2,3,5,8,10,12] G C
      |false=>none
    | 36=>match arr with
      |true=>none
      |false=>yi KL 166 46 [0,3,5,8,10,12,46] G
    |_=>none
  ann :=λid G C=>match EN G 10 with
    | some A=>match id with
      |1=>some {σ:=Nat×Int×List GV,pre:=λ⟨j,u,fs⟩=>Zs S (qd S t) L d n j u (GV.pvs fs),mem:=λ⟨j,u,fs⟩=>Qb fs,t:=λ⟨j,u,fs⟩=>[(16, .sv (.int .i64 (j:Int)))],h:=λ⟨j,u,fs⟩=>jb y u++[(A,dD C A fs.length),(40, .row 36 0 (qa GV.cells fs))],more:=60,μ:=λ⟨j,u,fs⟩=>(qd S t).fs.length- j,keep:=[0,3,5,8,10,12]}
      | _=>match arr with
        |true=>some {σ:=Int×Int×List GV,pre:=λ⟨i,u,fs⟩=>x3 S (qd S t) L d n i u (GV.pvs fs),mem:=λ⟨i,u,fs⟩=>Qb fs,t:=λ⟨i,u,fs⟩=>[(19, .sv (.int .i64 i))],h:=λ⟨i,u,fs⟩=>jb y u++[(A,dD C A fs.length),(40, .row 36 0 (qa GV.cells fs))],more:=60,μ:=λ⟨i,u,fs⟩=>i.toNat,keep:=[0,3,5,8,10,12]}
        |false=>some {σ:=Int×Int×GV,pre:=λ⟨i,u,v⟩=>Q_ S (qd S t) L d n i u v,mem:=λ⟨i,u,v⟩=>vM v,t:=λ⟨i,u,v⟩=>[(19, .sv (.int .i64 i))],h:=λ⟨i,u,v⟩=>jb y u++[(A,K3 v)],more:=0,μ:=λ⟨i,u,v⟩=>i.toNat,keep:=[0,3,5,8,10,12]}
    |none=>none}
def zxi(l:List GV):List.take (l.length*5) (qa GV.cells l)=qa GV.cells l:=List.take_of_length_le (by rw[qB jw];exact Nat.le_refl _)
section
theorem Pw{s:O6} (h:s.size=0):s=mkS []:=by obtain⟨⟨l⟩⟩:=s;have:l=[]:=List.length_eq_zero_iff.1 h;subst this;rfl
theorem V0{S:List AT} {i:Nat} (hi:i<S.length) {v:GV} (h:PV.fits S i v.pv=true):(qI S[i].k=true->v.s=mkS []/\v.l=[]/\v.ks=[]/\v.b=0)/\(qG S[i].k=true->v.n=0/\v.l=[]/\v.ks=[]/\v.b=0)/\(ql S[i].k=true->v.n=0/\v.s=mkS []/\(S[i].k≠13->v.ks=[])/\(S[i].k≠14->v.b=0)):=by
 rw[GV.pv_eq,PV.fits,if_neg (by omega)]at h;simp only[Int.toNat_natCast,List.getElem?_eq_getElem hi,GV.pvs_len]at h;refine⟨λu=> ?_,λu=> ?_,λu=> ?_⟩
 ·rw[if_pos u]at h;unfold kS at h;simp only[Bool.and_eq_true,decide_eq_true_eq]at h;obtain⟨⟨_,A⟩,⟨C,G⟩,H⟩:=h;exact⟨Pw A,List.length_eq_zero_iff.1 C,List.length_eq_zero_iff.1 G,H⟩
 ·have J:¬qI S[i].k=true:=λg=>by unfold qG at u;unfold qI at g;have:=of_decide_eq_true u;have:=of_decide_eq_true g;omega
  rw[if_neg J,if_pos u]at h;unfold kS at h;simp only[Bool.and_eq_true,decide_eq_true_eq]at h;obtain⟨⟨_,A⟩,⟨C,G⟩,H⟩:=h;exact⟨A,List.length_eq_zero_iff.1 C,List.length_eq_zero_iff.1 G,H⟩
 ·have J:¬qI S[i].k=true:=λg=>by unfold ql at u;unfold qI at g;have:=of_decide_eq_true u;have:=of_decide_eq_true g;omega
  have N:¬qG S[i].k=true:=λg=>by unfold ql at u;unfold qG at g;have:=of_decide_eq_true u;have:=of_decide_eq_true g;omega
  rw[if_neg J,if_neg N,if_pos u]at h;simp only[Bool.and_eq_true,decide_eq_true_eq]at h;obtain⟨⟨⟨A,_⟩,C⟩,G⟩:=h;have O:¬(v.ks.length>0/\S[i].k≠13\/v.b≠0/\S[i].k≠14):=λg=>by unfold zx at A;rw[if_pos g]at A;cases A
  exact⟨C,Pw G,λu=>List.length_eq_zero_iff.1 (by omega),λu=>by omega⟩
theorem Qz(d:Int):60000<=jX d:=by unfold jX;exact Nat.le_mul_of_pos_right _ (Nat.pow_pos (by decide))
theorem Ha{d:Int} (h:d<=5):jX d=8*jX (d+1):=by unfold jX;rw[show(6- d).toNat=(6- (d+1)).toNat+1 by omega,Nat.pow_succ];omega
structure AvH(S:List AT) (i:Nat) (hi:i<S.length) (v:GV) (d:Int):Prop where
 hS:qv S
 ls:zN S i=true
 ft:PV.fitz S i v.pv
 sn:v.pv.sn
 wt:v.pv.wt<=60000
 nl:S[i].k=12\/S[i].k=13->v.l=[]
 d5:d<=5
section
variable {S:List AT} {i:Nat} {hi:i<S.length} {v:GV} {d:Int} {L:List Int} {n n':Int}
theorem zut(h:AvH S i hi v d) (u:n<=n'/\n'<=L.length):zo S i d L n v true n':=⟨h.ls.symm,u,h.sn,Nat.le_trans h.wt (Qz d),λ_=>h.ft⟩
theorem K2(h:AvH S i hi v d) (G:n<=n'/\n'<=L.length) {N:Int} (u:qI S[i].k=true) (C:0<=N/\N<18446744073709551616) (H:zS S[i] N=true):zo S i d L n (.mk N v.s v.x v.l v.y v.ks v.b) true n':=by
 obtain⟨e1,e2,e3,A⟩:=(V0 hi h.ft.1).1 u;have ep:(GV.mk N v.s v.x v.l v.y v.ks v.b).pv= .mk N (mkS []) [] [] 0:=by rw[GV.pv,e1,e2,e3,A,GV.pvs]
 unfold zo;rw[ep,wZ,PV.wts,qx,jM];have:=Qz d;exact⟨h.ls.symm,G,yq C (by rw[jM];decide) (by decide) (by decide) (λk u=>by cases u) (λv J=>by cases J),by omega,λ_=>zv5 hi u H⟩
theorem O9(h:AvH S i hi v d) (C:n<=n'/\n'<=L.length) {s:O6} (u:qG S[i].k=true) (hs:s.size<=1000) (G:jC S[i] s=true):zo S i d L n (.mk v.n s v.x v.l v.y v.ks v.b) true n':=by
 obtain⟨e1,e2,e3,A⟩:=(V0 hi h.ft.1).2.1 u;have ep:(GV.mk v.n s v.x v.l v.y v.ks v.b).pv= .mk 0 s [] [] 0:=by rw[GV.pv,e1,e2,e3,A,GV.pvs]
 unfold zo;rw[ep,wZ,PV.wts,qx];have:=Qz d;exact⟨h.ls.symm,C,yq (by decide) (by omega) (by decide) (by decide) (λk u=>by cases u) (λv H=>by cases H),by omega,λ_=>Oq hi u G (by split<;>omega)⟩
theorem Uc{k:Int} (h:k=9\/k=12\/k=13\/k=14):ql k=true:=by unfold ql;exact decide_eq_true h
theorem jhy(h:AvH S i hi v d) {b:Nat} (A:S[i].k=14) (C:b<S[i].brs.length) {w:GV} {x:SV} {m:Int} (hm:n<=m) (hw:zo S (S[i].brs[b]) (d+1) L m w true n'):zo S i d L n (.mk v.n v.s x [w] v.y v.ks (b:Int)) true n':=by
 obtain⟨e1,e2,e3,N⟩:=(V0 hi h.ft.1).2.2 (Uc (by omega));have e3:=e3 (by omega);obtain⟨w1,G,H,O,J⟩:=hw;have ep:(GV.mk v.n v.s x [w] v.y v.ks (b:Int)).pv= .mk 0 (mkS []) [w.pv] [] b:=by rw[GV.pv,e1,e2,e3,GV.pvs,GV.pvs]
 have hd:=Ha h.d5;have:=Qz (d+1);unfold zo;rw[ep,wZ,qx,jM,JZ];exact⟨h.ls.symm,⟨by omega,G.2⟩,yq (by decide) (by rw[jM];decide) (by show 1<=1000;decide) (by decide) (λk A=>by cases A) (λu hu=>by simp at hu;subst hu;exact H),by omega,λ_=>zdh hi A C (by rw[V5 C];exact J rfl)⟩
theorem jhx(h:AvH S i hi v d) (A:S[i].k=9) {fs:List GV} {x:SV} {j:Nat} (O:S[i].fs.length<=j) (C:Zs S S[i] L d n j n' (GV.pvs fs)):zo S i d L n (.mk v.n v.s x fs v.y v.ks v.b) true n':=by
 obtain⟨e1,e2,e3,u⟩:=(V0 hi h.ft.1).2.2 (Uc (by omega));have e3:=e3 (by omega);have u:=u (by omega);obtain⟨⟨T,U⟩,G,H,J,V⟩:=C;have N:=(h.hS.2 S[i] (List.getElem_mem hi)).2.2.2.2.2.2.2.1;have ep:(GV.mk v.n v.s x fs v.y v.ks v.b).pv= .mk 0 (mkS []) (GV.pvs fs) [] 0:=by rw[GV.pv,e1,e2,e3,u]
 have hd:=Ha h.d5;have:=Qz (d+1);have hm:(GV.pvs fs).length*jX (d+1)<=7*jX (d+1):=Nat.mul_le_mul_right _ (by omega);unfold zo;rw[ep,wZ,qx,jM];exact⟨h.ls.symm,G,yq (by decide) (by rw[jM];decide) (by omega) (by decide) (λk A=>by cases A) J,by omega,λ_=>zdg hi A (by omega) H⟩
theorem Pd(h:AvH S i hi v d) (C:S[i].k=12) {fs:List GV} {x:SV} {m:Int} (H:x3 S S[i] L d n m n' (GV.pvs fs)):zo S i d L n (.mk v.n v.s x fs v.y v.ks v.b) true n':=by
 obtain⟨e1,e2,e3,A⟩:=(V0 hi h.ft.1).2.2 (Uc (by omega));have e3:=e3 (by omega);have A:=A (by omega);obtain⟨⟨N,O⟩,J,G,T⟩:=H;have ep:(GV.mk v.n v.s x fs v.y v.ks v.b).pv= .mk 0 (mkS []) (GV.pvs fs) [] 0:=by rw[GV.pv,e1,e2,e3,A]
 have hd:=Ha h.d5;have:=Qz (d+1);have hm:(GV.pvs fs).length*jX (d+1)<=3*jX (d+1):=Nat.mul_le_mul_right _ (by omega);unfold zo;rw[ep,wZ,qx,jM];exact⟨h.ls.symm,J,yq (by decide) (by rw[jM];decide) (by omega) (by decide) (λk C=>by cases C) (λu hu=>(G u hu).2),by omega,λ_=>zde hi C λu hu=>(G u hu).1⟩
theorem Pe(h:AvH S i hi v d) (A:S[i].k=13) {u:GV} {m:Int} (H:Q_ S S[i] L d n m n' u):zo S i d L n u true n':=by
 obtain⟨⟨U,V⟩,J,⟨e1,e2,G⟩,⟨X,Y⟩,N,C,O,Z⟩:=H;have ep:u.pv= .mk 0 (mkS []) (GV.pvs u.l) u.ks 0:=by rw[GV.pv_eq,e1,e2,G]
 have hd:=Ha h.d5;have:=Qz (d+1);have hm:(3- m)*((jX (d+1):Int)+12)<=3*((jX (d+1):Int)+12):=Int.mul_le_mul_of_nonneg_right (by omega) (by omega);have T:=GV.pvs_len u.l;unfold zo;rw[ep,wZ,jM];exact⟨h.ls.symm,J,yq (by decide) (by rw[jM];decide) (by omega) (by omega) (λk A=>by have:=O k A;omega) (λu hu=>(C u hu).2),by omega,λ_=>zdf hi A (by omega) N λu hu=>(C u hu).1⟩
variable {a:AT} {fs:List GV}
theorem zq2{j:Nat} {C n2:Int} (Y:j<a.fs.length) (J:Zs S a L d n j C (GV.pvs fs)) {w:GV} {b:Bool} (N:zN S (a.fs[j]).ty=true) (hw:zo S (a.fs[j]).ty (d+1) L C w b n2):Zs S a L d n (j+1) n2 (GV.pvs (fs++[w])):=by
 obtain⟨⟨A,Z⟩,l3,O,T,l6⟩:=J;obtain⟨w1,U,V,w4,X⟩:=hw;rw[IC];refine⟨⟨by simp[A],by omega⟩,⟨by omega,U.2⟩,λk G H=> ?_,λu hu=> ?_,?_⟩
 ·by_cases h:k<(GV.pvs fs).length
  ·rw[List.getElem_append_left h];exact O k h H
  ·obtain rfl:k=j:=(by simp at G;omega);rw[List.getElem_append_right (by omega)];simp only[A,Nat.sub_self,List.getElem_cons_zero];exact X (w1.trans N)
 ·rcases List.mem_append.1 hu with hu|hu
  ·exact T u hu
  ·simp at hu;subst hu;exact V
 ·rw[xy,JZ,List.length_append,Nat.add_mul];show _<=_+1*_;omega
theorem znq{m h n2:Int} (hm:0<m) (A:x3 S a L d n m h (GV.pvs fs)) {w:GV} (hw:zo S a.it (d+1) L h w true n2):x3 S a L d n (m- 1) n2 (GV.pvs (fs++[w])):=by
 obtain⟨⟨N,O⟩,T,C,U⟩:=A;obtain⟨w1,G,H,V,J⟩:=hw;rw[IC];refine⟨⟨by omega,by rw[List.length_append,List.length_singleton];omega⟩,⟨by omega,G.2⟩,λu hu=> ?_,?_⟩
 ·rcases List.mem_append.1 hu with hu|hu
  ·exact C u hu
  ·simp at hu;subst hu;exact⟨J rfl,H⟩
 ·rw[xy,JZ,List.length_append,Nat.add_mul];show _<=_+1*_;omega
theorem zy4{m U n2 N:Int} {u z:GV} (hm:0<m) (X:Q_ S a L d n m U u) {w:GV} {k:O6} (Y:qz k=true) (Z:k.size=2) (hw:zo S a.it (d+1) L U w true n2) (H:n2<=N/\N<=L.length) (T:z.pv= .mk u.n u.s (jV k u.ks (GV.pvs u.l) w.pv) (q9 k u.ks) u.b):Q_ S a L d n (m- 1) N z:=by
 obtain⟨⟨l1,l2⟩,l3,⟨e1,e2,V⟩,⟨l4,l5⟩,l6,l7,l8,l9⟩:=X;obtain⟨w1,w2,w3,w4,w5⟩:=hw;rw[GV.pv_eq]at T;injection T with z1 z2 O C z5
 have A:=I7 k u.ks (GV.pvs u.l) w.pv (by rw[GV.pvs_len];exact l4);rw[←O,←C,GV.pvs_len,GV.pvs_len]at A;have G:=zym (k:=k) (ks:=u.ks);have J:=zyo (k:=k) (ks:=u.ks) (l:=GV.pvs u.l) (w:=w.pv);rw[←O]at J;rw[←C]at G;have hmul:(3- (m- 1))*((jX (d+1):Int)+12)=(3- m)*((jX (d+1):Int)+12)+((jX (d+1):Int)+12):=by rw[show 3- (m- 1)=(3- m)+1 by omega,Int.add_mul,Int.one_mul]
 refine⟨⟨by omega,by omega⟩,⟨by omega,H.2⟩,⟨z1.trans e1,z2.trans e2,z5.trans V⟩,⟨A.1,by omega⟩,by rw[C];exact zdo Y l6,λy h=> ?_,λy h=> ?_,by rw[hmul];omega⟩
 ·rw[O]at h;rcases zq0 h with rfl|h
  ·exact⟨w5 rfl,w3⟩
  ·exact l7 y h
 ·rw[C]at h;rcases zpz h with rfl|h
  ·omega
  ·exact l8 y h
end
theorem H0(M:List Int) {r:Nat} (h:r<M.length):∀(j:Nat) v,[Value.int .u64 (M.getD r 0)][j]? =some v->(M.map (Value.int .u64))[0+r*1+j]? =some v:=λj v u=>by
  cases j with
  |succ j=>simp at u
  | zero=>
    rw[Nat.zero_add,Nat.mul_one,Nat.add_zero,List.getElem?_map,List.getElem?_eq_getElem h,←u,V5 h];rfl
theorem H1{M:List Int} {p:Int->Prop} (hp:∀x∈M,p x) {r:Nat} (h:r<M.length):p (M.getD r 0):=hp _ (W1 h)
theorem zve(M:List O6) {r:Nat} (h:r<M.length):∀(j:Nat) v,[Value.string (M.getD r (mkS []))][j]? =some v->(M.map Value.string)[0+r*1+j]? =some v:=λj v u=>by
  cases j with
  |succ j=>simp at u
  | zero=>
    rw[Nat.zero_add,Nat.mul_one,Nat.add_zero,List.getElem?_map,List.getElem?_eq_getElem h,←u,List.getD_eq_getElem?_getD,List.getElem?_eq_getElem h];rfl
theorem zvd{M:List O6} {p:O6->Prop} (hp:∀x∈M,p x) {r:Nat} (h:r<M.length):p (M.getD r (mkS [])):=hp _ (by rw[List.getD_eq_getElem?_getD,List.getElem?_eq_getElem h];exact List.getElem_mem h)
theorem Zw{q:Pub} {v:GV} (h:v.ok q) (N:Int) (s:O6) (b:Int):(GV.mk N s v.x v.l v.y v.ks b).ok q:=by rw[GV.ok_eq]at h;unfold GV.ok;exact h
end
section
variable (F:Bool) (d:SV) (i:Int) (f:List AT) (l k:Int) (g:List Int) (e:SV) (X:Nat) (h:Int×Int×List GV) (I:Int) (J:O6) (r:Option Addr) (K L:Nat) (M:Option Addr) (N O:Nat) (Q:O6) (x19:Int) (R:Option Addr) (S T:Nat) (U:Option Addr) (V x25:Nat) (c:z9) (E:uY) (x28:Prop) (x29:Nat->Option Obj) (x30:List Int)
 abbrev ka:=(True/\qc f d x29/\qb qm e g x29)/\GV.ok zV x29
 def Eg:=(GV.y c.1).1=noA/\(GV.y c.1).2.1=0/\(GV.y c.1).2.2=0/\GV.b c.1=0/\x28
 def xY:=d.1=d.1/\d.2.1=d.2.1/\d.2.2=d.2.2/\x28
 def Fq:=∃(a:z9),GV.n a.1=0/\GV.s a.1=mkS []/\(GV.x a.1).1=noA/\(GV.x a.1).2.1=0/\(GV.x a.1).2.2=0/\Eg a (a.2.1=F/\xY d (a.2.2=i/\zo f l k g i a.1 a.2.1 a.2.2/\(∀o,ka e f g d o->GV.ok a.1 o)/\True))
 def Eh:=(∀a,ka d f g e a->qb qm (e.1,e.2.1,e.2.2) x30 a)
 def Xf:=length h.2.2<=X/\qfu x29 r (take (length h.2.2*nat_lit 5) (qa GV.cells h.2.2))
 def Ee:=GV.n c.1=0/\GV.s c.1=mkS []/\(GV.x c.1).1=r/\(GV.x c.1).2.1=length h.2.2/\(GV.x c.1).2.2=X/\Eg c (c.2.1=true/\x28)
 def Ef:=d.1=E.2.2.2.2.1.1/\d.2.1=E.2.2.2.2.1.2.1/\d.2.2=E.2.2.2.2.1.2.2/\x28
 def rI:=length (qa GV.cells h.2.2)=length h.2.2*5/\(length h.2.2+nat_lit 1)*80<=140737488355328/\Jb (h.1- 1)/\∃(a:Int×Int×List GV),i=i/\a.1=h.1- 1/\Ef d E (a.2.1=c.2.2/\length a.2.2=length h.2.2+nat_lit 1/\xY e (J=J/\r=r/\X=X/\K=K/\l=l/\M=M/\L=L/\N=N/\F=F/\Q=Q/\k=k/\R=R/\O=O/\S=S/\U=U/\T=T/\V=V/\qa GV.cells a.2.2=qa GV.cells h.2.2++[int u64 (GV.n c.1),string (GV.s c.1),slice (GV.x c.1).1 (GV.x c.1).2.1 (GV.x c.1).2.2,slice (GV.y c.1).1 (GV.y c.1).2.1 (GV.y c.1).2.2,int i64 (GV.b c.1)]/\(∀o,((ka e f g d o)/\GV.oks h.2.2 o)/\GV.ok c.1 o->ka e f g d o)/\(∀m,((ka e f g d m)/\GV.oks h.2.2 m)/\GV.ok c.1 m->GV.oks a.2.2 m)/\x3 f (qd f I) g i x19 a.1 a.2.1 (GV.pvs a.2.2)/\toNat a.1<toNat h.1/\True))
 def rH:=((!c.2.1)=true->∀(a o m:Nat) (t:Option Addr) (i4 W:Nat),(∃H,(((ka d f g e H)/\GV.oks h.2.2 H)/\GV.ok c.1 H)/\Xf W h t H)->∃(D:z9),Ee W h t D (Ef e E (D.2.2=c.2.2/\zo f i l g k D.1 D.2.1 D.2.2/\(∀i8,(((ka d f g e i8)/\GV.oks h.2.2 i8)/\GV.ok c.1 i8)/\Xf W h t i8->GV.ok D.1 i8)/\True)))/\((!c.2.1)=false->rI F e l f I x19 g d X h i J r K L M N O Q k R S T U V c E)
 def rG:=Jb (i+1)/\∃(a:uY),a.2.1.1=d.1/\a.2.1.2.1=d.2.1/\a.2.1.2.2=d.2.2/\a.2.2.1=l/\a.2.2.2.1=i+1/\a.2.2.2.2.1.1=e.1/\a.2.2.2.2.1.2.1=e.2.1/\a.2.2.2.2.1.2.2=e.2.2/\a.2.2.2.2.2.2=h.2.1/\(v7 a<X/\qv a.1/\(0<=a.2.2.1/\a.2.2.1<(↑(length a.1):Int))/\ue (qd a.1 a.2.2.1)/\(0<=a.2.2.2.1/\a.2.2.2.1<=6)/\0<=a.2.2.2.2.2.2/\a.2.2.2.2.2.2<=(↑(length a.2.2.2.2.2.1):Int)/\zX a.2.2.2.2.2.1)/\(∀o,(ka d f g e o)/\GV.oks h.2.2 o->qc a.1 a.2.1 o/\qb qm a.2.2.2.2.1 a.2.2.2.2.2.1 o)/\∀(m:z9),zo a.1 a.2.2.1 a.2.2.2.1 a.2.2.2.2.2.1 a.2.2.2.2.2.2 m.1 m.2.1 m.2.2->(∃t,((ka d f g e t)/\GV.oks h.2.2 t)/\GV.ok m.1 t)->rH F d k f i I g e K h l J r L N M O S Q x19 R T V U x25 m a
 def rF:=Ji (0<h.1) (rG F d i f l k g e X h I J r K L M N O Q x19 R S T U V x25) (∀(i16 q i18:Nat) (Y:Option Addr) (i20 Z:Nat),(∃p,((ka d f g e p)/\GV.oks h.2.2 p)/\Xf Z h Y p)->∃(C:z9),Ee Z h Y C (xY e (C.2.2=h.2.1/\zo f k i g I C.1 C.2.1 C.2.2/\(∀j,((ka d f g e j)/\GV.oks h.2.2 j)/\Xf Z h Y j->GV.ok C.1 j)/\True)))
 def rE:=(0<=i/\i<(↑d.2.1:Int))/\d.1≠noA/\∃(a:Int),∃o,∃m,∃(t:Nat),∃(i4:Nat),∃(W:Int),∃H,∃(D:Nat),∃(i8:Nat),∃(i9:Bool),∃u,∃(v:Int),∃w,∃(z:Nat),∃(A:Nat),∃B,∃(i16:Nat),∃(q:Nat),(∀i18,ka d f g e i18->q2u i18 (adr d.1 (toNat i*10)) [int i64 a,string o,slice m t i4,int i64 W,slice H D i8,bool i9,string u,int i64 v,slice w z A,slice B i16 q])/\(∃(Y:Unit),l=l/\i=i/\(↑(12:Nat):Int)=a/\xY e (k=k/\xY d ((↑(12:Nat):Int)=a/\o=o/\m=m/\t=t/\i4=i4/\W=W/\H=H/\D=D/\i8=i8/\i9=i9/\u=u/\v=v/\w=w/\z=z/\A=A/\B=B/\i16=i16/\q=q/\(∀i20,ka d f g e i20->ka d f g e i20)/\True/\True)))/\∀(Z:Unit),True->∃(p:List Int),(4:Int)=4/\xY e (k=k/\(0<=k/\k<=(↑(length p):Int)/\(0:Int)<4/\(4:Int)<1000000/\zX p)/\Eh d f g e p/\(∃(j:Int×Int×List GV),l=l/\j.1=qq p k 4/\xY e (j.2.1=qg p k/\length j.2.2=0/\xY d (o=o/\m=m/\t=t/\i4=i4/\W=W/\H=H/\D=D/\i8=i8/\i9=i9/\u=u/\v=v/\w=w/\z=z/\A=A/\B=B/\i16=i16/\q=q/\(∀i25,ka d f g e i25->ka d f g e i25)/\(∀i26,ka d f g e i26->GV.oks j.2.2 i26)/\x3 f (qd f i) g l k j.1 j.2.1 (GV.pvs j.2.2)/\True)))/\∀(G:Int×Int×List GV),x3 f (qd f i) g l k G.1 G.2.1 (GV.pvs G.2.2)->(∃i28,(ka d f g e i28)/\GV.oks G.2.2 i28)->rF i9 d l f W i g e X G k o m t i4 H D i8 u v w z A B i16 q)
 def rD:=Ji (5<i) (Fq F d l f k i g e) (∃(m:List Int),xY d (l=l/\True/\Eh e f g d m/\Ji ((↑(length m):Int)<=l) (Fq F d l f k i g e) (rE e k f i l g d X)))
 def rC:=((!F)=true->Fq F d i f l k g e)/\((!F)=false->rD F d k f i l g e X)
end
def zh6(c:Nat) (S:List AT) (x:SV) (t d:Int) (y:SV) (L:List Int) (n:Int):qiy P (qef [(23,QU),(22,Uh)]) (qff [(10,(yZ ue).below v7 c),(21,zhn),(24,QV)]) Tryz.f10 ((yZ XD).below v7 (c+1)) (Lo true) ⟨S,x,t,d,y,L,n⟩=(v7 (S,x,t,d,y,L,n)<c+1/\qv S/\(0<=t/\t<(↑(length S):Int))/\XD (qd S t)/\(0<=d/\d<=6)/\0<=n/\n<=(↑(length L):Int)/\zX L->(∃(p:Pub),True/\qc S x p/\qb qm y L p)->∃(s:List AT×(Option Addr×Nat×Nat)×Int),s.2.1.1=x.1/\s.2.1.2.1=x.2.1/\s.2.1.2.2=x.2.2/\s.2.2=t/\(qv s.1/\AT.k (qd s.1 s.2.2)=12)/\(∀(p:Pub),True/\qc S x p/\qb qm y L p->qc s.1 s.2.1 p)/\∀(b:Bool),b=zN s.1 s.2.2->(∃(p:Pub),ka x S L y p)->rC b y n S t d L x c):=by kernel_rfl
def znt:=λc S x t d y L n=>Eq.trans (zh6 c S x t d y L n) (by delta Ji Jb Jt Jf ka Eg xY Fq Eh Xf Ee Ef rI rH rG rF rE rD rC;exact rfl)
section
variable (c:GV×Bool) (e:SV) (j:Int) (f:List AT) (k J:Int) (i:List Int) (h:SV) (L:Nat) (M:Int) (q:Nat) (p:Option Addr) (u:Nat) (v:O6) (w:Option Addr) (z A:Nat) (B:Int) (C:Option Addr) (D:Nat) (E:Bool) (F:O6) (K:Int) (G:Option Addr) (H I N:Nat) (a:z9) (S:List Int) (m:uY) (g:Int×Int×GV) (t:Nat×Int×List GV) (T:Prop) (W:Nat->Option Obj) (x34 x35 x36 x37 x38:Int) (V:GV)
 abbrev zH:=(True/\qc f e W/\qb qm h i W)/\GV.ok c.1 W
 def YK:=GV.n a.1=GV.n c.1/\GV.s a.1=GV.s c.1/\T
 def Rn:=(GV.y a.1).1=(GV.y c.1).1/\(GV.y a.1).2.1=(GV.y c.1).2.1/\(GV.y a.1).2.2=(GV.y c.1).2.2/\T
 def Xg:=(GV.x a.1).1=(GV.x c.1).1/\(GV.x a.1).2.1=(GV.x c.1).2.1/\(GV.x a.1).2.2=(GV.x c.1).2.2/\Rn c a (GV.b a.1=GV.b c.1/\T)
 def jm:=e.1=e.1/\e.2.1=e.2.1/\e.2.2=e.2.2/\T
 abbrev QR:=zo f j k i J a.1 a.2.1 a.2.2
 def Rm:=∃(d:z9),YK c d (Xg c d (d.2.1=c.2/\jm e (d.2.2=j/\QR k f J j i d/\(∀O,zH c h f i e O->GV.ok d.1 O)/\True)))
 def Xj:=(∀d,zH c e f i h d->qb qm (h.1,h.2.1,h.2.2) S d)
 def KF:=j=j/\(0<=j/\j<=(↑(length i):Int)/\0<k/\k<1000000/\zX i)/\Xj c e f S h i/\T
 def KE:=Xg c a (a.2.1=true/\jm e (a.2.2=qg i j/\QR k f J j S a/\(∀d,zH c h f S e d->GV.ok a.1 d)/\True))
 abbrev Xk:=nat_lit 0+toNat (qq i j k)*1
 def Rj:=(Jt (j=B)->∃(d:List Int),(7:Int)=7/\jm e (KF c h k f 7 d e i ((0<=qq d k 7/\qq d k (7:Int)<(↑(nat_lit 7):Int))/\∃(O:Int),qfi [int u64 0,int u64 K,int u64 x34,int u64 x35,int u64 x36,int u64 x37,int u64 x38] (Xk k 7 d) [int u64 O]/\∃(o:z9),GV.n o.1=O/\GV.s o.1=GV.s c.1/\KE c e k f J M d h o i)))
 def Et:=j=j/\(0<=j/\j<=(↑(length i):Int)/\0<(↑L:Int)/\(↑L:Int)<1000000/\zX i)/\T
 abbrev Rp:=Jb (j+1)
 def Rl:=m.2.1.1=e.1/\m.2.1.2.1=e.2.1/\m.2.1.2.2=e.2.2/\m.2.2.1=j/\m.2.2.2.1=k+1/\m.2.2.2.2.1.1=h.1/\m.2.2.2.2.1.2.1=h.2.1/\m.2.2.2.2.1.2.2=h.2.2/\T
 def Rk:=(v7 m<L/\qv m.1/\(0<=m.2.2.1/\m.2.2.1<(↑(length m.1):Int))/\ue (qd m.1 m.2.2.1)/\(0<=m.2.2.2.1/\m.2.2.2.1<=6)/\0<=m.2.2.2.2.2.2/\m.2.2.2.2.2.2<=(↑(length m.2.2.2.2.2.1):Int)/\zX m.2.2.2.2.2.1)
 def Ro:=qc m.1 m.2.1 W/\qb qm m.2.2.2.2.1 m.2.2.2.2.2.1 W
 abbrev Er:=slice (GV.x a.1).1 (GV.x a.1).2.1 (GV.x a.1).2.2
 abbrev Es:=slice (GV.y a.1).1 (GV.y a.1).2.1 (GV.y a.1).2.2
 def Ek:=AV.agg [AV.sv (int u64 (GV.n a.1)),AV.sv (string (GV.s a.1)),AV.sv (Er a),AV.sv (Es a),AV.sv (int i64 (GV.b a.1))]=AV.agg [AV.sv (int u64 (GV.n a.1)),AV.sv (string (GV.s a.1)),AV.sv (Er a),AV.sv (Es a),AV.sv (int i64 (GV.b a.1))]
 abbrev Em:=q2u W (Addr.mk L q none) [int u64 (GV.n a.1),string (GV.s a.1),slice (GV.x a.1).1 (GV.x a.1).2.1 (GV.x a.1).2.2,slice (GV.y a.1).1 (GV.y a.1).2.1 (GV.y a.1).2.2,int i64 (GV.b a.1)]
 def YJ:=e.1=m.2.2.2.2.1.1/\e.2.1=m.2.2.2.2.1.2.1/\e.2.2=m.2.2.2.2.1.2.2/\T
 def dh:=Ek a/\∀(d O o:Nat),(∃r,((zH c e f i h r)/\GV.ok a.1 r)/\Em d O a r)->∃(Q:z9),YK c Q ((GV.x Q.1).1=some (Addr.mk d (O+nat_lit 0) none)/\(GV.x Q.1).2.1=nat_lit 1/\(GV.x Q.1).2.2=nat_lit 1/\Rn c Q (GV.b Q.1=qq S j (↑L:Int)/\Q.2.1=true/\YJ h m (Q.2.2=a.2.2/\QR k f J j i Q/\(∀U,((zH c e f i h U)/\GV.ok a.1 U)/\Em d O a U->GV.ok Q.1 U)/\True)))
 def c9:=(a.2.1=true->dh c e j f k J i h L a S m)/\(a.2.1=false->∃(Z:z9),YK c Z (Xg c Z (Z.2.1=true/\YJ h m (Z.2.2=a.2.2/\QR k f J j i Z/\(∀i7,(zH c e f i h i7)/\GV.ok a.1 i7->GV.ok Z.1 i7)/\True))))
 def Ei:=(0<=qq i j (↑L:Int)/\qq i j (↑L:Int)<(↑L:Int))/\p≠noA/\∃(d:Int),(∀O,zH c e f S h O->q2u O (adr p (toNat (qq i j (↑L:Int))*1)) [int i64 d])/\Rp k/\∃(o:uY),Rl e d k h o (o.2.2.2.2.2.2=qg i j/\Rk q o/\(∀r,zH c e f S h r->Ro o r)/\∀(Q:z9),zo o.1 o.2.2.1 o.2.2.2.1 o.2.2.2.2.2.1 o.2.2.2.2.2.2 Q.1 Q.2.1 Q.2.2->(∃U,(zH c e f S h U)/\GV.ok Q.1 U)->c9 c e j f J k S h L Q i o)
 def Xh:=(GV.y c.1).1=(GV.y c.1).1/\(GV.y c.1).2.1=(GV.y c.1).2.1/\(GV.y c.1).2.2=(GV.y c.1).2.2/\GV.b c.1=GV.b c.1/\T
 def Xi:=j=j/\v=v/\p=p/\L=L/\q=q/\k=k/\w=w/\u=u/\z=z/\E=E/\F=F/\J=J/\C=C/\A=A/\D=D/\G=G/\H=H/\I=I/\(∀d,zH c e f i h d->zH c e f i h d)/\T
 def de:=length (qa GV.cells t.2.2)=length t.2.2*5/\(length t.2.2+nat_lit 1)*80<=140737488355328/\Jb ((↑t.1:Int)+1)/\∃(d:Nat×Int×List GV),j=j/\(↑d.1:Int)=(↑t.1:Int)+1/\YJ e m (d.2.1=a.2.2/\GV.n c.1=GV.n c.1/\GV.s c.1=GV.s c.1/\length d.2.2=length t.2.2+nat_lit 1/\Xh c (jm h (k=k/\v=v/\p=p/\L=L/\q=q/\J=J/\w=w/\u=u/\z=z/\E=E/\F=F/\M=M/\C=C/\A=A/\D=D/\G=G/\H=H/\I=I/\qa GV.cells d.2.2=qa GV.cells t.2.2++[int u64 (GV.n a.1),string (GV.s a.1),slice (GV.x a.1).1 (GV.x a.1).2.1 (GV.x a.1).2.2,slice (GV.y a.1).1 (GV.y a.1).2.1 (GV.y a.1).2.2,int i64 (GV.b a.1)]/\(∀O,((zH c h f i e O)/\GV.oks t.2.2 O)/\GV.ok a.1 O->zH c h f i e O)/\(∀o,((zH c h f i e o)/\GV.oks t.2.2 o)/\GV.ok a.1 o->GV.oks d.2.2 o)/\Zs f (qd f B) i j K d.1 d.2.1 (GV.pvs d.2.2)/\length (AT.fs (qd f B))- d.1<length (AT.fs (qd f B))- t.1/\True)))
 def Ej:=(0<=(↑t.1:Int)/\(↑t.1:Int)<(↑L:Int))/\p≠noA/\∃(d:Int),(∀O,(zH c e f i h O)/\GV.oks t.2.2 O->q2u O (Addr.add (adr p (toNat (↑t.1:Int)*9)) 2) [int i64 d])/\Rp j/\∃(o:uY),Rl e d j h o (o.2.2.2.2.2.2=t.2.1/\Rk q o/\(∀r,(zH c e f i h r)/\GV.oks t.2.2 r->Ro o r)/\∀(Q:z9),zo o.1 o.2.2.1 o.2.2.2.1 o.2.2.2.2.2.1 o.2.2.2.2.2.2 Q.1 Q.2.1 Q.2.2->(∃U,((zH c e f i h U)/\GV.oks t.2.2 U)/\GV.ok Q.1 U)->de c h j f k J i e u M z w A v C D L B p H E F K G I N Q o t)
 def dc:=(Ej c e j f k J i h L M q p u v w z A B C D E F K G H I N t)/\Ej c e j f k J i h L M q p u v w z A B C D E F K G H I N t
 def da:=Ji ((↑t.1:Int)<(↑L:Int)) (dc c e j f k J i h L M q p u v w z A B C D E F K G H I N t) (∀(i18 i19 i20:Nat) (X:Option Addr) (i22 i23:Nat),(∃i24,((zH c e f i h i24)/\GV.oks t.2.2 i24)/\length t.2.2<=i23/\qfu i24 X (take (length t.2.2*nat_lit 5) (qa GV.cells t.2.2)))->∃(R:z9),YK c R ((GV.x R.1).1=X/\(GV.x R.1).2.1=length t.2.2/\(GV.x R.1).2.2=i23/\Rn c R (GV.b R.1=GV.b c.1/\R.2.1=true/\jm h (R.2.2=t.2.1/\QR B f j K i R/\(∀Y,((zH c e f i h Y)/\GV.oks t.2.2 Y)/\length t.2.2<=i23/\qfu Y X (take (length t.2.2*nat_lit 5) (qa GV.cells t.2.2))->GV.ok R.1 Y)/\True))))
 def c7:=(∃(d:Nat×Int×List GV),j=j/\(↑d.1:Int)=0/\jm e (d.2.1=k/\GV.n c.1=GV.n c.1/\GV.s c.1=GV.s c.1/\length d.2.2=0/\Xh c (jm h (Xi c h J f M B i e L q p u v w z A C D E F G H I ((∀o,zH c h f i e o->GV.oks d.2.2 o)/\Zs f (qd f K) i j k d.1 d.2.1 (GV.pvs d.2.2)/\True)))))/\∀(r:Nat×Int×List GV),Zs f (qd f K) i j k r.1 r.2.1 (GV.pvs r.2.2)->(∃Q,(zH c h f i e Q)/\GV.oks r.2.2 Q)->da c h j f J M i e A B N C L v p q u K w z E F k G D H I r
 def En:=GV.n c.1=GV.n c.1/\GV.s c.1=GV.s c.1/\(GV.x c.1).1=(GV.x c.1).1/\(GV.x c.1).2.1=(GV.x c.1).2.1/\(GV.x c.1).2.2=(GV.x c.1).2.2/\T
 def ZT:=((zH c e f i h W)/\GV.ok g.2.2 W)/\GV.ok a.1 W
 def El:=GV.n a.1=GV.n g.2.2/\GV.s a.1=GV.s g.2.2/\(GV.x a.1).1=(GV.x g.2.2).1/\(GV.x a.1).2.1=(GV.x g.2.2).2.1/\(GV.x a.1).2.2=(GV.x g.2.2).2.2/\(GV.y a.1).1=(GV.y g.2.2).1/\(GV.y a.1).2.1=(GV.y g.2.2).2.1/\(GV.y a.1).2.2=(GV.y g.2.2).2.2/\GV.b a.1=GV.b g.2.2/\a.2.1=true/\T
 abbrev Eo:=slice (GV.x g.2.2).1 (GV.x g.2.2).2.1 (GV.x g.2.2).2.2
 abbrev Ep:=slice (GV.y g.2.2).1 (GV.y g.2.2).2.1 (GV.y g.2.2).2.2
 def dk:=Jb (g.1- 1)/\∃(d:Int×Int×GV),j=j/\d.1=g.1- 1/\YJ e m (d.2.1=qg i a.2.2/\GV.n d.2.2=GV.n V/\GV.s d.2.2=GV.s V/\(GV.x d.2.2).1=(GV.x V).1/\(GV.x d.2.2).2.1=(GV.x V).2.1/\(GV.x d.2.2).2.2=(GV.x V).2.2/\(GV.y d.2.2).1=(GV.y V).1/\(GV.y d.2.2).2.1=(GV.y V).2.1/\(GV.y d.2.2).2.2=(GV.y V).2.2/\GV.b d.2.2=GV.b V/\jm h (k=k/\v=v/\p=p/\L=L/\q=q/\J=J/\w=w/\u=u/\z=z/\E=E/\F=F/\M=M/\C=C/\A=A/\D=D/\G=G/\H=H/\I=I/\(∀O,(ZT c h f S e a g O)/\GV.ok V O->zH c h f S e O)/\(∀o,(ZT c h f S e a g o)/\GV.ok V o->GV.ok d.2.2 o)/\Q_ f (qd f B) S j K d.1 d.2.1 d.2.2/\toNat d.1<toNat g.1/\True))
 def dg:=Ji (j=12) (False) (∃(d:List Int),(5:Int)=5/\m.2.2.2.2.1.1=m.2.2.2.2.1.1/\m.2.2.2.2.1.2.1=m.2.2.2.2.1.2.1/\m.2.2.2.2.1.2.2=m.2.2.2.2.1.2.2/\a.2.2=a.2.2/\(0<=a.2.2/\a.2.2<=(↑(length d):Int)/\(0:Int)<5/\(5:Int)<1000000/\zX d)/\(∀O,ZT c e f i h a g O->qb qm (m.2.2.2.2.1.1,m.2.2.2.2.1.2.1,m.2.2.2.2.1.2.2) d O)/\((-9223372036854775808:Int)<=97+qq d a.2.2 5/\(97:Int)+qq d a.2.2 (5:Int)<=9223372036854775807)/\∃o,size o=1/\qfi [int u8 (IntKind.wrap u8 ((97:Int)+qq d a.2.2 5))] 0 (q11 o)/\size (mkS [107])+size o<=9223372036854775807/\AV.agg [AV.sv (int u64 (GV.n g.2.2)),AV.sv (string (GV.s g.2.2)),AV.sv (Eo g),AV.sv (Ep g),AV.sv (int i64 (GV.b g.2.2))]=AV.agg [AV.sv (int u64 (GV.n g.2.2)),AV.sv (string (GV.s g.2.2)),AV.sv (Eo g),AV.sv (Ep g),AV.sv (int i64 (GV.b g.2.2))]/\Ek a/\∃(r:GV×O6×GV),GV.n r.1=GV.n g.2.2/\GV.s r.1=GV.s g.2.2/\(GV.x r.1).1=(GV.x g.2.2).1/\(GV.x r.1).2.1=(GV.x g.2.2).2.1/\(GV.x r.1).2.2=(GV.x g.2.2).2.2/\(GV.y r.1).1=(GV.y g.2.2).1/\(GV.y r.1).2.1=(GV.y g.2.2).2.1/\(GV.y r.1).2.2=(GV.y g.2.2).2.2/\GV.b r.1=GV.b g.2.2/\r.2.1=mkS [107]++o/\GV.n r.2.2=GV.n a.1/\GV.s r.2.2=GV.s a.1/\(GV.x r.2.2).1=(GV.x a.1).1/\(GV.x r.2.2).2.1=(GV.x a.1).2.1/\(GV.x r.2.2).2.2=(GV.x a.1).2.2/\(GV.y r.2.2).1=(GV.y a.1).1/\(GV.y r.2.2).2.1=(GV.y a.1).2.1/\(GV.y r.2.2).2.2=(GV.y a.1).2.2/\GV.b r.2.2=GV.b a.1/\(length (GV.ks r.1)=length (GV.l r.1)/\length (GV.l r.1)<1000000)/\(∀Q,ZT c e f i h a g Q->GV.ok r.1 Q/\GV.ok r.2.2 Q)/\∀(U:GV),GV.pv U=PV.mk (GV.n r.1) (GV.s r.1) (jV r.2.1 (GV.ks r.1) (GV.pvs (GV.l r.1)) (GV.pv r.2.2)) (q9 r.2.1 (GV.ks r.1)) (GV.b r.1)->(∃Z,(ZT c e f i h a g Z)/\GV.ok U Z)->dk c h k f j J d e L M q p u v w z A B C D E F K G H I a i m g U)
 def dd:=((!a.2.1)=true->∃(d:z9),El d g (YJ e m (d.2.2=a.2.2/\QR j f k J i d/\(∀O,ZT c h f i e a g O->GV.ok d.1 O)/\True)))/\((!a.2.1)=false->dg c h M f k B i e L K q p u v w z A j C D E F J G H I a m g)
 def db:=Rp j/\∃(d:uY),Rl e k j h d (d.2.2.2.2.2.2=g.2.1/\Rk L d/\(∀O,(zH c e f i h O)/\GV.ok g.2.2 O->Ro d O)/\∀(o:z9),zo d.1 d.2.2.1 d.2.2.2.1 d.2.2.2.2.2.1 d.2.2.2.2.2.2 o.1 o.2.1 o.2.2->(∃r,ZT c e f i h o g r)->dd c h J f j M i e q B u p z v w A D k C H E F K G I N o d g)
 def c_:=Ji (0<g.1) (db c e j f k J i h L M q p u v w z A B C D E F K G H I N g) (∃(i16:z9),El i16 g (jm h (i16.2.2=g.2.1/\QR J f j M i i16/\(∀i17,(zH c e f i h i17)/\GV.ok g.2.2 i17->GV.ok i16.1 i17)/\True)))
 def c6:=(KL j=true->∃(d:List Int),(4:Int)=4/\jm e (KF c h k f 4 d e i ((∃(o:Int×Int×GV),J=J/\o.1=qq d k 4/\jm e (o.2.1=qg d k/\GV.n o.2.2=GV.n c.1/\GV.s o.2.2=GV.s c.1/\(GV.x o.2.2).1=(GV.x c.1).1/\(GV.x o.2.2).2.1=(GV.x c.1).2.1/\(GV.x o.2.2).2.2=(GV.x c.1).2.2/\(GV.y o.2.2).1=(GV.y c.1).1/\(GV.y o.2.2).2.1=(GV.y c.1).2.1/\(GV.y o.2.2).2.2=(GV.y c.1).2.2/\GV.b o.2.2=GV.b c.1/\jm h (Xi c h j f M B i e L q p u v w z A C D E F G H I ((∀Q,zH c h f i e Q->GV.ok o.2.2 Q)/\Q_ f (qd f K) i J k o.1 o.2.1 o.2.2/\True))))/\∀(U:Int×Int×GV),Q_ f (qd f K) i J k U.1 U.2.1 U.2.2->(∃Z,(zH c h f i e Z)/\GV.ok U.2.2 Z)->c_ c h J f M K i e N k L p q v w u z j C A E F B G D H I U)))/\(KL j=false->∃(R:z9),YK c R (Xg c R (R.2.1=true/\jm e (R.2.2=k/\QR K f J k i R/\(∀Y,zH c h f i e Y->GV.ok R.1 Y)/\True))))
 def cZ:=(Ji (j=12) (∃(d:Unit),k=k/\KL j=decide (j=12)/\j=j/\jm e (J=J/\En c (Xh c (jm h (Xi c h j f M B i e L q p u v w z A C D E F G H I (True/\True)))))) (∃(o:Unit),k=k/\KL j=decide (j=13)/\j=j/\jm e (J=J/\En c (Xh c (jm h (Xi c h j f M B i e L q p u v w z A C D E F G H I (True/\True)))))))/\∀(Q:Unit),True->c6 c e j f J k i h L M q p u v w z A B C D E F K G H I N
 def cY:=Ji (j=9) (c7 c e k f J j i h L M q p u v w z A B C D E F K G H I N) (cZ c e j f k J i h L M q p u v w z A B C D E F K G H I N)
 def cX:=Ji (j=14) (∃(d:List Int),(↑L:Int)=(↑L:Int)/\jm e (Et k d L (Xj c h f i e d/\(Ei c h k f J M d e L q p i)/\Ei c h k f J M d e L q p i))) (cY c e j f J k i h u B z w A v C D H K G I E F M p L N q)
 def rT:=Ji (j=10) (∃(d:List Int),(↑L:Int)=(↑L:Int)/\jm e (Et k d L (Xj c h f i e d/\∃(o:z9),GV.n o.1=IntKind.wrap u64 (qq d k (↑L:Int))/\GV.s o.1=GV.s c.1/\KE c e k f J M d h o i))) (cX c e j f k M i h q J u p z v w A L B C D E F K G H I N)
 def rS:=Ji (j=7) (∃(d:List Int),(4:Int)=4/\jm e (KF c h k f 4 d e i ((0<=qq d k 4/\qq d k (4:Int)<(↑(nat_lit 4):Int))/\∃o,qfi [string (mkS []),string (mkS [255]),string (mkS [0]),string (mkS [98])] (Xk k 4 d) [string o]/\∃(r:z9),GV.n r.1=GV.n c.1/\GV.s r.1=o/\KE c e k f J M d h r i))) (rT c e j f k J i h L M q p u v w z A B C D E F K G H I N)
 def rR:=Ji (j=8) (∃(d:List Int),(4:Int)=4/\jm e (KF c h k f 4 d e i ((0<=qq d k 4/\qq d k (4:Int)<(↑(nat_lit 4):Int))/\∃o,qfi [string (mkS []),string (mkS [97]),string (mkS [195,164]),string (mkS [116,101,120,116])] (Xk k 4 d) [string o]/\∃(r:z9),GV.n r.1=GV.n c.1/\GV.s r.1=o/\KE c e k f J M d h r i))) (rS c e j f k J i h L M q p u v w z A B C D E F K G H I N)
 def rQ:=Ji (j=6) (∃(d:List Int),(5:Int)=5/\jm e (KF c h k f 5 d e i ((0<=qq d k 5/\qq d k (5:Int)<(↑(nat_lit 5):Int))/\∃(o:Int),qfi [int u64 0,int u64 4607182418800017408,int u64 1,int u64 9223372036854775808,int u64 9218868437227405312] (Xk k 5 d) [int u64 o]/\∃(r:z9),GV.n r.1=o/\GV.s r.1=GV.s c.1/\KE c e k f J M d h r i))) (rR c e j f k J i h L M q p u v w z A B C D E F K G H I N)
 def rP:=Rj c e j f k J i h M 5 1065353216 2139095040 1 3212836864 2143289345 2147483648/\(Jf (j=5)->rQ c e j f k J i h L M q p u v w z A B C D E F K G H I N)
 def rO:=Rj c e j f k J i h M 4 1 18446744073709551615 1099511627776 9223372036854775807 9223372036854775808 9007199254740993/\(Jf (j=4)->rP c e j f k J i h L M q p u v w z A B C D E F K G H I N)
 def rN:=Rj c e j f k J i h M 3 1 18446744073709551615 300 2147483647 18446744071562067968 16777217/\(Jf (j=3)->rO c e j f k J i h L M q p u v w z A B C D E F K G H I N)
 def rL:=(0<=j/\j<(↑e.2.1:Int))/\e.1≠noA/\∃(d:Int),∃O,∃o,∃(r:Nat),∃(Q:Nat),∃(U:Int),∃Z,∃(i7:Nat),∃(i8:Nat),∃(i9:Bool),∃i10,∃(i11:Int),∃i12,∃(i13:Nat),∃(i14:Nat),∃i15,∃(i16:Nat),∃(i17:Nat),(∀i18,zH c e f i h i18->q2u i18 (adr e.1 (toNat j*10)) [int i64 d,string O,slice o r Q,int i64 U,slice Z i7 i8,bool i9,string i10,int i64 i11,slice i12 i13 i14,slice i15 i16 i17])/\Ji (d=2) (∃(i19:List Int),(2:Int)=2/\jm h (KF c e k f 2 i19 h i (∃(X:z9),GV.n X.1=IntKind.wrap u64 (qq i19 k 2)/\GV.s X.1=GV.s c.1/\KE c h k f j J i19 e X i))) (rN c h d f k j i e i7 J i16 i15 L O o r Q U Z i8 i9 i10 i11 i12 i13 i14 i17)
 def rK:=Ji (5<j) (Rm c e k f J j i h) (∃(o:List Int),jm e (k=k/\True/\Xj c h f i e o/\Ji ((↑(length o):Int)<=k) (Rm c e k f J j i h) (rL c h J f k j i e L)))
 def rJ:=((!c.2)=true->Rm c e j f k J i h)/\((!c.2)=false->rK c e J f j k i h L)
end
def zh5(c:Nat) (S:List AT) (x:SV) (t d:Int) (y:SV) (L:List Int) (n:Int):qiy P (qef [(23,QU),(22,Uh)]) (qff [(10,(yZ ue).below v7 c),(21,IR),(24,QV)]) Tryz.f10 ((yZ XF).below v7 (c+1)) (Lo false) ⟨S,x,t,d,y,L,n⟩=(v7 (S,x,t,d,y,L,n)<c+1/\qv S/\(0<=t/\t<(↑(length S):Int))/\XF (qd S t)/\(0<=d/\d<=6)/\0<=n/\n<=(↑(length L):Int)/\zX L->(∃(p:Pub),True/\qc S x p/\qb qm y L p)->∃(s:List AT×(Option Addr×Nat×Nat)×Int),s.2.1.1=x.1/\s.2.1.2.1=x.2.1/\s.2.1.2.2=x.2.2/\s.2.2=t/\qv s.1/\(∀(p:Pub),True/\qc S x p/\qb qm y L p->qc s.1 s.2.1 p)/\∀(b:GV×Bool),b.2=zN s.1 s.2.2/\PV.sn (GV.pv b.1)/\PV.wt (GV.pv b.1)<=60000/\(b.2=true->PV.fitz s.1 s.2.2 (GV.pv b.1))/\(b.2=false\/AT.k (qd s.1 s.2.2)=12\/AT.k (qd s.1 s.2.2)=13->b.1=zV)->(∃(p:Pub),zH b x S L y p)->rJ b y n S t d L x c):=by kernel_rfl
def znr:=λc S x t d y L n=>Eq.trans (zh5 c S x t d y L n) (by delta Ji Jb Jt Jf zH YK Rn Xg jm QR Rm Xj KF KE Xk Rj Et Rp Rl Rk Ro Er Es Ek Em YJ dh c9 Ei Xh Xi de Ej dc da c7 En ZT El Eo Ep dk dg dd db c_ c6 cZ cY cX rT rS rR rQ rP rO rN rL rK rJ;exact rfl)
def zns(c:Nat) (ha:q1i P 10 ((yZ ue).below v7 c)):q1i P 10 ((yZ XF).below v7 (c+1)):=by
 refine zI (qbu (qfr J3 (qfr I5 qil))) (qcl (qfq ha (qfq z9k (qfq Ya qik)))) (W:=Lo false) Tryz.func10 λ⟨S,(x:SV),(t:Int),(d:Int),(y:SV),L,(n:Int)⟩=>(znr c S x t d y L n).mpr ?_;rintro⟨hmu,hS,ht,V,⟨hd0,hd6⟩,C,A,hL⟩ ⟨p,_,hx,hy⟩;have hmu:(10- d).toNat<c+1:=hmu;obtain⟨i,hi,rfl⟩:=vy ht;have V:S[i].k≠12:=by have:=V;unfold XF at this;rw[ko hi]at this;exact this
 have sl:x.2.1=S.length:=hx.1.1;have hat:=λq (hq:qc S x q)=>yp hq hi;have hao:=λq (hq:qc S x q)=>hq.2 S[i] (List.getElem_mem hi);have O:=hS.2 S[i] (List.getElem_mem hi);have h60:=hS.1;obtain⟨_,syl,fl,bl⟩:=uD (hao p hx);have hkk:=O.1;have hit:=O.2.1;have hbr:=O.2.2.1;have hne:=O.2.2.2.1;have hfr:=λf (hf:f∈S[i].fs)=>(O.2.2.2.2.1 f hf).1;have hsy:=O.2.2.2.2.2.1;have hf30:=O.2.2.2.2.2.2.2.1;have hb30:=O.2.2.2.2.2.2.2.2.1;have hs30:=O.2.2.2.2.2.2.2.2.2;clear O;have hLl:=hL.1;have nb:=yk A;have nr:=λ(m:Int) (h:0<m)=>ym (n:=n) (m:=m) hL h;have ix:∀{m:Int} (h:0<m),∃r:Nat,(r:Int)<m/\qq L n m=r:=λ{m} h=>by obtain⟨r,hr⟩:=Int.eq_ofNat_of_zero_le (nr m h).1;exact⟨r,by have:=(nr m h).2;omega,hr⟩
 simp only[qy,exists_const,forall_const,Int.toNat_natCast,sl,ko hi];refine⟨⟨S,x,(i:Int)⟩,rfl,sl,rfl,rfl,hS,λq hq=>hq.1,?_⟩;rintro⟨v,bb⟩ ⟨hb,vsn,vwt,vf⟩ ⟨p1,⟨hx1,hy1⟩,hv⟩;simp only at hb vsn vwt vf hv⊢;have N:∃b:z9,b.1.n=v.n/\b.1.s=v.s/\b.1.x.1=v.x.1/\b.1.x.2.1=v.x.2.1/\b.1.x.2.2=v.x.2.2/\b.1.y.1=v.y.1/\b.1.y.2.1=v.y.2.1/\b.1.y.2.2=v.y.2.2/\b.1.b=v.b/\b.2.1=bb/\b.2.2=n/\zo S i d L n b.1 b.2.1 b.2.2/\∀q,(qc S x q/\qb qm y L q)/\v.ok q->b.1.ok q:=⟨⟨v,bb,n⟩,rfl,rfl,rfl,rfl,rfl,rfl,rfl,rfl,rfl,rfl,rfl,⟨hb,⟨Int.le_refl _,A⟩,vsn,Nat.le_trans vwt (Qz d),vf.1⟩,λq hq=>hq.2⟩;refine⟨λ_=>N,λhbt=>⟨λ_=>N,λhd5=>⟨L,λq hq=>hq.1.2,λ_=>N,λhov=> ?_⟩⟩⟩;obtain rfl:bb=true:=hbt;have vft:=vf.1 rfl;have vnl:S[i].k=12\/S[i].k=13->v.l=[]:=λh=>by have:=vf.2 (.inr (by rw[ko hi];exact h));rw[this];rfl
 have H:AvH S i hi v d:=⟨hS,hb.symm,vft,vsn,vwt,vnl,by omega⟩;clear N vf;have hpp:(qc S x p1/\qb qm y L p1)/\v.ok p1:=⟨⟨hx1,hy1⟩,hv⟩;have nn:n<=qg L n/\qg L n<=L.length:=⟨nb.1,nb.2.1⟩;refine⟨⟨by omega,by omega⟩,(hat p1 hx1).1,S[i].k,S[i].nm,S[i].al.1,S[i].al.2.1,S[i].al.2.2,S[i].it,S[i].sy.1,S[i].sy.2.1,S[i].sy.2.2,S[i].hd,S[i].df,S[i].sz,S[i].f.1,S[i].f.2.1,S[i].f.2.2,S[i].br.1,S[i].br.2.1,S[i].br.2.2,λq hq=>(hat q hq.1.1).2,λk2=> ?_,λk2=>⟨λk3=> ?_,λk3=>⟨λk4=> ?_,λk4=>⟨λk5=> ?_,λk5=>⟨λk6=> ?_,λk6=>⟨λk8=> ?_,λk8=>⟨λk7=> ?_,λk7=>⟨λk10=> ?_,λk10=>⟨λk14=> ?_,λk14=>⟨λk9=> ?_,λk9=> ?_⟩⟩⟩⟩⟩⟩⟩⟩⟩⟩
 ·obtain⟨r,hr,e⟩:=ix (m:=2) (by decide);have w:IntKind.wrap .u64 (r:Int)=r:=by rw[OQ];omega
  exact⟨L,⟨C,A,by decide,by decide,hL⟩,λq hq=>hq.1.2,⟨.mk r v.s v.x v.l v.y v.ks v.b,true,qg L n⟩,by rw[e,w];rfl,rfl,rfl,rfl,rfl,rfl,rfl,rfl,rfl,rfl,rfl,K2 H nn (by unfold qI;exact decide_eq_true (by omega)) (by omega) (by unfold zS;rw[if_neg (by omega),if_pos k2];exact decide_eq_true (by omega)),λq hq=>Zw hq.2 _ _ _⟩
 ·obtain⟨r,hr,e⟩:=ix (m:=7) (by decide);have J:=H1 (M:=[0,1,18446744073709551615,300,2147483647,18446744071562067968,16777217]) (p:=λx=>(0<=x/\x<18446744073709551616)/\(x<2147483648\/18446744071562067968<=x)) (by decide) (r:=r) (by simp;omega);refine⟨L,?_⟩;rw[e];exact⟨⟨C,A,by decide,by decide,hL⟩,λq hq=>hq.1.2,⟨by omega,hr⟩,_,H0 [0,1,18446744073709551615,300,2147483647,18446744071562067968,16777217] (r:=r) (by simp;omega),⟨.mk _ v.s v.x v.l v.y v.ks v.b,true,qg L n⟩,rfl,rfl,rfl,rfl,rfl,rfl,rfl,rfl,rfl,rfl,rfl,K2 H nn (by unfold qI;exact decide_eq_true (by omega)) J.1 (by unfold zS;rw[if_neg (by omega),if_neg (by omega),if_pos k3];exact decide_eq_true J.2),λq hq=>Zw hq.2 _ _ _⟩
 ·obtain⟨r,hr,e⟩:=ix (m:=7) (by decide);have J:=H1 (M:=[0,1,18446744073709551615,1099511627776,9223372036854775807,9223372036854775808,9007199254740993]) (p:=λx=>(0<=x/\x<18446744073709551616)) (by decide) (r:=r) (by simp;omega);refine⟨L,?_⟩;rw[e];exact⟨⟨C,A,by decide,by decide,hL⟩,λq hq=>hq.1.2,⟨by omega,hr⟩,_,H0 [0,1,18446744073709551615,1099511627776,9223372036854775807,9223372036854775808,9007199254740993] (r:=r) (by simp;omega),⟨.mk _ v.s v.x v.l v.y v.ks v.b,true,qg L n⟩,rfl,rfl,rfl,rfl,rfl,rfl,rfl,rfl,rfl,rfl,rfl,K2 H nn (by unfold qI;exact decide_eq_true (by omega)) J (by unfold zS;rw[if_neg (by omega),if_neg (by omega),if_neg (by omega),if_neg (by omega),if_neg (by omega)]),λq hq=>Zw hq.2 _ _ _⟩
 ·obtain⟨r,hr,e⟩:=ix (m:=7) (by decide);have J:=H1 (M:=[0,1065353216,2139095040,1,3212836864,2143289345,2147483648]) (p:=λx=>(0<=x/\x<18446744073709551616)/\x<4294967296) (by decide) (r:=r) (by simp;omega);refine⟨L,?_⟩;rw[e];exact⟨⟨C,A,by decide,by decide,hL⟩,λq hq=>hq.1.2,⟨by omega,hr⟩,_,H0 [0,1065353216,2139095040,1,3212836864,2143289345,2147483648] (r:=r) (by simp;omega),⟨.mk _ v.s v.x v.l v.y v.ks v.b,true,qg L n⟩,rfl,rfl,rfl,rfl,rfl,rfl,rfl,rfl,rfl,rfl,rfl,K2 H nn (by unfold qI;exact decide_eq_true (by omega)) J.1 (by unfold zS;rw[if_neg (by omega),if_neg (by omega),if_neg (by omega),if_pos k5];exact decide_eq_true J.2),λq hq=>Zw hq.2 _ _ _⟩
 ·obtain⟨r,hr,e⟩:=ix (m:=5) (by decide);have J:=H1 (M:=[0,4607182418800017408,1,9223372036854775808,9218868437227405312]) (p:=λx=>(0<=x/\x<18446744073709551616)) (by decide) (r:=r) (by simp;omega);refine⟨L,?_⟩;rw[e];exact⟨⟨C,A,by decide,by decide,hL⟩,λq hq=>hq.1.2,⟨by omega,hr⟩,_,H0 [0,4607182418800017408,1,9223372036854775808,9218868437227405312] (r:=r) (by simp;omega),⟨.mk _ v.s v.x v.l v.y v.ks v.b,true,qg L n⟩,rfl,rfl,rfl,rfl,rfl,rfl,rfl,rfl,rfl,rfl,rfl,K2 H nn (by unfold qI;exact decide_eq_true (by omega)) J (by unfold zS;rw[if_neg (by omega),if_neg (by omega),if_neg (by omega),if_neg (by omega),if_neg (by omega)]),λq hq=>Zw hq.2 _ _ _⟩
 ·obtain⟨r,hr,e⟩:=ix (m:=4) (by decide);have J:=zvd (M:=[mkS [],mkS [97],mkS [195,164],mkS [116,101,120,116]]) (p:=λx=>x.size<=1000/\qz x=true) (by decide+kernel) (r:=r) (by simp;omega);refine⟨L,?_⟩;rw[e];exact⟨⟨C,A,by decide,by decide,hL⟩,λq hq=>hq.1.2,⟨by omega,hr⟩,_,zve [mkS [],mkS [97],mkS [195,164],mkS [116,101,120,116]] (r:=r) (by simp;omega),⟨.mk v.n _ v.x v.l v.y v.ks v.b,true,qg L n⟩,rfl,rfl,rfl,rfl,rfl,rfl,rfl,rfl,rfl,rfl,rfl,O9 H nn (by unfold qG;exact decide_eq_true (by omega)) J.1 (by unfold jC;rw[if_pos k8];exact J.2),λq hq=>Zw hq.2 _ _ _⟩
 ·obtain⟨r,hr,e⟩:=ix (m:=4) (by decide);have J:=zvd (M:=[mkS [],mkS [255],mkS [0],mkS [98]]) (p:=λx=>x.size<=1000) (by decide+kernel) (r:=r) (by simp;omega);refine⟨L,?_⟩;rw[e];exact⟨⟨C,A,by decide,by decide,hL⟩,λq hq=>hq.1.2,⟨by omega,hr⟩,_,zve [mkS [],mkS [255],mkS [0],mkS [98]] (r:=r) (by simp;omega),⟨.mk v.n _ v.x v.l v.y v.ks v.b,true,qg L n⟩,rfl,rfl,rfl,rfl,rfl,rfl,rfl,rfl,rfl,rfl,rfl,O9 H nn (by unfold qG;exact decide_eq_true (by omega)) J (by unfold jC;rw[if_neg (by omega),if_neg (by omega)]),λq hq=>Zw hq.2 _ _ _⟩
 ·have hsp:=List.length_pos_iff.2 (hsy k10);rw[syl];obtain⟨r,hr,e⟩:=ix (m:=S[i].sys.length) (by omega);have w:IntKind.wrap .u64 (r:Int)=r:=by rw[OQ];omega
  exact⟨L,⟨C,A,by omega,by omega,hL⟩,λq hq=>hq.1.2,⟨.mk r v.s v.x v.l v.y v.ks v.b,true,qg L n⟩,by rw[e,w];rfl,rfl,rfl,rfl,rfl,rfl,rfl,rfl,rfl,rfl,rfl,K2 H nn (by unfold qI;exact decide_eq_true (by omega)) (by omega) (by unfold zS;rw[if_neg (by omega),if_neg (by omega),if_neg (by omega),if_neg (by omega),if_pos k10];exact decide_eq_true (by omega)),λq hq=>Zw hq.2 _ _ _⟩
 ·have hbp:=List.length_pos_iff.2 (hne k14);rw[bl];obtain⟨r,hr,e⟩:=ix (m:=S[i].brs.length) (by omega);have hrl:r<S[i].brs.length:=by omega
  have bat:=λq hq=>yV (hao q hq) hrl;have bin:=hbr _ (List.getElem_mem hrl);have hun:=λw x m n' hm (hw:zo S S[i].brs[r] (d+1) L m w true n')=>jhy (n:=n) H k14 hrl (w:=w) (x:=x) (m:=m) (n':=n') hm hw;generalize S[i].brs[r]=bt at*;refine⟨L,⟨C,A,by omega,by omega,hL⟩,λq hq=>hq.1.2,?_⟩;rw[e];simp only[Int.toNat_natCast];refine⟨?xa,?xb⟩;case xa|xb=>
   refine⟨⟨by omega,by omega⟩,(bat p1 hx1).1,bt,λq hq=>(bat q hq.1.1).2,⟨by omega,by omega⟩,⟨S,x,bt,d+1,y,L,qg L n⟩,rfl,sl,rfl,rfl,rfl,rfl,rfl,rfl,rfl,⟨by show(10- (d+1)).toNat<c;omega,hS,bin,trivial,⟨by show 0<=d+1;omega,by show d+1<=6;omega⟩,by show 0<=qg L n;omega,nn.2,hL⟩,λq hq=>hq.1,?_⟩;rintro⟨w,b2,n2⟩ hw _;have hw:zo S bt (d+1) L (qg L n) w b2 n2:=hw;simp only;refine⟨λT b s _=>⟨⟨.mk v.n v.s (some ⟨b,s+0,none⟩,1,1) [w] v.y v.ks r,true,n2⟩,rfl,rfl,rfl,rfl,rfl,rfl,rfl,rfl,rfl,rfl,trivial,trivial,trivial,rfl,?_,λq hq=> ?_⟩,λT=>⟨⟨v,true,n2⟩,rfl,rfl,rfl,rfl,rfl,rfl,rfl,rfl,rfl,rfl,trivial,trivial,trivial,rfl,zut H ⟨by have:=hw.2.1.1;show n<=n2;omega,hw.2.1.2⟩,λq hq=>hq.1.2⟩⟩
   ·subst T;exact hun w _ _ n2 nn.1 hw
   ·have X:=hq.1.1.2;rw[GV.ok_eq]at X;unfold GV.ok;exact⟨⟨rfl,Nat.le_refl _, .inr ⟨_,rfl,rfl,hq.2⟩⟩,X.2.1,uH hq.1.2⟩
 ·refine⟨⟨⟨0,n,[]⟩,rfl,rfl,rfl,λq hq=>GV.oks_iff.2 λv h=>(by cases h),⟨rfl,Nat.zero_le _⟩,⟨Int.le_refl _,A⟩,λk h1 h2=>absurd h1 (by rw[GV.pvs];simp),λv hv=>(by rw[GV.pvs]at hv;cases hv),by rw[GV.pvs,PV.wts];exact Nat.zero_le _⟩,?_⟩;rintro⟨j,Z,fs⟩ G ⟨p2,hp2,hfs⟩;have G:Zs S S[i] L d n j Z (GV.pvs fs):=G;simp only at hfs⊢;have l1:fs.length=j:=by rw[←GV.pvs_len];exact G.1.1
  have l2:=G.1.2;have l3:=G.2.1;have hfl:=IX hS hi k9 hb.symm;refine⟨λhlt=>⟨?xc,?xd⟩,λhge a cc _=>⟨⟨.mk v.n v.s (a,fs.length,cc) fs v.y v.ks v.b,true,Z⟩,rfl,rfl,rfl,rfl,rfl,rfl,rfl,rfl,rfl,rfl,rfl,jhx H k9 (by omega) G,λq hq=> ?_⟩⟩;case xc|xd=>
   have U:j<S[i].fs.length:=(by omega);have bat:=λq hq=>HY (hao q hq) U;have bne:=(vV (hao p1 hx1) U).1;have bin:=hfr _ (List.getElem_mem U);have bls:=hfl.2 _ (List.getElem_mem U);have hsn:=λw n2 b hw=>zq2 U G (w:=w) (n2:=n2) (b:=b) bls hw;generalize S[i].fs[j]=f at*;refine⟨⟨by omega,by omega⟩,bne,f.ty,λq hq=>bat q hq.1.1.1,⟨by omega,by omega⟩,⟨S,x,f.ty,d+1,y,L,Z⟩,rfl,sl,rfl,rfl,rfl,rfl,rfl,rfl,rfl,⟨by show(10- (d+1)).toNat<c;omega,hS,bin,trivial,⟨by show 0<=d+1;omega,by show d+1<=6;omega⟩,by show 0<=Z;omega,l3.2,hL⟩,λq hq=>hq.1.1,?_⟩;rintro⟨w,b2,n2⟩ hw _;have hw:zo S f.ty (d+1) L Z w b2 n2:=hw;simp only;exact⟨qB jw fs,by omega,⟨by omega,by omega⟩,⟨j+1,n2,fs++[w]⟩,by show((j+1:Nat):Int)=_;omega,trivial,trivial,trivial,rfl,by simp,by rw[zF];rfl,λq hq=>hq.1.1,λq hq=>JV hq.1.2 (uH hq.2),hsn w n2 b2 hw,by show _- (j+1)<_;omega⟩
  ·have h2:=hq.2.2;rw[List.take_of_length_le (by rw[qB jw];exact Nat.le_refl _)]at h2;have X:=hq.1.1.2;rw[GV.ok_eq]at X;unfold GV.ok;exact⟨⟨rfl,hq.2.1,h2⟩,X.2.1,hq.1.2⟩
 ·refine⟨⟨λh=>absurd h V,λh=> ?_⟩,λham=> ?_,λham=> ?_⟩
  ·unfold KL;exact qV ⟨λg=>by omega,λg=> .inr g⟩
  ·have Y:S[i].k=13:=by unfold KL at ham;have:=of_decide_eq_true ham;omega
   have vl0:=vnl (.inr Y);obtain⟨e1,e2,_,e4⟩:=(V0 hi vft.1).2.2 (Uc (by omega));have e4:=e4 (by omega);have vk0:v.ks=[]:=by have:=hv;rw[GV.ok_eq]at this;have hh:=vft.1;rw[GV.pv_eq,PV.fits,if_neg (by omega)]at hh;simp only[Int.toNat_natCast,List.getElem?_eq_getElem hi,GV.pvs_len]at hh;rw[if_neg (by unfold qI;rw[decide_eq_false (by omega)];decide),if_neg (by unfold qG;rw[decide_eq_false (by omega)];decide),if_pos (Uc (by omega))]at hh;simp only[Bool.and_eq_true]at hh;have ho:=hh.1.1.1;unfold zx at ho;rw[if_neg (by omega),if_neg (by omega),if_neg (by omega),if_pos Y,Bool.and_eq_true,decide_eq_true_eq,vl0]at ho;exact List.length_eq_zero_iff.1 ho.1.symm
   obtain⟨r,hr,e⟩:=ix (m:=4) (by decide);refine⟨L,⟨C,A,by decide,by decide,hL⟩,λq hq=>hq.1.2,⟨⟨r,qg L n,v⟩,e.symm,rfl,rfl,rfl,rfl,rfl,rfl,rfl,rfl,rfl,rfl,λq hq=>hq.2,⟨⟨by show(0:Int)<=r;omega,by show(r:Int)<=3;omega⟩,nn,⟨e1,e2,e4⟩,⟨by rw[vk0,vl0];rfl,by rw[vl0];show(0:Int)<=3- r;omega⟩,by rw[vk0];rfl,λw hw=>(by rw[vl0,GV.pvs]at hw;cases hw),λk hk=>(by rw[vk0]at hk;cases hk),?_⟩⟩,?_⟩
   ·rw[vk0,vl0,GV.pvs,PV.wts,qx];have:0<=(3- (r:Int))*((jX (d+1):Int)+12):=Int.mul_nonneg (by omega) (by omega);exact this
   rintro⟨m,Z,u⟩ G ⟨p2,hp2,hu⟩;have G:Q_ S S[i] L d n m Z u:=G;simp only at hu⊢;have hI1:=G.1;have hI2:=G.2.1;have hI4:=G.2.2.2.1;have tin:=hit (.inr Y);refine⟨λhpos=> ?_,λhneg=>⟨⟨u,true,Z⟩,rfl,rfl,rfl,rfl,rfl,rfl,rfl,rfl,rfl,rfl,rfl,Pe H Y G,λq hq=>hq.2⟩⟩;refine⟨⟨by omega,by omega⟩,⟨S,x,S[i].it,d+1,y,L,Z⟩,rfl,sl,rfl,rfl,rfl,rfl,rfl,rfl,rfl,⟨by show(10- (d+1)).toNat<c;omega,hS,tin,trivial,⟨by show 0<=d+1;omega,by show d+1<=6;omega⟩,by show 0<=Z;omega,hI2.2,hL⟩,λq hq=>hq.1.1,?_⟩;rintro⟨w,b2,n2⟩ hw _;have hw:zo S S[i].it (d+1) L Z w b2 n2:=hw;simp only;have hw1:=hw.2.1;have e5:=ym (n:=n2) (m:=5) hL (by decide);have n5:=yk hw1.2;refine⟨λT=>⟨⟨u,true,n2⟩,rfl,rfl,rfl,rfl,rfl,rfl,rfl,rfl,rfl,rfl,trivial,trivial,trivial,rfl,Pe (m:=m) H Y ?_,λq hq=>hq.1.2⟩,λT=>⟨λh=>absurd h (by omega),λ_=> ?_⟩⟩
   ·obtain⟨a1,a2,a3⟩:=G;exact⟨a1,⟨by show n<=n2;omega,hw1.2⟩,a3⟩
   subst T;obtain⟨z,J⟩:=Int.eq_ofNat_of_zero_le e5.1;have hz5:z<5:=(by omega);have w8:IntKind.wrap .u8 (97+(z:Int))=((97+z:Nat):Int):=(by rw[J8];omega);have s1:(mkS [97+z]).size=1:=rfl;have s2:(mkS [107]++mkS [97+z]).size=2:=(by rw[ByteArray.size_append,s1];rfl);have s0:(mkS [107]).size=1:=rfl;refine⟨L,⟨by show 0<=n2;omega,hw1.2,by decide,by decide,hL⟩,λq hq=>hq.1.1.1.2,⟨by omega,by omega⟩,mkS [97+z],s1,λj a hj=> ?_,by omega,⟨u,mkS [107]++mkS [97+z],w⟩,rfl,rfl,rfl,rfl,rfl,rfl,rfl,rfl,rfl,rfl,rfl,rfl,rfl,rfl,rfl,rfl,rfl,rfl,rfl,⟨hI4.1,by show u.l.length<1000000;omega⟩,λq hq=>⟨hq.1.2,hq.2⟩,?_⟩
   ·rw[dz _ (by omega)]at hj;rw[J,w8,Nat.zero_add];exact hj
   rintro g O _;have O:g.pv=PV.mk u.n u.s (jV (mkS [107]++mkS [97+z]) u.ks (GV.pvs u.l) w.pv) (q9 (mkS [107]++mkS [97+z]) u.ks) u.b:=O;have hvk:qz (mkS [107]++mkS [97+z])=true:=by rcases(by omega:z=0\/z=1\/z=2\/z=3\/z=4)with rfl|rfl|rfl|rfl|rfl<;>decide+kernel
   exact⟨⟨by omega,by omega⟩,⟨m- 1,qg L n2,g⟩,rfl,trivial,trivial,trivial,rfl,rfl,rfl,rfl,rfl,rfl,rfl,rfl,rfl,rfl,λq hq=>hq.1.1.1,λq hq=>hq.2,zy4 hpos G hvk s2 hw ⟨n5.1,n5.2.1⟩ O,by show(m- 1).toNat<m.toNat;omega⟩
  ·exact⟨⟨v,true,n⟩,rfl,rfl,rfl,rfl,rfl,rfl,rfl,rfl,rfl,rfl,rfl,zut H ⟨Int.le_refl _,A⟩,λq hq=>hq.2⟩
def znu(c:Nat) (ha:q1i P 10 ((yZ ue).below v7 c)):q1i P 10 ((yZ XD).below v7 (c+1)):=by
 refine zI (qbu (qfr J3 (qfr I5 qil))) (qcl (qfq ha (qfq zit (qfq Ya qik)))) (W:=Lo true) Tryz.func10 λ⟨S,(x:SV),(t:Int),(d:Int),(y:SV),L,(n:Int)⟩=>(znt c S x t d y L n).mpr ?_;rintro⟨V,hS,ht,u,⟨hd0,hd6⟩,hn0,O,hL⟩ ⟨p,_,hx,hy⟩;have V:(10- d).toNat<c+1:=V;obtain⟨i,hi,rfl⟩:=vy ht;have u:S[i].k=12:=by have:=u;unfold XD at this;rw[ko hi]at this;exact this
 have sl:x.2.1=S.length:=hx.1.1;have T:=λq (hq:qc S x q)=>yp hq hi;have hao:=λq (hq:qc S x q)=>hq.2 S[i] (List.getElem_mem hi);have C:=hS.2 S[i] (List.getElem_mem hi);have h60:=hS.1;obtain⟨_,syl,fl,bl⟩:=uD (hao p hx);have hkk:=C.1;have hit:=C.2.1;have hbr:=C.2.2.1;have hne:=C.2.2.2.1;have hfr:=λf (hf:f∈S[i].fs)=>(C.2.2.2.2.1 f hf).1;have hsy:=C.2.2.2.2.2.1;have hf30:=C.2.2.2.2.2.2.2.1;have hb30:=C.2.2.2.2.2.2.2.2.1;have hs30:=C.2.2.2.2.2.2.2.2.2;clear C;have hLl:=hL.1;have nb:=yk O;have nr:=λ(m:Int) (h:0<m)=>ym (n:=n) (m:=m) hL h;have ix:∀{m:Int} (h:0<m),∃r:Nat,(r:Int)<m/\qq L n m=r:=λ{m} h=>by obtain⟨r,hr⟩:=Int.eq_ofNat_of_zero_le (nr m h).1;exact⟨r,by have:=(nr m h).2;omega,hr⟩
 simp only[qy,exists_const,forall_const,Int.toNat_natCast,sl,ko hi];refine⟨⟨S,x,(i:Int)⟩,rfl,sl,rfl,rfl,⟨hS,by show(qd S (i:Int)).k=12;rw[ko hi];exact u⟩,λq hq=>hq.1,?_⟩;rintro bb hb ⟨p1,⟨hx1,hy1⟩,hv⟩;simp only at hb;have nn:n<=qg L n/\qg L n<=L.length:=⟨nb.1,nb.2.1⟩;have zsn:zV.pv.sn:=by rw[QB];exact yq (by decide) (by rw[jM];decide) (by decide) (by decide) (λk hk=>by cases hk) λv hv=>by cases hv
 have zwt:zV.pv.wt<=60000:=by rw[QB,wZ,PV.wts,qx,jM];decide
 have Z:bb=true->PV.fitz S i zV.pv:=λh=>(zdu hS hi (hb.symm.trans h) (by omega) (by omega) (by omega)).1;have A:∃b:z9,b.1.n=0/\b.1.s=mkS []/\b.1.x.1=noA/\b.1.x.2.1=0/\b.1.x.2.2=0/\b.1.y.1=noA/\b.1.y.2.1=0/\b.1.y.2.2=0/\b.1.b=0/\b.2.1=bb/\b.2.2=n/\zo S i d L n b.1 b.2.1 b.2.2/\∀q,(qc S x q/\qb qm y L q)/\zV.ok q->b.1.ok q:=⟨⟨zV,bb,n⟩,rfl,rfl,rfl,rfl,rfl,rfl,rfl,rfl,rfl,rfl,rfl,⟨hb,⟨Int.le_refl _,O⟩,zsn,Nat.le_trans zwt (Qz d),Z⟩,λq _=>kL q⟩;refine⟨λ_=>A,λJ=>⟨λ_=>A,λhd5=>⟨L,λq hq=>hq.1.2,λ_=>A,λhov=> ?_⟩⟩⟩;clear A;have H:AvH S i hi zV d:=⟨hS,hb.symm.trans J,Z J,zsn,zwt,λ_=>rfl,by omega⟩;refine⟨⟨by omega,by omega⟩,(T p1 hx1).1,S[i].k,S[i].nm,S[i].al.1,S[i].al.2.1,S[i].al.2.2,S[i].it,S[i].sy.1,S[i].sy.2.1,S[i].sy.2.2,S[i].hd,S[i].df,S[i].sz,S[i].f.1,S[i].f.2.1,S[i].f.2.2,S[i].br.1,S[i].br.2.1,S[i].br.2.2,λq hq=>(T q hq.1.1).2,⟨by omega,by omega⟩,?_⟩;obtain⟨r,hr,e⟩:=ix (m:=4) (by decide);have tin:=hit (.inl u);have gok:∀(q:Pub) (a:Option Addr) (G:Nat) (fs:List GV),fs.length<=G->qfu q a (List.take (fs.length*5) (qa GV.cells fs))->GV.oks fs q->(GV.mk 0 (mkS []) (a,fs.length,G) fs (none,0,0) [] 0).ok q:=λq a G fs h1 h2 h3=>by rw[zxi]at h2;unfold GV.ok;exact⟨⟨rfl,h1,h2⟩,qQ,h3⟩
 refine⟨L,⟨hn0,O,by decide,by decide,hL⟩,λq hq=>hq.1.2,⟨⟨r,qg L n,[]⟩,e.symm,rfl,rfl,λq hq=>GV.oks_iff.2 λv h=>(by cases h),⟨⟨by show(0:Int)<=r;omega,by rw[GV.pvs];show(r:Int)+0<=3;omega⟩,nn,λw hw=>(by rw[GV.pvs]at hw;cases hw),by rw[GV.pvs,PV.wts];exact Nat.zero_le _⟩⟩,?_⟩;rintro⟨m,Y,fs⟩ N ⟨p2,hp2,hfs⟩;have N:x3 S S[i] L d n m Y (GV.pvs fs):=N;simp only at hfs⊢;have hI1:=N.1;rw[GV.pvs_len]at hI1;have hI2:=N.2.1;refine⟨λX=> ?_,λhneg a G _=>⟨⟨.mk 0 (mkS []) (a,fs.length,G) fs (none,0,0) [] 0,true,Y⟩,rfl,rfl,rfl,rfl,rfl,rfl,rfl,rfl,rfl,by simp[J],rfl,Pd H u N,λq hq=>gok q a G fs hq.2.1 hq.2.2 hq.1.2⟩⟩;refine⟨⟨by omega,by omega⟩,⟨S,x,S[i].it,d+1,y,L,Y⟩,rfl,sl,rfl,rfl,rfl,rfl,rfl,rfl,rfl,⟨by show(10- (d+1)).toNat<c;omega,hS,tin,trivial,⟨by show 0<=d+1;omega,by show d+1<=6;omega⟩,by show 0<=Y;omega,hI2.2,hL⟩,λq hq=>hq.1.1,?_⟩;rintro⟨w,b2,n2⟩ hw _;have hw:zo S S[i].it (d+1) L Y w b2 n2:=hw;simp only;have hw1:=hw.2.1;have hI3:x3 S S[i] L d n m n2 (GV.pvs fs):=⟨N.1,⟨by show n<=n2;omega,hw1.2⟩,N.2.2⟩;refine⟨λU a G _=>⟨⟨.mk 0 (mkS []) (a,fs.length,G) fs (none,0,0) [] 0,true,n2⟩,rfl,rfl,rfl,rfl,rfl,rfl,rfl,rfl,rfl,by simp[J],trivial,trivial,trivial,rfl,Pd H u hI3,λq hq=>gok q a G fs hq.2.1 hq.2.2 hq.1.1.2⟩,λU=> ?_⟩;subst U;exact⟨qB jw fs,by omega,⟨by omega,by omega⟩,⟨m- 1,n2,fs++[w]⟩,rfl,trivial,trivial,trivial,rfl,by simp,by rw[zF];rfl,λq hq=>hq.1.1,λq hq=>JV hq.1.2 (uH hq.2),znq X N hw,by show(m- 1).toNat<m.toNat;omega⟩
def znv(c:Nat) (T:q1i P 10 ((yZ ue).below v7 c)):q1i P 10 ((yZ ue).below v7 (c+1)):=by
 have hA:=znu c T;have Z:=zns c T;refine⟨hA.1,hA.2.1,hA.2.2.1,λs=> ?_⟩;obtain⟨Y,e0,rA⟩:=hA.2.2.2 s;obtain⟨O,e1,rM⟩:=Z.2.2.2 s;have e:O=Y:=Option.some.inj (e1.symm.trans e0);subst e;refine⟨O,e0,λF I w vs u A C G hp H J N=> ?_⟩;obtain⟨m,U,V,p3,X⟩:=hp;by_cases h:(qd s.1 s.2.2.1).k=12
 ·exact rA F I w vs u A C G ⟨m,U,V,h,X⟩ H J N
 ·exact rM F I w vs u A C G ⟨m,U,V,h,X⟩ H J N
def zco:∀c,q1i P 10 ((yZ ue).below v7 c)
 |0=>CtR.below_zero (by decide) (by decide) (Sen.enters_of Tryz.func10 (by kernel_rfl)) λs=>rfl
 |c+1=>znv c (zco c)
def znw:q1i P 10 (yZ ue):=CtR.of_below zco
def sP:GV->Nat:=λv=>SizeOf.sizeOf v
def KI:Ct:=yE (GV×GV) (λ⟨v,w⟩=>[v.av,w.av]) (λ⟨v,w⟩=>v.pv.sm/\w.pv.sm) (λ⟨v,w⟩=>vwM v w) λ⟨v,w⟩=> .sv (.bool (PV.same v.pv w.pv))
def dK:GV×GV->WayF:=λ⟨v,w⟩=>{
 ann:=λid _ _=>match id with
  |0=>some {σ:=Nat,pre:=λj=>j<=v.ks.length/\v.n=w.n/\v.s=w.s/\v.b=w.b/\v.l.length=w.l.length/\v.ks.length=w.ks.length/\v.ks.take j=w.ks.take j,t:=λj=>[(5, .sv (.int .i64 (j:Int)))],h:=λ_=>[],more:=0,μ:=λj=>v.ks.length- j,keep:=[0,1,2,3]}
  |_=>some {σ:=Nat,pre:=λj=>j<=v.l.length/\v.n=w.n/\v.s=w.s/\v.b=w.b/\v.l.length=w.l.length/\v.ks=w.ks/\PV.sames ((GV.pvs v.l).drop j) ((GV.pvs w.l).drop j)=PV.sames (GV.pvs v.l) (GV.pvs w.l),t:=λj=>[(6, .sv (.int .i64 (j:Int)))],h:=λ_=>[],more:=0,μ:=λj=>v.l.length- j,keep:=[0,1,2,3]}}
section
variable (a c:GV) (e w:Nat) (E:Prop) (F:Nat->Option Obj)
 abbrev QS:=True/\GV.ok a F/\GV.ok c F
 def ZU:=PV.same (GV.pv a) (GV.pv c)=false/\True
 abbrev ZV:=(↑(GV.x a).2.1:Int)
 abbrev ZW:=(↑(GV.y a).2.1:Int)
 def vi:=GV.n a=GV.n a/\GV.s a=GV.s a/\(GV.x a).1=(GV.x a).1/\(GV.x a).2.1=(GV.x a).2.1/\(GV.x a).2.2=(GV.x a).2.2/\(GV.y a).1=(GV.y a).1/\(GV.y a).2.1=(GV.y a).2.1/\(GV.y a).2.2=(GV.y a).2.2/\GV.b a=GV.b a/\E
 def Xl:=(∀f,QS a c f->QS a c f)
 def Ev:=GV.n a=GV.n c/\GV.s a=GV.s c/\GV.b a=GV.b c/\length (GV.l a)=length (GV.l c)/\E
 def Rr:=e<=length (GV.ks a)/\Ev a c (length (GV.ks a)=length (GV.ks c)/\take e (GV.ks a)=take e (GV.ks c))
 abbrev Eu:=Jb ((↑e:Int)+1)
 def dr:=Eu e/\∃(f:Nat),vi a (vi c ((↑f:Int)=(↑e:Int)+1/\vi a (vi c (Xl a c/\(Rr a c f)/\length (GV.ks a)- f<length (GV.ks a)- e/\True))))
 def dn:=(0<=(↑e:Int)/\(↑e:Int)<(ZW a))/\(GV.y a).1≠noA/\∃f,(∀i,QS a c i->q2u i (adr (GV.y a).1 (toNat (↑e:Int)*1)) [string f])/\(0<=(↑e:Int)/\(↑e:Int)<(ZW c))/\(GV.y c).1≠noA/\∃g,(∀v,QS a c v->q2u v (adr (GV.y c).1 (toNat (↑e:Int)*1)) [string g])/\((!decide (f=g))=true->ZU a c)/\((!decide (f=g))=false->dr a c e)
 def Rq:=e<=length (GV.l a)/\Ev a c (GV.ks a=GV.ks c/\PV.sames (drop e (GV.pvs (GV.l a))) (drop e (GV.pvs (GV.l c)))=PV.sames (GV.pvs (GV.l a)) (GV.pvs (GV.l c)))
 def dq:=Eu e/\∃(f:Nat),vi a (vi c ((↑f:Int)=(↑e:Int)+1/\vi a (vi c (Xl a c/\(Rq a c f)/\length (GV.l a)- f<length (GV.l a)- e/\True))))
 def dm:=(0<=(↑e:Int)/\(↑e:Int)<(ZV a))/\(GV.x a).1≠noA/\∃(f:Int),∃i,∃g,∃(v:Nat),∃(z:Nat),∃A,∃(B:Nat),∃(C:Nat),∃(i8:Int),(∀D,QS a c D->q2u D (adr (GV.x a).1 (toNat (↑e:Int)*5)) [int u64 f,string i,slice g v z,slice A B C,int i64 i8])/\(0<=(↑e:Int)/\(↑e:Int)<(ZV c))/\(GV.x c).1≠noA/\∃(j:Int),∃k,∃m,∃(o:Nat),∃(p:Nat),∃q,∃(i16:Nat),∃(r:Nat),∃(t:Int),(∀u,QS a c u->q2u u (adr (GV.x c).1 (toNat (↑e:Int)*5)) [int u64 j,string k,slice m o p,slice q i16 r,int i64 t])/\∃(d:GV×GV),GV.n d.1=f/\GV.s d.1=i/\(GV.x d.1).1=g/\(GV.x d.1).2.1=v/\(GV.x d.1).2.2=z/\(GV.y d.1).1=A/\(GV.y d.1).2.1=B/\(GV.y d.1).2.2=C/\GV.b d.1=i8/\GV.n d.2=j/\GV.s d.2=k/\(GV.x d.2).1=m/\(GV.x d.2).2.1=o/\(GV.x d.2).2.2=p/\(GV.y d.2).1=q/\(GV.y d.2).2.1=i16/\(GV.y d.2).2.2=r/\GV.b d.2=t/\(KR d<w/\PV.sm (GV.pv d.1)/\PV.sm (GV.pv d.2))/\(∀h,QS a c h->GV.ok d.1 h/\GV.ok d.2 h)/\((!PV.same (GV.pv d.1) (GV.pv d.2))=true->ZU a c)/\((!PV.same (GV.pv d.1) (GV.pv d.2))=false->dq a c e)
 def sb:=Ji ((↑e:Int)<(ZV a)) (dm a c e w) (PV.same (GV.pv a) (GV.pv c)=true/\True)
 def sa:=(∃(f:Nat),vi a (vi c ((↑f:Int)=0/\vi a (vi c (Xl a c/\(Rq a c f)/\True)))))/\∀(g:Nat),Rq a c g->sb a c g e
 def r_:=Ji ((↑e:Int)<(ZW a)) (dn a c e) (sa a c w)
 def r9:=(∃(f:Nat),vi a (vi c ((↑f:Int)=0/\vi a (vi c (Xl a c/\(Rr a c f)/\True)))))/\∀(g:Nat),Rr a c g->r_ a c g e
 def rZ:=((!decide ((ZW a)=(ZW c)))=true->ZU a c)/\((!decide ((ZW a)=(ZW c)))=false->r9 a c e)
 def rY:=((!decide ((ZV a)=(ZV c)))=true->ZU a c)/\((!decide ((ZV a)=(ZV c)))=false->rZ a c e)
 def rW:=((!decide (GV.b a=GV.b c))=true->ZU a c)/\((!decide (GV.b a=GV.b c))=false->rY a c e)
 def rV:=((!decide (GV.s a=GV.s c))=true->ZU a c)/\((!decide (GV.s a=GV.s c))=false->rW a c e)
 def rU:=((!decide (GV.n a=GV.n c))=true->ZU a c)/\((!decide (GV.n a=GV.n c))=false->rV a c e)
end
def zz7(n:Nat) (v w:GV):qix P (qef [(14,KI.below KR n)]) Tryz.f14 (KI.below KR (n+1)) (dK) ⟨v,w⟩=(KR (v,w)<n+1/\PV.sm (GV.pv v)/\PV.sm (GV.pv w)->(∃(p:Pub),QS v w p)->rU v w n):=by kernel_rfl
def j8o:=λn v w=>Eq.trans (zz7 n v w) (by delta Ji Jb Jt Jf QS ZU ZV ZW vi Xl Ev Rr Eu dr dn Rq dq dm sb sa r_ r9 rZ rY rW rV rU;exact rfl)
section
variable {v:GV} {j:Nat}
def Le(u:j<v.l.length) {q:Pub} (h:v.ok q):v.x.1≠noA/\q2u q (adr v.x.1 (j*5)) (v.l[j]).cells:=j3 jw (by decide) (by rw[GV.ok_eq]at h;exact h.1) u
def zv7(u:j<v.l.length) {q:Pub} (h:v.ok q):(v.l[j]).ok q:=GV.oks_at (by rw[GV.ok_eq]at h;exact h.2.2) u
def HZ(u:j<v.ks.length) {q:Pub} (h:v.ok q):v.y.1≠noA/\q2u q (adr v.y.1 (j*1)) [.string v.ks[j]]:=j3 jS (by decide) (by rw[GV.ok_eq]at h;exact h.2.1) u
def zif{q:Pub} (h:v.ok q):v.x.2.1=v.l.length/\v.y.2.1=v.ks.length:=by rw[GV.ok_eq]at h;exact⟨h.1.1,h.2.1.1⟩
def Ow(h:j<v.l.length):j<(GV.pvs v.l).length:=by rw[GV.pvs_len];exact h
def j84(A:j<v.l.length):sP v.l[j]<sP v:=by
 have h:=I9 A;have u:SizeOf.sizeOf v.l<SizeOf.sizeOf v:=by cases v;simp[GV.l];omega
 exact Nat.lt_trans h u
def zvm(h:v.pv.sm) {j:Nat} (u:j<v.l.length):(v.l[j]).pv.sm:=by rw[GV.sm_eq]at h;have:=PV.sms_at h.2.2.2.2.2 (Ow u);rw[ZD u]at this;exact this
end
def j8p(n:Nat) (hc:q4a P 14 (KI.below KR n)):q4a P 14 (KI.below KR (n+1)):=by
 refine qw (qbu (qfr hc qil)) (W:=dK) Tryz.func14 λ⟨v,w⟩=>(j8o n v w).mpr ?_;rintro⟨X,hv,hw⟩ ⟨p,_,hp,hq⟩;have X:SizeOf.sizeOf v<n+1:=X;obtain⟨hxl,hyl⟩:=zif hp;obtain⟨hxl2,Y⟩:=zif hq;have hl:=hv;have hl2:=hw;rw[GV.sm_eq]at hl hl2;have N:PV.same v.pv w.pv=(decide (v.n=w.n)&&decide (v.s=w.s)&&decide (v.b=w.b)&&decide (v.ks=w.ks)&&PV.sames (GV.pvs v.l) (GV.pvs w.l)):=by rw[GV.pv_eq v,GV.pv_eq w,PV.same]
 simp only[qy,Int.toNat_natCast];rw[N];refine⟨λh=>by rw[decide_eq_false h];rfl,λO=>⟨λh=>by rw[decide_eq_false h];simp,λT=>⟨λh=>by rw[decide_eq_false h];simp,λU=>⟨λh=> ?_,λh4=>⟨λh=> ?_,λh5=>⟨⟨0,rfl,by omega,O,T,U,by omega,by omega,by simp⟩,?_⟩⟩⟩⟩⟩⟩
 ·rw[z9t (l:=GV.pvs v.l) (m:=GV.pvs w.l) (by rw[GV.pvs_len,GV.pvs_len];omega)];simp
 ·rw[decide_eq_false (p:=v.ks=w.ks) (λe=>h (by rw[hyl,Y,e]))];simp
 rintro j ⟨hj, -, -, -,J,V,ht⟩;refine⟨λhlt=> ?_,λhge=> ?_⟩
 ·have C:j<v.ks.length:=by omega
  have G:j<w.ks.length:=by omega
  refine⟨by omega,(HZ C hp).1,v.ks[j],λq hq=>(HZ C hq.1).2,by omega,(HZ G hq).1,w.ks[j],λq hq=>(HZ G hq.2).2,λhne=> ?_,λhe=>⟨by omega,j+1,rfl,⟨by omega,O,T,U,J,V,?_⟩,by omega⟩⟩
  ·rw[decide_eq_false (p:=v.ks=w.ks) (λe=>hne (by simp only[e]))];simp
  ·rw[List.take_succ_eq_append_getElem C,List.take_succ_eq_append_getElem G,ht,he]
 ·obtain rfl:j=v.ks.length:=by omega
  have H:v.ks=w.ks:=by rw[List.take_length,V,List.take_length]at ht;exact ht
  refine⟨⟨0,rfl,by omega,O,T,U,J,H,by simp⟩,?_⟩;rintro i ⟨hi, -, -, -, -, -,hs⟩;refine⟨λhlt=> ?_,λhge=> ?_⟩
  ·have u:i<v.l.length:=(by omega);have A:i<w.l.length:=(by omega);have hd:=zfx (Ow u) (Ow A);rw[ZD u,ZD A]at hd;refine⟨by omega,(Le u hp).1,v.l[i].n,v.l[i].s,v.l[i].x.1,v.l[i].x.2.1,v.l[i].x.2.2,v.l[i].y.1,v.l[i].y.2.1,v.l[i].y.2.2,v.l[i].b,λq hq=>(Le u hq.1).2,by omega,(Le A hq).1,w.l[i].n,w.l[i].s,w.l[i].x.1,w.l[i].x.2.1,w.l[i].x.2.2,w.l[i].y.1,w.l[i].y.2.1,w.l[i].y.2.2,w.l[i].b,λq hq=>(Le A hq.2).2,⟨v.l[i],w.l[i]⟩,?_⟩;simp only[true_and,eq_self];refine⟨⟨?_,zvm hv u,zvm hw A⟩,λq hq=>⟨zv7 u hq.1,zv7 A hq.2⟩,λZ=> ?_,λZ=>⟨by omega,i+1,rfl,⟨by omega,O,T,U,J,H,?_⟩,by omega⟩⟩
   ·show SizeOf.sizeOf v.l[i]<n;have:=j84 u;have:SizeOf.sizeOf v.l[i]<SizeOf.sizeOf v:=this;omega
   ·rw[←hs,hd,Z];simp
   ·rw[←hs,hd,Z];rfl
  ·obtain rfl:i=v.l.length:=(by omega);rw[List.drop_of_length_le (by rw[GV.pvs_len];exact Nat.le_refl _),List.drop_of_length_le (by rw[GV.pvs_len];omega)]at hs;rw[←hs,decide_eq_true O,decide_eq_true T,decide_eq_true U,decide_eq_true H,PV.sames];rfl
def zjt:∀n,q4a P 14 (KI.below KR n)
 |0=>Ct.below_zero (by decide) (by decide) (Sen.enters_of Tryz.func14 (by kernel_rfl)) λs=>⟨rfl,rfl⟩
 |n+1=>j8p n (zjt n)
def zz8:q4a P 14 KI:=Ct.of_below zjt
def RG:Ct where
 σ:=SV
 args:=λx=>[zE x]
 h:=λ_=>[]
 m:=1
 r:=λ_=> .ptr 1 0
 h':=λx=>jb x 0
 m':=2
 g:=λ_=>none
def Yd(L:List Int):Prop:=L.length<9223372036854775808/\∀b∈L,0<=b/\b<256
def zpj(x:SV):qix P (λ_=>none) Tryz.f8 RG (λ_=>{}) x=(True->Prod.fst x=Prod.fst x/\Prod.fst (Prod.snd x)=Prod.fst (Prod.snd x)/\Prod.snd (Prod.snd x)=Prod.snd (Prod.snd x)/\(0:Int)=(0:Int)/\True):=by kernel_rfl
def zpk:q4a P 8 RG:=by refine qw z7 (W:=λ_=>{}) Tryz.func8 λ(x:SV)=>(zpj x).mpr ?_;simp only[true_and,and_true,eq_self,imp_self,implies_true]
def zxh{S:List AT} (h:qv S):kg S:=⟨⟨by have:=h.1;omega,λe he=>by have:=(h.2 e he).2.2.2.2.2.2.2;omega⟩,λe he=>(h.2 e he).1,λa u=>⟨λf A=>((h.2 a u).2.2.2.2.1 f A).1,(h.2 a u).2.2.1,(h.2 a u).2.1,λk=>by have:=(h.2 a u).2.2.2.2.2.2.1 k;omega⟩⟩
def zxx(n k:Int):qix P (λ_=>none) Tryz.f80 EF (dH) ⟨n,k⟩=(((0:Int)<=k/\k<=(8:Int))/\(0:Int)<=n/\n<(18446744073709551616:Int)->(∃(s:Nat),n / (↑((2:Nat) ^ ((8:Nat)*s)):Int)=n/\k=k/\qE n s=mkS []/\(↑s:Int)=(0:Int)/\(↑s:Int)<=k/\True)/\∀(s:Nat),(↑s:Int)<=k->(decide ((↑s:Int)<k)=true->(256:Int)≠(0:Int)/\∃(s_1:O6),size s_1=(1:Nat)/\qfi [int u8 (IntKind.wrap u8 (Int.tmod (n / (↑((2:Nat) ^ ((8:Nat)*s)):Int)) (256:Int)))] (0:Nat) (q11 s_1)/\size (qE n s)+size s_1<=(9223372036854775807:Nat)/\(256:Int)≠(0:Int)/\((-9223372036854775808:Int)<=(↑s:Int)+(1:Int)/\(↑s:Int)+(1:Int)<=(9223372036854775807:Int))/\∃(s_2:Nat),n / (↑((2:Nat) ^ ((8:Nat)*s_2)):Int)=IntKind.wrap u64 (Int.tdiv (n / (↑((2:Nat) ^ ((8:Nat)*s)):Int)) (256:Int))/\k=k/\qE n s_2=qE n s++s_1/\(↑s_2:Int)=(↑s:Int)+(1:Int)/\(↑s_2:Int)<=k/\toNat k- s_2<toNat k- s/\True)/\(decide ((↑s:Int)<k)=false->qE n (toNat k)=qE n s/\True)):=by kernel_rfl
section
variable (a:Int) (t:SV) (u:List AT) (c:GV) (r:Int) (w:O6) (z:Option Addr) (A B:Nat) (v:Int) (e:Option Addr) (f g:Nat) (h:Bool) (i:O6) (q:Int) (j:Option Addr) (k l:Nat) (m:Option Addr) (o p:Nat)
 abbrev Fs:=(Jt (a=v)->∃(d:Int×Int),d.1=GV.n c/\d.2=q/\((0<=d.2/\d.2<=8)/\0<=d.1/\d.1<18446744073709551616)/\PV.fb u r (GV.pv c)=qE d.1 (toNat d.2)/\True)
 def Jj:=t.1=t.1/\t.2.1=t.2.1/\t.2.2=t.2.2/\a=a/\w=w/\z=z/\A=A/\B=B/\r=r/\e=e/\f=f/\g=g/\h=h/\i=i/\v=v/\j=j/\k=k/\l=l/\m=m/\o=o/\p=p/\GV.n c=GV.n c/\GV.s c=GV.s c/\(GV.x c).1=(GV.x c).1/\(GV.x c).2.1=(GV.x c).2.1/\(GV.x c).2.2=(GV.x c).2.2/\(GV.y c).1=(GV.y c).1/\(GV.y c).2.1=(GV.y c).2.1/\(GV.y c).2.2=(GV.y c).2.2/\GV.b c=GV.b c/\(∀d,True/\qc u t d/\GV.ok c d->True/\qc u t d/\GV.ok c d)/\True/\True
 def so:=Ji (a=4) (∃(d:Unit),r=r/\jK a=decide (a=4)/\a=a/\Jj a t u c v w z A B q e f g h i j k l m o p) (∃(D:Unit),r=r/\jK a=decide (a=10)/\a=a/\Jj a t u c v w z A B q e f g h i j k l m o p)
 abbrev Rt:=List.toArray (Proofs.YtniogjgfomaicaaGreat.Rv.venc (zg a))
 def dt:=Ji (a=11) (PV.fb u r (GV.pv c)=GV.s c/\True) ((∃(d:Unit),r=r/\false=decide (a=14)/\1=a/\Jj a t u c v w z A B q e f g h i j k l m o p)/\∀(D:Unit),True->PV.fb u r (GV.pv c)=mkS []/\True)
 def sk:=(kQ a=true->∃(d:Int),d=(↑(size (GV.s c)):Int)/\((-9223372036854775808:Int)<=d/\d<9223372036854775808)/\size (ByteArray.mk (Rt d))+size (GV.s c)<=9223372036854775807/\AV.sv (string (GV.s c))=AV.sv (string (GV.s c))/\PV.fb u r (GV.pv c)=ByteArray.mk (Rt d)++GV.s c/\True)/\(kQ a=false->dt a t u c r w z A B v e f g h i q j k l m o p)
 def sj:=(Ji (a=7) (∃(d:Unit),r=r/\a=a/\kQ a=decide (a=7)/\Jj a t u c v w z A B q e f g h i j k l m o p) (∃(D:Unit),r=r/\a=a/\kQ a=decide (a=8)/\Jj a t u c v w z A B q e f g h i j k l m o p))/\∀(L:Unit),True->sk a t u c r w z A B v e f g h i q j k l m o p
 def si:=Fs a u c r 6 8/\(Jf (a=6)->sj a t u c r w z A B v e f g h i q j k l m o p)
 def sg:=Fs a u c r 5 4/\(Jf (a=5)->si a t u c r w z A B v e f g h i q j k l m o p)
 def sf:=(jK a=true->∃(d:Int),d=IntKind.wrap i64 (GV.n c)/\((-9223372036854775808:Int)<=d/\d<9223372036854775808)/\PV.fb u r (GV.pv c)=ByteArray.mk (Rt d)/\True)/\(jK a=false->sg a t u c r w z A B v e f g h i q j k l m o p)
 def se:=(Ji (a=3) (∃(d:Unit),r=r/\jK a=decide (a=3)/\a=a/\Jj a t u c v w z A B q e f g h i j k l m o p) (so a t u c r w z A B v e f g h i q j k l m o p))/\∀(M:Unit),True->sf a t u c r w z A B v e f g h i q j k l m o p
 def sd:=(0<=a/\a<(↑t.2.1:Int))/\t.1≠noA/\∃(d:Int),∃D,∃L,∃(N:Nat),∃(O:Nat),∃(Q:Int),∃M,∃(R:Nat),∃(i8:Nat),∃(S:Bool),∃E,∃(F:Int),∃G,∃(H:Nat),∃(I:Nat),∃J,∃(i16:Nat),∃(K:Nat),(∀C,True/\qc u t C/\GV.ok c C->q2u C (adr t.1 (toNat a*10)) [int i64 d,string D,slice L N O,int i64 Q,slice M R i8,bool S,string E,int i64 F,slice G H I,slice J i16 K])/\Fs d u c a 2 1/\(Jf (d=2)->se d t u c a D L N O Q M R i8 S E F G H I J i16 K)
end
def zo9(S:List AT) (x:SV) (t:Int) (v:GV):qix P (qef [(80,EF),(25,HP)]) Tryz.f41 OF (PA) ⟨S,x,t,v⟩=((small S/\PV.sz (GV.pv v)/\PV.wt (GV.pv v)<90000000000000/\PV.fits S t (GV.pv v)=true)/\Vl (S,x,t,v)->(∃(p:Pub),True/\qc S x p/\GV.ok v p)->sd t x S v):=by kernel_rfl
def zx9:=λS x t v=>Eq.trans (zo9 S x t v) (by delta Ji Jt Jf Fs Jj so Rt dt sk sj si sg sf se sd;exact rfl)
section
variable (d:List AT) (e:Int) (c:GV) (h:SV) (m:Int) (a:zt) (o:Prop) (i:Nat->Option Obj) (k l g:Nat) (f:(Option Addr×Nat×Nat)×Int)
 abbrev AW:= !(decide (0<=f.2)&&decide (f.2<(↑f.1.2.1:Int)))
 def sr:=0=size (zb d e (GV.pv c)).2/\qfv i noA 0 0 (q11 (zb d e (GV.pv c)).2)
 def Ft:=∃(p:Unit),noA=noA/\(0:Nat)=0/\(0:Nat)=0/\(zb d e (GV.pv c)).1=m/\Pl noA/\True/\(∀j,True/\qc d h j/\GV.ok c j->sr d e c j)/\True
 def AS:=a.2.1.1=h.1/\a.2.1.2.1=h.2.1/\a.2.1.2.2=h.2.2/\a.2.2.1=e/\GV.n a.2.2.2=GV.n c/\GV.s a.2.2.2=GV.s c/\(GV.x a.2.2.2).1=(GV.x c).1/\(GV.x a.2.2.2).2.1=(GV.x c).2.1/\(GV.x a.2.2.2).2.2=(GV.x c).2.2/\(GV.y a.2.2.2).1=(GV.y c).1/\(GV.y a.2.2.2).2.1=(GV.y c).2.1/\(GV.y a.2.2.2).2.2=(GV.y c).2.2/\GV.b a.2.2.2=GV.b c/\o
 abbrev Q1:=PV.fb a.1 a.2.2.1 (GV.pv a.2.2.2)
 def AU:=(True/\qc d h i/\GV.ok c i)/\True/\size (Q1 a)<=k / 1/\qfu i (some (Addr.mk l g none)) (take (size (Q1 a)*1) (q11 (Q1 a)))
 def sq:=size (Q1 a)=size (zb d e (GV.pv c)).2/\qfv i (some (Addr.mk k l none)) (size (Q1 a)) (g / nat_lit 1) (q11 (zb d e (GV.pv c)).2)
end
def zav(S:List AT) (x:SV) (t:Int) (v:GV):qix P (qef [(30,KH),(40,HM False),(41,OF)]) Tryz.f26 VY (zek) ⟨S,x,t,v⟩=((small S/\Qx S/\PV.sz (GV.pv v)/\PV.wt (GV.pv v)<90000000000000)/\Vl (S,x,t,v)->(∃(p:Pub),True/\qc S x p/\GV.ok v p)->∃(s:(Option Addr×Nat×Nat)×Int),s.1.1=x.1/\s.1.2.1=x.2.1/\s.1.2.2=x.2.2/\s.2=t/\True/\((AW s)=true->Ft S t v x 1)/\((AW s)=false->∃(s:zt),AS t v x s (((small s.1/\Qx s.1/\PV.sm (GV.pv s.2.2.2))/\A8 False s)/\(∀(p:Pub),True/\qc S x p/\GV.ok v p->qc s.1 s.2.1 p/\GV.ok s.2.2.2 p)/\((!PV.fits s.1 s.2.2.1 (GV.pv s.2.2.2))=true->Ft S t v x 7)/\((!PV.fits s.1 s.2.2.1 (GV.pv s.2.2.2))=false->∃(s:zt),AS t v x s (((small s.1/\PV.sz (GV.pv s.2.2.2)/\PV.wt (GV.pv s.2.2.2)<90000000000000/\PV.fits s.1 s.2.2.1 (GV.pv s.2.2.2)=true)/\Vl s)/\(∀(p:Pub),True/\qc S x p/\GV.ok v p->qc s.1 s.2.1 p/\GV.ok s.2.2.2 p)/\Ji (5000<(↑(size (Q1 s)):Int)) (Ft S t v x 3) (∀(b s_1 u:Nat),(∃(p:Pub),AU S v x s p u b s_1)->∃(h:Unit),some (Addr.mk b s_1 none)=some (Addr.mk b s_1 none)/\size (Q1 s)=size (Q1 s)/\u / nat_lit 1=u / nat_lit 1/\(zb S t (GV.pv v)).1=0/\Pl (some (Addr.mk b s_1 none))/\True/\(∀(p:Pub),AU S v x s p u b s_1->sq S t v s p b s_1 u)/\True)))))):=by kernel_rfl
def zf7:=λS x t v=>Eq.trans (zav S x t v) (by delta Ji Jt Jf AW sr Ft AS Q1 AU sq;exact rfl)
def zxy:q4a P 80 EF:=by
 refine qw z7 (W:=dH) Tryz.func80 λ⟨(n:Int),(k:Int)⟩=>(zxx n k).mpr ?_;rintro⟨⟨A,N⟩,u,T⟩;simp only[decide_eq_true_eq,decide_eq_false_iff_not,and_true,true_and];refine⟨⟨0,by simp,rfl,rfl,A⟩,λj U=>⟨λO=>⟨by decide,?_⟩,λJ=> ?_⟩⟩
 ·have e2:(2:Int) ^ (8*j)=((2 ^ (8*j):Nat):Int):=by norm_cast
  have e3:n / ((2 ^ (8*(j+1)):Nat):Int)=n / ((2 ^ (8*j):Nat):Int) / 256:=by rw[show 8*(j+1)=8*j+8 by omega,Nat.pow_add,Int.natCast_mul,Int.ediv_ediv_of_nonneg (Int.natCast_nonneg _)];rfl
  have C:0<=n / ((2 ^ (8*j):Nat):Int):=Int.ediv_nonneg u (Int.natCast_nonneg _);have V:n / ((2 ^ (8*j):Nat):Int)<=n:=Int.ediv_le_self _ u;have G:qE n (j+1)=qE n j++mkS [(n / ((2 ^ (8*j):Nat):Int) % 256).toNat]:=by rw[qE,e2]
  have H:=uE n j;generalize n / ((2 ^ (8*j):Nat):Int)=m at*;refine⟨mkS [(m % 256).toNat],rfl,λi w h=> ?_,?_,by decide,⟨by omega,by omega⟩,j+1,?_,G,by omega,by omega,by omega⟩
  ·rw[zus _ (by omega)]at h;rw[Int.tmod_eq_emod_of_nonneg C,J8,Nat.zero_add,show m % 256 % 256=(((m % 256).toNat:Nat):Int)by omega];exact h
  ·rw[H];show j+1<=_;omega
  ·rw[e3,Int.tdiv_eq_ediv_of_nonneg C,wrap_u64];omega
 ·obtain rfl:j=k.toNat:=by omega
  rfl
def Qa(S:List AT) (a:AT) (v:GV):O6:=
 if a.k=2 then qE v.n 1 else
 if a.k=3\/a.k=4\/a.k=10 then vz (IntKind.wrap .i64 v.n)else
 if a.k=5 then qE v.n 4 else
 if a.k=6 then qE v.n 8 else
 if a.k=7\/a.k=8 then vz v.s.size++v.s else
 if a.k=11 then v.s else
 if a.k=14 then vz v.b++PV.fbL S (qj a v.b) v.ks 0 (GV.pvs v.l)else
 if a.k=9 then PV.fbL S (qj a v.b) v.ks 0 (GV.pvs v.l)else
 if a.k=12\/a.k=13 then RE v.l.length++PV.fbL S (qj a v.b) v.ks 0 (GV.pvs v.l)++vz 0 else mkS []
def ji5{S:List AT} {t:Int} {a:AT} {v:GV} (hs:S[t.toNat]? =some a):PV.fb S t v.pv=Qa S a v:=by rw[GV.pv_eq,PV.fb,hs,GV.pvs_len];rfl
def zxa:q4a P 41 OF:=by
 refine qw (qbu (qfr zxy (qfr zdt qil))) (W:=PA) Tryz.func41 λ⟨S,(x:SV),(t:Int),v⟩=>(zx9 S x t v).mpr ?_;rintro⟨⟨hS,hv,hw,u⟩,C⟩ ⟨p,_,hx,A⟩;have C:ql (qd S t).k=false/\1<=(qd S t).k/\(qd S t).k<=14:=C;have xs:x.2.1=S.length:=hx.1.1;have xl:=GV.x_len A;have yl:=GV.y_len A;have wl:=GV.wt_len v;have hs1:=GV.ss_s hv;have hvs:=hv.1;rw[GV.sm_eq]at hvs;obtain⟨V,hss,vl,kl,ksz,_⟩:=hvs;obtain⟨t0,t1⟩:=JR u;have hsz:=zi1 v.pv t hv hw u hS;obtain⟨j,rfl⟩:=Int.eq_ofNat_of_zero_le t0;have U:j<S.length:=by omega
 rw[ko U]at C;obtain⟨O,hk1,hk14⟩:=C;unfold ql at O;have O:=of_decide_eq_false O;have hsj:S[((j:Nat):Int).toNat]? =some S[j]:=by rw[Int.toNat_natCast,List.getElem?_eq_getElem U]
 have Z:=λq (hq:qc S x q/\v.ok q)=>yp hq.1 U;have Y:=λq (hq:qc S x q/\v.ok q)=>hq.1.2 S[j] (List.getElem_mem U);have hsm:=hS.2 S[j] (List.getElem_mem U);have hqq:=zv4 (v:=v) hsj u;have J:=λ(r:O6) (h:Qa S S[j] v=r)=>(ji5 (v:=v) hsj).trans h;have bl:S[j].br.2.1=S[j].brs.length:=(Y p ⟨hx,A⟩).2.2.2.1.1;have fl:S[j].f.2.1=S[j].fs.length:=(Y p ⟨hx,A⟩).2.2.1.1;simp only[qy,Int.toNat_natCast,exists_const,xl,yl,ko U];refine⟨⟨by omega,by omega⟩,(Z p ⟨hx,A⟩).1,S[j].k,S[j].nm,S[j].al.1,S[j].al.2.1,S[j].al.2.2,S[j].it,S[j].sy.1,S[j].sy.2.1,S[j].sy.2.2,S[j].hd,S[j].df,S[j].sz,S[j].f.1,S[j].f.2.1,S[j].f.2.2,S[j].br.1,S[j].br.2.1,S[j].br.2.2,λq hq=>(Z q hq).2,?_⟩;generalize S[j]=a at*;generalize PV.fb S (j:Int) v.pv=F at*;refine⟨λG=> ?_,λG=>⟨⟨λh=>by unfold jK;exact qV (by omega),λh3=>⟨λh=>by unfold jK;exact qV (by omega),λh4=>by unfold jK;exact qV (by omega)⟩⟩,?_⟩⟩
 ·exact⟨⟨v.n,1⟩,rfl,rfl,⟨⟨(by decide:(0:Int)<=1),(by decide:(1:Int)<=8)⟩,V.1,V.2⟩,J _ (by unfold Qa;rw[if_pos G];rfl)⟩
 intro _ _;refine⟨λhL=> ?_,λhL=> ?_⟩
 ·unfold jK at hL;rw[decide_eq_true_eq]at hL;exact⟨_,rfl,G3 v.n,J _ (by unfold Qa;rw[if_neg G,if_pos hL];rfl)⟩
 unfold jK at hL;rw[decide_eq_false_iff_not]at hL;refine⟨λT=> ?_,λT=>⟨λX=> ?_,λX=>⟨⟨λh=>by unfold kQ;exact qV (by omega),λh=>by unfold kQ;exact qV (by omega)⟩,?_⟩⟩⟩
 ·exact⟨⟨v.n,4⟩,rfl,rfl,⟨⟨(by decide:(0:Int)<=4),(by decide:(4:Int)<=8)⟩,V.1,V.2⟩,J _ (by unfold Qa;rw[if_neg G,if_neg hL,if_pos T];rfl)⟩
 ·exact⟨⟨v.n,8⟩,rfl,rfl,⟨⟨(by decide:(0:Int)<=8),(by decide:(8:Int)<=8)⟩,V.1,V.2⟩,J _ (by unfold Qa;rw[if_neg G,if_neg hL,if_neg T,if_pos X];rfl)⟩
 intro _ _;refine⟨λH=> ?_,λH=> ?_⟩
 ·unfold kQ at H;rw[decide_eq_true_eq]at H;have hz:=kp (v.s.size:Int) (by omega) (by omega);refine⟨_,rfl,⟨by omega,by omega⟩,?_,J _ (by unfold Qa;rw[if_neg G,if_neg hL,if_neg T,if_neg X,if_pos H];rfl)⟩;show(vz (v.s.size:Int)).size+v.s.size<=_;omega
 unfold kQ at H;rw[decide_eq_false_iff_not]at H;refine⟨λN=> ?_,λN=> ?_⟩
 ·exact J _ (by unfold Qa;rw[if_neg G,if_neg hL,if_neg T,if_neg X,if_neg H,if_pos N])
 refine⟨⟨(decide_eq_false (by omega)).symm,by omega⟩,λ_ _=>J _ (by unfold Qa;rw[if_neg G,if_neg hL,if_neg T,if_neg X,if_neg H,if_neg N,if_neg (by omega),if_neg (by omega),if_neg (by omega)])⟩
def zf8:q4a P 26 VY:=by
 refine qw (qbu (qfr W7 (qfr zi4 (qfr zxa qil)))) (W:=zek) Tryz.func26 λ⟨S,(x:SV),(t:Int),v⟩=>(zf7 S x t v).mpr ?_;rintro⟨⟨hS,N,J,hw⟩,A⟩ ⟨p,_,hx,O⟩;have A:ql (qd S t).k=false/\1<=(qd S t).k/\(qd S t).k<=14:=A;have xs:x.2.1=S.length:=hx.1.1;have nil:∀q,qfv q noA 0 0 (q11 (mkS [])):=λq=>⟨Nat.le_refl _, .inl ⟨rfl,uF⟩⟩;simp only[qy,Int.toNat_natCast,exists_const];refine⟨⟨x,t⟩,rfl,rfl,rfl,rfl,λh=> ?_,λh=>⟨⟨S,x,t,v⟩,?_⟩⟩
 ·have:zb S t v.pv=(1,mkS []):=by unfold zb;simp only[Bool.and_eq_false_iff,decide_eq_false_iff_not]at h;rw[if_pos (by omega)]
  rw[this];exact⟨rfl,uF,λq _=>⟨rfl,nil q⟩⟩
 simp only[Bool.and_eq_true,decide_eq_true_eq]at h;have hr:¬(t<0\/S.length<=t):=by omega
 simp only[true_and,eq_self];refine⟨⟨⟨hS,N,J.1⟩,λg=>(by rw[A.1]at g;cases g)⟩,λq hq=>hq,λH=> ?_,λH=>⟨⟨S,x,t,v⟩,?_⟩⟩
 ·have:zb S t v.pv=(7,mkS []):=by unfold zb;rw[if_neg hr,if_pos H]
  rw[this];exact⟨rfl,uF,λq _=>⟨rfl,nil q⟩⟩
 have C:=Hx hr H;simp only[true_and,eq_self];refine⟨⟨⟨hS,J,hw,H⟩,A⟩,λq hq=>hq,λhe=> ?_,λhe=> ?_⟩
 ·rw[C,if_neg (by omega)];exact⟨rfl,uF,λq _=>⟨rfl,nil q⟩⟩
 ·rw[C,if_pos (by omega)];rintro b s u ⟨q,hq,T,G⟩;refine⟨rfl,rowP_Pl G,λr hr=>⟨rfl,?_⟩⟩;have:=hr.2.2;rw[Nat.mul_one,←q2i,List.take_length]at this;exact⟨hr.2.1,this⟩
def Hc:Ct where
 σ:=Unit
 args:=λ_=>[]
 h:=λ_=>[]
 m:=1
 r:=λ_=> .bool true
 h':=λ_=>[]
 m':=1
 g:=λ_=>none
def zei:Hc.σ->WayF:=λ_=>{pub:=λi k=>match i,k with
 |2,2=>[10]
 |_,_=>[]}
section
variable (l:Nat->Option Obj) (c e:Nat) (a:zt) (o:Nat) (k:Option Addr) (p q:Nat) (m:zt) (r:Option Addr) (g:Nat) (h i:Int) (j:Prop)
 abbrev Jk:=True/\q2u l (Addr.mk c e none) [int i64 4,string (mkS []),slice noA 0 0,int i64 0,slice noA 0 0,bool false,string (mkS []),int i64 0,slice noA 0 0,slice noA 0 0]
 def AY:=a.2.1.1=some (Addr.mk c (e+nat_lit 0) none)/\a.2.1.2.1=nat_lit 1/\a.2.1.2.2=nat_lit 1/\a.2.2.1=h/\GV.n a.2.2.2=i/\GV.s a.2.2.2=mkS []/\(GV.x a.2.2.2).1=noA/\(GV.x a.2.2.2).2.1=0/\(GV.x a.2.2.2).2.2=0/\(GV.y a.2.2.2).1=noA/\(GV.y a.2.2.2).2.1=0/\(GV.y a.2.2.2).2.2=0/\GV.b a.2.2.2=0/\(small a.1/\PV.sz (GV.pv a.2.2.2)/\PV.wt (GV.pv a.2.2.2)<90000000000000)/\j
 abbrev Wf:=zb a.1 a.2.2.1 (GV.pv a.2.2.2)
 def Jl:=c=size (Wf a).2/\qfv l k c e (q11 (Wf a).2)
 def su:=Ji ((Wf a).1=0) (∃f,size f=c/\(∀d,((Jk d e o)/\Jl d c p a k)/\Jl d q g m r->qfu d k (q11 f))/\Ji (f=mkS [1]) (true=decide ((Wf m).1=1)/\True) (False)) (False)
end
def zal(u:Unit):qix P (qef [(16,Hq)]) Tryz.f15 Hc (zei) u=(True->∀(b s u:Nat),(∃(p:Pub),Jk p b s)->∃(s_1:zt),AY b s s_1 0 18446744073709551615 ((∀(p:Pub),Jk p b s->qc s_1.1 s_1.2.1 p/\GV.ok s_1.2.2.2 p)/\∀(G:Unit),True->∀(a:Option Addr) (n c:Nat),(∃(p:Pub),(Jk p b s)/\Jl p n c s_1 a)->∃(s_2:zt),AY b s s_2 1 0 ((∀(p:Pub),(Jk p b s)/\Jl p n c s_1 a->qc s_2.1 s_2.2.1 p/\GV.ok s_2.2.2.2 p)/\∀(H:Unit),True->∀(h:Option Addr) (C A:Nat),(∃(p:Pub),((Jk p b s)/\Jl p n c s_1 a)/\Jl p C A s_2 h)->su n b s_1 s a c C s_2 h A))):=by kernel_rfl
def zew:=λu=>Eq.trans (zal u) (by delta Ji Jt Jf Jk AY Wf Jl su;exact rfl)
def tE(k it:Int):AT:=⟨k,mkS [],(none,0,0),[],it,(none,0,0),[],false,mkS [],0,(none,0,0),[],(none,0,0),[]⟩
def jir(k it:Int) (p:Pub):(tE k it).ok p:=⟨qQ,qQ,qQ,qQ,λf h=>absurd h (by simp[tE])⟩
def uh:List AT:=[tE 4 0]
def nV:GV:= .mk 18446744073709551615 (mkS []) (none,0,0) [] (none,0,0) [] 0
def nP:PV:= .mk 18446744073709551615 (mkS []) [] [] 0
def OO:nV.pv=nP:=by unfold nV;rw[GV.pv,GV.pvs];rfl
def jij(p:Pub):nV.ok p:=by unfold nV GV.ok GV.oks;exact⟨qQ,qQ,trivial⟩
def zh0{p:Pub} {b s:Nat} (h:q2u p ⟨b,s,none⟩ (qa AT.cells uh)):qc uh (some ⟨b,s+0,none⟩,1,1) p:=
 ⟨⟨rfl,Nat.le_refl _, .inr ⟨_,rfl,rfl,h⟩⟩,λe he=>by simp[uh]at he;rcases he with rfl;exact jir _ _ _⟩
def z94:small uh:=⟨by decide,λe he=>by simp[uh]at he;rcases he with rfl;decide⟩
def jii:nP.sn:=yq (by decide) (by decide) (by decide) (by decide) (λk h=>by cases h) λv u=>by cases u
def j9m:zV.pv.sn:=by rw[QB];exact yq (by decide) (by decide) (by decide) (by decide) (λk h=>by cases h) λv u=>by cases u
def jih:PV.fb uh 0 nP=mkS [1]:=by
 have:PV.fb uh 0 nP=vz (-1):=by rw[nP,PV.fb];rfl
 rw[this];unfold vz;rw[show zg (-1)=1 from rfl,Go.Proofs.YtniogjgfomaicaaGreat.Rv.venc_lt (by decide)];rfl
def zex:q4a P 15 Hc:=by
 refine qw (qbu (qfr z9c qil)) (W:=zei) Tryz.func15 λ(u:Unit)=>(zew u).mpr ?_;intro _ b s u _;have A:zb uh 0 nV.pv=(0,mkS [1]):=by rw[OO,Hx (by decide) (by decide+kernel),jih];rfl
 have C:zb uh 1 zV.pv=(1,mkS []):=by unfold zb;rw[if_pos (by decide)]
 have w1:nV.pv.wt<90000000000000:=by rw[OO,nP,PV.wt,qx,PV.wts];decide
 have G:zV.pv.wt<90000000000000:=by rw[QB,PV.wt,qx,PV.wts];decide
 simp only[qy,exists_const];refine⟨⟨uh,(some ⟨b,s+0,none⟩,1,1),0,nV⟩,rfl,rfl,rfl,rfl,rfl,rfl,rfl,rfl,rfl,rfl,rfl,rfl,rfl,⟨z94,by show nV.pv.sz;rw[OO];exact jii.sz,w1⟩,λp h=>⟨zh0 h,jij p⟩,?_⟩;intro _ _ a n c _;refine⟨⟨uh,(some ⟨b,s+0,none⟩,1,1),1,zV⟩,rfl,rfl,rfl,rfl,rfl,rfl,rfl,rfl,rfl,rfl,rfl,rfl,rfl,⟨z94,j9m.sz,G⟩,λp h=>⟨zh0 h.1,kL p⟩,?_⟩;rintro _ _ H N J ⟨p,hp⟩;rw[A,C]at hp;simp only[A,C];refine⟨λ_=>⟨mkS [1],hp.1.2.1.symm,λq hq=> ?_,λ_=>rfl,λh=>h rfl⟩,λh=>h trivial⟩;exact hq.1.2.2.2
section
variable (a:zp) (i:List AT) (l:Int) (e:O6) (k f:SV) (m:Nat->Option Obj) (d:ug) (o:Prop) (g:vj) (j:(Option Addr×Nat×Nat)×Int)
 def Jm:=True/\qc i k m/\f.2.1=size e/\qfv m f.1 f.2.1 f.2.2 (q11 e)
 def A6:= !(decide (0<=j.2)&&decide (j.2<(↑j.1.2.1:Int)))
 def AZ:=GV.n d.1=0/\GV.s d.1=mkS []/\(GV.x d.1).1=noA/\(GV.x d.1).2.1=0/\(GV.x d.1).2.2=0/\(GV.y d.1).1=noA/\(GV.y d.1).2.1=0/\(GV.y d.1).2.2=0/\GV.b d.1=0/\d.2.1=0/\o
 def sB:=qc g.1 g.2.1.1 m/\g.2.1.2.1.2.1=size g.2.1.2.2.1/\qfv m g.2.1.2.1.1 g.2.1.2.1.2.1 g.2.1.2.1.2.2 (q11 g.2.1.2.2.1)
 def sA:=AV.sv (int i64 a.2.2.2)=AV.sv (int i64 a.2.2.2)/\∃(c:ug),AZ c (c.2.2=a.2.2.2/\ZA i l e c/\(∀h,(Jm i e k f h)/\GV.ok a.1 h->GV.ok c.1 h)/\True)
 def sx:=AV.sv (int i64 a.2.1)=AV.sv (int i64 a.2.1)/\∃(c:ug),GV.n c.1=GV.n a.1/\GV.s c.1=GV.s a.1/\(GV.x c.1).1=(GV.x a.1).1/\(GV.x c.1).2.1=(GV.x a.1).2.1/\(GV.x c.1).2.2=(GV.x a.1).2.2/\(GV.y c.1).1=(GV.y a.1).1/\(GV.y c.1).2.1=(GV.y a.1).2.1/\(GV.y c.1).2.2=(GV.y a.1).2.2/\GV.b c.1=GV.b a.1/\c.2.1=a.2.1/\c.2.2=0/\ZA i l e c/\(∀h,(Jm i e k f h)/\GV.ok a.1 h->GV.ok c.1 h)/\True
 def sw:=((!decide (a.2.2.2=0))=true->sA a i l e k f)/\((!decide (a.2.2.2=0))=false->sx a i l e k f)
end
def zo4(S:List AT) (x:SV) (t:Int) (y:SV) (D:O6):qiy P (qef [(30,KH)]) (qff [(31,wv)]) Tryz.f17 OE (λ_=>{}) ⟨S,x,t,y,D⟩=(kg S/\size D<1000000000000000000->(∃(p:Pub),Jm S D x y p)->∃(s:(Option Addr×Nat×Nat)×Int),s.1.1=x.1/\s.1.2.1=x.2.1/\s.1.2.2=x.2.2/\s.2=t/\True/\((A6 s)=true->∃(b:ug),AZ b (b.2.2=1/\ZA S t D b/\(∀(p:Pub),Jm S D x y p->GV.ok b.1 p)/\True))/\((A6 s)=false->∃(s:vj),s.2.2.1=t/\s.2.2.2=1/\s.2.1.1.1=x.1/\s.2.1.1.2.1=x.2.1/\s.2.1.1.2.2=x.2.2/\s.2.1.2.1.1=y.1/\s.2.1.2.1.2.1=y.2.1/\s.2.1.2.1.2.2=y.2.2/\s.2.1.2.2.2.1=0/\s.2.1.2.2.2.2.1=0/\s.2.1.2.2.2.2.2=0/\(kg s.1/\qC s.2.1.2.2.1 s.2.1.2.2.2.1/\(0<=s.2.1.2.2.2.2.1/\s.2.1.2.2.2.2.1<=2000)/\0<=s.2.1.2.2.2.2.2/\(0<=s.2.2.1/\s.2.2.1<(↑(length s.1):Int))/\1<=s.2.2.2/\s.2.2.2<=21)/\(∀(p:Pub),Jm S D x y p->sB p s)/\∀(b:zp),j1 (jB s.1 s.2.1.2.2.1 (toNat ((21:Int)- s.2.2.2)) s.2.2.1 (toNat s.2.1.2.2.2.1) (toNat s.2.1.2.2.2.2.1)) s.2.1.2.2.1 s.2.1.2.2.2.1 (s.2.1.2.2.2.2.1+1) s.2.1.2.2.2.2.2 b->(∃(p:Pub),(Jm S D x y p)/\GV.ok b.1 p)->sw b S t D x y)):=by kernel_rfl
def zx3:=λS x t y D=>Eq.trans (zo4 S x t y D) (by delta Jm A6 AZ sB sA sx sw;exact rfl)
def zx4:q1i P 17 OE:=by
 refine zI (qbu (qfr W7 qil)) (qcl (qfq j8i qik)) (W:=λ_=>{}) Tryz.func17 λ⟨S,(x:SV),(t:Int),(y:SV),D⟩=>(zx3 S x t y D).mpr ?_;rintro⟨N,T⟩ ⟨p,_,hx,V,hy⟩;have xs:x.2.1=S.length:=hx.1.1;refine⟨⟨x,t⟩,?_⟩;simp only[qy,exists_const,forall_const,Int.toNat_natCast,Bool.and_eq_false_iff,Bool.and_eq_true,xs];refine⟨λU=>⟨⟨zV,0,1⟩,rfl,rfl,rfl,rfl,rfl,rfl,rfl,rfl,rfl,rfl,rfl,⟨λh=>by omega,λ_=>⟨rfl,rfl,rfl⟩,Int.le_refl _,by show(0:Int)<=D.size;omega⟩,λq _=>kL q⟩,λA=>⟨⟨S,⟨x,y,D,0,0,0⟩,t,1⟩,rfl,rfl,rfl,xs,rfl,rfl,rfl,rfl,rfl,rfl,rfl,⟨N,⟨Int.le_refl _,by show(0:Int)<=D.size;omega,T⟩,⟨by show(0:Int)<=0;decide,by show(0:Int)<=2000;decide⟩,by show(0:Int)<=0;decide,A,by show(1:Int)<=1;decide,by show(1:Int)<=21;decide⟩,λq hq=>hq,?_⟩⟩;rintro⟨r,n',C,G⟩ ⟨u,O,X,Y,Z⟩ _;rw[if_pos rfl]at u;have u:YP (jB S D 20 t 0 0) r.pv n' C G:=u;refine⟨λJ=>⟨⟨zV,0,G⟩,rfl,rfl,rfl,rfl,rfl,rfl,rfl,rfl,rfl,rfl,rfl,⟨λ_=> ?_,λh=>absurd A h,Int.le_refl _,by show(0:Int)<=D.size;omega⟩,λq _=>kL q⟩,λhe=>⟨⟨r,n',0⟩,rfl,rfl,rfl,rfl,rfl,rfl,rfl,rfl,rfl,rfl,rfl,⟨λ_=> ?_,λh=>absurd A h,O.1,O.2.1⟩,λq hq=>hq.2⟩⟩
 ·show RB (jB S D 20 t 0 0) zV.pv 0 G;cases H:jB S D 20 t 0 0 with
  |no k=>rw[H]at u;exact⟨u,rfl,rfl⟩
  |ok w=>rw[H]at u;exact absurd u.1 J
 ·show RB (jB S D 20 t 0 0) r.pv n' 0;cases H:jB S D 20 t 0 0 with
  |no k=>rw[H]at u;have u:G=k+1:=u;have he:G=0:=he;omega
  |ok w=>rw[H]at u;exact⟨rfl,u.2.1,u.2.2.1⟩
abbrev LkS:=SV×List Int×SV×List Int×SV×List Int
def lkM(x:SV) (L:List Int) (y:SV) (M:List Int) (z:SV) (N:List Int):PF:=⟨true,λp=>qb qm x L p/\qb qm y M p/\qb qm z N p,λ_ _ h e=>⟨ji h e.1,ji h e.2.1,ji h e.2.2⟩⟩
def zv0:Ct:=yE LkS (λ⟨x,L,y,M,z,N⟩=>[zE x,zE y,zE z]) (λ⟨x,L,y,M,z,N⟩=>Yd L/\Yd M/\Yd N) (λ⟨x,L,y,M,z,N⟩=>lkM x L y M z N) λ_=> .sv (.bool true)
def zvw:LkS->WayF:=λ_=>{
 pub:=λi k=>match i,k with
  |15,7=>[77]
  |15,8=>[77]
  |15,9=>[77]
  |_,_=>[]
 spl:=λi=>match i with
  |8=>some 3
  |15=>some 5
  |_=>none
 spm:=λi=>match i with
  |15=>[78]
  |_=>[]
 flo:=λi=>match i with
  |8=>some (7,[3])
  |15=>some (12,[5,7])
  |_=>none
 flu:=λi=>match i with
  |15=>[(0,[5])]
  |_=>[]}
section
variable (e:z9) (f:List AT×(Option Addr×Nat×Nat)×Bool×Int) (i:SV) (l:List Int) (k:SV) (m:List Int) (o:SV) (p:List Int) (j:zt) (u:Option Addr) (g h:Nat) (c C:ug) (t:O6×Int) (z A B:Nat) (F:Option Addr×Nat×Nat) (G:Nat) (H:zt) (E:Option Addr) (I:Nat) (w:Nat->Option Obj) (r:Xo) (M:Prop) (O:Int)
 abbrev Rx:=O<(↑i.2.1:Int)
 def Xm:=F.1=i.1/\F.2.1=i.2.1/\F.2.2=i.2.2/\True/\M
 def xS:=(True/\qb qm i l w/\qb qm k m w/\qb qm o p w)/\qc f.1 f.2.1 w
 abbrev ED:=slice f.2.1.1 f.2.1.2.1 f.2.1.2.2
 def Rw:=AV.agg [AV.sv (ED f)]=AV.agg [AV.sv (ED f)]
 def Ey:=j.2.1.1=f.2.1.1/\j.2.1.2.1=f.2.1.2.1/\j.2.1.2.2=f.2.1.2.2/\j.2.2.1=0/\M
 def EA:=(small j.1/\PV.sz (GV.pv j.2.2.2)/\PV.wt (GV.pv j.2.2.2)<90000000000000)
 def xR:=g=size (zb j.1 j.2.2.1 (GV.pv j.2.2.2)).2/\qfv w u g h (q11 (zb j.1 j.2.2.1 (GV.pv j.2.2.2)).2)
 abbrev Xn:=(zb j.1 j.2.2.1 (GV.pv j.2.2.2)).1=O
 def Ez:=r.2.1.1=f.2.1.1/\r.2.1.2.1=f.2.1.2.1/\r.2.1.2.2=f.2.1.2.2/\r.2.2.1=0/\M
 def EE:=(kg r.1/\size r.2.2.2.2<1000000000000000000)
 def Ex:=qc r.1 r.2.1 w/\r.2.2.2.1.2.1=size r.2.2.2.2/\qfv w r.2.2.2.1.1 r.2.2.2.1.2.1 r.2.2.2.1.2.2 (q11 r.2.2.2.2)
 abbrev EB:=slice (GV.x e.1).1 (GV.x e.1).2.1 (GV.x e.1).2.2
 abbrev EC:=slice (GV.y e.1).1 (GV.y e.1).2.1 (GV.y e.1).2.2
 def QT:=((((xS f i l k m o p w)/\GV.ok e.1 w)/\xR j u g h w)/\GV.ok c.1 w)/\True/\size t.1<=z / 1/\qfu w (some (Addr.mk A B none)) (take (size t.1*1) (q11 t.1))
 def dy:=Ji (Xn j 0) (∃a,size a=g/\(∀d,((QT e f i l k m o p H u h z c t A B G d)/\GV.ok C.1 d)/\xR j E g I d->qfu d E (q11 a))/\∃v,size v=h/\(∀q,((QT e f i l k m o p H u h z c t A B G q)/\GV.ok C.1 q)/\xR j E g I q->qfu q u (q11 v))/\true=decide (a=v)/\True) (true=false/\True)
 def dx:=Ji (c.2.2=0) (dy e f i l k m o p j u g h C c t z A B G H E I) (true=false/\True)
 def sL:=Ji (c.2.1=(↑g:Int)) (∃(a:GV×GV),GV.n a.1=GV.n e.1/\GV.s a.1=GV.s e.1/\(GV.x a.1).1=(GV.x e.1).1/\(GV.x a.1).2.1=(GV.x e.1).2.1/\(GV.x a.1).2.2=(GV.x e.1).2.2/\(GV.y a.1).1=(GV.y e.1).1/\(GV.y a.1).2.1=(GV.y e.1).2.1/\(GV.y a.1).2.2=(GV.y e.1).2.2/\GV.b a.1=GV.b e.1/\GV.n a.2=GV.n c.1/\GV.s a.2=GV.s c.1/\(GV.x a.2).1=(GV.x c.1).1/\(GV.x a.2).2.1=(GV.x c.1).2.1/\(GV.x a.2).2.2=(GV.x c.1).2.2/\(GV.y a.2).1=(GV.y c.1).1/\(GV.y a.2).2.1=(GV.y c.1).2.1/\(GV.y a.2).2.2=(GV.y c.1).2.2/\GV.b a.2=GV.b c.1/\(PV.sm (GV.pv a.1)/\PV.sm (GV.pv a.2))/\(∀d,((QT e f i l k m o p j u g h c t z A B d)/\GV.ok C.1 d)/\xR H E G I d->GV.ok a.1 d/\GV.ok a.2 d)/\(PV.same (GV.pv a.1) (GV.pv a.2)=true->dx e f i l k m o p H u G g C c t h z A B j E I)/\(PV.same (GV.pv a.1) (GV.pv a.2)=false->true=false/\True)) (true=false/\True)
 def sK:=Ji (c.2.2=0) (sL e f i l k m o p j u g h c C t z A B G H E I) (true=false/\True)
 def sH:=Ji (c.2.2=3) (true=true/\True) (∃(a:zt),Ey f a (GV.n a.2.2.2=GV.n c.1/\GV.s a.2.2.2=GV.s c.1/\(GV.x a.2.2.2).1=(GV.x c.1).1/\(GV.x a.2.2.2).2.1=(GV.x c.1).2.1/\(GV.x a.2.2.2).2.2=(GV.x c.1).2.2/\(GV.y a.2.2.2).1=(GV.y c.1).1/\(GV.y a.2.2.2).2.1=(GV.y c.1).2.1/\(GV.y a.2.2.2).2.2=(GV.y c.1).2.2/\GV.b a.2.2.2=GV.b c.1/\EA a/\(∀d,(QT e f i l k m o p j u g h C t z A B d)/\GV.ok c.1 d->qc a.1 a.2.1 d/\GV.ok a.2.2.2 d)/\∀(v:Unit),True->∀(q:Option Addr) (D J:Nat),(∃K,((QT e f i l k m o p j u g h C t z A B K)/\GV.ok c.1 K)/\xR a q D J K)->sK e f i l k m o p j u g h C c t z A B D a q J))
 def sG:=Ji (c.2.2=3) (true=true/\True) (sH e f i l k m o p j u g h C c t z A B)
 def A7:=Rw f/\AV.agg [AV.sv (int u64 (GV.n e.1)),AV.sv (string (GV.s e.1)),AV.sv (EB e),AV.sv (EC e),AV.sv (int i64 (GV.b e.1))]=AV.agg [AV.sv (int u64 (GV.n e.1)),AV.sv (string (GV.s e.1)),AV.sv (EB e),AV.sv (EC e),AV.sv (int i64 (GV.b e.1))]/\∃(a:uf),a.2.1.1=f.2.1.1/\a.2.1.2.1=f.2.1.2.1/\a.2.1.2.2=f.2.1.2.2/\a.2.2.1=0/\GV.n a.2.2.2.1=GV.n e.1/\GV.s a.2.2.2.1=GV.s e.1/\(GV.x a.2.2.2.1).1=(GV.x e.1).1/\(GV.x a.2.2.2.1).2.1=(GV.x e.1).2.1/\(GV.x a.2.2.2.1).2.2=(GV.x e.1).2.2/\(GV.y a.2.2.2.1).1=(GV.y e.1).1/\(GV.y a.2.2.2.1).2.1=(GV.y e.1).2.1/\(GV.y a.2.2.2.1).2.2=(GV.y e.1).2.2/\GV.b a.2.2.2.1=GV.b e.1/\a.2.2.2.2.1.1=F.1/\a.2.2.2.2.1.2.1=F.2.1/\a.2.2.2.2.1.2.2=F.2.2/\a.2.2.2.2.2.2=0/\Yc a/\(∀d,(((xS f i l k m o p d)/\GV.ok e.1 d)/\xR j u g h d)/\GV.ok c.1 d->(qc a.1 a.2.1 d/\GV.ok a.2.2.2.1 d)/\qb qm a.2.2.2.2.1 a.2.2.2.2.2.1 d)/\∀(v:O6×Int),xA a v->∀(q D J:Nat),(∃K,QT e f i l k m o p j u g h c v J q D K)->∃(L:Xo),Ez f L (L.2.2.2.1.1=some (Addr.mk q D none)/\L.2.2.2.1.2.1=size v.1/\L.2.2.2.1.2.2=J / nat_lit 1/\EE L/\(∀i8,QT e f i l k m o p j u g h c v J q D i8->Ex i8 L)/\∀(Q:ug),ZA L.1 L.2.2.1 L.2.2.2.2 Q->(∃N,(QT e f i l k m o p j u g h c v J q D N)/\GV.ok Q.1 N)->sG e f i l k m o p j u g h c Q v J q D)
 def Ru:=(∃(a:Option Addr×Nat×Nat),Xm i a (Rw f/\A7 e f k l o m i p j u g h c a))/\∃(d:Option Addr×Nat×Nat),Xm i d (A7 e f k l o m i p j u g h c d)
 def sF:=(Ru e f i l k m o p j u g h c)/\(Ru e f i l k m o p j u g h c)/\Ru e f i l k m o p j u g h c
 def sD:=((!decide (Xn j 0))=true->true=decide (Xn j 3)/\True)/\((!decide (Xn j 0))=false->∃(a:Xo),Ez f a (a.2.2.2.1.1=u/\a.2.2.2.1.2.1=g/\a.2.2.2.1.2.2=h/\EE a/\(∀d,((xS f i l k m o p d)/\GV.ok e.1 d)/\xR j u g h d->Ex d a)/\∀(v:ug),ZA a.1 a.2.2.1 a.2.2.2.2 v->(∃q,(((xS f i l k m o p q)/\GV.ok e.1 q)/\xR j u g h q)/\GV.ok v.1 q)->sF e f o l i m k p j u g h v))
 def sC:=((!e.2.1)=true->true=true/\True)/\((!e.2.1)=false->∃(a:zt),Ey f a (GV.n a.2.2.2=GV.n e.1/\GV.s a.2.2.2=GV.s e.1/\(GV.x a.2.2.2).1=(GV.x e.1).1/\(GV.x a.2.2.2).2.1=(GV.x e.1).2.1/\(GV.x a.2.2.2).2.2=(GV.x e.1).2.2/\(GV.y a.2.2.2).1=(GV.y e.1).1/\(GV.y a.2.2.2).2.1=(GV.y e.1).2.1/\(GV.y a.2.2.2).2.2=(GV.y e.1).2.2/\GV.b a.2.2.2=GV.b e.1/\EA a/\(∀d,(xS f i l k m o p d)/\GV.ok e.1 d->qc a.1 a.2.1 d/\GV.ok a.2.2.2 d)/\∀(v:Unit),True->∀(q:Option Addr) (D J:Nat),(∃K,((xS f i l k m o p K)/\GV.ok e.1 K)/\xR a q D J K)->sD e f i l k m o p a q D J))
 def Ew:=∃(a:Option Addr×Nat×Nat),Xm i a (Rw f/\∃(d:uY),d.2.1.1=f.2.1.1/\d.2.1.2.1=f.2.1.2.1/\d.2.1.2.2=f.2.1.2.2/\d.2.2.1=0/\d.2.2.2.1=0/\d.2.2.2.2.1.1=a.1/\d.2.2.2.2.1.2.1=a.2.1/\d.2.2.2.2.1.2.2=a.2.2/\d.2.2.2.2.2.2=0/\(qv d.1/\(0<=d.2.2.1/\d.2.2.1<(↑(length d.1):Int))/\ue (qd d.1 d.2.2.1)/\(0<=d.2.2.2.1/\d.2.2.2.1<=6)/\0<=d.2.2.2.2.2.2/\d.2.2.2.2.2.2<=(↑(length d.2.2.2.2.2.1):Int)/\zX d.2.2.2.2.2.1)/\(∀v,xS f k l i m o p v->qc d.1 d.2.1 v/\qb qm d.2.2.2.2.1 d.2.2.2.2.2.1 v)/\∀(q:z9),zo d.1 d.2.2.1 d.2.2.2.1 d.2.2.2.2.2.1 d.2.2.2.2.2.2 q.1 q.2.1 q.2.2->(∃D,(xS f k l i m o p D)/\GV.ok q.1 D)->sC q f k l i m o p)
 def dv:=(Ew f i l k m o p)/\Ew f i l k m o p
 def du:=((!f.2.2.1)=true->true=true/\True)/\((!f.2.2.1)=false->dv f i l k m o p)
 def sJ:=Ji (Rx i 20) (true=true/\True) (∃(a:Option Addr×Nat×Nat),Xm k a (∃(d:KX),d.1.1=a.1/\d.1.2.1=a.2.1/\d.1.2.2=a.2.2/\d.2.2=0/\Yi d/\(∀v,True/\qb qm k l v/\qb qm o m v/\qb qm i p v->qb qm d.1 d.2.1 v)/\∀(q:List AT×(Option Addr×Nat×Nat)×Bool×Int),qv q.1/\(q.2.2.1=true->q.1≠[])/\d.2.2<=q.2.2.2/\q.2.2.2<=(↑(length d.2.1):Int)->(∃D,xS q k l o m i p D)->du q o l k m i p))
 def sI:=Ji (Rx i 60) (true=true/\True) (sJ k l o m i p)
end
def zir(x:SV) (L:List Int) (y:SV) (M:List Int) (z:SV) (N:List Int):qiz P (qef [(15,Hc),(8,RG),(16,Hq),(14,KI)]) (qff [(9,OD),(10,yZ ue),(11,Z6),(17,OE)]) Tryz.f6 zv0 (zvw) ⟨x,L,y,M,z,N⟩=(Yd L/\Yd M/\Yd N->(∃(p:Pub),True/\qb qm x L p/\qb qm y M p/\qb qm z N p)->∃(s:Unit),True/\Ji (Rx x 120) (true=true/\True) (sI y L z M x N)):=by kernel_rfl
def zp7:=λx L y M z N=>Eq.trans (zir x L y M z N) (by delta Ji Jt Jf Rx Xm xS ED Rw Ey EA xR Xn Ez EE Ex EB EC QT dy dx sL sK sH sG A7 Ru sF sD sC Ew dv du sJ sI;exact rfl)
def zhx{S:List AT} (hS:kg S) {v:PV} {r:O6} (u:v.sm) (G:PV.fits S 0 v=true) (C:PV.bl S 0 v r) (A:r.size<100000000000000000) {b:ug} (h:ZA S 0 r b):b.2.2=3\/(b.2.2=0/\b.2.1=r.size/\b.1.pv=v):=by have e:r++mkS []=r:=uB r;exact zx2 hS (E:=mkS []) u G C (by rw[e];exact A) (by rw[e];exact h)
def zp8:q4a P 6 zv0:=by
 refine jxf (qbu (qfr zex (qfr zpk (qfr z9c (qfr zz8 qil))))) (qcl (qfq zwl (qfq znw (qfq (j76 zf8) (qfq zx4 qik))))) (W:=zvw) Tryz.func6 λ⟨(x:SV),L,(y:SV),M,(z:SV),N⟩=>(zp7 x L y M z N).mpr ?_;rintro⟨⟨hL,hLb⟩,⟨hM,hMb⟩,⟨hN,hNb⟩⟩ ⟨p,_,hx,hy,hz⟩;have V:x.2.1=L.length:=hx.1;have X:y.2.1=M.length:=hy.1;have Y:z.2.1=N.length:=hz.1;simp only[qy,exists_const,forall_const,Int.toNat_natCast,V,X,Y]
 refineλh120 h60 h20=>⟨x,rfl,V,rfl,⟨x,L,0⟩,rfl,rfl,rfl,rfl,⟨by show(0:Int)<=0;decide,by show(0:Int)<=_;omega,by omega,hLb⟩,λq hq=>hq.1,?_⟩
 rintro⟨S,T,b,n'⟩ ⟨hS,hne, -, -⟩ ⟨p2,hp2,hz2⟩
 refineλhb=>⟨?xa,?xb⟩
 case xa|xb=>
  have hS0:0<S.length:=List.length_pos_iff.2 (hne hb);refine⟨y,rfl,X,rfl,⟨S,T,0,0,y,M,0⟩,rfl,rfl,rfl,rfl,rfl,rfl,rfl,rfl,rfl,⟨hS,⟨by show(0:Int)<=0;decide,by show(0:Int)<(S.length:Int);omega⟩,trivial,⟨by show(0:Int)<=0;decide,by show(0:Int)<=6;decide⟩,by show(0:Int)<=0;decide,by show(0:Int)<=(M.length:Int);omega,by show M.length<1000000;omega,hMb⟩,λq hq=>⟨hq.2,hq.1.2.1⟩,?_⟩;rintro⟨v,b2,n2⟩ hv _;have hv:zo S 0 0 M 0 v b2 n2:=hv;obtain⟨v1,v2,O,v4,G⟩:=hv;simp only;intro hb2;obtain⟨G,v6⟩:=G hb2;have hw0:jX 0=15728640000:=by decide
  have A:=zxh hS;have hr:=JR G;have Z:=Hx (S:=S) (t:=0) (v:=v.pv) (by omega) G;refine⟨⟨S,T,0,v⟩,rfl,rfl,rfl,rfl,rfl,rfl,rfl,rfl,rfl,rfl,rfl,rfl,rfl,⟨A.1,O.sz,by show v.pv.wt<_;omega⟩,λq hq=>⟨hq.1.2,hq.2⟩,?_⟩;intro a n c _;simp only[Z];by_cases J:(PV.fb S 0 v.pv).size<=5000;case neg=>rw[if_neg J];exact⟨λ_=>rfl,λh=>absurd h (by decide)⟩
  rw[if_pos J];simp only[if_pos J]at Z;refine⟨λh=>absurd rfl h,λ_=>⟨⟨S,T,0,(a,n,c),PV.fb S 0 v.pv⟩,rfl,rfl,rfl,rfl,rfl,rfl,rfl,⟨A,by show(PV.fb S 0 v.pv).size<_;omega⟩,λq hq=>⟨hq.1.1.2,hq.2.1,by show qfv q a n c _;exact hq.2.2⟩,?_⟩⟩;rintro⟨u,m,f⟩ hu ⟨p3,⟨_,hn, -⟩, -⟩;have hu:=zhx A O.1 G (Pg v.pv 0 G) (by show(PV.fb S 0 v.pv).size<_;omega) hu;simp only at hu hn⊢;refine⟨⟨?y1,?y2⟩,⟨?y3,?y4⟩,?y5,?y6⟩;case y1|y2|y3|y4|y5|y6=>
   refine⟨z,rfl,Y,rfl,⟨S,T,0,v,z,N,0⟩,rfl,rfl,rfl,rfl,rfl,rfl,rfl,rfl,rfl,rfl,rfl,rfl,rfl,rfl,rfl,rfl,rfl,⟨A,G,v6,O,by show v.pv.wt<_;omega,by show(0:Int)<=0;decide,by show(0:Int)<=(N.length:Int);omega,by show N.length<1000000;omega,hNb⟩,λq hq=>⟨⟨hq.1.1.1.2,hq.1.1.2⟩,hq.1.1.1.1.2.2⟩,?_⟩;rintro⟨r,n3⟩ ⟨r1,r2,r3,r4⟩ b5 s6 u6 _;have r1:PV.bl S 0 v.pv r:=r1;have r2:r.size+20<=400*v.pv.wt:=r2;have hDz:r.size<100000000000000000:=(by omega);refine⟨⟨S,T,0,(some ⟨b5,s6,none⟩,r.size,u6 / 1),r⟩,rfl,rfl,rfl,rfl,rfl,rfl,rfl,⟨A,by show r.size<_;omega⟩,λq hq=>⟨hq.1.1.1.1.2,rfl,hq.2.1,?_⟩,?_⟩
   ·have h3:=hq.2.2;rw[List.take_of_length_le (by rw[q2i];show r.size<=r.size*1;omega)]at h3;exact h3
   rintro⟨w,m2,g⟩ hw _;have hw:=zhx A O.1 G r1 hDz hw;simp only at hw⊢
   refineλf3 g3=> ?_
   obtain⟨f0,m0,U⟩:=hu.resolve_left f3;obtain⟨g0,_,H⟩:=hw.resolve_left g3;have E2:zb S 0 w.pv=(0,PV.fb S 0 v.pv):=(by rw[H];exact Z);refine⟨⟨S,T,0,w⟩,rfl,rfl,rfl,rfl,rfl,rfl,rfl,rfl,rfl,rfl,rfl,rfl,rfl,⟨A.1,by show w.pv.sz;rw[H];exact O.sz,by show w.pv.wt<_;rw[H];omega⟩,λq hq=>⟨hq.1.1.1.1.1.2,hq.2⟩,?_⟩;intro a2 k2 c2 C;simp only[E2]at C⊢;obtain⟨p4,_,C, -⟩:=C;refine⟨λ_=>⟨λ_=>⟨(v,u),rfl,rfl,rfl,rfl,rfl,rfl,rfl,rfl,rfl,rfl,rfl,rfl,rfl,rfl,rfl,rfl,rfl,rfl,⟨O.1,by show u.pv.sm;rw[U];exact O.1⟩,λq hq=>⟨hq.1.1.1.1.1.2,hq.1.1.1.2⟩,λ_=>⟨λ_=>⟨λ_=>⟨PV.fb S 0 v.pv,C.symm,λq hq=>hq.2.2.2,PV.fb S 0 v.pv,hn.symm,λq hq=>hq.1.1.1.1.2.2.2,(decide_eq_true rfl).symm⟩,λh=>absurd trivial h⟩,λh=>absurd g0 h⟩,λh=> ?_⟩,λh=>absurd (by rw[m0,hn]) h⟩,λh=>absurd f0 h⟩;have h:PV.same v.pv u.pv=false:=h;rw[U,z9s]at h;cases h
section
 open Go.ChangeShapes Go.WideShapes Go.ChangeAt Go.Joins Go.Deep
abbrev XH(w:World):Pub:=q0x (λ_ b=>b<w.heap.size) w
variable {w:World} {a:Addr}
def zd3{v:Value} (h:w.cell? a=some v):q53 (XH w) a=some v/\a.spot=none:=by
  unfold World.cell? at h;cases u:w.heap[a.block]? with
  |none=>rw[u]at h;cases h
  | some o=>
    have A:a.block<w.heap.size:=(Array.getElem?_eq_some_iff.1 u).1;have hp:XH w a.block=some o:=q03.2 ⟨A,u⟩;rw[u]at h;unfold q53;rw[hp];cases o<;>simp only at h<;>first|cases h|skip
    cases hs:a.spot with
    |none=>rw[hs]at h;simp[q9s,hs]at h⊢;exact h
    |some k=>rw[hs]at h;simp at h
def zf3{p:Pub} {x y:List Value} (u:q2u p a x) (A:q2u p (a.add x.length) y):q2u p a (x++y):=λj v h=>by
 by_cases hx:j<x.length
 ·rw[List.getElem?_append_left hx]at h;exact u j v h
 ·rw[List.getElem?_append_right (by omega)]at h;have:=A _ v h;rw[Addr.add_add,show x.length+(j- x.length)=j by omega]at this;exact this
def z9q{α:Type} {f:α->List Value} {p:Pub} {k:Nat}:∀(l:List α) (a:Addr),(∀g∈l,(f g).length=k)->(∀(i:Nat) (h:i<l.length),q2u p (a.add (i*k)) (f l[i]))->q2u p a (qa f l)
  | [],a,_,_=>λj v G=>by simp[qa]at G
  | g::l,a,A,h=>by have u:=h 0 (by simp);have e:a.add (0*k)=a:=(by unfold Addr.add;rw[if_pos (by omega)]);rw[e]at u;show q2u p a (f g++qa f l);refine zf3 u ?_;rw[A g List.mem_cons_self];refine z9q l (a.add k) (λg C=>A g (List.mem_cons_of_mem _ C)) λi hi=> ?_;have:=h (i+1) (by simp;omega);rw[Addr.add_add,show k+i*k=(i+1)*k by rw[Nat.succ_mul];omega];simpa using this
def zxq{f:Nat} {C:Ct} (h:q4a P f C) (s:C.σ) (vs:List Value) (O:∀I,VRs I (C.args s) vs) (U:C.h s=[]) (r:Value) (hr:C.r s= .sv r) (w:World) (hp:C.pre s) (hm:(C.mem s).ok (XH w)):
  Calls P f ⟨vs⟩ w λe G=>e= .returned r/\Below w.heap.size w G:=by
 obtain⟨h1,h2,_,J⟩:=h;obtain⟨Z,H,e1,e2,N⟩:=J s;rw[U]at e1;cases e1;refine(N (λ_ b=>b<w.heap.size) (λi=>if i=0 then some (0,0,0)else none) w vs (O _) ⟨λid o b t h=> ?_,λid X o o' b t t' h=> ?_,λid o b t h=> ?_⟩ (λ_ h=>h) (λ_ h=>h) hp hm (λi hi=>if_neg (by omega)) (if_pos rfl)).mono λe G he=> ?_
 ·rw[T.get_e]at h;cases h
 ·rw[T.get_e]at h;cases h
 ·rw[T.get_e]at h;cases h
 obtain⟨z,Y,rfl,A,u,_⟩:=he;rw[hr]at A;cases A;exact⟨rfl,⟨u.same.1,u.same.2,u.same.3,u.size,λk V=>u.fr k V⟩⟩
def H7(w:World) (a:Option Addr) (len cap:Nat) (z:List Int):Prop:=(a=none/\len=0/\cap=0/\z=[])\/∃x,a=some x/\len<=cap/\cap<=maxLen/\z.length=cap/\(∀i,i<z.length->w.cell? (x.add i)=some (.int .u8 (z.getD i 0)))/\∀n∈z,(Lit.int .u8 n).wf=true
def Oy{a:Option Addr} {len cap:Nat} {z:List Int} (h:H7 w a len cap z):∃L:List Int,qb qm (a,len,cap) L (XH w)/\L.length<9223372036854775808/\∀b∈L,0<=b/\b<256:=by
  rcases h with⟨rfl,rfl,rfl,rfl⟩|⟨x,rfl,T,hm,X,O,hw⟩
  · exact⟨[],⟨rfl,Nat.le_refl _, .inl ⟨rfl,trivial⟩⟩,by simp,λb H=>by cases H⟩
  have hlen:(z.take len).length=len:=by rw[List.length_take];omega
  have u:∀(i:Nat) (hi:i<(z.take len).length),w.cell? (x.add i)=some (.int .u8 (z.take len)[i]):=λi hi=>by have A:i<z.length:=(by omega);have:=O i A;rw[List.getD_eq_getElem?_getD,List.getElem?_eq_getElem A]at this;simpa using this
  refine⟨z.take len,⟨hlen.symm,T,?_⟩,by unfold maxLen at hm;omega,λb H=> ?_⟩
  · by_cases J:z.take len=[]
    · rw[J];exact .inl ⟨rfl,trivial⟩
    · have G:0<(z.take len).length:=List.length_pos_iff.2 J;have e0:x.add 0=x:=(by unfold Addr.add;rw[if_pos rfl]);have C:=zd3 (u 0 G);rw[e0]at C;refine .inr ⟨x,rfl,C.2,z9q (k:=1) _ x (λg _=>rfl) λi hi j v N=> ?_⟩;cases j with
      |succ j=>simp[qm]at N
      | zero=>
        have:=(zd3 (u i hi)).1;rw[Addr.add_add,show i*1+0=i by omega,this,←N];rfl
  · have hw:=hw b (List.mem_of_mem_take H);simp only[Lit.wf,Bool.and_eq_true,decide_eq_true_eq]at hw;have U:IntKind.min .u8=0:=(by decide);have V:IntKind.max .u8=255:=(by decide);omega
end
def encBack_law_wf(J:Option Addr) (C h:Nat) (z0:List Int) (O:Option Addr) (G u:Nat) (z1:List Int) (T:Option Addr) (H A:Nat) (z2:List Int) (w:World) (w0:H7 w J C h z0) (w1:H7 w O G u z1) (w2:H7 w T H A z2):Calls P 6 #[.slice J C h, .slice O G u, .slice T H A] w λe Z=>e= .returned (.bool true)/\Below w.heap.size w Z:=by obtain⟨L,hx,hL⟩:=Oy w0;obtain⟨M,X,U⟩:=Oy w1;obtain⟨N,Y,V⟩:=Oy w2;exact zxq zp8 ⟨(J,C,h),L,(O,G,u),M,(T,H,A),N⟩ [.slice J C h, .slice O G u, .slice T H A] (λI=> .cons (.sv _) (.cons (.sv _) (.cons (.sv _) .nil))) rfl (.bool true) rfl w ⟨hL,U,V⟩ ⟨hx,X,Y⟩
end
end Go.Proofs.YtniogjgfomaicaaGreat.Wd
