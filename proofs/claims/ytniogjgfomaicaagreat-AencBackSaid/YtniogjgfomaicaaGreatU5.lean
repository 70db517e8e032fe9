/-
  The machine with unknown values: questions reckoned out of the code. No condition but what its theorems ask.
-/
import Derived.Test.YtniogjgfomaicaaGreatU4
namespace Go.Proofs.YtniogjgfomaicaaGreat.Sen
open Go.Proofs.YtniogjgfomaicaaGreat.Eng Go.RowKit
set_option linter.defProp false
set_option linter.unusedVariables false
set_option linter.unusedSimpArgs false
noncomputable section
section
abbrev Pub:=Nat->Option Obj
def Pub.le(p q:Pub):Prop:=∀b o,p b=some o->q b=some o
open Classical in
def WJ(F:Bool->Nat->Prop) (w0:World) (own:Nat->Prop) (w:World):Pub:=λb=>if F false b\/(¬F true b/\¬own b)then w.heap[b]? else none
def yK{F w0 own w b o}:WJ F w0 own w b=some o↔(F false b\/(¬F true b/\¬own b))/\w.heap[b]? =some o:=by
 unfold WJ;split
 ·rename_i h;exact⟨λe=>⟨h,e⟩,λe=>e.2⟩
 ·rename_i h;exact⟨λe=>(by cases e),λe=>absurd e.1 h⟩
open Classical in
def q0x(F:Bool->Nat->Prop) (w:World):Pub:=λb=>if F false b then w.heap[b]? else none
def q03{F w b o}:q0x F w b=some o↔F false b/\w.heap[b]? =some o:=by
 unfold q0x;split
 ·rename_i h;exact⟨λe=>⟨h,e⟩,λe=>e.2⟩
 ·rename_i h;exact⟨λe=>(by cases e),λe=>absurd e.1 h⟩
def Own(h:T AO) (I:In) (b:Nat):Prop:=∃id o t,h.get id=some o/\o.rw=true/\I id=some (b,t)
abbrev jF(F:Bool->Nat->Prop) (w:World) (h:In) (h':T AO) (u:World):Pub:=WJ F w (Own h' h) u
structure GK(tab:T AV) (I:In):Prop where
 g:Z4 tab I
 z:I 0=some (0,0,0)
def GK.mono{tab:T AV} {I J:In} (u:I.le J) (h:GK tab I):GK tab J:=⟨h.g.mono u,u _ _ h.z⟩
structure PF where
 on:Bool:=false
 pf:Pub->Prop:=λ_=>True
 mono:∀p q,Pub.le p q->pf p->pf q:=by exactλ_ _ _ h=>h
def PF.ok(f:PF) (p:Pub):Prop:=match f.on with
 |true=>f.pf p
 |false=>True
def PF.ok_mono{f:PF} {p q:Pub} (h:Pub.le p q) (e:f.ok p):f.ok q:=by
 unfold PF.ok at e⊢;split
 ·rename_i u;rw[u]at e;exact f.mono p q h e
 ·trivial
structure GD where
 β:Type
 ks:List Nat
 pre:β->Prop
 mem:β->List SV->PF
def GS:=Option GD
def GS.nil:GS:=none
def GS.Φ(g:GS) (I:In) (p:Pub):Prop:=match g with
 |none=>True
 |some d=>(∀k,k∈d.ks->∃y,I k=some y)/\∃b:d.β,d.pre b/\∀x:Nat->SV,(∀k y,k∈d.ks->I k=some y->x k=zn y)->(d.mem b (d.ks.map x)).ok p
def GS.mono(g:GS):∀(I J:In) (p q:Pub),I.le J->Pub.le p q->g.Φ I p->g.Φ J q:=λI J p q C hp h=>by
  cases g with
  |none=>trivial
  | some d=>
    refine⟨λk u=> ?_,h.2.imp λb G=>⟨G.1,λx hx=>PF.ok_mono hp (G.2 x λk y u A=>hx k y u (C k y A))⟩⟩;obtain⟨y,A⟩:=h.1 k u;exact⟨y,C k y A⟩
def GS.Triv(g:GS):Prop:=∀I p,g.Φ I p
def GS.triv_nil:GS.nil.Triv:=λ_ _=>trivial
structure GL where
 tab:T AV
 pf:Pub->Prop
 mono:∀p q,Pub.le p q->pf p->pf q
 triv:Bool
 all:triv=true->∀p,pf p
variable {gl:GL}
structure St(gl:GL) (F:Bool->Nat->Prop) (I:In) (t:T AV) (h:T AO) (n:Nat) (a:Act) (w:World):Prop where
 tr:TR I t a.tmps
 size:a.tmps.size=n
 defers:a.defers=[]
 sim:Sim F I h w
 low:∀b,F true b->b<w.heap.size
 gok:GK gl.tab I
 zf:∀b,F false b->F true b
 pf:gl.pf (q0x F w)
def Wh{F w u} (h:∀b,F false b->u.heap[b]? =w.heap[b]?):q0x F u=q0x F w:=by
 funext b;unfold q0x;split
 ·rename_i A;exact h b A
 ·rfl
def wG(gl:GL) (P:O7) (t:T AV) (h:T AO) (nx:Nat) (o:Oper) (g:GS) (r:AV) (h':T AO) (u:Nat):Prop:=
 nx<=u/\∀(F:Bool->Nat->Prop) (I:In) (n:Nat) (a:Act) (w:World),St gl F I t h n a w->vn I nx u->∀(K:Act->World->Prop) (Q:Exit->Act->World->Prop),
  (∀z A C,VR A r z->Grow F I nx w A u h' C->g.Φ A (jF F w A h' C)->K (a.put o.dst z) C)->o.wp P a w K Q
def QP(P:O7) (t:T AV) (o:Oper) (v:AV):Prop:=∀(I:In) (a:Act),TR I t a.tmps->Ge P (execOp a.eval o) I v
def RP(gl:GL) (P:O7) (t:T AV) (h:T AO) (o:Oper) (v:AV):Prop:=∀(F:Bool->Nat->Prop) (I:In) (a:Act) (w:World),TR I t a.tmps->Sim F I h w->gl.pf (q0x F w)->
 ∃z,(execOp a.eval o).run P w= .ok (.value z) w/\VR I v z
def AP(P:O7) (t:T AV) (nx:Nat) (o:Oper) (v:AV) (ob:AO):Prop:=∀(I:In) (a:Act),TR I t a.tmps->Wz P I (execOp a.eval o) nx v ob
variable {t:T AV} {h:T AO} {nx:Nat} {o:Oper} {v:AV} {g:GS}
def QP.act{P:O7} (e:QP P t o v) (C:g.Triv):wG gl P t h nx o g v h nx:=by refine⟨Nat.le_refl _,λF I n a w st fr K Q G=> ?_⟩;obtain⟨z,u,A⟩:=e I a st.tr;unfold Oper.wp;rw[u w];exact G z I w A (st.sim.grow nx) (C _ _)
def RP.act{P:O7} (e:RP gl P t h o v) (C:g.Triv):wG gl P t h nx o g v h nx:=by refine⟨Nat.le_refl _,λF I n a w st fr K Q G=> ?_⟩;obtain⟨z,u,A⟩:=e F I a w st.tr st.sim st.pf;unfold Oper.wp;rw[u];exact G z I w A (st.sim.grow nx) (C _ _)
def AP.act{P:O7} {h h':T AO} {ob:AO} (e:AP P t nx o v ob) (hp:T.put 64 nx (some ob) h=some h') (N:g.Triv):wG gl P t h nx o g v h' (nx+1):=by refine⟨Nat.le_succ _,λF I n a w st fr K Q O=> ?_⟩;obtain⟨z,obj,u,X,C,G,H,J⟩:=e I a st.tr w;have A:=fr nx (Nat.le_refl _) (Nat.lt_succ_self _);obtain⟨U,V⟩:=J (ext I nx (w.heap.size,u)) (Zh _ A) (zT _ _ _);unfold Oper.wp;rw[C];exact O z _ X U (st.sim.push A st.low hp G V H) (N _ _)
def KP(gl:GL) (P:O7) (t:T AV) (h:T AO) (nx:Nat) (o:Oper):Kd->AV->Option AO->GS->T AO->Nat->Prop
 | .q,v,_,g,h',u=>h'=h/\u=nx/\QP P t o v/\g.Triv
 | .r,v,_,g,h',u=>h'=h/\u=nx/\RP gl P t h o v/\g.Triv
 | .a,v,ob,g,h',u=>∃x,ob=some x/\AP P t nx o v x/\T.put 64 nx (some x) h=some h'/\u=nx+1/\kX P o=true/\qH o=false/\g.Triv
 | .s,v,_,g,h',u=>wG gl P t h nx o g v h' u/\qH o=true
def KP.act{P:O7} {t h nx o k v ob g h' C} (G:KP gl P t h nx o k v ob g h' C):wG gl P t h nx o g v h' C:=by
 cases k with
 |q=>obtain⟨rfl,rfl,u,A⟩:=G;exact u.act A
 |r=>obtain⟨rfl,rfl,u,A⟩:=G;exact u.act A
 |a=>obtain⟨x,_,u,A,rfl,_,_,H⟩:=G;exact u.act A H
 |s=>exact G.1
structure Rc where
 o:Oper
 w:Bool
 k:Kd
 t:T AV
 v:AV
 ob:Option AO
 nx:Nat
 h:T AO
 g:GS
def SP(ops:Array Oper) (o:Oper) (t:T AV) (b:Bool):Prop:=∀(I:In) (a:Act),TR I t a.tmps->Region.wanted o (yielded ops a.tmps)=b
def WA(gl:GL) (P:O7) (n:Nat) (ops:Array Oper) (c:Rc) (t:T AV) (h:T AO) (nx:Nat) (A:T AV) (h':T AO) (u:Nat):Prop:=
 c.h=h/\c.nx=nx/\Qn t (slotsOf ops c.o) .e=some c.t/\yP n c.o.dst c.v t=some A/\SP ops c.o c.t c.w/\
  (c.w=true->KP gl P c.t h nx c.o c.k c.v c.ob c.g h' u)/\(c.w=false->c.v=yL/\h'=h/\u=nx/\c.g.Triv)
structure Text(gl:GL) (P:O7) (n:Nat) (ops:Array Oper) (A:List Nat) (pr:vS) (rs:List Rc) (Tt:Nat->T AV) (H:Nat->T AO) (X:Nat->Nat):Prop where
 hA:vT ops.toList 0 []=some A
 st:VH P ops A pr=true
 len:rs.length=ops.size
 step:∀i o c,ops[i]? =some o->rs[i]? =some c->c.o=o/\WA gl P n ops c (Tt i) (H i) (X i) (Tt (i+1)) (H (i+1)) (X (i+1))
 free:∀i c e,rs[i]? =some c->c.w=true->c.k= .a->e<=i->VP ops.toList e=true->(H e).get c.nx=none
 again:∀i c e,rs[i]? =some c->c.w=true->c.k= .r->e<=ops.size->other ops.toList A i e=true->RP gl P c.t (H e) c.o c.v
section
variable {P:O7} {n:Nat} {ops:Array Oper} {A:List Nat} {pr:vS} {rs:List Rc} {Tt:Nat->T AV} {H:Nat->T AO} {X:Nat->Nat}
def Text.rc(x:Text gl P n ops A pr rs Tt H X) {i:Nat} (hi:i<ops.size):∃o c,ops[i]? =some o/\rs[i]? =some c/\c.o=o/\WA gl P n ops c (Tt i) (H i) (X i) (Tt (i+1)) (H (i+1)) (X (i+1)):=by have h:ops[i]? =some ops[i]:=Array.getElem?_eq_getElem hi;have u:rs[i]? =some (rs[i]'(by rw[x.len];exact hi)):=List.getElem?_eq_getElem _;exact⟨_,_,h,u,x.step i _ _ h u⟩
def Text.xle1(x:Text gl P n ops A pr rs Tt H X) {i:Nat} (hi:i<ops.size):X i<=X (i+1):=by
  obtain⟨o,c,G,J,N,u⟩:=x.rc hi;obtain⟨_,_,_,_,O,hw,hu⟩:=u;cases h:c.w with
  |false=>rw[(hu h).2.2.1];exact Nat.le_refl _
  | true=>
    have:=hw h;cases C:c.k<;>rw[C]at this
    · rw[this.2.1];exact Nat.le_refl _
    · rw[this.2.1];exact Nat.le_refl _
    · obtain⟨y,_,_,_,e,_⟩:=this;rw[e];exact Nat.le_succ _
    · exact this.1.1
def Text.xle(x:Text gl P n ops A pr rs Tt H X) {i j:Nat} (h:i<=j) (C:j<=ops.size):X i<=X j:=by
  induction j with
  | zero => have:i=0:=by omega
            subst this;exact Nat.le_refl _
  | succ j u=>
    by_cases e:i=j+1
    · subst e;exact Nat.le_refl _
    · exact Nat.le_trans (u (by omega) (by omega)) (x.xle1 (by omega))
def Text.slot(x:Text gl P n ops A pr rs Tt H X):∀i,i<=ops.size->∀τ,(∃j c,j<i/\rs[j]? =some c/\c.o.dst=some τ/\(Tt i).get τ=some c.v)\/((∀j c,j<i->rs[j]? =some c->c.o.dst≠some τ)/\(Tt i).get τ=(Tt 0).get τ)
  |0,_,τ=> .inr ⟨λj c h=>by omega,rfl⟩
  | i + 1,hi,τ=>by
    obtain⟨o,c,Y,N,Z,U⟩:=x.rc (i:=i) (by omega);obtain⟨_,_,_,hp,_⟩:=U;have V:=Text.slot x i (by omega) τ;have other:c.o.dst≠some τ->(Tt (i+1)).get τ=(Tt i).get τ:=λG=>by
      cases hd:c.o.dst with
      |none=>rw[hd]at hp;simp[yP]at hp;rw[hp]
      | some d=>
        rw[hd]at hp;rw[(FQ hp).2.2 τ,if_neg (λe=>G (by rw[hd,e]))]
    by_cases hd:c.o.dst=some τ
    · rw[hd]at hp;exact .inl ⟨i,c,Nat.lt_succ_self _,N,hd,by rw[(FQ hp).2.2 τ,if_pos rfl]⟩
    · rcases V with⟨j,cj,J,u,O,T⟩|⟨J,u⟩
      · exact .inl ⟨j,cj,by omega,u,O,by rw[other hd];exact T⟩
      · refine .inr ⟨λj cj hj C=> ?_,by rw[other hd];exact u⟩;by_cases e:j=i
        · subst e;rw[N]at C;cases C;exact hd
        · exact J j cj (by omega) C
def Text.look(x:Text gl P n ops A pr rs Tt H X) {i:Nat} {o:Oper} {c:Rc} (Z:ops[i]? =some o) (hc:rs[i]? =some c):
  (∀j cj d,rs[j]? =some cj->o.dst=some d->cj.o.dst=some d->j=i)/\
  (∀j cj τ,τ∈slotsOf ops o->rs[j]? =some cj->cj.o.dst=some τ->j=i\/j0 A i j=true\/j0 A j i=true)/\
  (qH o=true->∀j,j<i->flag qH ops.toList j=true\/flag (kX P) ops.toList j=true->j0 A i j=true\/pr=some (j,i)):=by
 have U:i<ops.toList.length:=by have:=(Array.getElem?_eq_some_iff.1 Z).1;simpa using this
 have h:=vP x.st i U;have hn:nth ops.toList i=some o:=by rw[jY];simpa using Z
 simp only[hn,Bool.and_eq_true]at h;obtain⟨⟨Y,h2⟩,T⟩:=h;have dst:∀j cj τ,rs[j]? =some cj->cj.o.dst=some τ->j<ops.toList.length/\Gj ops.toList j=some τ:=λj cj τ J hd=>by
  have O:j<ops.size:=by have:=(List.getElem?_eq_some_iff.1 J).1;rw[x.len]at this;exact this
  obtain⟨oj,cj',N,G,g3,_⟩:=x.rc O;rw[J]at G;cases G;refine⟨by simpa using O,?_⟩;unfold Gj;have:nth ops.toList j=some oj:=by rw[jY];simpa using N
  rw[this];simp only;rw[←g3];exact hd
 refine⟨λj cj d J hd C=> ?_,λj cj τ hτ J C=> ?_,λhs j V u=> ?_⟩
 ·rw[hd]at Y;obtain⟨N,G⟩:=dst j cj d J C;have:=vP Y j N;rw[G]at this;simp only[YV,Bool.or_eq_true,Bool.not_eq_true']at this;rcases this with h|h
  ·exact(Nat.eq_of_beq_eq_true h).symm
  ·simp at h
 ·obtain⟨N,G⟩:=dst j cj τ J C;have:=vP (List.all_eq_true.1 h2 τ hτ) j N;rw[G]at this;simp only[YV,Bool.or_eq_true,Bool.not_eq_true']at this;rcases this with((h|h)|h)|h
  ·exact .inl (Nat.eq_of_beq_eq_true h).symm
  ·simp at h
  ·exact .inr (.inl h)
  ·exact .inr (.inr h)
 ·rw[hs]at T;simp only[Bool.not_true,Bool.false_or]at T;have:=vP T j V;simp only[Bool.or_eq_true,Bool.not_eq_true',Bool.or_eq_false_iff]at this;rcases this with(h|h)|h
  ·rcases u with u|u
   ·rw[h.1]at u;cases u
   ·rw[h.2]at u;cases u
  ·exact .inl h
  ·exact .inr (qeo h)
def Qj{f:Oper->Bool} {i:Nat} {o:Oper} (h:ops[i]? =some o):flag f ops.toList i=f o:=by
 have:nth ops.toList i=some o:=by rw[jY];simpa using h
 unfold flag;rw[this]
def Text.reach(x:Text gl P n ops A pr rs Tt H X) {e:Nat}:∀m,e<=m->m<=ops.size->(∀s,e<=s->s<m->flag qH ops.toList s=false)->∀id o,(H m).get id=some o->
    (∃j c,rs[j]? =some c/\e<=j/\j<m/\c.w=true/\c.k= .a/\c.nx=id/\c.ob=some o)\/(H e).get id=some o:=by
  intro m;induction m with
  | zero => intro h1 _ _ id o h;have:e=0:=by omega
            subst this;exact .inr h
  | succ m O=>
    intro h1 h2 U id o h;by_cases J:e=m+1
    · subst J;exact .inr h
    · obtain⟨op,c,g1,g2,g3,g4⟩:=x.rc (i:=m) (by omega);have O:=O (by omega) (by omega) λs a b=>U s a (by omega);have lift:(H m).get id=some o->(∃j c,rs[j]? =some c/\e<=j/\j<m+1/\c.w=true/\c.k= .a/\c.nx=id/\c.ob=some o)\/(H e).get id=some o:=λh=>by
        rcases O id o h with⟨j,cj,V,Y,a3,Z⟩|a
        · exact .inl ⟨j,cj,V,Y,by omega,Z⟩
        · exact .inr a
      obtain⟨_,N,_,_,_,hw,hu⟩:=g4;cases u:c.w with
      |false=>rw[(hu u).2.1]at h;exact lift h
      | true=>
        have G:=hw u;cases C:c.k<;>rw[C]at G
        · rw[G.1]at h;exact lift h
        · rw[G.1]at h;exact lift h
        · obtain⟨y,k1,_,k3,_,_,_,_⟩:=G;rw[T.get_put _ _ _ _ _ k3]at h;split at h
          · rename_i hid;cases h;exact .inl ⟨m,c,g2,by omega,Nat.lt_succ_self _,u,C,by rw[N,hid],k1⟩
          · exact lift h
        · have hS:=G.2;have:=U m (by omega) (Nat.lt_succ_self _);rw[Qj g1,←g3,hS]at this;cases this
end
end
section
variable {gl:GL}
def RR(rs:List Rc) (H:Nat->T AO) (e:Nat) (L:Nat->Prop) (id:Nat) (o:AO):Prop:=
 (∃j c,rs[j]? =some c/\e<=j/\L j/\c.w=true/\c.k= .a/\c.nx=id/\c.ob=some o)\/(H e).get id=some o
def JF(rs:List Rc) (H:Nat->T AO) (e:Nat) (L:Nat->Prop) (I:In) (b:Nat):Prop:=
 (∃id o t,RR rs H e L id o/\o.rw=true/\I id=some (b,t))\/∃j c t,rs[j]? =some c/\e<=j/\L j/\c.w=true/\c.k= .a/\I c.nx=some (b,t)
structure Inv(gl:GL) (P:O7) (F:Bool->Nat->Prop) (n:Nat) (ops:Array Oper) (rs:List Rc) (T0:T AV) (H:Nat->T AO) (X:Nat->Nat) (I0:In) (w0:World) (e:Nat) (L:Nat->Prop) (I:In) (a:Act) (w:World):Prop where
 eN:e<=ops.size
 ep:VP ops.toList e=true
 e1:∀s,s<e->flag qH ops.toList s=true->L s
 e2:∀s,e<=s->flag qH ops.toList s=true->¬L s
 e3:∀j,j<e->flag (kX P) ops.toList j=true->L j
 cl:Vx ops L
 lN:∀i,L i->i<ops.size
 sz:a.tmps.size=n
 df:a.defers=[]
 s1:∀i c τ,rs[i]? =some c->L i->c.o.dst=some τ->VR I c.v (slot a.tmps τ)
 s2:∀τ b,(∀i c,rs[i]? =some c->c.o.dst=some τ->¬L i)->T0.get τ=some b->VR I b (slot a.tmps τ)
 obj:∀id o b t,RR rs H e L id o->I id=some (b,t)->∃ob,w.heap[b]? =some ob/\OR I t o ob
 inj:∀id id' o o' b t t',RR rs H e L id o->RR rs H e L id' o'->I id=some (b,t)->I id'=some (b,t')->id=id'
 fr:∀id o b t,RR rs H e L id o->I id=some (b,t)->F true b->o.rw=false/\F false b
 ex:∀j c,rs[j]? =some c->L j->c.w=true->c.k= .a->∃x,I c.nx=some x
 exf:∀j c b t,rs[j]? =some c->e<=j->L j->c.w=true->c.k= .a->I c.nx=some (b,t)->¬F true b
 dom:∀id x,I id=some x->I0 id=some x\/∃j,L j/\X j<=id/\id<X (j+1)
 le:I0.le I
 frm:∀b,F true b->w.heap[b]? =w0.heap[b]?
 siz:w0.heap.size<=w.heap.size
 sam:Same w0 w
 gh:∀j c,rs[j]? =some c->L j->c.g.Φ I (WJ F w0 (JF rs H e L I) w)
structure SInv(n:Nat) (ops:Array Oper) (rs:List Rc) (T0:T AV) (L:Nat->Prop) (I:In) (a:Act):Prop where
 cl:Vx ops L
 lN:∀i,L i->i<ops.size
 sz:a.tmps.size=n
 df:a.defers=[]
 s1:∀i c τ,rs[i]? =some c->L i->c.o.dst=some τ->VR I c.v (slot a.tmps τ)
 s2:∀τ b,(∀i c,rs[i]? =some c->c.o.dst=some τ->¬L i)->T0.get τ=some b->VR I b (slot a.tmps τ)
def Inv.slots{P:O7} {F n ops rs T0 H X I0 w0 e L I a w} (v:Inv gl P F n ops rs T0 H X I0 w0 e L I a w):SInv n ops rs T0 L I a:=⟨v.cl,v.lN,v.sz,v.df,v.s1,v.s2⟩
section
variable {P:O7} {n:Nat} {ops:Array Oper} {A:List Nat} {pr:vS} {rs:List Rc} {Tt:Nat->T AV} {H:Nat->T AO} {X:Nat->Nat} {F:Bool->Nat->Prop} {I0:In} {w0:World} {e:Nat} {L:Nat->Prop} {I:In} {a:Act} {w:World}
def Inv.doneX(v:Inv gl P F n ops rs (Tt 0) H X I0 w0 e L I a w) (x:Text gl P n ops A pr rs Tt H X) (C:vn I0 (X 0) (X ops.size)) {i id:Nat} {y:Nat×Nat×Nat} (hi:i<ops.size) (N:X i<=id) (O:id<X (i+1)) (h:I id=some y):L i:=by
 rcases v.dom id y h with G|⟨j,J,G,U⟩
 ·have:=C id (Nat.le_trans (x.xle (Nat.zero_le _) (by omega)) N) (Nat.lt_of_lt_of_le O (x.xle (by omega) (Nat.le_refl _)));rw[this]at G;cases G
 ·have T:=v.lN j J;rcases Nat.lt_trichotomy i j with u|u|u
  ·have:=x.xle (i:=i+1) (j:=j) (by omega) (by omega);omega
  ·subst u;exact J
  ·have:=x.xle (i:=j+1) (j:=i) (by omega) (by omega);omega
def Inv.simAt(v:Inv gl P F n ops rs (Tt 0) H X I0 w0 e L I a w) (x:Text gl P n ops A pr rs Tt H X) (u:vn I0 (X 0) (X ops.size)) {m:Nat} (Y:e<=m) (Z:m<=ops.size) (h3:∀s,e<=s->s<m->flag qH ops.toList s=false) {id:Nat} {o:AO} {y} (h:(H m).get id=some o) (hI:I id=some y):RR rs H e L id o:=by
 rcases x.reach m Y Z h3 id o h with⟨j,c,C,T,g3,G,J,U,V⟩|g
 ·refine .inl ⟨j,c,C,T,?_,G,J,U,V⟩;obtain⟨oj,cj,k1,O,k3,k4⟩:=x.rc (i:=j) (by omega);rw[C]at O;cases O;obtain⟨_,hnx,_,_,_,hw,_⟩:=k4;have N:=hw G;rw[J]at N;obtain⟨_,_,_,_,hX,_⟩:=N;exact v.doneX x u (by omega) (by omega) (by omega) hI
 ·exact .inr g
def Inv.sim(v:Inv gl P F n ops rs (Tt 0) H X I0 w0 e L I a w) (x:Text gl P n ops A pr rs Tt H X) (h:vn I0 (X 0) (X ops.size)) {m:Nat} (G:e<=m) (J:m<=ops.size) (N:∀s,e<=s->s<m->flag qH ops.toList s=false):Sim F I (H m) w:=
  ⟨λid o b t g u=>v.obj id o b t (v.simAt x h G J N g u) u,
   λid O o U b t V g T u C=>v.inj id O o U b t V (v.simAt x h G J N g u) (v.simAt x h G J N T C) u C,
   λid o b t g u=>v.fr id o b t (v.simAt x h G J N g u) u⟩
def SInv.tr(v:SInv n ops rs (Tt 0) L I a) (x:Text gl P n ops A pr rs Tt H X) {i:Nat} {o:Oper} {c:Rc} (N:ops[i]? =some o) (hc:rs[i]? =some c) (hL:¬L i) (hr:∀e∈o.after,Region.binds .any e=true->L e.on):TR I c.t a.tmps:=by
 obtain⟨Y,Z⟩:=x.step i o c N hc;obtain⟨_,_,C,_⟩:=Z;obtain⟨_,l2,_⟩:=x.look N hc;have hi:i<ops.size:=(Array.getElem?_eq_some_iff.1 N).1;intro τ b V;rcases SJ C τ b V with h|⟨O,U⟩
 ·rw[T.get_e]at h;cases h
 ·rw [Y]at O;have later:∀j cj,rs[j]? =some cj->cj.o.dst=some τ->L j->j<i:=λj cj J hd u=>by
   rcases l2 j cj τ O J hd with h|h|h
   ·subst h;exact absurd u hL
   ·exact Na x.hA h
   ·obtain⟨oj,_,k1,_⟩:=x.rc (v.lN j u);exact absurd (Vn x.hA v.cl k1 (λe he V=>v.cl j oj k1 u e he V) h) hL
  rcases x.slot i (by omega) τ with⟨j,cj,a1,G,a3,a4⟩|⟨a1,G⟩
  ·rw[U]at a4;cases a4;rcases l2 j cj τ O G a3 with h|h|h
   ·omega
   ·exact v.s1 j cj τ G (Vn x.hA v.cl N hr h) a3
   ·have:=Na x.hA h;omega
  ·rw[G]at U;exact v.s2 τ b (λj cj J hd u=>a1 j cj (later j cj J hd u) J hd) U
def SInv.put(v:SInv n ops rs (Tt 0) L I a) (x:Text gl P n ops A pr rs Tt H X) {i:Nat} {o:Oper} {c:Rc} (ho:ops[i]? =some o) (N:rs[i]? =some c) (hL:¬L i) {V:In} (hle:I.le V) {z:Value} (hz:VR V c.v z):
    (a.put o.dst z).tmps.size=n/\(a.put o.dst z).defers=[]/\
    (∀j cj τ,rs[j]? =some cj->L j\/j=i->cj.o.dst=some τ->VR V cj.v (slot (a.put o.dst z).tmps τ))/\
    (∀τ b,(∀j cj,rs[j]? =some cj->cj.o.dst=some τ->¬(L j\/j=i))->(Tt 0).get τ=some b->VR V b (slot (a.put o.dst z).tmps τ)):=by
  obtain⟨J,Y⟩:=x.step i o c ho N;obtain⟨_,_,_,hp,_⟩:=Y;obtain⟨l1,_,_⟩:=x.look ho N;rw[J]at hp;refine⟨by rw[Act.put_size];exact v.sz,by cases o.dst<;>exact v.df,λj cj τ G u hd=> ?_,fun τ b O hb=> ?_⟩
  · cases C:o.dst with
    | none=>
      rcases u with u|rfl
      · exact(v.s1 j cj τ G u hd).mono hle
      · rw[N]at G;cases G;rw[J,C]at hd;cases hd
    | some d=>
      rw[C]at hp;obtain⟨Z,p2,_⟩:=FQ hp;rw[tV v.sz Z p2];by_cases T:τ=d
      · subst T;rw[if_pos rfl];have:=l1 j cj τ G C hd;subst this;rw[N]at G;cases G;exact hz
      · rw[if_neg T];rcases u with u|rfl
        · exact(v.s1 j cj τ G u hd).mono hle
        · rw[N]at G;cases G;rw[J,C]at hd;cases hd;exact absurd rfl T
  · have U:VR I b (Eng.slot a.tmps τ):=v.s2 τ b (λj cj G hd u=>O j cj G hd (.inl u)) hb;cases C:o.dst with
    |none=>exact U.mono hle
    | some d=>
      rw[C]at hp;obtain⟨Z,p2,_⟩:=FQ hp;rw[tV v.sz Z p2];have T:τ≠d:=λh=>O i c N (by rw[J,C,h]) (.inr rfl);rw[if_neg T];exact U.mono hle
def Vo(h:Vx ops L) {i:Nat} {o:Oper} (C:ops[i]? =some o) (hr:∀e∈o.after,Region.binds .any e=true->L e.on):Vx ops λj=>L j\/j=i:=λj G u hL e he A=>by
 rcases hL with hL|rfl
 ·exact .inl (h j G u hL e he A)
 ·rw[C]at u;cases u;exact .inl (hr e he A)
end
end
section
variable {gl:GL}
def tn(l:List Oper):∀i,JA l i<=i/\∀s,JA l i<=s->s<i->flag qH l s=false
  |0=>⟨Nat.le_refl _,λs _ h=>by omega⟩
  | i +1=>by
    simp only[JA];split
    · exact⟨Nat.le_refl _,λs A u=>by omega⟩
    · rename_i G;obtain⟨A,u⟩:=tn l i;refine⟨by omega,λs C H=> ?_⟩;by_cases e:s=i
      · subst e;exact G
      · exact u s C (by omega)
section
variable {P:O7} {n:Nat} {ops:Array Oper} {A:List Nat} {pr:vS} {rs:List Rc} {Tt:Nat->T AV} {H:Nat->T AO} {X:Nat->Nat} {F:Bool->Nat->Prop} {I0:In} {w0:World} {e:Nat} {L:Nat->Prop} {I:In} {a:Act} {w:World}
def Inv.stay(v:Inv gl P F n ops rs (Tt 0) H X I0 w0 e L I a w) (x:Text gl P n ops A pr rs Tt H X) {i:Nat} {o:Oper} {c:Rc} (ho:ops[i]? =some o) (N:rs[i]? =some c) (hL:¬L i) (hr:∀e∈o.after,Region.binds .any e=true->L e.on) (hS:flag qH ops.toList i=false) (V:¬(c.w=true/\c.k= .a)) (hg:c.g.Triv) {z:Value} (hz:VR I c.v z):
  Inv gl P F n ops rs (Tt 0) H X I0 w0 e (λj=>L j\/j=i) I (a.put o.dst z) w:=by
 obtain⟨p1,p2,p3,p4⟩:=v.slots.put x ho N hL (In.le_refl I) hz;have sub:∀id o,RR rs H e (λj=>L j\/j=i) id o->RR rs H e L id o:=λid o h=>by
  rcases h with⟨j,cj,Y,a2,Z,a4,a5,a6⟩|h
  ·rcases Z with Z|rfl
   ·exact .inl ⟨j,cj,Y,a2,Z,a4,a5,a6⟩
   ·rw[N]at Y;cases Y;exact absurd ⟨a4,a5⟩ V
  ·exact .inr h
 exact {
  eN:=v.eN,ep:=v.ep,e1:=λs u C=> .inl (v.e1 s u C)
  e2:=λs u C G=>by
   rcases G with G|rfl
   ·exact v.e2 s u C G
   ·rw[hS]at C;cases C
  e3:=λj u C=> .inl (v.e3 j u C)
  cl:=Vo v.cl ho hr
  lN:=λj h=>h.elim (v.lN j) λh=>by subst h;exact(Array.getElem?_eq_some_iff.1 ho).1
  sz:=p1,df:=p2,s1:=λj cj τ u C G=>p3 j cj τ u C G,s2:=p4
  obj:=λid o b t h=>v.obj id o b t (sub _ _ h)
  inj:=λid id' o o' b t t' h h'=>v.inj id id' o o' b t t' (sub _ _ h) (sub _ _ h')
  fr:=λid o b t h=>v.fr id o b t (sub _ _ h)
  ex:=λj cj u C G J=>by
   rcases C with C|rfl
   ·exact v.ex j cj u C G J
   ·rw[N]at u;cases u;exact absurd ⟨G,J⟩ V
  exf:=λj cj b t u C G J U h6=>by
   rcases G with G|rfl
   ·exact v.exf j cj b t u C G J U h6
   ·rw[N]at u;cases u;exact absurd ⟨J,U⟩ V
  dom:=λid y h=>(v.dom id y h).imp (λh=>h) λ⟨j,u,C⟩=>⟨j, .inl u,C⟩
  le:=v.le,frm:=v.frm,siz:=v.siz,sam:=v.sam
  gh := λj cj u C=>by
   rcases C with C|rfl
   ·refine cj.g.mono _ _ _ _ (In.le_refl I) (λb ob hb=> ?_) (v.gh j cj u C);rw[yK]at hb⊢;refine⟨hb.1.imp (λh=>h) λ⟨G,J⟩=>⟨G,λU=>J ?_⟩,hb.2⟩;rcases U with⟨id,o',t,O,q2,T⟩|⟨k,ck,t,O,q2,T,q4,q5,q6⟩
    ·exact .inl ⟨id,o',t,sub _ _ O,q2,T⟩
    ·rcases T with T|rfl
     ·exact .inr ⟨k,ck,t,O,q2,T,q4,q5,q6⟩
     ·rw[N]at O;cases O;exact absurd ⟨q4,q5⟩ V
   ·rw[N]at u;cases u;exact hg _ _}
def Inv.make(v:Inv gl P F n ops rs (Tt 0) H X I0 w0 e L I a w) (x:Text gl P n ops A pr rs Tt H X) (fr0:vn I0 (X 0) (X ops.size)) (low:∀b,F true b->b<w0.heap.size) {i:Nat} {o:Oper} {c:Rc} (ho:ops[i]? =some o) (hc:rs[i]? =some c) (hL:¬L i) (hr:∀e∈o.after,Region.binds .any e=true->L e.on) (hS:flag qH ops.toList i=false) (hw:c.w=true) (hk:c.k= .a) {ob:AO} (hob:c.ob=some ob) (hg:c.g.Triv) (hA:kX P o=true) (hX:X (i+1)=X i+1) (Y:c.nx=X i)
  {z:Value} {obj:Obj} {U:Nat×Nat} {w':World} (O:w'.heap=w.heap.push obj) (hsame:Same w w') (hz:VR (ext I (X i) (w.heap.size,U)) c.v z) (hor:OR (ext I (X i) (w.heap.size,U)) U ob obj) (V:I (X i)=none):
  Inv gl P F n ops rs (Tt 0) H X I0 w0 e (λj=>L j\/j=i) (ext I (X i) (w.heap.size,U)) (a.put o.dst z) w':=by
 have hle:=Zh (w.heap.size,U) V;obtain⟨p1,p2,p3,p4⟩:=v.slots.put x ho hc hL hle hz;have hei:e<=i:=by
  rcases Nat.lt_or_ge i e with h|h
  ·exact absurd (v.e3 i h (by rw[Qj ho];exact hA)) hL
  ·exact h
 have old:∀b,b<w.heap.size->w'.heap[b]? =w.heap[b]? :=λb hb=>by rw[O,Array.getElem?_push,if_neg (by omega)]
 have G:∀id y,id≠X i->ext I (X i) (w.heap.size,U) id=some y->I id=some y:=λid y hne h=>by simpa[ext,hne]using h
 have part:∀id N,RR rs H e (λj=>L j\/j=i) id N->(id≠X i/\RR rs H e L id N)\/(id=X i/\N=ob):=λid N h=>by
  rcases h with⟨j,cj,a1,a2,a3,a4,a5,a6,a7⟩|h
  ·rcases a3 with a3|rfl
   ·refine .inl ⟨λhe=> ?_, .inl ⟨j,cj,a1,a2,a3,a4,a5,a6,a7⟩⟩;obtain⟨y,hy⟩:=v.ex j cj a1 a3 a4 a5;rw[a6,he,V]at hy;cases hy
   ·rw[hc]at a1;cases a1;rw[hob]at a7;cases a7;exact .inr ⟨by rw[←a6,Y],rfl⟩
  ·refine .inl ⟨λhe=> ?_, .inr h⟩;have:=x.free i c e hc hw hk hei v.ep;rw[Y,←he,h]at this;cases this
 have Z:∀id N b t,RR rs H e L id N->I id=some (b,t)->b<w.heap.size:=λid N b t h J=>by obtain⟨ob',u,_⟩:=v.obj id N b t h J;exact(Array.getElem?_eq_some_iff.1 u).1
 exact {
  eN:=v.eN,ep:=v.ep,e1:=λs u C=> .inl (v.e1 s u C)
  e2:=λs u C T=>by
   rcases T with T|rfl
   ·exact v.e2 s u C T
   ·rw[hS]at C;cases C
  e3:=λj u C=> .inl (v.e3 j u C)
  cl:=Vo v.cl ho hr
  lN:=λj h=>h.elim (v.lN j) λh=>by subst h;exact(Array.getElem?_eq_some_iff.1 ho).1
  sz:=p1,df:=p2,s1:=λj cj τ u C T=>p3 j cj τ u C T,s2:=p4
  obj :=λid N b t h J=>by
   rcases part id N h with⟨u,C⟩|⟨rfl,rfl⟩
   ·have J:=G id _ u J;obtain⟨ob',g1,g2⟩:=v.obj id N b t C J;exact⟨ob',(old b (Z _ _ _ _ C J)).trans g1,g2.mono hle⟩
   ·rw[zT]at J;cases J;exact⟨obj,by rw[O];simp,hor⟩
  inj :=λid id' o1 o2 b t t' h h' J hI'=>by
   rcases part id o1 h with⟨u,C⟩|⟨rfl,rfl⟩<;>rcases part id' o2 h' with⟨h1',h2'⟩|⟨e2,e3⟩
   ·exact v.inj id id' o1 o2 b t t' C h2' (G _ _ u J) (G _ _ h1' hI')
   ·subst e2;rw[zT]at hI';cases hI';have:=Z _ _ _ _ C (G _ _ u J);omega
   ·rw[zT]at J;cases J;have:=Z _ _ _ _ h2' (G _ _ h1' hI');omega
   ·exact e2.symm
  fr:=λid N b t h J hf=>by
   rcases part id N h with⟨u,C⟩|⟨rfl,rfl⟩
   ·exact v.fr id N b t C (G _ _ u J) hf
   ·rw[zT]at J;cases J;have:=low _ hf;have:=v.siz;omega
  ex:=λj cj u C T h4=>by
   rcases C with C|rfl
   ·obtain⟨y,hy⟩:=v.ex j cj u C T h4;exact⟨y,hle _ _ hy⟩
   ·rw[hc]at u;cases u;exact⟨_,by rw[Y];exact zT _ _ _⟩
  exf :=λj cj b t u C T h4 h5 h6 hf=>by
   rcases T with T|rfl
   ·obtain⟨y,hy⟩:=v.ex j cj u T h4 h5;have:=hle _ _ hy;rw[h6]at this;cases this;exact v.exf j cj b t u C T h4 h5 hy hf
   ·rw[hc]at u;cases u;rw[Y,zT]at h6;cases h6;have:=low _ hf;have:=v.siz;omega
  dom:=λid y h=>by
   by_cases hid:id=X i
   ·exact .inr ⟨i, .inr rfl,by omega,by omega⟩
   ·exact(v.dom id y (G id y hid h)).imp (λh=>h) λ⟨j,u,C⟩=>⟨j, .inl u,C⟩
  le:=In.le_trans v.le hle
  frm:=λb hb=>(old b (by have:=low b hb;have:=v.siz;omega)).trans (v.frm b hb)
  siz:=by rw[O];have:=v.siz;simp;omega
  sam:=v.sam.trans hsame
  gh := λj cj u C=>by
   rcases C with C|rfl
   ·refine cj.g.mono _ _ _ _ hle (λb ob' hb=> ?_) (v.gh j cj u C);rw[yK]at hb⊢;have hbl:=(Array.getElem?_eq_some_iff.1 hb.2).1;refine⟨hb.1.imp (λh=>h) λ⟨T,h4⟩=>⟨T,λh5=>h4 ?_⟩,by rw[old b hbl];exact hb.2⟩;rcases h5 with⟨id,N,t,q1,q2,q3⟩|⟨k,ck,t,q1,q2,q3,q4,q5,q6⟩
    ·rcases part id N q1 with⟨r1,r2⟩|⟨rfl,rfl⟩
     ·exact .inl ⟨id,N,t,r2,q2,G id _ r1 q3⟩
     ·rw[zT]at q3;cases q3;omega
    ·rcases q3 with q3|rfl
     ·obtain⟨y,hy⟩:=v.ex k ck q1 q3 q4 q5;have:=hle _ _ hy;rw[q6]at this;cases this;exact .inr ⟨k,ck,t,q1,q2,q3,q4,q5,hy⟩
     ·rw[hc]at q1;cases q1;rw[Y,zT]at q6;cases q6;omega
   ·rw[hc]at u;cases u;exact hg _ _}
end
end
section
variable {gl:GL}
section
variable {P:O7} {n:Nat} {ops:Array Oper} {A:List Nat} {pr:vS} {rs:List Rc} {Tt:Nat->T AV} {H:Nat->T AO} {X:Nat->Nat} {F:Bool->Nat->Prop} {I0:In} {w0:World} {e:Nat} {L:Nat->Prop} {I:In} {a:Act} {w:World}
def NP(F:Bool->Nat->Prop) (rs:List Rc) (H:Nat->T AO) (e:Nat) (L:Nat->Prop) (I:In) (w0 w:World) (b:Nat):Prop:=¬F true b/\b<w.heap.size/\¬JF rs H e L I b
def Wy(F:Bool->Nat->Prop) (rs:List Rc) (H:Nat->T AO) (e i:Nat) (L:Nat->Prop) (I:In) (w0 w:World):Bool->Nat->Prop
 |true,b=>F true b\/(∃j c t,rs[j]? =some c/\i<j/\L j/\c.w=true/\c.k= .a/\I c.nx=some (b,t))\/NP F rs H e L I w0 w b
 |false,b=>F false b\/NP F rs H e L I w0 w b
def Inv.turn (v:Inv gl P F n ops rs (Tt 0) H X I0 w0 e L I a w) (x:Text gl P n ops A pr rs Tt H X) (fr0:vn I0 (X 0) (X ops.size)) (low:∀b,F true b->b<w0.heap.size) (zf:∀b,F false b->F true b) {i:Nat} {o:Oper} {c:Rc} (ho:ops[i]? =some o) (hc:rs[i]? =some c) (hL:¬L i) (hr:∀e∈o.after,Region.binds .any e=true->L e.on) (hS:flag qH ops.toList i=true) (hpr:∀p,pr=some (p,i)->L p):
  e<=i/\Sim (Wy F rs H e i L I w0 w) I (H i) w/\(∀b,Wy F rs H e i L I w0 w true b->b<w.heap.size)/\vn I (X i) (X (i+1))/\
  ∀z I' w',VR I' c.v z->Grow (Wy F rs H e i L I w0 w) I (X i) w I' (X (i+1)) (H (i+1)) w'->c.g.Φ I' (jF (Wy F rs H e i L I w0 w) w I' (H (i+1)) w')->Inv gl P F n ops rs (Tt 0) H X I0 w0 (i+1) (λj=>L j\/j=i) I' (a.put o.dst z) w':=by
 obtain⟨hco,hst⟩:=x.step i o c ho hc;obtain⟨_,hnx,_,_,_,hkw,_⟩:=hst;obtain⟨_,_,l3⟩:=x.look ho hc;have hi:i<ops.size:=(Array.getElem?_eq_some_iff.1 ho).1;have hso:qH o=true:=by rw[Qj ho]at hS;exact hS
 have ahead:∀j,j<i->flag qH ops.toList j=true\/flag (kX P) ops.toList j=true->L j:=λj u C=>(l3 hso j u C).elim (Vn x.hA v.cl ho hr) (hpr j);have hei:e<=i:=by
  rcases Nat.lt_or_ge i e with h|h
  ·exact absurd (v.e1 i h hS) hL
  ·exact h
 have Y:∀s,e<=s->s<i->flag qH ops.toList s=false:=λs u C=>by
  cases hf:flag qH ops.toList s with
  |false=>rfl
  |true=>exact absurd (ahead s C (.inl hf)) (v.e2 s u hf)
 have apart:∀j cj t b id T y,rs[j]? =some cj->i<j->L j->cj.w=true->cj.k= .a->I cj.nx=some (b,t)->(H i).get id=some T->I id=some (b,y)->False:=by
  intro j cj t b id T y u C G V Z h6 h7 h8;obtain⟨oj,cj',g1,g2,g3,g4⟩:=x.rc (v.lN j G);rw[u]at g2;cases g2;obtain⟨_,gnx,_,_,_,gw,_⟩:=g4;have gk:=gw V;rw[Z]at gk;obtain⟨xx,gob,_,_,gX,_⟩:=gk;have hid:id=cj.nx:=v.inj id cj.nx T xx b y t (v.simAt x fr0 hei (by omega) Y h7 h8) (.inl ⟨j,cj,u,by omega,G,V,Z,rfl,gob⟩) h8 h6;subst hid;rcases x.reach i hei (by omega) Y _ _ h7 with⟨j',c',J,O,U,q4,q5,q6,q7⟩|h9
  ·obtain⟨oj',cj2,r1,r2,r3,r4⟩:=x.rc (i:=j') (by omega);rw[J]at r2;cases r2;obtain⟨_,rnx,_,_,_,rw',_⟩:=r4;have rk:=rw' q4;rw[q5]at rk;obtain⟨_,_,_,_,rX,_⟩:=rk;have:=x.xle (i:=j'+1) (j:=j) (by omega) (by have:=v.lN j G;omega);omega
  ·have:=x.free j cj e u V Z (by omega:e<=j) v.ep;rw[this]at h9;cases h9
 refine⟨hei,?_,?_,?_,?_⟩
 ·have s:=v.sim x fr0 hei (by omega) Y;refine⟨s.obj,s.inj,λid T b t u C hf=> ?_⟩;rcases hf with hf|⟨j,cj,t',J,O,U,q4,q5,q6⟩|hf
  ·exact(s.fr id T b t u C hf).imp (λh=>h) .inl
  ·exact(apart j cj t' b id T t J O U q4 q5 q6 u C).elim
  ·refine⟨?_, .inr hf⟩;cases hrw:T.rw with
   |false=>rfl
   |true=>exact absurd (.inl ⟨id,T,t,v.simAt x fr0 hei (by omega) Y u C,hrw,C⟩) hf.2.2
 ·intro b N;rcases N with N|⟨j,cj,t',J,O,U,q4,q5,q6⟩|N
  ·have:=low b N;have:=v.siz;omega
  rotate_left
  ·exact N.2.1
  ·obtain⟨oj,cj',g1,g2,g3,g4⟩:=x.rc (v.lN j U);rw[J]at g2;cases g2;obtain⟨_,gnx,_,_,_,gw,_⟩:=g4;have gk:=gw q4;rw[q5]at gk;obtain⟨xx,gob,_⟩:=gk;obtain⟨ob',k1,_⟩:=v.obj _ _ _ _ (.inl ⟨j,cj,J,by omega,U,q4,q5,rfl,gob⟩) q6;exact(Array.getElem?_eq_some_iff.1 k1).1
 ·intro id u C;cases hI:I id with
  |none=>rfl
  |some y=>exact absurd (v.doneX x fr0 hi u C hI) hL
 ·intro z I' w' hz g hgi;obtain⟨p1,p2,p3,p4⟩:=v.slots.put x ho hc hL g.le hz;have stays:∀j cj b t,rs[j]? =some cj->i+1<=j->L j\/j=i->cj.w=true->cj.k= .a->I' cj.nx=some (b,t)->L j/\I cj.nx=some (b,t)/\Wy F rs H e i L I w0 w true b:=by
   intro j cj b t u C G V Z h6;have G:L j:=by
    rcases G with G|G
    ·exact G
    ·omega
   obtain⟨y,hy⟩:=v.ex j cj u G V Z;have:=g.le _ _ hy;rw[h6]at this;cases this;exact⟨G,hy, .inr (.inl ⟨j,cj,t,u,by omega,G,V,Z,hy⟩)⟩
  have ahd:∀j cj T,rs[j]? =some cj->i+1<=j->L j->cj.w=true->cj.k= .a->cj.ob=some T->RR rs H e L cj.nx T:=λj cj T u C G V Z h6=> .inl ⟨j,cj,u,by omega,G,V,Z,rfl,h6⟩;have noF:∀j cj b t,rs[j]? =some cj->i+1<=j->L j->cj.w=true->cj.k= .a->I cj.nx=some (b,t)->¬F true b:=λj cj b t u C G V Z h6=>v.exf j cj b t u (by omega) G V Z h6;exact {
   eN:=by omega
   ep:=by simp only[VP];exact hS
   e1:=λs u C=>by
    by_cases es:s=i
    ·exact .inr es
    ·exact .inl (ahead s (by omega) (.inl C))
   e2:=λs u C G=>by
    rcases G with G|G
    ·exact v.e2 s (by omega) C G
    ·omega
   e3:=λj u C=>by
    by_cases es:j=i
    ·exact .inr es
    ·exact .inl (ahead j (by omega) (.inr C))
   cl:=Vo v.cl ho hr
   lN:=λj h=>h.elim (v.lN j) λh=>by subst h;exact hi
   sz:=p1,df:=p2,s1:=λj cj τ u C G=>p3 j cj τ u C G,s2:=p4
   obj :=λid T b t h hI=>by
    rcases h with⟨j,cj,a1,a2,a3,a4,a5,a6,a7⟩|h
    ·subst a6;obtain⟨J,O,U⟩:=stays j cj b t a1 a2 a3 a4 a5 hI;obtain⟨ob',k1,k2⟩:=v.obj _ _ _ _ (ahd j cj T a1 a2 J a4 a5 a7) O;exact⟨ob',(g.fr b U).trans k1,k2.mono g.le⟩
    ·exact g.sim.obj id T b t h hI
   inj :=λid id' o1 o2 b t t' h h' hI hI'=>by
    rcases h with⟨j,cj,a1,a2,a3,a4,a5,a6,a7⟩|h<;>rcases h' with⟨j',cj',b1,b2,b3,b4,b5,b6,b7⟩|h'
    ·subst a6 b6;obtain⟨J,O,_⟩:=stays j cj b t a1 a2 a3 a4 a5 hI;obtain⟨q1',q2',_⟩:=stays j' cj' b t' b1 b2 b3 b4 b5 hI';exact v.inj _ _ o1 o2 b t t' (ahd j cj o1 a1 a2 J a4 a5 a7) (ahd j' cj' o2 b1 b2 q1' b4 b5 b7) O q2'
    ·subst a6;obtain⟨J,O,U⟩:=stays j cj b t a1 a2 a3 a4 a5 hI;rcases(g.sim.fr id' o2 b t' h' hI' U).2 with this|this
     ·exact absurd (zf b this) (noF j cj b t a1 a2 J a4 a5 O)
     ·exact absurd (.inr ⟨j,cj,t,a1,by omega,J,a4,a5,O⟩) this.2.2
    ·subst b6;obtain⟨q1',q2',q3'⟩:=stays j' cj' b t' b1 b2 b3 b4 b5 hI';rcases(g.sim.fr id o1 b t h hI q3').2 with this|this
     ·exact absurd (zf b this) (noF j' cj' b t' b1 b2 q1' b4 b5 q2')
     ·exact absurd (.inr ⟨j',cj',t',b1,by omega,q1',b4,b5,q2'⟩) this.2.2
    ·exact g.sim.inj id id' o1 o2 b t t' h h' hI hI'
   fr:=λid T b t h hI hf=>by
    rcases h with⟨j,cj,a1,a2,a3,a4,a5,a6,a7⟩|h
    ·subst a6;obtain⟨J,O,U⟩:=stays j cj b t a1 a2 a3 a4 a5 hI;exact absurd hf (noF j cj b t a1 a2 J a4 a5 O)
    ·obtain⟨u,C⟩:=g.sim.fr id T b t h hI (.inl hf);refine⟨u,C.elim (λh=>h) λh=> ?_⟩;exact absurd hf h.1
   ex:=λj cj u C G V=>by
    rcases C with C|rfl
    ·obtain⟨y,hy⟩:=v.ex j cj u C G V;exact⟨y,g.le _ _ hy⟩
    ·rw[hc]at u;cases u;have:=hkw G;rw[V]at this;obtain⟨_,_,_,_,_,_,hns,_⟩:=this;rw[hco,hso]at hns;cases hns
   exf:=λj cj b t u C G V Z h6=>by obtain⟨J,O,U⟩:=stays j cj b t u C G V Z h6;exact noF j cj b t u C J V Z O
   dom:=λid y h=>by
    rcases g.new id y h with h|h
    ·exact(v.dom id y h).imp (λh=>h) λ⟨j,u,C⟩=>⟨j, .inl u,C⟩
    ·exact .inr ⟨i, .inr rfl,h⟩
   le:=In.le_trans v.le g.le
   frm:=λb N=>(g.fr b (.inl N)).trans (v.frm b N)
   siz:=Nat.le_trans v.siz g.size
   sam:=v.sam.trans g.same
   gh := by
    have pubs:∀b,NP F rs H e L I w0 w b->¬JF rs H (i+1) (λj=>L j\/j=i) I' b:=λb N Z=>by
     rcases Z with⟨id,T,t,J,O,U⟩|⟨k,ck,t,J,O,U,q4,q5,q6⟩
     ·rcases J with⟨j,cj,a1,a2,a3,a4,a5,a6,a7⟩|h
      ·subst a6;obtain⟨r1,r2,r3⟩:=stays j cj b t a1 a2 a3 a4 a5 U;exact N.2.2 (.inr ⟨j,cj,t,a1,by omega,r1,a4,a5,r2⟩)
      ·have:=(g.sim.fr id T b t h U (.inr (.inr N))).1;rw[O]at this;cases this
     ·obtain⟨r1,r2,r3⟩:=stays k ck b t J O U q4 q5 q6;exact N.2.2 (.inr ⟨k,ck,t,J,by omega,r1,q4,q5,r2⟩)
    intro j cj u C;by_cases hj:j=i
    ·rw [hj,hc]at u;cases u;refine c.g.mono _ _ _ _ (In.le_refl I') (λb ob N=> ?_) hgi;rw[yK]at N⊢;refine⟨?_,N.2⟩;rcases N.1 with(h|h)|⟨G,V⟩
     ·exact .inl h
     ·exact .inr ⟨h.1,pubs b h⟩
     ·refine .inr ⟨λhf=>G (.inl hf),λZ=> ?_⟩;rcases Z with⟨id,T,t,J,O,U⟩|⟨k,ck,t,J,O,U,q4,q5,q6⟩
      ·rcases J with⟨k,ck,a1,a2,a3,a4,a5,a6,a7⟩|h
       ·subst a6;exact G (stays k ck b t a1 a2 a3 a4 a5 U).2.2
       ·exact V ⟨id,T,t,h,O,U⟩
      ·exact G (stays k ck b t J O U q4 q5 q6).2.2
    ·have C:L j:=C.elim (λh=>h) λh=>absurd h hj;refine cj.g.mono _ _ _ _ g.le (λb ob N=> ?_) (v.gh j cj u C);rw[yK]at N⊢;have hbl:=(Array.getElem?_eq_some_iff.1 N.2).1;rcases N.1 with h|⟨G,V⟩
     ·exact⟨.inl h,by rw[g.fr b (.inl (zf b h))];exact N.2⟩
     ·have hnp:NP F rs H e L I w0 w b:=⟨G,hbl,V⟩;exact⟨.inr ⟨G,pubs b hnp⟩,by rw[g.fr b (.inr (.inr hnp))];exact N.2⟩}
end
end
section
variable {gl:GL}
structure PairOK(gl:GL) (P:O7) (ops:Array Oper) (A:List Nat) (pr:vS) (rs:List Rc) (H:Nat->T AO) (X:Nat->Nat) (p q:Nat) (ci cj:Rc) (B:T AO):Prop where
 pr:pr=some (p,q)
 lt:p<q
 hq:q<ops.size
 ei:rs[p]? =some ci
 ej:rs[q]? =some cj
 wi:ci.w=true
 wj:cj.w=true
 gi:ci.g=none
 gj:cj.g=none
 Si:flag qH ops.toList p=true
 Sj:flag qH ops.toList q=true
 aq:wG gl P cj.t (H p) (X q) cj.o none cj.v B (X q)
 ap:wG gl P ci.t B (X p) ci.o none ci.v (H (q+1)) (X p)
 anc:∀k,k<ops.size->k≠p->k≠q->(flag qH ops.toList k=true\/flag (kX P) ops.toList k=true\/flag Qc ops.toList k=true)->j0 A p k=true/\j0 A q k=true
 red:∀(k:Nat) (c:Rc),rs[k]? =some c->c.w=true->c.k= .r->Qc c.o=true
structure Inv2(gl:GL) (P:O7) (F:Bool->Nat->Prop) (n:Nat) (ops:Array Oper) (rs:List Rc) (T0:T AV) (X:Nat->Nat) (I0:In) (w0:World) (p:Nat) (B:T AO) (L:Nat->Prop) (I:In) (a:Act) (w:World):Prop where
 np:¬L p
 all:∀k,k<ops.size->k≠p->(flag qH ops.toList k=true\/flag (kX P) ops.toList k=true\/flag Qc ops.toList k=true)->L k
 sl:SInv n ops rs T0 L I a
 sim:Sim F I B w
 ex:∀j c,rs[j]? =some c->L j->c.w=true->c.k= .a->∃x,I c.nx=some x
 dom:∀id x,I id=some x->I0 id=some x\/∃j,L j/\X j<=id/\id<X (j+1)
 le:I0.le I
 frm:∀b,F true b->w.heap[b]? =w0.heap[b]?
 siz:w0.heap.size<=w.heap.size
 sam:Same w0 w
 gh:∀j c,rs[j]? =some c->L j->c.g.Φ I (WJ F w0 (Own B I) w)
def Rz(F:Bool->Nat->Prop) (O:Nat->Prop) (w:World) (b:Nat):Prop:=¬F true b/\b<w.heap.size/\¬O b
def Q3(F:Bool->Nat->Prop) (O:Nat->Prop) (w:World):Bool->Nat->Prop:=λs b=>F s b\/Rz F O w b
section
variable {P:O7} {n:Nat} {ops:Array Oper} {A:List Nat} {pr:vS} {rs:List Rc} {Tt:Nat->T AV} {H:Nat->T AO} {X:Nat->Nat} {F:Bool->Nat->Prop} {I0:In} {w0:World} {e:Nat} {L:Nat->Prop} {I:In} {a:Act} {w:World} {p q:Nat} {ci cj:Rc} {B:T AO}
def Nq(x:Text gl P n ops A pr rs Tt H X) {j:Nat} {c:Rc} (C:rs[j]? =some c) (hw:c.w=true) (T:c.k= .a):j<ops.size/\flag (kX P) ops.toList j=true:=by
 have G:j<ops.size:=by have:=(List.getElem?_eq_some_iff.1 C).1;rw[x.len]at this;exact this
 obtain⟨o,U,J,u,N,O⟩:=x.rc G;rw[C]at u;cases u;obtain⟨_,_,_,_,_,h,_⟩:=O;have:=h hw;rw[T]at this;obtain⟨_,_,_,_,_,hA,_⟩:=this;exact⟨G,by rw[Qj J,←N];exact hA⟩
def PairOK.notA(k:PairOK gl P ops A pr rs H X p q ci cj B) (x:Text gl P n ops A pr rs Tt H X) {j:Nat} {c:Rc} (J:rs[j]? =some c) (hw:c.w=true) (N:c.k= .a):j≠p/\j≠q:=by
 obtain⟨V,hA⟩:=Nq x J hw N;obtain⟨o,Y,O,G,T,U⟩:=x.rc V;rw[J]at G;cases G;obtain⟨_,_,_,_,_,C,_⟩:=U;have:=C hw;rw[N]at this;obtain⟨_,_,_,_,_,_,hS,_⟩:=this;have u:flag qH ops.toList j=false:=by rw[Qj O,←T];exact hS
 exact⟨λh=>(by rw[h,k.Si]at u;cases u),λh=>(by rw[h,k.Sj]at u;cases u)⟩
def Inv.later(v:Inv gl P F n ops rs (Tt 0) H X I0 w0 e L I a w) (k:PairOK gl P ops A pr rs H X p q ci cj B) (x:Text gl P n ops A pr rs Tt H X) (fr0:vn I0 (X 0) (X ops.size)) (low:∀b,F true b->b<w0.heap.size) (zf:∀b,F false b->F true b) (hnp:¬L p) {o:Oper} (ho:ops[q]? =some o) (hL:¬L q) (hr:∀e∈o.after,Region.binds .any e=true->L e.on):
  Sim (Q3 F (JF rs H e L I) w) I (H p) w/\(∀b,Q3 F (JF rs H e L I) w true b->b<w.heap.size)/\
  ∀z Z w',VR Z cj.v z->Grow (Q3 F (JF rs H e L I) w) I (X q) w Z (X q) B w'->Inv2 gl P F n ops rs (Tt 0) X I0 w0 p B (λj=>L j\/j=q) Z (a.put o.dst z) w':=by
 have done:∀j,j<ops.size->j≠p->j≠q->(flag qH ops.toList j=true\/flag (kX P) ops.toList j=true\/flag Qc ops.toList j=true)->L j:=λj u C J T=>Vn x.hA v.cl ho hr (k.anc j u C J T).2;have hep:e<=p:=by
  rcases Nat.lt_or_ge p e with h|h
  ·exact absurd (v.e1 p h k.Si) hnp
  ·exact h
 have hpn:p<ops.size:=Nat.lt_trans k.lt k.hq;have O:∀s,e<=s->s<p->flag qH ops.toList s=false:=λs u C=>by
  cases N:flag qH ops.toList s with
  |false=>rfl
  |true=>exact absurd (done s (by omega) (by omega) (by have:=k.lt;omega) (.inl N)) (v.e2 s u N)
 have s:=v.sim x fr0 hep (by omega) O;refine⟨⟨s.obj,s.inj,λid Y b t u C N=> ?_⟩,λb G=> ?_,λz Z w' hz g=> ?_⟩
 ·rcases N with N|N
  ·exact(s.fr id Y b t u C N).imp (λh=>h) .inl
  ·refine⟨?_, .inr N⟩;cases hrw:Y.rw with
   |false=>rfl
   |true=>exact absurd (.inl ⟨id,Y,t,v.simAt x fr0 hep (by omega) O u C,hrw,C⟩) N.2.2
 ·rcases G with G|G
  ·have:=low b G;have:=v.siz;omega
  ·exact G.2.1
 ·obtain ⟨p1,p2,p3,p4⟩:=v.slots.put x ho k.ej hL g.le hz;have hI:∀id y,Z id=some y->I id=some y:=λid y h=>(g.new id y h).elim (λh=>h) λh=>by omega
  exact {
   np:=λh=>h.elim hnp λh=>by have:=k.lt;omega
   all:=λj u C J=>by
    by_cases V:j=q
    ·exact .inr V
    ·exact .inl (done j u C V J)
   sl:=⟨Vo v.cl ho hr,λj h=>h.elim (v.lN j) λh=>by rw[h];exact k.hq,p1,p2,λj cj' τ u C J=>p3 j cj' τ u C J,p4⟩
   sim:=⟨g.sim.obj,g.sim.inj,λid Y b t u C N=>by obtain⟨J,T⟩:=g.sim.fr id Y b t u C (.inl N);exact⟨J,T.elim (λh=>h) λh=>absurd N h.1⟩⟩
   ex:=λj c u C J T=>by have V:=(k.notA x u J T).2;obtain⟨y,hy⟩:=v.ex j c u (C.elim (λh=>h) λh=>absurd h V) J T;exact⟨y,g.le _ _ hy⟩
   dom:=λid y h=>(v.dom id y (hI id y h)).imp (λh=>h) λ⟨j,u,C⟩=>⟨j, .inl u,C⟩
   le:=In.le_trans v.le g.le
   frm:=λb G=>(g.fr b (.inl G)).trans (v.frm b G)
   siz:=Nat.le_trans v.siz g.size
   sam:=v.sam.trans g.same
   gh := λj c u C=>by
    by_cases V:j=q
    ·rw[V,k.ej]at u;cases u;rw[k.gj];trivial
    ·have C:L j:=C.elim (λh=>h) λh=>absurd h V;refine c.g.mono _ _ _ _ g.le (λb ob G=> ?_) (v.gh j c u C);rw[yK]at G⊢;have hbl:=(Array.getElem?_eq_some_iff.1 G.2).1;rcases G.1 with h|⟨J,T⟩
     ·exact⟨.inl h,by rw[g.fr b (.inl (zf b h))];exact G.2⟩
     ·have U:Rz F (JF rs H e L I) w b:=⟨J,hbl,T⟩;refine⟨.inr ⟨J,λ⟨id,Y,t,q1,q2,q3⟩=> ?_⟩,by rw[g.fr b (.inr U)];exact G.2⟩;have:=(g.sim.fr id Y b t q1 q3 (.inr U)).1;rw[q2]at this;cases this}
def Inv2.stay(v:Inv2 gl P F n ops rs (Tt 0) X I0 w0 p B L I a w) (x:Text gl P n ops A pr rs Tt H X) {i:Nat} {o:Oper} {c:Rc} (T:ops[i]? =some o) (N:rs[i]? =some c) (hL:¬L i) (hr:∀e∈o.after,Region.binds .any e=true->L e.on) (O:i≠p) (Y:¬(c.w=true/\c.k= .a)) (V:c.g.Triv) {z:Value} (Z:VR I c.v z):
  Inv2 gl P F n ops rs (Tt 0) X I0 w0 p B (λj=>L j\/j=i) I (a.put o.dst z) w:=by
 obtain⟨p1,p2,p3,p4⟩:=v.sl.put x T N hL (In.le_refl I) Z;exact{
  np:=λh=>h.elim v.np λh=>O h.symm
  all:=λj u C G=> .inl (v.all j u C G)
  sl:=⟨Vo v.sl.cl T hr,λj h=>h.elim (v.sl.lN j) λh=>by subst h;exact(Array.getElem?_eq_some_iff.1 T).1,p1,p2,λj J τ u C G=>p3 j J τ u C G,p4⟩
  sim:=v.sim
  ex:=λj cj u C G U=>by
   rcases C with C|rfl
   ·exact v.ex j cj u C G U
   ·rw[N]at u;cases u;exact absurd ⟨G,U⟩ Y
  dom:=λid y h=>(v.dom id y h).imp (λh=>h) λ⟨j,u,C⟩=>⟨j, .inl u,C⟩
  le:=v.le,frm:=v.frm,siz:=v.siz,sam:=v.sam
  gh:=λj cj u C=>by
   rcases C with C|rfl
   ·exact v.gh j cj u C
   ·rw[N]at u;cases u;exact V _ _}
def Inv2.earlier(v:Inv2 gl P F n ops rs (Tt 0) X I0 w0 p B L I a w) (k:PairOK gl P ops A pr rs H X p q ci cj B) (x:Text gl P n ops A pr rs Tt H X) (low:∀b,F true b->b<w0.heap.size) (zf:∀b,F false b->F true b) {o:Oper} (ho:ops[p]? =some o) (hr:∀e∈o.after,Region.binds .any e=true->L e.on):
  Sim (Q3 F (Own B I) w) I B w/\(∀b,Q3 F (Own B I) w true b->b<w.heap.size)/\
  ∀z Z w',VR Z ci.v z->Grow (Q3 F (Own B I) w) I (X p) w Z (X p) (H (q+1)) w'->Inv gl P F n ops rs (Tt 0) H X I0 w0 (q+1) (λj=>L j\/j=p) Z (a.put o.dst z) w':=by
 have hpn:p<ops.size:=Nat.lt_trans k.lt k.hq;have behind:∀j,q+1<=j->j<ops.size->(flag qH ops.toList j=true\/flag (kX P) ops.toList j=true\/flag Qc ops.toList j=true)->False:=λj C u G=>by have:=Na x.hA (k.anc j u (by have:=k.lt;omega) (by omega) G).1;have:=k.lt;omega
 have noA:∀j c,rs[j]? =some c->q+1<=j->c.w=true->c.k= .a->False:=λj c C u G O=>by obtain⟨Y,hA⟩:=Nq x C G O;exact behind j u Y (.inr (.inl hA))
 refine⟨⟨v.sim.obj,v.sim.inj,λid N b t C u T=> ?_⟩,λb J=> ?_,λz Z w' hz g=> ?_⟩
 ·rcases T with T|T
  ·exact(v.sim.fr id N b t C u T).imp (λh=>h) .inl
  ·refine⟨?_, .inr T⟩;cases hrw:N.rw with
   |false=>rfl
   |true=>exact absurd ⟨id,N,t,C,hrw,u⟩ T.2.2
 ·rcases J with J|J
  ·have:=low b J;have:=v.siz;omega
  ·exact J.2.1
 ·obtain ⟨p1,p2,p3,p4⟩:=v.sl.put x ho k.ei v.np g.le hz;have V:∀id y,Z id=some y->I id=some y:=λid y h=>(g.new id y h).elim (λh=>h) λh=>by omega
  have only:∀L' id N,RR rs H (q+1) L' id N->(H (q+1)).get id=some N:=λL' id N h=>by
   rcases h with⟨j,c,a1,a2,a3,a4,a5,_⟩|h
   ·exact(noA j c a1 a2 a4 a5).elim
   ·exact h
  exact {
   eN:=by have:=k.hq;omega
   ep:=by simp only[VP];exact k.Sj
   e1:=λs C u=>by
    by_cases hs:s=p
    ·exact .inr hs
    ·exact .inl (v.all s (by have:=k.hq;omega) hs (.inl u))
   e2:=λs C u G=>by have hs:s<ops.size:=G.elim (v.sl.lN s) λh=>(by omega);exact behind s C hs (.inl u)
   e3:=λj C u=>by
    by_cases hs:j=p
    ·exact .inr hs
    ·exact .inl (v.all j (by have:=k.hq;omega) hs (.inr (.inl u)))
   cl:=Vo v.sl.cl ho hr
   lN:=λj h=>h.elim (v.sl.lN j) λh=>by rw[h];exact hpn
   sz:=p1,df:=p2,s1:=λj cj' τ C u G=>p3 j cj' τ C u G,s2:=p4
   obj:=λid N b t h V=>g.sim.obj id N b t (only _ _ _ h) V
   inj:=λid id' o1 o2 b t t' h h' V hI'=>g.sim.inj id id' o1 o2 b t t' (only _ _ _ h) (only _ _ _ h') V hI'
   fr:=λid N b t h V T=>by obtain⟨G,O⟩:=g.sim.fr id N b t (only _ _ _ h) V (.inl T);exact⟨G,O.elim (λh=>h) λh=>absurd T h.1⟩
   ex:=λj c C u G O=>by have Y:=(k.notA x C G O).1;obtain⟨y,hy⟩:=v.ex j c C (u.elim (λh=>h) λh=>absurd h Y) G O;exact⟨y,g.le _ _ hy⟩
   exf:=λj c b t C u G O h5 h6=>(noA j c C u O h5).elim
   dom:=λid y h=>(v.dom id y (V id y h)).imp (λh=>h) λ⟨j,C,u⟩=>⟨j, .inl C,u⟩
   le:=In.le_trans v.le g.le
   frm:=λb J=>(g.fr b (.inl J)).trans (v.frm b J)
   siz:=Nat.le_trans v.siz g.size
   sam:=v.sam.trans g.same
   gh := λj c C u=>by
    by_cases Y:j=p
    ·rw[Y,k.ei]at C;cases C;rw[k.gi];trivial
    ·have u:L j:=u.elim (λh=>h) λh=>absurd h Y;refine c.g.mono _ _ _ _ g.le (λb ob J=> ?_) (v.gh j c C u);rw[yK]at J⊢;have hbl:=(Array.getElem?_eq_some_iff.1 J.2).1;rcases J.1 with h|⟨G,O⟩
     ·exact⟨.inl h,by rw[g.fr b (.inl (zf b h))];exact J.2⟩
     ·have U:Rz F (Own B I) w b:=⟨G,hbl,O⟩;refine⟨.inr ⟨G,λh5=> ?_⟩,by rw[g.fr b (.inr U)];exact J.2⟩;rcases h5 with⟨id,N,t,q1,q2,q3⟩|⟨j',c',t,q1,q2,q3,q4,q5,_⟩
      ·have:=(g.sim.fr id N b t (only _ _ _ q1) q3 (.inr U)).1;rw[q2]at this;cases this
      ·exact noA j' c' q1 q2 q4 q5}
end
end
section
variable {gl:GL}
def q8j {P : O7} {n:Nat} {ops:Array Oper} {A:List Nat} {pr:vS} {rs:List Rc} {Tt:Nat->T AV} {H:Nat->T AO} {X:Nat->Nat} (x:Text gl P n ops A pr rs Tt H X) (hpo:∀p q,pr=some (p,q)->∃ci cj B,PairOK gl P ops A pr rs H X p q ci cj B) {F:Bool->Nat->Prop} {I0:In} {w0:World} (fr0:vn I0 (X 0) (X ops.size)) (low:∀b,F true b->b<w0.heap.size) (zf:∀b,F false b->F true b) (hG:GK gl.tab I0) (hpf:gl.pf (q0x F w0)) {Q:Exit->Act->World->Prop}
    (hQ:∀a' I' w',St gl F I' (Tt ops.size) (H ops.size) n a' w'->Grow F I0 (X 0) w0 I' (X ops.size) (H ops.size) w'->(∀(j:Nat) (c:Rc),rs[j]? =some c->c.g.Φ I' (jF F w0 I' (H ops.size) w'))->Q .normal a' w'):
    ∀(fuel:Nat) (u:Array Bool) (I:In) (a:Act) (w:World),u.size=ops.size->cnt ops.size (λi=>u.getD i false)+fuel=ops.size->((∃e,Inv gl P F n ops rs (Tt 0) H X I0 w0 e (λi=>u.getD i false=true) I a w)\/∃p q ci cj B,PairOK gl P ops A pr rs H X p q ci cj B/\Inv2 gl P F n ops rs (Tt 0) X I0 w0 p B (λi=>u.getD i false=true) I a w)->wpAny P .any ops Q fuel u a w:=by
  intro fuel;have pfw:∀{e:Nat} {L:Nat->Prop} {I:In} {a:Act} {w:World},Inv gl P F n ops rs (Tt 0) H X I0 w0 e L I a w->gl.pf (q0x F w):=λv=>by rw[Wh (w:=w0) λb C=>v.frm b (zf b C)];exact hpf
  have fin:∀(u:Array Bool) (e:Nat) (I:In) (a:Act) (w:World),(∀i,i<ops.size->u.getD i false=true)->Inv gl P F n ops rs (Tt 0) H X I0 w0 e (λi=>u.getD i false=true) I a w->Q .normal a w:=by
    intro u e I a w U v;have noS:∀s,e<=s->s<ops.size->flag qH ops.toList s=false:=λs h1 Z=>by
      cases hf:flag qH ops.toList s with
      |false=>rfl
      |true=>exact absurd (U s Z) (v.e2 s h1 hf)
    refine hQ a I w ⟨fun τ b C=> ?_,v.sz,v.df,v.sim x fr0 v.eN (Nat.le_refl _) noS,λb C=>Nat.lt_of_lt_of_le (low b C) v.siz,hG.mono v.le,zf,pfw v⟩ ⟨v.le,λid y h=> ?_,v.sim x fr0 v.eN (Nat.le_refl _) noS,v.frm,v.siz,v.sam⟩ ?_
    · rcases x.slot ops.size (Nat.le_refl _) τ with⟨j,cj,a1,a2,a3,a4⟩|⟨a1,a2⟩
      · rw[C]at a4;cases a4;exact v.s1 j cj τ a2 (U j a1) a3
      · rw[a2]at C;refine v.s2 τ b (λj cj hj hd _=> ?_) C;have:j<ops.size:=by have:=(List.getElem?_eq_some_iff.1 hj).1;rw[x.len]at this;exact this
        exact a1 j cj this hj hd
    · rcases v.dom id y h with h|⟨j,h1,Z,h3⟩
      · exact .inl h
      · have hj:=v.lN j h1;exact .inr ⟨Nat.le_trans (x.xle (Nat.zero_le _) (by omega)) Z,Nat.lt_of_lt_of_le h3 (x.xle (by omega) (Nat.le_refl _))⟩
    · intro j cj hj;have hjN:j<ops.size:=by have:=(List.getElem?_eq_some_iff.1 hj).1;rw[x.len]at this;exact this
      refine cj.g.mono _ _ _ _ (In.le_refl I) (λb ob C=> ?_) (v.gh j cj hj (U j hjN));rw[yK]at C⊢;refine⟨C.1.imp (λh=>h) λ⟨h3,h4⟩=>⟨h3,λ⟨id,o',t,q1,q2,q3⟩=>h4 (.inl ⟨id,o',t,v.simAt x fr0 v.eN (Nat.le_refl _) noS q1 q3,q2,q3⟩)⟩,C.2⟩
  have stuck:∀(u:Array Bool),u.size=ops.size->Region.ready .any ops u=[]->∀i,i<ops.size->u.getD i false=true:=by
    intro u hsz hr i;induction i using Nat.strongRecOn with
    | _ i ih=>
      intro hi;cases hl:u.getD i false with
      |true=>rfl
      | false =>
        exfalso;obtain⟨o,c,h1,Z,h3,h4⟩:=x.rc hi;have hrd:i∈Region.ready .any ops u:=by
          rw[mem_ready];refine⟨?_,o,h1,λe' he C=> ?_⟩
          · rw[Array.getD_eq_getD_getElem?]at hl⊢;rw[Array.getElem?_eq_getElem (by omega)]at hl⊢;exact hl
          · obtain⟨m,g1,g2⟩:=(Vr ops.toList 0 [] A rfl x.hA).2.2 i o (by simpa using h1);have:e'.on<i:=by have hanc:=x.hA;exact qel hanc h1 he C
            exact ih e'.on this (by omega)
        rw[hr]at hrd;cases hrd
  induction fuel with
  | zero=>
    intro u I a w hsz hc v;have U:=q9u ops.size _ (by omega);rcases v with v|⟨p,q,ci,cj,B,k,v⟩;case inr=>exact absurd (U p (Nat.lt_trans k.lt k.hq)) v.np
    obtain⟨e,v⟩:=v;refine⟨?_,fin u e I a w U v⟩;rw[List.eq_nil_iff_forall_not_mem];intro i hi;obtain⟨g1,o,g2,_⟩:=mem_ready.1 hi;have hlt:i<ops.size:=(Array.getElem?_eq_some_iff.1 g2).1;have:=U i hlt;rw[Array.getD_eq_getD_getElem?,Array.getElem?_eq_getElem (by omega)]at g1 this;simp only[Option.getD_some]at g1 this;rw[g1]at this;cases this
  | succ fuel ih=>
    intro u I a w hsz hc v;refine⟨λhr=> ?_,λi hi=> ?_⟩
    · rcases v with⟨e,v⟩|⟨p,q,ci,cj,B,k,v⟩
      · exact fin u e I a w (stuck u hsz hr) v
      · exact absurd (stuck u hsz hr p (Nat.lt_trans k.lt k.hq)) v.np
    obtain⟨g1,o,ho,hr⟩:=mem_ready.1 hi;have hlt:i<ops.size:=(Array.getElem?_eq_some_iff.1 ho).1;obtain⟨o',c,h1,Z,h3,h4⟩:=x.rc hlt;rw[ho]at h1;cases h1;have hLf:u.getD i false=false:=(by rw[Array.getD_eq_getD_getElem?,Array.getElem?_eq_getElem (by omega)]at g1⊢;exact g1);have hL:¬u.getD i false=true:=(by rw[hLf];simp);have hL':(λj=>(u.setIfInBounds i true).getD j false=true)=λj=>u.getD j false=true\/j=i:=by
      funext j;apply propext;by_cases hji:j=i
      · subst hji;rw[Array.getD_eq_getD_getElem?,Array.getElem?_setIfInBounds_self_of_lt (by omega)];simp
      · rw[Array.getD_eq_getD_getElem?,Array.getElem?_setIfInBounds_ne (by omega),←Array.getD_eq_getD_getElem?];simp[hji]
    have hcnt:cnt ops.size (λj=>(u.setIfInBounds i true).getD j false)+fuel=ops.size:=by have:=q9v ops.size (λj=>u.getD j false) (λj=>(u.setIfInBounds i true).getD j false) i hlt hLf (by simp only[Array.getD_eq_getD_getElem?];rw[Array.getElem?_setIfInBounds_self_of_lt (by omega)];rfl) (λj hj=>by simp only[Array.getD_eq_getD_getElem?];rw[Array.getElem?_setIfInBounds_ne (by omega)]);omega
    have go:∀e' I' a' w',Inv gl P F n ops rs (Tt 0) H X I0 w0 e' (λj=>u.getD j false=true\/j=i) I' a' w'->wpAny P .any ops Q fuel (u.setIfInBounds i true) a' w':=λe' I' a' w' v'=>
      ih (u.setIfInBounds i true) I' a' w' (by simp[hsz]) hcnt (.inl ⟨e',by rw[hL'];exact v'⟩)
    have go2:∀p q ci cj B I' a' w',PairOK gl P ops A pr rs H X p q ci cj B->Inv2 gl P F n ops rs (Tt 0) X I0 w0 p B (λj=>u.getD j false=true\/j=i) I' a' w'->wpAny P .any ops Q fuel (u.setIfInBounds i true) a' w':=λp q ci cj B I' a' w' k v'=>
      ih (u.setIfInBounds i true) I' a' w' (by simp[hsz]) hcnt (.inr ⟨p,q,ci,cj,B,k,by rw[hL'];exact v'⟩)
    obtain⟨_,hnx,_,_,hgd,hkw,hun⟩:=h4;have fm:∀{O:Nat->Prop} {w:World},(∀b,Q3 F O w false b->Q3 F O w true b):=λb h=>h.imp (zf b) λh=>h;rcases v with⟨e,v⟩|⟨p,q,ci,cj,B,k,v⟩;case inr=>
      have V:=v.sl.tr x ho Z hL hr;have Y:=hgd I a V;rw[h3]at Y;unfold wpOp;simp only[ho,Y];have pf2:gl.pf (q0x F w):=(by rw[Wh (w:=w0) λb C=>v.frm b (zf b C)];exact hpf);by_cases hip:i=p
      · subst hip;rw[k.ei]at Z;cases Z;simp only[k.wi,if_true];refine .inl ?_;obtain⟨t1,t2,t3⟩:=v.earlier k x low zf ho hr;have N:=k.ap;rw[h3]at N;exact N.2 _ I n a w ⟨V,v.sl.sz,v.sl.df,t1,t2,hG.mono v.le,fm,gl.mono _ _ (λb ob C=>by rw[q03]at C⊢;exact⟨.inl C.1,C.2⟩) pf2⟩ (λ_ h1 Z=>by omega) _ Q λz I' w' hz hgr _=>go _ _ _ _ (t3 z I' w' hz hgr)
      · have noS:¬(flag qH ops.toList i=true\/flag (kX P) ops.toList i=true\/flag Qc ops.toList i=true):=λh=>hL (v.all i hlt hip h);cases J:c.w with
        | false=>
          simp only[Bool.false_eq_true,if_false];obtain⟨u1,u2,u3,u4⟩:=hun J;exact go2 _ _ _ _ _ _ _ _ k (v.stay x ho Z hL hr hip (λhh=>by rw[J]at hh;cases hh.1) u4 (by rw[u1];exact Zc I))
        | true=>
          simp only[if_true];refine .inl ?_;have hk:=hkw J;cases G:c.k with
          | q=>
            rw[G]at hk;obtain⟨k1,k2,k3,k4⟩:=hk;rw[h3]at k3;obtain⟨z,q1,q2⟩:=k3 I a V;unfold Oper.wp;rw[q1 w];exact go2 _ _ _ _ _ _ _ _ k (v.stay x ho Z hL hr hip (λhh=>by rw[G]at hh;cases hh.2) k4 q2)
          | r=>
            refine absurd (.inr (.inr ?_)) noS;rw[Qj ho,←h3];exact k.red i c Z J G
          | a=>
            exact absurd (.inr (.inl (Nq x Z J G).2)) noS
          | s=>
            rw[G]at hk;refine absurd (.inl ?_) noS;rw[Qj ho,←h3];exact hk.2
    have V:=v.slots.tr x ho Z hL hr;have Y:=hgd I a V;rw[h3]at Y;unfold wpOp;simp only[ho,Y];cases hS:flag qH ops.toList i with
    | true=>
      by_cases hlater:∃p,pr=some (p,i)/\¬u.getD p false=true
      · obtain⟨p,hpr,hnp⟩:=hlater;obtain⟨ci,cj,B,k⟩:=hpo p i hpr;have h2':=Z;rw[k.ej]at h2';cases h2';simp only[k.wj,if_true];refine .inl ?_;obtain⟨t1,t2,t3⟩:=v.later k x fr0 low zf hnp ho hL hr;have N:=k.aq;rw[h3]at N;exact N.2 _ I n a w ⟨V,v.sz,v.df,t1,t2,hG.mono v.le,fm,gl.mono _ _ (λb ob C=>by rw[q03]at C⊢;exact⟨.inl C.1,C.2⟩) (pfw v)⟩ (λ_ h1 Z=>by omega) _ Q λz I' w' hz hgr _=>go2 _ _ _ _ _ _ _ _ k (t3 z I' w' hz hgr)
      have hpr:∀p,pr=some (p,i)->u.getD p false=true:=λp hp=>by
        cases C:u.getD p false with
        |true=>rfl
        |false=>exact absurd ⟨p,hp,by rw[C];simp⟩ hlater
      obtain⟨t1,t2,t3,t4,t5⟩:=v.turn x fr0 low zf ho Z hL hr hS hpr;cases J:c.w with
      | false=>
        simp only[Bool.false_eq_true,if_false];obtain⟨u1,u2,u3,u4⟩:=hun J;refine go _ _ _ _ (t5 undef I w (by rw[u1];exact Zc I) ?_ (u4 _ _));rw[u2,u3];exact t2.grow (X i)
      | true=>
        simp only[if_true];refine .inl ?_;have N:=(hkw J).act;rw[h3]at N;exact N.2 _ I n a w ⟨V,v.sz,v.df,t2,t3,hG.mono v.le,λb C=>C.elim (λh=> .inl (zf b h)) λh=> .inr (.inr h),gl.mono _ _ (λb ob C=>by rw[q03]at C⊢;exact⟨.inl C.1,C.2⟩) (pfw v)⟩ t4 _ Q λz I' w' hz hgr hgi=>go _ _ _ _ (t5 z I' w' hz hgr hgi)
    | false =>
      cases J:c.w with
      | false=>
        simp only[Bool.false_eq_true,if_false];obtain⟨u1,u2,u3,u4⟩:=hun J;exact go _ _ _ _ (v.stay x ho Z hL hr hS (λhh=>by rw[J]at hh;cases hh.1) u4 (by rw[u1];exact Zc I))
      | true=>
        simp only[if_true];refine .inl ?_;have hk:=hkw J;cases G:c.k with
        | q=>
          rw[G]at hk;obtain⟨k1,k2,k3,k4⟩:=hk;rw[h3]at k3;obtain⟨z,q1,q2⟩:=k3 I a V;unfold Oper.wp;rw[q1 w];exact go _ _ _ _ (v.stay x ho Z hL hr hS (λhh=>by rw[G]at hh;cases hh.2) k4 q2)
        | r =>
          rw[G]at hk;obtain⟨k1,k2,k3,k4⟩:=hk;have hrun : ∃z,(execOp a.eval o).run P w= .ok (.value z) w/\VR I c.v z:=by
            obtain⟨le1,le2⟩:=tn ops.toList i;by_cases hep:e=JA ops.toList i
            · rw[h3]at k3;exact k3 F I a w V (v.sim x fr0 (m:=i) (by rw[hep];exact le1) (by omega) (λs a1 a2=>le2 s (by rw[←hep];exact a1) a2)) (pfw v)
            · have hother:other ops.toList A i e=true:=by
                unfold other;simp only[Bool.and_eq_true,Bool.not_eq_true'];refine⟨⟨⟨v.ep,?_⟩,?_⟩,?_⟩
                · cases C:Nat.beq e (JA ops.toList i)with
                  |false=>rfl
                  |true=>exact absurd (Nat.eq_of_beq_eq_true C) hep
                · cases e with
                  |zero=>rfl
                  | succ e'=>
                    simp only;cases C:j0 A e' i with
                    |false=>rfl
                    | true=>
                      have hf:flag qH ops.toList e'=true:=v.ep;have hLe:=v.e1 e' (Nat.lt_succ_self _) hf;obtain⟨oe,_,q1,_⟩:=x.rc (v.lN e' hLe);exact absurd (Vn x.hA v.cl q1 (λe'' he C=>v.cl e' oe q1 hLe e'' he C) C) hL
                · apply tH;intro s hs;simp only[Bool.or_eq_true,Bool.not_eq_true'];by_cases hse:s<e
                  · exact .inl (.inl (by rw[blt_eq];exact decide_eq_true hse))
                  · cases hf:flag qH ops.toList s with
                    |false=>exact .inl (.inr rfl)
                    | true=>
                      refine .inr ?_;cases C:j0 A i s with
                      |false=>rfl
                      |true=>exact absurd (Vn x.hA v.cl ho hr C) (v.e2 s (by omega) hf)
              have hag:=x.again i c e Z J G v.eN hother;rw[h3]at hag;exact hag F I a w V (v.sim x fr0 (m:=e) (Nat.le_refl _) v.eN (λs a1 a2=>by omega)) (pfw v)
          obtain⟨z,q1,q2⟩:=hrun;unfold Oper.wp;rw[q1];exact go _ _ _ _ (v.stay x ho Z hL hr hS (λhh=>by rw[G]at hh;cases hh.2) k4 q2)
        | a =>
          rw[G]at hk;obtain⟨ob,k1,k2,k3,k4,k5,k6,k7⟩:=hk;rw[h3]at k2 k5;obtain⟨z,obj,tot,w',q1,q2,q3,q4⟩:=k2 I a V w;have hfree:I (X i)=none:=by
            cases hI:I (X i)with
            |none=>rfl
            |some y=>exact absurd (v.doneX x fr0 hlt (Nat.le_refl _) (by omega) hI) hL
          obtain⟨r1,r2⟩:=q4 (ext I (X i) (w.heap.size,tot)) (Zh _ hfree) (zT _ _ _);unfold Oper.wp;rw[q1];exact go _ _ _ _ (v.make x fr0 low ho Z hL hr hS J G k1 k7 k5 k4 hnx q2 q3 r1 r2 hfree)
        | s=>
          rw[G]at hk;have:=hk.2;rw[h3,←Qj (f:=qH) ho,hS]at this;cases this
def q5d{P:O7} {n:Nat} {ops:Array Oper} {A:List Nat} {pr:vS} {rs:List Rc} {Tt:Nat->T AV} {H:Nat->T AO} {X:Nat->Nat} (x:Text gl P n ops A pr rs Tt H X) (U:∀p q,pr=some (p,q)->∃ci cj B,PairOK gl P ops A pr rs H X p q ci cj B) {F:Bool->Nat->Prop} {I:In} {a:Act} {w:World} (st:St gl F I (Tt 0) (H 0) n a w) (fr:vn I (X 0) (X ops.size)) {Q:Exit->Act->World->Prop}
  (hQ:∀V J N,St gl F J (Tt ops.size) (H ops.size) n V N->Grow F I (X 0) w J (X ops.size) (H ops.size) N->(∀(j:Nat) (c:Rc),rs[j]? =some c->c.g.Φ J (jF F w J (H ops.size) N))->Q .normal V N) (d:Nat):wpAny P .any ops Q ops.size (Array.replicate ops.size false) a {w with drawn:=d}:=by
 refine(q8j x U (F:=F) (I0:=I) (w0:=w) fr st.low st.zf st.gok st.pf hQ ops.size (Array.replicate ops.size false) I a _ (by simp) ?_ (.inl ⟨0,?_⟩))
 ·have:cnt ops.size (λi=>(Array.replicate ops.size false).getD i false)=0:=by
   have Z:∀m,cnt m (λ_=>false)=0:=by
    intro m;induction m with
    |zero=>rfl
    |succ m ih=>simp[cnt,ih]
   rw[←Z ops.size];refine SD _ _ _ λj hj=> ?_;simp[Array.getD_eq_getD_getElem?,hj]
  omega
 ·have u:∀i,¬(Array.replicate ops.size false).getD i false=true:=λi=>by
   rw[Array.getD_eq_getD_getElem?];by_cases hi:i<ops.size
   ·simp[hi]
   ·simp[hi]
  have init:∀id o,RR rs H 0 (λi=>(Array.replicate ops.size false).getD i false=true) id o->(H 0).get id=some o:=λid o C=>by
   rcases C with⟨j,c,_,_,hL,_⟩|C
   ·exact absurd hL (u j)
   ·exact C
  exact{
   eN:=Nat.zero_le _,ep:=rfl,e1:=λs h=>by omega,e2:=λs _ _ hL=>u s hL,e3:=λj h=>by omega
   cl:=λi o _ hL=>absurd hL (u i),lN:=λi hL=>absurd hL (u i)
   sz:=st.size,df:=st.defers,s1:=λi c τ _ hL=>absurd hL (u i)
   s2:=fun τ b _ hb=>st.tr τ b hb
   obj:=λid o b t C hI=>st.sim.obj id o b t (init id o C) hI
   inj:=λid G o Y b t t' C O=>st.sim.inj id G o Y b t t' (init id o C) (init G Y O)
   fr:=λid o b t C=>st.sim.fr id o b t (init id o C)
   ex:=λj c _ hL=>absurd hL (u j),exf:=λj c b t _ _ hL=>absurd hL (u j)
   dom:=λid y h=> .inl h,le:=In.le_refl I,frm:=λ_ _=>rfl,siz:=Nat.le_refl _,sam:=⟨rfl,rfl,rfl⟩
   gh:=λj c _ hL=>absurd hL (u j)}
end
section
@[reducible] def Ob (p:Prop):Prop:=p
def sO(a:Option Addr):Option Nat:=a.map (·.block)
def jd(k:Nat):List Nat->Bool
  | []=>false
  | a::l=>match Nat.beq k a with
    |true=>true
    |false=>jd k l
def wC{k:Nat}:∀{l:List Nat},jd k l=true->k∈l
  | [],h=>by cases h
  | a::l,h=>by
    simp only[jd]at h;split at h
    · rename_i u;rw[Nat.eq_of_beq_eq_true u];exact List.mem_cons_self
    · exact List.mem_cons_of_mem _ (wC h)
mutual
def zl(x:Nat->SV) (ks:List Nat):AV->AV
  | .tsl k=>match jd k ks with
    |true=> .sv (.slice (x k).1 (x k).2.1 (x k).2.2)
    |false=> .tsl k
  | .tpt k=>match jd k ks with
    |true=> .sv (.pointer (x k).1)
    |false=> .tpt k
  | .tmap k=>match jd k ks with
    |true=> .sv (.map (sO (x k).1))
    |false=> .tmap k
  | .ifc t a=> .ifc t (zl x ks a)
  | .agg l=> .agg (openL x ks l)
  | .tup l=> .tup (openL x ks l)
  | .fn f l=> .fn f (openL x ks l)
  | .bfn f l m=> .bfn f (openL x ks l) (openL x ks m)
  | .bool b=> .bool b
  | .int k n=> .int k n
  | .str s=> .str s
  | .nilp=> .nilp
  | .ptr a b=> .ptr a b
  | .nsl=> .nsl
  | .sl a b c d=> .sl a b c d
  | .gsl a b c d=> .gsl a b c d
  | .nmap=> .nmap
  | .map a=> .map a
  | .nilf=> .nilf
  | .nili=> .nili
  | .ifo=> .ifo
  | .anyi k=> .anyi k
  | .lin k c l=> .lin k c l
  | .sv v=> .sv v
  | .ssl a b c d k=>match jd k ks with
    |true=> .sv (.slice (x k).1 c (x k).2.2)
    |false=> .ssl a b c d k
  | .msl a b c=> .msl a b c
  | .usl a b c d=> .usl a b c d
  | .sptr a b=> .sptr a b
def openL(x:Nat->SV) (ks:List Nat):List AV->List AV
 | []=>[]
 |a::l=>zl x ks a::openL x ks l
end
section
variable {I:In} {x:Nat->SV} {ks:List Nat} (hx:∀k y,k∈ks->I k=some y->x k=zn y)
mutual
def FN(hx:∀k y,k∈ks->I k=some y->x k=zn y):∀{a v},VR I a v->VR I (zl x ks a) v
  | _,_, .tsl (k:=k) h=>by
    unfold zl;split
    · rename_i hm;rw[hx _ _ (wC hm) h];exact .sv _
    · exact .tsl h
  | _,_, .tpt (k:=k) h=>by
    unfold zl;split
    · rename_i hm;rw[hx _ _ (wC hm) h];exact .sv _
    · exact .tpt h
  | _,_, .tmap (k:=k) h=>by
    unfold zl;split
    · rename_i hm;rw[hx _ _ (wC hm) h];exact .sv _
    · exact .tmap h
  |_,_, .ifc h=>by unfold zl;exact .ifc (FN hx h)
  |_,_, .agg h=>by unfold zl;exact .agg (openL_ok hx h)
  |_,_, .tup h=>by unfold zl;exact .tup (openL_ok hx h)
  |_,_, .fn h=>by unfold zl;exact .fn (openL_ok hx h)
  |_,_, .bfn u h=>by unfold zl;exact .bfn (openL_ok hx u) (openL_ok hx h)
  |_,_, .bool b=>by unfold zl;exact .bool b
  |_,_, .int k n=>by unfold zl;exact .int k n
  |_,_, .str l=>by unfold zl;exact .str l
  |_,_, .nilp=>by unfold zl;exact .nilp
  |_,_, .ptr h=>by unfold zl;exact .ptr h
  |_,_, .nsl=>by unfold zl;exact .nsl
  |_,_, .sl h=>by unfold zl;exact .sl h
  |_,_, .gsl h u A C=>by unfold zl;exact .gsl h u A C
  |_,_, .nmap=>by unfold zl;exact .nmap
  |_,_, .map h=>by unfold zl;exact .map h
  |_,_, .nilf=>by unfold zl;exact .nilf
  |_,_, .nili=>by unfold zl;exact .nili
  |_,_, .ifo=>by unfold zl;exact .ifo
  |_,_, .anyi=>by unfold zl;exact .anyi
  |_,_, .lin h=>by unfold zl;exact .lin h
  |_,_, .sv v=>by unfold zl;exact .sv v
  | _,_, .ssl (k:=k) h u A C G hd=>by
    unfold zl;split
    · rename_i hm;rw[hx _ _ (wC hm) G,hd];exact .sv _
    · exact .ssl h u A C G hd
  |_,_, .msl h A C=>by unfold zl;exact .msl h A C
  |_,_, .usl h u A C=>by unfold zl;exact .usl h u A C
  |_,_, .usl0 h=>by unfold zl;exact .usl0 h
  | _,_, .ssl0 (k:=k) h G hd=>by
    unfold zl;split
    · rename_i hm;rw[hx _ _ (wC hm) G,hd,h];exact .sv _
    · exact .ssl0 h G hd
  |_,_, .sptr h=>by unfold zl;exact .sptr h
def openL_ok(hx:∀k y,k∈ks->I k=some y->x k=zn y):∀{l vs},VRs I l vs->VRs I (openL x ks l) vs
 |_,_, .nil=>by unfold openL;exact .nil
 |_,_, .cons h t=>by unfold openL;exact .cons (FN hx h) (openL_ok hx t)
end
end
def NL(x:Nat->SV) (ks:List Nat):List (Value×AV×Nat)->List (Value×AV×Nat)
 | []=>[]
 | (k,a,n)::l=>(k,zl x ks a,n)::NL x ks l
def VN(x:Nat->SV) (ks:List Nat):AO->AO
 | .cells e fz g l=> .cells e fz g (openL x ks l)
 | .map es c=> .map (NL x ks es) c
 | .row e fz vs=> .row e fz vs
 | .mrow es c=> .mrow es c
 | .iter m s l c=> .iter m s l c
def tQ{I:In} {x:Nat->SV} {ks:List Nat} (hx:∀k y,k∈ks->I k=some y->x k=zn y):∀{l ms},MR I l ms->MR I (NL x ks l) ms
 |_,_, .nil=> .nil
 |_,_, .cons h t=> .cons (FN hx h) (tQ hx t)
def qce{I:In} {x:Nat->SV} {ks:List Nat} (hx:∀k y,k∈ks->I k=some y->x k=zn y) {t o ob} (h:OR I t o ob):OR I t (VN x ks o) ob:=by
 cases h with
 |cells h G hp A u C=>exact .cells (openL_ok hx h) G hp A u C
 |map h=>exact .map (tQ hx h)
 |row hp A u=>exact .row hp A u
 |mrow=>exact .mrow
 |iter h hp=>exact .iter h hp
def qcf{x:Nat->SV} {ks:List Nat}:∀o:AO,(VN x ks o).rw=o.rw
 | .cells _ none _ _=>rfl
 | .cells _ (some _) _ _=>rfl
 | .map .. =>rfl
 | .row .. =>rfl
 | .mrow .. =>rfl
 | .iter .. =>rfl
def jl{α β:Type} (f:α->β):T α->T β
 | .e=> .e
 | .n l v r=> .n (jl f l) (match v with|some a=>some (f a)|none=>none) (jl f r)
def Sv{α β:Type} (f:α->β):∀(t:T α) (k:Nat),(jl f t).getS k=(t.getS k).map f
  | .e,k=>rfl
  | .n l v r,0=>by simp only[jl,T.getS];cases v<;>rfl
  | .n l v r,k+1=>by
    simp only[jl,T.getS];split
    · exact Sv f l _
    · exact Sv f r _
def FK{α β:Type} (f:α->β) (t:T α) (k:Nat):(jl f t).get k=(t.get k).map f:=by rw[T.get_eq,T.get_eq,Sv]
def qf1{I:In} {x:Nat->SV} {ks:List Nat} (hx:∀k y,k∈ks->I k=some y->x k=zn y) {t:T AV} {A:Array Value} (h:TR I t A):TR I (jl (zl x ks) t) A:=λn a e=>by
 rw[FK]at e;cases u:t.get n with
 |none=>rw[u]at e;cases e
 |some b=>rw[u]at e;cases e;exact FN hx (h n b u)
def qcg{I:In} {x:Nat->SV} {ks:List Nat} (hx:∀k y,k∈ks->I k=some y->x k=zn y) {F:Bool->Nat->Prop} {h:T AO} {w:World} (s:Sim F I h w):Sim F I (jl (VN x ks) h) w:=by
 have back:∀id o,(jl (VN x ks) h).get id=some o->∃A,h.get id=some A/\o=VN x ks A:=λid o e=>by
  rw[FK]at e;cases H:h.get id with
  |none=>rw[H]at e;cases e
  |some b=>rw[H]at e;cases e;exact⟨b,rfl,rfl⟩
 refine⟨λid o b t g hi=> ?_,λid U o A b t V g J hi G=> ?_,λid o b t g hi O=> ?_⟩
 ·obtain⟨A,u,rfl⟩:=back _ _ g;obtain⟨ob,C,N⟩:=s.obj _ _ _ _ u hi;exact⟨ob,C,qce hx N⟩
 ·obtain⟨_,u,_⟩:=back _ _ g;obtain⟨_,C,_⟩:=back _ _ J;exact s.inj _ _ _ _ _ _ _ u C hi G
 ·obtain⟨A,u,rfl⟩:=back _ _ g;rw[qcf];exact s.fr _ _ _ _ u hi O
structure At(F0:Bool->Nat->Prop) (I0:In) (nx0:Nat) (w0:World) (F:Bool->Nat->Prop) (I:In) (nx:Nat) (w:World):Prop where
 le:∀id,id<nx0->I id=I0 id
 nxl:nx0<=nx
 fresh:∀i,nx<=i->I i=none
 sup:∀s b,F0 s b->F s b
 sub:∀b,F false b->F0 false b\/¬F0 true b
 frm:∀b,F0 true b->w.heap[b]? =w0.heap[b]?
 siz:w0.heap.size<=w.heap.size
 sam:Same w0 w
section
variable {F0:Bool->Nat->Prop} {I0:In} {nx0:Nat} {w0:World}
def At.grow{F I nx w A u h' J} (v:At F0 I0 nx0 w0 F I nx w) (g:Grow F I nx w A u h' J) (hle:nx<=u):At F0 I0 nx0 w0 F A u J:={
  le := λid hid=>by
    rw[←v.le id hid];cases G:I id with
    |some x=>exact g.le _ _ G
    | none=>
      cases C:A id with
      |none=>rfl
      | some y=>
        rcases g.new id y C with h|h
        · rw[G]at h;cases h
        · have:=v.nxl;omega
  nxl:=Nat.le_trans v.nxl hle
  fresh:=λi hi=>by
    cases C:A i with
    |none=>rfl
    | some y=>
      rcases g.new i y C with h|h
      · rw[v.fresh i (by omega)]at h;cases h
      · omega
  sup:=v.sup,sub:=v.sub
  frm:=λb H=>(g.fr b (v.sup true b H)).trans (v.frm b H)
  siz:=Nat.le_trans v.siz g.size,sam:=v.sam.trans g.same}
def At.freshR{F I nx w} (v:At F0 I0 nx0 w0 F I nx w) (u:Nat):vn I nx u:=λi h _=>v.fresh i h
end
def GL.and(gl:GL) (f:Pub->Prop) (m:∀p q,Pub.le p q->f p->f q):GL:=⟨gl.tab,λp=>gl.pf p/\f p,λp q hp h=>⟨gl.mono p q hp h.1,m p q hp h.2⟩,false,λh=>by cases h⟩
def GL.withP(gl:GL) (f:PF):GL:=match f.on with
 |true=>gl.and f.pf f.mono
 |false=>gl
def GL.withP_tab(gl:GL) (f:PF):(gl.withP f).tab=gl.tab:=by unfold GL.withP;split<;>rfl
variable {gl:GL} {f:PF}
def GL.withP_of{p:Pub} (h:gl.pf p) (u:f.ok p):(gl.withP f).pf p:=by
 unfold GL.withP PF.ok at*;split
 ·rename_i A;rw[A]at u;exact⟨h,u⟩
 ·exact h
def Qq(gl:GL) (f:PF) (K:Prop):Prop:=match f.on with
 |true=>Ob (∀p,gl.pf p->f.pf p)/\K
 |false=>K
def Wu{K:Prop} (h:Qq gl f K):(∀p,gl.pf p->f.ok p)/\K:=by
 unfold Qq PF.ok at*;split
 ·rename_i u;rw[u]at h;exact h
 ·rename_i u;rw[u]at h;exact⟨λ_ _=>trivial,h⟩
def wK(gl:GL) (f:PF) (K:GL->Prop):Prop:=match f.on with
 |true=>Ob (∃p,(gl.and f.pf f.mono).pf p)->K (gl.and f.pf f.mono)
 |false=>K gl
def Jw{K:GL->Prop} (h:wK gl f K) {p:Pub} (C:gl.pf p) (A:f.ok p):K (gl.withP f):=by
 unfold wK GL.withP PF.ok at*;split
 ·rename_i u;rw[u]at h A;exact h ⟨p,C,A⟩
 ·rename_i u;rw[u]at h;exact h
def Zj:List Nat->(Nat->SV)->((Nat->SV)->Prop)->Prop
 | [],x,K=>K x
 |k::l,x,K=>∀(a:Option Addr) (n c:Nat),Zj l (λj=>match Nat.beq j k with|true=>(a,n,c)|false=>x j) K
def SI{K:(Nat->SV)->Prop} (y:Nat->SV):∀(l:List Nat) (x:Nat->SV),Zj l x K->∃z,K z/\(∀k∈l,z k=y k)/\∀k,k∉l->z k=x k
  | [],x,h=>⟨x,h,λk N=>(by cases N),λ_ _=>rfl⟩
  | k ::l,x,h=>by
    obtain⟨z,G,H,C⟩:=SI y l _ (h (y k).1 (y k).2.1 (y k).2.2);refine⟨z,G,λj u=> ?_,λj u=> ?_⟩
    · by_cases A:j∈l
      · exact H j A
      · have:j=k:=by
          cases u with
          |head=>rfl
          |tail _ u=>exact absurd u A
        subst this;rw[C j A];simp
    · rw[C j λA=>u (List.mem_cons_of_mem _ A)];have:Nat.beq j k=false:=by
        cases J:Nat.beq j k with
        |false=>rfl
        |true=>exact absurd (by rw[Nat.eq_of_beq_eq_true J];exact List.mem_cons_self) u
      rw[this]
def Qt:Nat->SV:=λ_=>(none,0,0)
abbrev KS:=GL->T AV->T AO->Nat->Prop
def xj:List GD->GL->T AV->T AO->Nat->KS->Prop
 | [],gl,t,h,nx,K=>K gl t h nx
 |d::l,gl,t,h,nx,K=>∀b:d.β,Ob (d.pre b)->Zj d.ks Qt λx=>wK gl (d.mem b (d.ks.map x)) λgl=>xj l gl (jl (zl x d.ks) t) (jl (VN x d.ks) h) nx K
section
variable {F0:Bool->Nat->Prop} {I0:In} {nx0:Nat} {w0:World} {n:Nat}
def yN(F0:Bool->Nat->Prop) (I0:In) (nx0:Nat) (w0:World) (n:Nat) (K:KS) (a:Act) (w:World):Prop:=∃gl t h nx F I,K gl t h nx/\GK gl.tab I0/\St gl F I t h n a w/\At F0 I0 nx0 w0 F I nx w
def tu{F:Bool->Nat->Prop} {I:In} {a:Act} {w:World} {nx:Nat} (C:At F0 I0 nx0 w0 F I nx w) {K:KS}:∀{l:List GD} {gl:GL} {t:T AV} {h:T AO},xj l gl t h nx K->St gl F I t h n a w->GK gl.tab I0->(∀d∈l,GS.Φ (some d) I (q0x F w))->yN F0 I0 nx0 w0 n K a w
  | [],gl,t,h,e,st,u,N=>⟨gl,t,h,nx,F,I,e,u,st,C⟩
  | d::l,gl,t,h,e,st,u,N=>by simp only[xj]at e;obtain⟨_,b,J,O⟩:=N d (by simp);obtain⟨x,e,hx,_⟩:=SI (λk=>match I k with|some y=>zn y|none=>(none,0,0)) _ _ (e b J);have A:∀k y,k∈d.ks->I k=some y->x k=zn y:=λk y V X=>(by rw[hx k V];simp only[X]);have H:=O x A;have G:=GL.withP_of st.pf H;exact tu C (Jw e st.pf H) ⟨qf1 A st.tr,st.size,st.defers,qcg A st.sim,st.low,by rw[GL.withP_tab];exact st.gok,st.zf,G⟩ (by rw[GL.withP_tab];exact u) λc U=>N c (by simp[U])
def tR{l:List GD} {gl:GL} {t:T AV} {h:T AO} {nx C:Nat} {K:KS} (e:xj l gl t h nx K) {F:Bool->Nat->Prop} {I Y:In} {a:Act} {w w1:World} (st:St gl F I t h n a w) (g:Grow F Y C w1 I nx h w) (hle:C<=nx) (N:At F0 I0 nx0 w0 F Y C w1) (U:GK gl.tab I0) (hl:∀d∈l,GS.Φ (some d) I (jF F w1 I h w)):yN F0 I0 nx0 w0 n K a w:=by
 have A:=N.grow g hle
 let J:Bool->Nat->Prop:=λs b=>F s b\/(¬F true b/\b<w.heap.size/\¬Own h I b)
 have H:Pub.le (jF F w1 I h w) (q0x J w):=λb o u=>by rw[yK]at u;rw[q03];exact⟨u.1.imp (λh=>h) λh=>⟨h.1,(Array.getElem?_eq_some_iff.1 u.2).1,h.2⟩,u.2⟩
 have V:Pub.le (q0x F w) (q0x J w):=λb o u=>by rw[q03]at u⊢;exact⟨.inl u.1,u.2⟩
 have O:At F0 I0 nx0 w0 J I nx w:={A with sup:=λs b u=> .inl (A.sup s b u),sub:=λb u=>u.elim (A.sub b) λh=> .inr λh0=>h.1 (A.sup true b h0),frm:=A.frm};refine tu O e ⟨st.tr,st.size,st.defers,⟨st.sim.obj,st.sim.inj,λid o b tt Z h2 G=> ?_⟩,λb u=>u.elim (st.low b) λh=>h.2.1,st.gok,λb u=>u.imp (st.zf b) λh=>h,gl.mono _ _ V st.pf⟩ U λd hd=>GS.mono _ _ _ _ _ (In.le_refl I) H (hl d hd);rcases G with G|G
 ·exact(st.sim.fr id o b tt Z h2 G).imp (λh=>h) .inl
 ·refine⟨?_, .inr G⟩;cases X:o.rw with
  |false=>rfl
  |true=>exact absurd ⟨id,o,tt,Z,X,h2⟩ G.2.2
def qfc{f:PF} {gl:GL} {t:T AV} {h:T AO} {nx G:Nat} {K:KS} (e:wK gl f λgl=>K gl t h nx) {F:Bool->Nat->Prop} {I I1:In} {a:Act} {w w1:World} (st:St gl F I t h n a w) (g:Grow F I1 G w1 I nx h w) (hle:G<=nx) (U:At F0 I0 nx0 w0 F I1 G w1) (X:GK gl.tab I0) (hl:f.ok (jF F w1 I h w)):yN F0 I0 nx0 w0 n K a w:=by
 have C:=U.grow g hle
 let H:Bool->Nat->Prop:=λs b=>F s b\/(¬F true b/\b<w.heap.size/\¬Own h I b)
 have O:Pub.le (jF F w1 I h w) (q0x H w):=λb o A=>by rw[yK]at A;rw[q03];exact⟨A.1.imp (λh=>h) λh=>⟨h.1,(Array.getElem?_eq_some_iff.1 A.2).1,h.2⟩,A.2⟩
 have Y:Pub.le (q0x F w) (q0x H w):=λb o A=>by rw[q03]at A⊢;exact⟨.inl A.1,A.2⟩
 have V:At F0 I0 nx0 w0 H I nx w:={C with sup:=λs b A=> .inl (C.sup s b A),sub:=λb A=>A.elim (C.sub b) λh=> .inr λh0=>h.1 (C.sup true b h0),frm:=C.frm};have u:St gl H I t h n a w:=⟨st.tr,st.size,st.defers,⟨st.sim.obj,st.sim.inj,λid o b tt h1 h2 J=> ?_⟩,λb A=>A.elim (st.low b) λh=>h.2.1,st.gok,λb A=>A.imp (st.zf b) λh=>h,gl.mono _ _ Y st.pf⟩
 ·have N:f.ok (q0x H w):=PF.ok_mono O hl;exact⟨gl.withP f,t,h,nx,H,I,Jw e u.pf N,by rw[GL.withP_tab];exact X,⟨u.tr,u.size,u.defers,u.sim,u.low,by rw[GL.withP_tab];exact u.gok,u.zf,GL.withP_of u.pf N⟩,V⟩
 rcases J with J|J
 ·exact(st.sim.fr id o b tt h1 h2 J).imp (λh=>h) .inl
 ·refine⟨?_, .inr J⟩;cases Z:o.rw with
  |false=>rfl
  |true=>exact absurd ⟨id,o,tt,h1,Z,h2⟩ J.2.2
end
end
section
def kZ{α:Type}:T α->(Nat->Nat)->List (Nat×α)->List (Nat×α)
  | .e,_,acc=>acc
  | .n l v r,f,acc=>match v with
    |some a=>(f 0,a)::kZ l (λm=>f (2*m+1)) (kZ r (λm=>f (2*m+2)) acc)
    |none=>kZ l (λm=>f (2*m+1)) (kZ r (λm=>f (2*m+2)) acc)
def SE{α:Type}:∀(t:T α) (f:Nat->Nat) (acc:List (Nat×α)) (x:Nat×α),x∈acc->x∈kZ t f acc
  | .e,_,_,_,h=>h
  | .n l v r,f,acc,x,h=>by
    have:=SE l (λm=>f (2*m+1)) _ x (SE r (λm=>f (2*m+2)) acc x h);simp only[kZ];split
    · exact List.mem_cons_of_mem _ this
    · exact this
def SG{α:Type}:∀(t:T α) (f:Nat->Nat) (acc:List (Nat×α)) (k:Nat) (a:α),t.getS k=some a->(f k,a)∈kZ t f acc
  | .e,f,acc,k,a,h=>by cases h
  | .n l v r,f,acc,0,a,h=>by simp only[T.getS]at h;subst h;simp[kZ]
  | .n l v r,f,acc,k+1,a,h=>by
    simp only[T.getS]at h;have:(f (k+1),a)∈kZ l (λm=>f (2*m+1)) (kZ r (λm=>f (2*m+2)) acc):=by
      split at h
      · rename_i u;have A:=(T.parity k).1 u;have:=SG l (λm=>f (2*m+1)) (kZ r (λm=>f (2*m+2)) acc) _ a h;simp only[T.div2]at this;rwa [show 2*(k / 2)+1=k+1 by omega]at this
      · rename_i u;have A:=(T.parity k).2 u;have:=SG r (λm=>f (2*m+2)) acc _ a h;simp only[T.div2]at this;rw[show 2*(k / 2)+2=k+1 by omega]at this;exact SE l _ _ _ this
    simp only[kZ];split
    · exact List.mem_cons_of_mem _ this
    · exact this
def zU{α:Type} (t:T α):List (Nat×α):=kZ t (λm=>m) []
variable {α:Type}
def jc{t:T α} {k:Nat} {a:α} (h:t.get k=some a):(k,a)∈zU t:=by rw[T.get_eq]at h;exact SG t (λm=>m) [] k a h
def SF{α:Type}:∀(t:T α) (f:Nat->Nat) (acc:List (Nat×α)) (k:Nat) (a:α),(k,a)∈kZ t f acc->(k,a)∈acc\/∃j,t.getS j=some a/\k=f j
  | .e,f,acc,k,a,h=> .inl h
  | .n l v r,f,acc,k,a,h=>by
    have rest:(k,a)∈kZ l (λm=>f (2*m+1)) (kZ r (λm=>f (2*m+2)) acc)->(k,a)∈acc\/∃j,(T.n l v r).getS j=some a/\k=f j:=λh=>by
      rcases SF l _ _ k a h with h|⟨j,u,A⟩
      · rcases SF r _ _ k a h with h|⟨j,u,A⟩
        · exact .inl h
        · refine .inr ⟨2*j+2,?_,A⟩;simp only[T.getS];have:Nat.beq (Nat.mod (2*j+1) 2) 0=false:=by have:Nat.mod (2*j+1) 2=1:=(by show(2*j+1) % 2=1;omega);rw[this];rfl
          rw[this];simp only[T.div2];rw[show(2*j+1) / 2=j by omega];exact u
      · refine .inr ⟨2*j+1,?_,A⟩;simp only[T.getS];have:Nat.beq (Nat.mod (2*j) 2) 0=true:=by have:Nat.mod (2*j) 2=0:=(by show(2*j) % 2=0;omega);rw[this];rfl
        rw[this];simp only[T.div2];rw[show(2*j) / 2=j by omega];exact u
    simp only[kZ]at h;split at h
    · rcases List.mem_cons.1 h with h|h
      · cases h;exact .inr ⟨0,rfl,rfl⟩
      · exact rest h
    · exact rest h
def FF{t:T α} {k:Nat} {a:α} (h:(k,a)∈zU t):t.get k=some a:=by
 rcases SF t _ _ k a h with h|⟨j,u,A⟩
 ·cases h
 ·rw[A,T.get_eq];exact u
end
section
def gv:AV->Option Value
 | .sv v=>some v
 |a=>xn a
def qd8{I:In} {a:AV} {v u:Value} (h:gv a=some v) (r:VR I a u):u=v:=by
 unfold gv at h;split at h
 ·cases h;cases r;rfl
 ·exact Wn h r
def jL:List AV->Option (List Value)
  | []=>some []
  | a ::l=>match gv a with
    | some v=>match jL l with
      |some r=>some (v::r)
      |none=>none
    |none=>none
def Qk{I:In}:∀{l:List AV} {x:List Value},jL l=some x->∀{u},VRs I l u->u=x
  | [],x,h,u,r=>by simp[jL]at h;subst h;cases r;rfl
  | a ::l,x,h,u,r=>by
    simp only[jL]at h;split at h
    · rename_i v G;split at h
      · rename_i y H;cases h;cases r with|cons A C=>rw[qd8 G A,Qk H C]
      · cases h
    · cases h
def q9s(o:Obj) (a:Addr):Option Value:=match o with
  | .cells c _ _=>match a.spot with
    |none=>c[a.off]?
    |some _=>none
  |_=>none
def q53(p:Pub) (a:Addr):Option Value:=match p a.block with
 |some o=>q9s o a
 |none=>none
def q89{p q:Pub} (h:Pub.le p q) {a:Addr} {v:Value} (e:q53 p a=some v):q53 q a=some v:=by
 unfold q53 at e⊢;cases hp:p a.block with
 |none=>rw[hp]at e;cases e
 |some o=>rw[hp]at e;rw[h _ _ hp];exact e
def Fy{F:Bool->Nat->Prop} {w:World} {a:Addr} {v:Value} (e:q53 (q0x F w) a=some v):w.cell? a=some v:=by
  unfold q53 at e;cases hp:q0x F w a.block with
  |none=>rw[hp]at e;cases e
  | some o=>
    rw[hp]at e;rw[q03]at hp;unfold World.cell?;rw[hp.2];simp only[q9s]at e;cases o<;>simp only at e⊢<;>first|exact(by cases e)|skip
    split at e
    · rename_i hs;rw[hs];simpa using e
    · cases e
def q2u(p:Pub) (a:Addr) (vs:List Value):Prop:=∀(j:Nat) v,vs[j]? =some v->q53 p (a.add j)=some v
def sV{p q:Pub} (h:Pub.le p q) {a:Addr} {vs:List Value} (e:q2u p a vs):q2u q a vs:=λj v u=>q89 h (e j v u)
def Pl(a:Option Addr):Prop:=True
def qfu(p:Pub) (a:Option Addr) (vs:List Value):Prop:=(vs=[]/\Pl a)\/∃x,a=some x/\x.spot=none/\q2u p x vs
def qay{p q:Pub} (h:Pub.le p q) {a:Option Addr} {vs:List Value} (e:qfu p a vs):qfu q a vs:=e.imp (λh=>h) λ⟨x,u,A,C⟩=>⟨x,u,A,sV h C⟩
variable {vs:List Value}
def rowP_Pl{p:Pub} {a:Option Addr} (h:qfu p a vs):Pl a:=trivial
def qfv(p:Pub) (a:Option Addr) (n c:Nat) (vs:List Value):Prop:=n<=c/\qfu p a vs
def q48{p q:Pub} (h:Pub.le p q) {a:Option Addr} {n c:Nat} {vs:List Value} (e:qfv p a n c vs):qfv q a n c vs:=⟨e.1,qay h e.2⟩
abbrev jx:=Nat×Nat×Nat×Nat
def qj4(k:Nat):List jx->Bool
  | []=>false
  | (_,_,_,j)::l=>match Nat.beq k j with
    |true=>true
    |false=>qj4 k l
def addOcc(q:jx) (acc:List jx):List jx:=match qj4 q.2.2.2 acc with
 |true=>acc
 |false=>q::acc
mutual
def zC(id:Nat):AV->List jx->List jx
  | .ssl i off len esz k,acc=>match Nat.beq i id with
    |true=>addOcc (off,len,esz,k) acc
    |false=>acc
  | .agg l,acc=>occL id l acc
  | .tup l,acc=>occL id l acc
  |_,acc=>acc
def occL(id:Nat):List AV->List jx->List jx
 | [],acc=>acc
 |a::l,acc=>occL id l (zC id a acc)
end
def GI(id:Nat):List (Nat×AV)->List jx->List jx
 | [],acc=>acc
 | (_,a)::l,acc=>GI id l (zC id a acc)
section
variable {I:In} {id:Nat}
abbrev xi(I:In) (id:Nat) (q:jx):Prop:=∃u,VR I (.ssl id q.1 q.2.1 q.2.2.1 q.2.2.2) u
def q97{q:jx} {acc:List jx} (h:∀r∈acc,xi I id r) (hq:xi I id q):∀r∈addOcc q acc,xi I id r:=λr hr=>by
 unfold addOcc at hr;split at hr
 ·exact h r hr
 ·cases hr with
  |head=>exact hq
  |tail _ hr=>exact h r hr
mutual
def qal:∀{a:AV} {v:Value},VR I a v->∀{acc:List jx},(∀r∈acc,xi I id r)->∀r∈zC id a acc,xi I id r
  | .ssl i off len esz k,v,u,acc,h=>by
    unfold zC;split
    · rename_i C;have e:=Nat.eq_of_beq_eq_true C;subst e;exact q97 h ⟨v,u⟩
    · exact h
  | .agg l,v,u,acc,h=>by unfold zC;cases u with|agg A=>exact occL_ok A h
  | .tup l,v,u,acc,h=>by unfold zC;cases u with|tup A=>exact occL_ok A h
  | .bool _,_,_,_,h=>by unfold zC;exact h
  | .int _ _,_,_,_,h=>by unfold zC;exact h
  | .str _,_,_,_,h=>by unfold zC;exact h
  | .nilp,_,_,_,h=>by unfold zC;exact h
  | .ptr _ _,_,_,_,h=>by unfold zC;exact h
  | .nsl,_,_,_,h=>by unfold zC;exact h
  | .sl _ _ _ _,_,_,_,h=>by unfold zC;exact h
  | .gsl _ _ _ _,_,_,_,h=>by unfold zC;exact h
  | .nmap,_,_,_,h=>by unfold zC;exact h
  | .map _,_,_,_,h=>by unfold zC;exact h
  | .fn _ _,_,_,_,h=>by unfold zC;exact h
  | .nilf,_,_,_,h=>by unfold zC;exact h
  | .nili,_,_,_,h=>by unfold zC;exact h
  | .ifc _ _,_,_,_,h=>by unfold zC;exact h
  | .ifo,_,_,_,h=>by unfold zC;exact h
  | .anyi _,_,_,_,h=>by unfold zC;exact h
  | .lin _ _ _,_,_,_,h=>by unfold zC;exact h
  | .bfn _ _ _,_,_,_,h=>by unfold zC;exact h
  | .sv _,_,_,_,h=>by unfold zC;exact h
  | .tsl _,_,_,_,h=>by unfold zC;exact h
  | .msl _ _ _,_,_,_,h=>by unfold zC;exact h
  | .usl _ _ _ _,_,_,_,h=>by unfold zC;exact h
  | .sptr _ _,_,_,_,h=>by unfold zC;exact h
  | .tpt _,_,_,_,h=>by unfold zC;exact h
  | .tmap _,_,_,_,h=>by unfold zC;exact h
def occL_ok:∀{l:List AV} {vs:List Value},VRs I l vs->∀{acc:List jx},(∀r∈acc,xi I id r)->∀r∈occL id l acc,xi I id r
 | [],_,_,acc,h=>by unfold occL;exact h
 |a::l,_,C,acc,h=>by unfold occL;cases C with|cons u A=>exact occL_ok A (qal u h)
end
def qan{t:T AV} {C:Array Value} (A:TR I t C):∀{l:List (Nat×AV)},(∀k a,(k,a)∈l->t.get k=some a)->∀{acc:List jx},(∀r∈acc,xi I id r)->∀r∈GI id l acc,xi I id r
 | [],_,acc,h=>h
 | (k,a)::l,u,acc,h=>qan A (λk b hm=>u k b (List.mem_cons_of_mem _ hm)) (qal (A k a (u k a List.mem_cons_self)) h)
end
mutual
def qY(id b s u:Nat) (x:Nat->SV) (ks:List Nat):AV->AV
  | .ptr i off=>match Nat.beq i id with
    |true=> .sv (.pointer (some ⟨b,s+off,none⟩))
    |false=> .ptr i off
  | .sptr i off=>match Nat.beq i id with
    |true=> .sv (.pointer (some ⟨b,s+off,none⟩))
    |false=> .sptr i off
  | .sl i off len cap=>match Nat.beq i id with
    |true=> .sv (.slice (some ⟨b,s+off,none⟩) len cap)
    |false=> .sl i off len cap
  | .msl i len esz=>match Nat.beq i id with
    |true=> .sv (.slice (some ⟨b,s,none⟩) len (u / esz))
    |false=> .msl i len esz
  | .usl i off len esz=> .usl i off len esz
  | .map i=>match Nat.beq i id with
    |true=> .sv (.map (some b))
    |false=> .map i
  | .ssl i off len esz k=>match jd k ks with
    |true=> .sv (.slice (x k).1 len (x k).2.2)
    |false=> .ssl i off len esz k
  | .ifc t a=> .ifc t (qY id b s u x ks a)
  | .agg l=> .agg (pubL id b s u x ks l)
  | .tup l=> .tup (pubL id b s u x ks l)
  | .fn f l=> .fn f (pubL id b s u x ks l)
  | .bfn f l m=> .bfn f (pubL id b s u x ks l) (pubL id b s u x ks m)
  | .bool b=> .bool b
  | .int k n=> .int k n
  | .str s=> .str s
  | .nilp=> .nilp
  | .nsl=> .nsl
  | .gsl a b c d=> .gsl a b c d
  | .nmap=> .nmap
  | .nilf=> .nilf
  | .nili=> .nili
  | .ifo=> .ifo
  | .anyi k=> .anyi k
  | .lin k c l=> .lin k c l
  | .sv v=> .sv v
  | .tsl k=> .tsl k
  | .tpt k=> .tpt k
  | .tmap k=> .tmap k
def pubL(id b s u:Nat) (x:Nat->SV) (ks:List Nat):List AV->List AV
 | []=>[]
 |a::l=>qY id b s u x ks a::pubL id b s u x ks l
end
section
variable {I:In} {id b s u:Nat} {x:Nat->SV} {ks:List Nat}
mutual
def FY(hid:∀N O t,I id=some (N,O,t)->N=b/\O=s/\t=u) (hx:∀k y,k∈ks->I k=some y->x k=zn y):∀{a v},VR I a v->VR I (qY id b s u x ks a) v
  | _,_, .ptr h=>by
    unfold qY;split
    · rename_i A;have e:=Nat.eq_of_beq_eq_true A;subst e;obtain⟨rfl,rfl,rfl⟩:=hid _ _ _ h;exact .sv _
    · exact .ptr h
  | _,_, .sptr h=>by
    unfold qY;split
    · rename_i A;have e:=Nat.eq_of_beq_eq_true A;subst e;obtain⟨rfl,rfl,rfl⟩:=hid _ _ _ h;exact .sv _
    · exact .sptr h
  | _,_, .sl h=>by
    unfold qY;split
    · rename_i A;have e:=Nat.eq_of_beq_eq_true A;subst e;obtain⟨rfl,rfl,rfl⟩:=hid _ _ _ h;exact .sv _
    · exact .sl h
  | _,_, .msl h G H=>by
    unfold qY;split
    · rename_i A;have e:=Nat.eq_of_beq_eq_true A;subst e;obtain⟨rfl,rfl,rfl⟩:=hid _ _ _ h;exact .sv _
    · exact .msl h G H
  |_,_, .usl h C G H=>by unfold qY;exact .usl h C G H
  |_,_, .usl0 h=>by unfold qY;exact .usl0 h
  | _,_, .map (t:=t) h=>by
    unfold qY;split
    · rename_i A;have e:=Nat.eq_of_beq_eq_true A;subst e;obtain⟨rfl,_⟩:=hid _ _ _ h;exact .sv _
    · exact .map h
  | _,_, .ssl (k:=k) h C G H J hd=>by
    unfold qY;split
    · rename_i hm;rw[hx _ _ (wC hm) J,hd];exact .sv _
    · exact .ssl h C G H J hd
  | _,_, .ssl0 (k:=k) h J hd=>by
    unfold qY;split
    · rename_i hm;rw[hx _ _ (wC hm) J,hd,h];exact .sv _
    · exact .ssl0 h J hd
  |_,_, .tsl h=>by unfold qY;exact .tsl h
  |_,_, .tpt h=>by unfold qY;exact .tpt h
  |_,_, .tmap h=>by unfold qY;exact .tmap h
  |_,_, .ifc h=>by unfold qY;exact .ifc (FY hid hx h)
  |_,_, .agg h=>by unfold qY;exact .agg (pubL_ok hid hx h)
  |_,_, .tup h=>by unfold qY;exact .tup (pubL_ok hid hx h)
  |_,_, .fn h=>by unfold qY;exact .fn (pubL_ok hid hx h)
  |_,_, .bfn C h=>by unfold qY;exact .bfn (pubL_ok hid hx C) (pubL_ok hid hx h)
  |_,_, .bool b=>by unfold qY;exact .bool b
  |_,_, .int k n=>by unfold qY;exact .int k n
  |_,_, .str l=>by unfold qY;exact .str l
  |_,_, .nilp=>by unfold qY;exact .nilp
  |_,_, .nsl=>by unfold qY;exact .nsl
  |_,_, .gsl h C G H=>by unfold qY;exact .gsl h C G H
  |_,_, .nmap=>by unfold qY;exact .nmap
  |_,_, .nilf=>by unfold qY;exact .nilf
  |_,_, .nili=>by unfold qY;exact .nili
  |_,_, .ifo=>by unfold qY;exact .ifo
  |_,_, .anyi=>by unfold qY;exact .anyi
  |_,_, .lin h=>by unfold qY;exact .lin h
  |_,_, .sv v=>by unfold qY;exact .sv v
def pubL_ok(hid:∀A C t,I id=some (A,C,t)->A=b/\C=s/\t=u) (hx:∀k y,k∈ks->I k=some y->x k=zn y):∀{l vs},VRs I l vs->VRs I (pubL id b s u x ks l) vs
 |_,_, .nil=>by unfold pubL;exact .nil
 |_,_, .cons h t=>by unfold pubL;exact .cons (FY hid hx h) (pubL_ok hid hx t)
end
end
def pubE(id b s u:Nat) (x:Nat->SV) (ks:List Nat):List (Value×AV×Nat)->List (Value×AV×Nat)
 | []=>[]
 | (k,a,n)::l=>(k,qY id b s u x ks a,n)::pubE id b s u x ks l
def xp(id b s u:Nat) (x:Nat->SV) (ks:List Nat):AO->AO
 | .cells e fz g l=> .cells e fz g (pubL id b s u x ks l)
 | .map es c=> .map (pubE id b s u x ks es) c
 | .row e fz vs=> .row e fz vs
 | .mrow es c=> .mrow es c
 | .iter m s l c=> .iter m s l c
section
variable {I:In} {id b s u:Nat} {x:Nat->SV} {ks:List Nat}
def qas(hid:∀A C t,I id=some (A,C,t)->A=b/\C=s/\t=u) (hx:∀k y,k∈ks->I k=some y->x k=zn y):∀{l ms},MR I l ms->MR I (pubE id b s u x ks l) ms
 |_,_, .nil=> .nil
 |_,_, .cons h t=> .cons (FY hid hx h) (qas hid hx t)
def qf7(hid:∀G H t,I id=some (G,H,t)->G=b/\H=s/\t=u) (hx:∀k y,k∈ks->I k=some y->x k=zn y) {t o ob} (h:OR I t o ob):OR I t (xp id b s u x ks o) ob:=by
 cases h with
 |cells h N hp C A J=>exact .cells (pubL_ok hid hx h) N hp C A J
 |map h=>exact .map (qas hid hx h)
 |row hp C A=>exact .row hp C A
 |mrow=>exact .mrow
 |iter h hp=>exact .iter h hp
def qf8:∀o:AO,(xp id b s u x ks o).rw=o.rw
 | .cells _ none _ _=>rfl
 | .cells _ (some _) _ _=>rfl
 | .map .. =>rfl
 | .row .. =>rfl
 | .mrow .. =>rfl
 | .iter .. =>rfl
end
mutual
def zy(id:Nat):AV->List (Nat×Nat)->List (Nat×Nat)
  | .msl i len esz,acc=>match Nat.beq i id with
    |true=>(len,esz)::acc
    |false=>acc
  | .agg l,acc=>mocL id l acc
  | .tup l,acc=>mocL id l acc
  |_,acc=>acc
def mocL(id:Nat):List AV->List (Nat×Nat)->List (Nat×Nat)
 | [],acc=>acc
 |a::l,acc=>mocL id l (zy id a acc)
end
def VQ(id:Nat):List (Nat×AV)->List (Nat×Nat)
  | []=>[]
  | (_,a)::l=>match zy id a []with
    | []=>VQ id l
    |q::_=>[q]
section
variable {I:In} {id:Nat}
abbrev VJ(I:In) (id:Nat) (q:Nat×Nat):Prop:=∃u,VR I (.msl id q.1 q.2) u
mutual
def qaf:∀{a:AV} {v:Value},VR I a v->∀{acc:List (Nat×Nat)},(∀r∈acc,VJ I id r)->∀r∈zy id a acc,VJ I id r
  | .msl i len esz,v,u,acc,h=>by
    unfold zy;split
    · rename_i C;have e:=Nat.eq_of_beq_eq_true C;subst e;intro r hr;cases hr with
      |head=>exact⟨v,u⟩
      |tail _ hr=>exact h r hr
    · exact h
  | .agg l,v,u,acc,h=>by unfold zy;cases u with|agg A=>exact mocL_ok A h
  | .tup l,v,u,acc,h=>by unfold zy;cases u with|tup A=>exact mocL_ok A h
  | .bool _,_,_,_,h=>by unfold zy;exact h
  | .int _ _,_,_,_,h=>by unfold zy;exact h
  | .str _,_,_,_,h=>by unfold zy;exact h
  | .nilp,_,_,_,h=>by unfold zy;exact h
  | .ptr _ _,_,_,_,h=>by unfold zy;exact h
  | .nsl,_,_,_,h=>by unfold zy;exact h
  | .sl _ _ _ _,_,_,_,h=>by unfold zy;exact h
  | .gsl _ _ _ _,_,_,_,h=>by unfold zy;exact h
  | .nmap,_,_,_,h=>by unfold zy;exact h
  | .map _,_,_,_,h=>by unfold zy;exact h
  | .fn _ _,_,_,_,h=>by unfold zy;exact h
  | .nilf,_,_,_,h=>by unfold zy;exact h
  | .nili,_,_,_,h=>by unfold zy;exact h
  | .ifc _ _,_,_,_,h=>by unfold zy;exact h
  | .ifo,_,_,_,h=>by unfold zy;exact h
  | .anyi _,_,_,_,h=>by unfold zy;exact h
  | .lin _ _ _,_,_,_,h=>by unfold zy;exact h
  | .bfn _ _ _,_,_,_,h=>by unfold zy;exact h
  | .sv _,_,_,_,h=>by unfold zy;exact h
  | .tsl _,_,_,_,h=>by unfold zy;exact h
  | .ssl _ _ _ _ _,_,_,_,h=>by unfold zy;exact h
  | .usl _ _ _ _,_,_,_,h=>by unfold zy;exact h
  | .sptr _ _,_,_,_,h=>by unfold zy;exact h
  | .tpt _,_,_,_,h=>by unfold zy;exact h
  | .tmap _,_,_,_,h=>by unfold zy;exact h
def mocL_ok:∀{l:List AV} {vs:List Value},VRs I l vs->∀{acc:List (Nat×Nat)},(∀r∈acc,VJ I id r)->∀r∈mocL id l acc,VJ I id r
 | [],_,_,acc,h=>by unfold mocL;exact h
 |a::l,_,C,acc,h=>by unfold mocL;cases C with|cons u A=>exact mocL_ok A (qaf u h)
end
def qah{t:T AV} {A:Array Value} (u:TR I t A):∀{l:List (Nat×AV)},(∀k a,(k,a)∈l->t.get k=some a)->∀r∈VQ id l,VJ I id r
  | [],_,r,hr=>by cases hr
  | (k,a)::l,h,r,hr=>by
    unfold VQ at hr;split at hr
    · exact qah u (λk b hm=>h k b (List.mem_cons_of_mem _ hm)) r hr
    · rename_i q C hq;have:=qaf (id:=id) (u k a (h k a List.mem_cons_self)) (acc:=[]) (λr hr=>by cases hr) q (by rw[hq];simp);cases hr with
      |head=>exact this
      |tail _ hr=>cases hr
end
def JJ(vs:List Value) (b s u:Nat) (p:Pub):List (Nat×Nat)->Prop
 | []=>True
 |q::_=>qfv p (some ⟨b,s,none⟩) q.1 (u / q.2) (vs.take (q.1*q.2))
def qag{b s u:Nat} {p q:Pub} (hp:Pub.le p q):∀{l:List (Nat×Nat)},JJ vs b s u p l->JJ vs b s u q l
 | [],_=>trivial
 |r::l,h=>q48 hp h
def yM:List jx->List Nat
 | []=>[]
 |q::l=>q.2.2.2::yM l
def wL(vs:List Value) (x:Nat->SV) (p:Pub):List jx->Prop
 | []=>True
 | [q]=>qfv p (x q.2.2.2).1 q.2.1 (x q.2.2.2).2.2 (match q.1 with|0=>vs.take (q.2.1*q.2.2.1)|off=>(vs.drop off).take (q.2.1*q.2.2.1))
 |q::l=>qfv p (x q.2.2.2).1 q.2.1 (x q.2.2.2).2.2 (match q.1 with|0=>vs.take (q.2.1*q.2.2.1)|off=>(vs.drop off).take (q.2.1*q.2.2.1))/\wL vs x p l
def qam{vs:List Value} {x:Nat->SV} {p:Pub}:∀{l:List jx},(∀q∈l,qfv p (x q.2.2.2).1 q.2.1 (x q.2.2.2).2.2 ((vs.drop q.1).take (q.2.1*q.2.2.1)))->wL vs x p l
  | [],_=>trivial
  | [q],h=>by
    have:=h q (by simp);simp only[wL];split
    · rename_i u;rw[u]at this;exact this
    · exact this
  | q::r::l,h=>by
    have:=h q (by simp);refine⟨?_,qam λc A=>h c (by simp at A⊢;exact .inr A)⟩;split
    · rename_i u;rw[u]at this;exact this
    · exact this
def Sx{vs:List Value} {x:Nat->SV} {p q:Pub} (hp:Pub.le p q):∀{l:List jx},wL vs x p l->wL vs x q l
 | [],_=>trivial
 | [r],h=>q48 hp h
 |r::s::l,h=>⟨q48 hp h.1,Sx hp h.2⟩
def Np(id:Nat) (vs:List Value) (gl:GL) (t:T AV) (C:T AO) (K:GL->T AV->T AO->Prop) (A:List jx):List (Nat×Nat)->Prop
 | []=>∀b s u:Nat,Zj (yM A) Qt λx=>Ob (∃p,gl.pf p/\wL vs x p A)->K (gl.and (λp=>wL vs x p A) (λ_ _ hp h=>Sx hp h)) (jl (qY id b s u x (yM A)) t) (jl (xp id b s u x (yM A)) C)
 |q::l=>∀b s u:Nat,Zj (yM A) Qt λx=>Ob (∃p,gl.pf p/\wL vs x p A/\JJ vs b s u p (q::l))->K (gl.and (λp=>wL vs x p A/\JJ vs b s u p (q::l)) (λ_ _ hp h=>⟨Sx hp h.1,qag hp h.2⟩)) (jl (qY id b s u x (yM A)) t) (jl (xp id b s u x (yM A)) C)
def Ib(id:Nat) (gl:GL) (t:T AV) (h:T AO) (K:GL->T AV->T AO->Prop):Prop:=match h.get id with
  | some (.row e fz vs)=>match T.put 64 id none h with
    |some A=>Np id vs gl t A K (GI id (zU t) []) (VQ id (zU t))
    |none=>False
  | some (.cells e fz g l)=>match jL l with
    | some vs=>match T.put 64 id none h with
      |some A=>∀b s u:Nat,Ob (∃p,gl.pf p/\q2u p ⟨b,s,none⟩ vs)->K (gl.and (λp=>q2u p ⟨b,s,none⟩ vs) (λ_ _ hp h=>sV hp h)) (jl (qY id b s u Qt []) t) (jl (xp id b s u Qt []) A)
      |none=>False
    |none=>False
  | some (.mrow es c)=>match T.put 64 id none h with
    |some A=>∀b s u:Nat,Ob (∃p,gl.pf p/\p b=some (.map ⟨es⟩ c))->K (gl.and (λp=>p b=some (.map ⟨es⟩ c)) (λ_ _ hp h=>hp _ _ h)) (jl (qY id b s u Qt []) t) (jl (xp id b s u Qt []) A)
    |none=>False
  |_=>False
section
variable {F0:Bool->Nat->Prop} {I0:In} {nx0:Nat} {w0:World} {n:Nat}
def kC(F0:Bool->Nat->Prop) (I0:In) (nx0:Nat) (w0:World) (n:Nat) (I:In) (nx:Nat) (a:Act) (w:World) (tab:T AV) (K:GL->T AV->T AO->Prop):Prop:=∃gl t h F,gl.tab=tab/\K gl t h/\St gl F I t h n a w/\At F0 I0 nx0 w0 F I nx w
def qca{I:In} {id b s u:Nat} {x:Nat->SV} {ks:List Nat} (hid:∀C G t,I id=some (C,G,t)->C=b/\G=s/\t=u) (hx:∀k y,k∈ks->I k=some y->x k=zn y) {t:T AV} {H:Array Value} (h:TR I t H):TR I (jl (qY id b s u x ks) t) H:=λn a e=>by
 rw[FK]at e;cases A:t.get n with
 |none=>rw[A]at e;cases e
 |some c=>rw[A]at e;cases e;exact FY hid hx (h n c A)
variable {gl:GL} {F:Bool->Nat->Prop} {t:T AV} {nx:Nat} {a:Act} {w:World}
def Sz{u:Nat} {I:In} {h X:T AO} (st:St gl F I t h n a w) (C:At F0 I0 nx0 w0 F I nx w) {id:Nat} {o:AO} (hg:h.get id=some o) (hp:T.put 64 id none h=some X) {b s:Nat} {x:Nat->SV} {ks:List Nat} (hid:∀b' s' t,I id=some (b',s',t)->b'=b/\s'=s/\t=u) (hx:∀k y,k∈ks->I k=some y->x k=zn y)
  {f:Pub->Prop} {m:∀p q,Pub.le p q->f p->f q} (hrw:o.rw=true) {K:GL->T AV->T AO->Prop} (hf:f (q0x (λs c=>F s c\/(c=b/\∃y,I id=some y)) w)) (e:K (gl.and f m) (jl (qY id b s u x ks) t) (jl (xp id b s u x ks) X)):kC F0 I0 nx0 w0 n I nx a w gl.tab K:=by
 let F2:Bool->Nat->Prop:=λs c=>F s c\/(c=b/\∃y,I id=some y)
 have hpf:Pub.le (q0x F w) (q0x F2 w):=λc ob hb=>by rw[q03]at hb⊢;exact⟨.inl hb.1,hb.2⟩
 have Y:∀k q,X.get k=some q->h.get k=some q/\k≠id:=λk q A=>by
  rw[T.get_put _ _ _ _ _ hp]at A;split at A
  ·cases A
  ·rename_i hne;exact⟨A,hne⟩
 have back:∀k q,(jl (xp id b s u x ks) X).get k=some q->∃J,h.get k=some J/\k≠id/\q=xp id b s u x ks J:=λk q A=>by
  rw[FK]at A;cases N:X.get k with
  |none=>rw[N]at A;cases A
  |some J=>rw[N]at A;cases A;exact⟨J,(Y k J N).1,(Y k J N).2,rfl⟩
 have O:∀y,I id=some y->y.1=b:=λy H=>(hid y.1 y.2.1 y.2.2 H).1;refine⟨gl.and f m,_,_,F2,rfl,e,⟨qca hid hx st.tr,st.size,st.defers,⟨λk q c tt A V=> ?_,λk k' q J c tt tt' A hk' V hI'=> ?_,λk q c tt A V hF=> ?_⟩,λc G=> ?_,st.gok,λc G=>G.imp (st.zf c) λh=>h,⟨gl.mono _ _ hpf st.pf,hf⟩⟩,{C with sup:=λs c G=> .inl (C.sup s c G),sub:=λc G=>G.elim (C.sub c) λG=> .inr λh0=> ?_,frm:=C.frm}⟩
 ·obtain⟨J,U,Z,rfl⟩:=back k q A;obtain⟨ob,g3,g4⟩:=st.sim.obj _ _ _ _ U V;exact⟨ob,g3,qf7 hid hx g4⟩
 ·obtain⟨q1,U,_,_⟩:=back k q A;obtain⟨q2,Z,_,_⟩:=back k' J hk';exact st.sim.inj _ _ _ _ _ _ _ U Z V hI'
 ·obtain⟨J,U,Z,rfl⟩:=back k q A;rw[qf8];rcases hF with hF|⟨rfl,y,H⟩
  ·exact(st.sim.fr _ _ _ _ U V hF).imp (λh=>h) .inl
  ·have:=O y H;obtain⟨y1,y2⟩:=y;simp only at this;subst this;exact absurd (st.sim.inj _ _ _ _ _ _ _ U hg V H) Z
 ·rcases G with G|⟨rfl,y,H⟩
  ·exact st.low c G
  ·have:=O y H;obtain⟨y1,y2⟩:=y;simp only at this;subst this;obtain⟨ob,g3,_⟩:=st.sim.obj _ _ _ _ hg H;exact(Array.getElem?_eq_some_iff.1 g3).1
 ·obtain⟨rfl,y,H⟩:=G;have:=O y H;obtain⟨y1,y2⟩:=y;simp only at this;subst this;have:=(st.sim.fr _ _ _ _ hg H (C.sup true _ h0)).1;rw[hrw]at this;cases this
def Sw{q:jx}:∀{l:List jx},q∈l->q.2.2.2∈yM l
  | r::l,h=>by
    simp only[yM];cases h with
    |head=>exact List.mem_cons_self
    |tail _ h=>exact List.mem_cons_of_mem _ (Sw h)
def Sk{K L:(Nat->SV)->Prop} (h:∀x,K x->L x):∀(l:List Nat) (x:Nat->SV),Zj l x K->Zj l x L
 | [],x,e=>h x e
 |k::l,x,e=>λa n c=>Sk h l _ (e a n c)
variable {h:T AO} {K:GL->T AV->T AO->Prop}
def qf5 {I:In} {id:Nat} (e:Ib id gl t h K) (st:St gl F I t h n a w) (at0:At F0 I0 nx0 w0 F I nx w) (hid:(∃o,h.get id=some o/\o.rw=true)/\((∃e fz vs,h.get id=some (.row e fz vs))\/∃y,I id=some y)):kC F0 I0 nx0 w0 n I nx a w gl.tab K:=by
  obtain⟨⟨o,T,hrw⟩,hor⟩:=hid;unfold Ib at e;rw[T]at e;have all:∀y,I id=some y->∃ob,w.heap[y.1]? =some ob/\OR I y.2 o ob:=λy J=>by obtain⟨b,t⟩:=y;exact st.sim.obj _ _ _ _ T J
  cases o with
  | row el fz vs=>
    simp only at e;split at e;case h_2=>exact e.elim
    rename_i h1 hp;generalize hoc:GI id (zU t) []=Z at e;have hocc:∀q∈Z,xi I id q:=(by rw[←hoc];exact qan st.tr (λk a hm=>FF hm) λr hr=>by cases hr);have X:∀q∈VQ id (zU t),VJ I id q:=qah st.tr λk a hm=>FF hm;generalize hmc:VQ id (zU t)=mc at e X;obtain⟨A,C⟩:∃A:Nat×Nat×Nat,∀U s' t,I id=some (U,s',t)->U=A.1/\s'=A.2.1/\t=A.2.2:=by
      cases V:I id with
      |none=>exact⟨(0,0,0),λ_ _ _ h=>by cases h⟩
      |some y=>exact⟨y,λ_ _ _ h=>by cases h;exact⟨rfl,rfl,rfl⟩⟩
    have e:Zj (yM Z) Qt λx=>Ob (∃p,gl.pf p/\wL vs x p Z/\JJ vs A.1 A.2.1 A.2.2 p mc)->∃f m,(∀p,wL vs x p Z/\JJ vs A.1 A.2.1 A.2.2 p mc->f p)/\K (gl.and f m) (jl (qY id A.1 A.2.1 A.2.2 x (yM Z)) t) (jl (xp id A.1 A.2.1 A.2.2 x (yM Z)) h1):=by
      cases mc with
      | nil=>
        simp only[Np]at e;refine Sk (λx hx hp=> ?_) _ _ (e A.1 A.2.1 A.2.2);obtain⟨p,h1,h2,_⟩:=hp;exact⟨_,_,λp h=>h.1,hx ⟨p,h1,h2⟩⟩
      | cons q l=>
        simp only[Np]at e;exact Sk (λx hx hp=>⟨_,_,λp h=>h,hx hp⟩) _ _ (e A.1 A.2.1 A.2.2)
    obtain⟨x,e,hx,_⟩:=SI (λk=>match I k with|some y=>zn y|none=>(none,0,0)) _ _ e;have hx':∀k y,k∈yM Z->I k=some y->x k=zn y:=λk y O J=>by rw[hx k O];simp only[J]
    let F2:Bool->Nat->Prop:=λs c=>F s c\/(c=A.1/\∃y,I id=some y)
    have hfm:JJ vs A.1 A.2.1 A.2.2 (q0x F2 w) mc:=by
      cases mc with
      |nil=>trivial
      | cons q l=>
        obtain⟨u,hu⟩:=X q (by simp);cases hu with
        | @msl _ _ _ b s tt V g2 g3=>
          obtain⟨ob,Y,k2⟩:=all _ V;obtain⟨rfl,rfl,rfl⟩:=C _ _ _ V;refine⟨(Nat.le_div_iff_mul_le g3).2 g2, .inr ⟨_,rfl,rfl,λj v G=> ?_⟩⟩;cases k2 with
          | @row _ _ pre _ rest fr p1 p2 p3=>
            rw[kh];unfold q53;have:q0x F2 w A.1=some (.cells ⟨pre++(vs++rest)⟩ el fr):=q03.2 ⟨.inr ⟨rfl,_,V⟩,Y⟩;simp only[this,q9s,List.getElem?_toArray];rw[List.getElem?_take]at G;split at G
            · simp only at p1;rw[List.getElem?_append_right (by omega),List.getElem?_append_left (by have:=(List.getElem?_eq_some_iff.1 G).1;omega),←G];congr 1;omega
            · cases G
    have N : wL vs x (q0x F2 w) Z:=by
      refine qam λq hq=> ?_;obtain⟨u,hu⟩:=hocc q hq;cases hu with
      | @ssl _ _ _ _ _ b s tt c o y V g1 g2 g3 O hd=>
        rw[hx' _ _ (Sw hq) O,hd];obtain⟨ob,Y,k2⟩:=all _ V;obtain⟨rfl,rfl,rfl⟩:=C _ _ _ V;refine⟨g1,?_⟩;cases k2 with
        | @row _ _ pre _ rest fr p1 p2 p3=>
          by_cases hl:q.2.1*q.2.2.1=0
          · rw[hl];exact .inl ⟨by simp,trivial⟩
          · have hlen:0<q.2.1:=Nat.pos_of_ne_zero λh0=>hl (by rw[h0];simp);have T:o=A.2.1+q.1:=by
              rcases g3 with g3|g3
              · exact g3
              · omega
            refine .inr ⟨_,rfl,rfl,λj v G=> ?_⟩;rw[kh];unfold q53;have:q0x F2 w A.1=some (.cells ⟨pre++(vs++rest)⟩ el fr):=q03.2 ⟨.inr ⟨rfl,_,V⟩,Y⟩;simp only[this,q9s,List.getElem?_toArray];rw[List.getElem?_take]at G;split at G
            · rw[List.getElem?_drop]at G;simp only at p1;rw[T,List.getElem?_append_right (by omega),List.getElem?_append_left (by have:=(List.getElem?_eq_some_iff.1 G).1;omega),←G];congr 1;omega
            · cases G
      | @ssl0 _ _ _ _ _ y h0 O hd=>
        rw[hx' _ _ (Sw hq) O,hd];refine⟨by omega, .inl ⟨by rw[h0];simp,?_⟩⟩;exact trivial
    obtain⟨f,m,hff,e⟩:=e ⟨_,gl.mono _ _ (λc ob H=>by rw[q03]at H⊢;exact⟨.inl H.1,H.2⟩) st.pf,N,hfm⟩;exact Sz st at0 T hp C hx' hrw (hff _ ⟨N,hfm⟩) e
  | cells el fz g l=>
    simp only at e;split at e;case h_2=>exact e.elim
    rename_i vs hvs;split at e;case h_2=>exact e.elim
    rename_i h1 hp;obtain⟨y,J⟩:∃y,I id=some y:=by
      rcases hor with⟨_,_,_,h⟩|h
      · rw[T]at h;cases h
      · exact h
    obtain⟨b,s,tt⟩:=y;have C:∀U s' t,I id=some (U,s',t)->U=b/\s'=s/\t=tt:=λ_ _ _ h=>(by rw[J]at h;cases h;exact⟨rfl,rfl,rfl⟩);obtain⟨ob,Y,k2⟩:=all _ J;have N:q2u (q0x (λs c=>F s c\/(c=b/\∃y,I id=some y)) w) ⟨b,s,none⟩ vs:=λj v G=>by
      cases k2 with
      | @cells _ el' _ _ _ pre us rest fr h hg hp' ht N hE=>
        rw[Qk hvs h]at Y ht;rw[kh];unfold q53;have:q0x (λs c=>F s c\/(c=b/\∃y,I id=some y)) w b=some (.cells ⟨pre++(vs++rest)⟩ el' fr):=q03.2 ⟨.inr ⟨rfl,_,J⟩,Y⟩;simp only[this,q9s,List.getElem?_toArray];simp only at hp';rw[List.getElem?_append_right (by omega),List.getElem?_append_left (by have:=(List.getElem?_eq_some_iff.1 G).1;omega),←G];congr 1;omega
    exact Sz st at0 T hp C (λk y O=>by cases O) hrw N (e b s tt ⟨_,gl.mono _ _ (λc ob H=>by rw[q03]at H⊢;exact⟨.inl H.1,H.2⟩) st.pf,N⟩)
  | mrow es c=>
    simp only at e;split at e;case h_2=>exact e.elim
    rename_i h1 hp;obtain⟨y,J⟩:∃y,I id=some y:=by
      rcases hor with⟨_,_,_,h⟩|h
      · rw[T]at h;cases h
      · exact h
    obtain⟨b,s,tt⟩:=y;have C:∀U s' t,I id=some (U,s',t)->U=b/\s'=s/\t=tt:=λ_ _ _ h=>(by rw[J]at h;cases h;exact⟨rfl,rfl,rfl⟩);obtain⟨ob,Y,k2⟩:=all _ J;have N:(q0x (λs c=>F s c\/(c=b/\∃y,I id=some y)) w) b=some (.map ⟨es⟩ c):=(by cases k2;exact q03.2 ⟨.inr ⟨rfl,_,J⟩,Y⟩);exact Sz st at0 T hp C (λk y O=>by cases O) hrw N (e b s tt ⟨_,gl.mono _ _ (λc ob H=>by rw[q03]at H⊢;exact⟨.inl H.1,H.2⟩) st.pf,N⟩)
  |map es c=>exact e.elim
  |iter m s l c=>exact e.elim
def Qr(id:Nat) (gl:GL) (t:T AV) (h:T AO) (K:GL->T AV->T AO->Prop):Prop:=match h.get id with
  | some o=>match o.rw with
    |true=>Ib id gl t h K
    |false=>K gl t h
  |none=>K gl t h
def qh4(id:Nat) (h:T AO) (u:Prop) (K:T AO->Prop):Prop:=match h.get id with
  | some (.cells e (some fz) true l)=>match jL l with
    | some vs=>match T.put 64 id (some (.row e fz vs)) h with
      |some h'=>K h'
      |none=>u
    |none=>u
  |_=>u
def qcq{I:In} {h h':T AO} (s:Sim F I h w) {id:Nat} {e:TypeId} {fz:Nat} {l:List AV} {vs:List Value} (O:h.get id=some (.cells e (some fz) true l)) (hv:jL l=some vs) (hp:T.put 64 id (some (.row e fz vs)) h=some h'):Sim F I h' w:=by
  have u:=T.get_put _ _ _ _ _ hp;refine⟨λH o b t A C=> ?_,λH id2 o1 o2 b t1 t2 A C i1 i2=> ?_,λH o b t A C X=> ?_⟩
  · rw [u]at A;split at A
    · rename_i e1;subst e1;cases A;obtain⟨ob,k1,k2⟩:=s.obj _ _ _ _ O C;cases k2 with
      | cells hl _ V ht N G=>
        have:=Qk hv hl;subst this;rcases G with G|G
        · subst G;exact⟨_,k1, .row V ht (N fz rfl)⟩
        · cases G.1
    · exact s.obj _ _ _ _ A C
  · have J:∀k o,h'.get k=some o->∃o',h.get k=some o':=λk o U=>by
      rw[u]at U;split at U
      · rename_i e1;subst e1;exact⟨_,O⟩
      · exact⟨_,U⟩
    obtain⟨_,Y⟩:=J _ _ A;obtain⟨_,Z⟩:=J _ _ C;exact s.inj _ _ _ _ _ _ _ Y Z i1 i2
  · rw[u]at A;split at A
    · rename_i e1;subst e1;have:=(s.fr _ _ _ _ O C X).1;cases this
    · exact s.fr _ _ _ _ A C X
mutual
def wN:Nat->AV->GL->T AV->T AO->(GL->T AV->T AO->Prop)->Prop
  |0,_,gl,t,h,K=>K gl t h
  | f + 1,a,gl,t,h,K=>match a with
    | .ptr id _=>match h.get id with
      |some (.cells _ _ _ l)=>pubVs f l gl t h λgl t h=>Qr id gl t h K
      |_=>K gl t h
    | .sl id _ _ _=>match h.get id with
      |some (.cells _ _ _ l)=>pubVs f l gl t h λgl t h=>Qr id gl t h K
      |_=>K gl t h
    | .map id=>match h.get id with
      |some (.mrow _ _)=>Qr id gl t h K
      |_=>K gl t h
    | .ssl id _ len _ _=>match h.get id with
      |some (.row _ _ _)=>Qr id gl t h K
      | some (.cells _ _ _ l)=>match Nat.blt 0 len with
        |true=>pubVs f l gl t h λgl t h=>qh4 id h (K gl t h) λh=>Qr id gl t h K
        |false=>K gl t h
      |_=>K gl t h
    | .msl id _ _=>match h.get id with
      |some (.row _ _ _)=>Qr id gl t h K
      |_=>K gl t h
    | .agg l=>pubVs f l gl t h K
    | .tup l=>pubVs f l gl t h K
    |_=>K gl t h
def pubVs:Nat->List AV->GL->T AV->T AO->(GL->T AV->T AO->Prop)->Prop
 |_,[],gl,t,h,K=>K gl t h
 |0,_,gl,t,h,K=>K gl t h
 |f+1,a::l,gl,t,h,K=>wN f a gl t h λgl t h=>pubVs f l gl t h K
end
def kC.bind{I:In} {tab:T AV} {K L:GL->T AV->T AO->Prop} (p:kC F0 I0 nx0 w0 n I nx a w tab K) (H:∀gl t h F,gl.tab=tab->K gl t h->St gl F I t h n a w->At F0 I0 nx0 w0 F I nx w->kC F0 I0 nx0 w0 n I nx a w tab L):kC F0 I0 nx0 w0 n I nx a w tab L:=by obtain⟨gl,t,h,F,u,A,C,G⟩:=p;exact H gl t h F u A C G
def Wv{I:In} {id:Nat} (e:Qr id gl t h K) (st:St gl F I t h n a w) (u:At F0 I0 nx0 w0 F I nx w) (hid:(∃e fz vs,h.get id=some (.row e fz vs))\/∃y,I id=some y):kC F0 I0 nx0 w0 n I nx a w gl.tab K:=by
 unfold Qr at e;split at e
 ·rename_i o C;split at e
  ·rename_i A;exact qf5 e st u ⟨⟨o,C,A⟩,hid⟩
  ·exact⟨_,_,_,_,rfl,e,st,u⟩
 ·exact⟨_,_,_,_,rfl,e,st,u⟩
mutual
def qau {I:In} {nx:Nat} {a:Act} {w:World}:∀(f:Nat) (v:AV) {gl:GL} {F:Bool->Nat->Prop} {t:T AV} {h:T AO} {K:GL->T AV->T AO->Prop},wN f v gl t h K->St gl F I t h n a w->At F0 I0 nx0 w0 F I nx w->(∃u,VR I v u)->kC F0 I0 nx0 w0 n I nx a w gl.tab K
  |0,v,gl,F,t,h,K,e,st,A,U=>⟨_,_,_,_,rfl,by simpa[wN]using e,st,A⟩
  | f + 1, v, gl, F,t,h,K,e,st,A,⟨u,U⟩=>by
    have triv:K gl t h->kC F0 I0 nx0 w0 n I nx a w gl.tab K:=λe=>⟨_,_,_,_,rfl,e,st,A⟩;have C:∀id y,I id=some y->(match h.get id with
      |some (.cells _ _ _ l)=>pubVs f l gl t h λgl t h=>Qr id gl t h K
      |_=>K gl t h)->kC F0 I0 nx0 w0 n I nx a w gl.tab K:=λid y hy e=>by
      split at e
      · rename_i el fz g l N;obtain⟨b,tt⟩:=y;obtain⟨ob,k1,k2⟩:=st.sim.obj _ _ _ _ N hy;cases k2 with
        | cells O _ _ _ _ _=>
          refine kC.bind (pubVs_ok f l e st A ⟨_,O⟩) λY t2 h2 F2 V G J X=> ?_;have:=Wv G J X (.inr ⟨_,hy⟩);rw[V]at this;exact this
      · exact triv e
    cases v with
    | ptr id off=>
      simp only[wN]at e;cases U with|ptr H=>exact C id _ H e
    | sl id off len cap=>
      simp only[wN]at e;cases U with|sl H=>exact C id _ H e
    | map id=>
      simp only[wN]at e;cases U with
      | map H=>
        split at e
        · exact Wv e st A (.inr ⟨_,H⟩)
        · exact triv e
    | ssl id off len esz k=>
      simp only[wN]at e;split at e
      · rename_i el fz vs N;exact Wv e st A (.inl ⟨_,_,_,N⟩)
      · rename_i el fz g l N;split at e
        · rename_i hb;have h0:0<len:=(by simpa[Nat.blt_eq]using hb);cases U with
          | ssl H _ _ _ _ _=>
            obtain⟨ob,k1,k2⟩:=st.sim.obj _ _ _ _ N H;cases k2 with
            | cells O _ _ _ _ _=>
              refine kC.bind (pubVs_ok f l e st A ⟨_,O⟩) λY t2 h2 F2 V G J X=> ?_;unfold qh4 at G;split at G
              · rename_i e2 fz2 l2 hg2;split at G
                · rename_i vs2 Z;split at G
                  · rename_i h3 hp3;have st3:St Y F2 I t2 h3 n a w:={J with sim:=qcq J.sim hg2 Z hp3};have:=Wv G st3 X (.inr ⟨_,H⟩);rw[V]at this;exact this
                  · exact⟨_,_,_,_,V,G,J,X⟩
                · exact⟨_,_,_,_,V,G,J,X⟩
              · exact⟨_,_,_,_,V,G,J,X⟩
          |ssl0 hz _ _=>omega
        · exact triv e
      · exact triv e
    | msl id len esz=>
      simp only[wN]at e;split at e
      · rename_i el fz vs N;exact Wv e st A (.inl ⟨_,_,_,N⟩)
      · exact triv e
    | agg l=>
      simp only[wN]at e;cases U with|agg O=>exact pubVs_ok f l e st A ⟨_,O⟩
    | tup l=>
      simp only[wN]at e;cases U with|tup O=>exact pubVs_ok f l e st A ⟨_,O⟩
    |_=>simp only[wN]at e;exact triv e
def pubVs_ok{I:In} {nx:Nat} {a:Act} {w:World}:∀(f:Nat) (l:List AV) {gl:GL} {F:Bool->Nat->Prop} {t:T AV} {h:T AO} {K:GL->T AV->T AO->Prop},pubVs f l gl t h K->St gl F I t h n a w->At F0 I0 nx0 w0 F I nx w->(∃vs,VRs I l vs)->kC F0 I0 nx0 w0 n I nx a w gl.tab K
  |f,[],gl,F,t,h,K,e,st,u,A=>⟨_,_,_,_,rfl,by cases f<;>simpa[pubVs]using e,st,u⟩
  |0,b::l,gl,F,t,h,K,e,st,u,A=>⟨_,_,_,_,rfl,by simpa[pubVs]using e,st,u⟩
  | f +1,b::l,gl,F,t,h,K,e,st,u,⟨vs,A⟩=>by
    simp only[pubVs]at e;cases A with
    | cons O U=>
      refine kC.bind (qau f b e st u ⟨_,O⟩) λN t2 X V C G H J=> ?_;have:=pubVs_ok f l G H J ⟨_,U⟩;rw[C]at this;exact this
end
def Ic(a:AV) (gl:GL) (t:T AV) (h:T AO) (K:GL->T AV->T AO->Prop):Prop:=match a with
  | .ptr id _=>match h.get id with
    |some (.cells _ _ _ l)=>pubVs 200 l gl t h K
    |_=>K gl t h
  |_=>K gl t h
def qf6{I:In} {v:AV} (e:Ic v gl t h K) (st:St gl F I t h n a w) (A:At F0 I0 nx0 w0 F I nx w) (C:∃u,VR I v u):kC F0 I0 nx0 w0 n I nx a w gl.tab K:=by
  obtain⟨u,C⟩:=C;unfold Ic at e;split at e
  · rename_i id off;cases C with
    | ptr G=>
      split at e
      · rename_i O fz g l H;obtain⟨ob,T,N⟩:=st.sim.obj _ _ _ _ H G;cases N with
        |cells J _ _ _ _ _=>exact pubVs_ok 200 l e st A ⟨_,J⟩
      · exact⟨_,_,_,_,rfl,e,st,A⟩
  · exact⟨_,_,_,_,rfl,e,st,A⟩
def wM:List Nat->GL->T AV->T AO->(GL->T AV->T AO->Prop)->Prop
  | [],gl,t,h,K=>K gl t h
  | k ::l,gl,t,h,K=>match Nat.ble 1000000 k with
    | true=>match t.get (Nat.sub k 1000000)with
      |some a=>Ic a gl t h λgl t h=>wM l gl t h K
      |none=>wM l gl t h K
    | false=>match t.get k with
      |some a=>wN 200 a gl t h λgl t h=>wM l gl t h K
      |none=>wM l gl t h K
def Ze{I:In} {nx:Nat} {a:Act} {w:World}:∀(l:List Nat) {gl:GL} {F:Bool->Nat->Prop} {t:T AV} {h:T AO} {K:GL->T AV->T AO->Prop},wM l gl t h K->St gl F I t h n a w->At F0 I0 nx0 w0 F I nx w->kC F0 I0 nx0 w0 n I nx a w gl.tab K
  | [],gl,F,t,h,K,e,st,u=>⟨_,_,_,_,rfl,e,st,u⟩
  | k ::l,gl,F,t,h,K,e,st,u=>by
    simp only[wM]at e;split at e
    · split at e
      · rename_i b N;refine kC.bind (qf6 e st u ⟨_,st.tr _ b N⟩) λJ t2 U O A C G H=> ?_;have:=Ze l C G H;rw[A]at this;exact this
      · exact Ze l e st u
    · split at e
      · rename_i b N;refine kC.bind (qau 200 b e st u ⟨_,st.tr k b N⟩) λJ t2 U O A C G H=> ?_;have:=Ze l C G H;rw[A]at this;exact this
      · exact Ze l e st u
end
end
section
abbrev KK:=Kd->AV->Option AO->T AO->Nat->GS->Prop
abbrev jr:=GL->T AV->T AO->Nat->Oper->KK->Prop
def vq(P:O7) (hs:jr):Prop:=∀gl t h nx o K,hs gl t h nx o K->∃k v ob h' u g,KP gl P t h nx o k v ob g h' u/\K k v ob h' u g
abbrev jk:=GL->T AV->T AO->Oper->(AV->Prop)->Prop
def kD(P:O7) (hr:jk):Prop:=∀gl t h o K,hr gl t h o K->∃v,RP gl P t h o v/\K v
def xk:Bool->Bool->Bool
 |true,true=>true
 |false,false=>true
 |_,_=>false
def qe7(a b:Bool):xk a b=(a==b):=by cases a<;>cases b<;>rfl
variable {I:In} {t:T AV} {ops:Array Oper}
def Ju{o A:Oper} {a:Act} {j d:Nat} {want b:Bool} (J:o.guard=some (j,want)) (G:nth ops.toList j=some A) (hd:A.dst=some d) (h:Nat.blt d jE=true) (N:TR I t a.tmps) {av:AV} (O:t.get d=some av) (C:∀v,VR I av v->(match v with| .bool b=>some b|_=>none)=some b):
    Region.wanted o (yielded ops a.tmps)=xk b want:=by
  unfold Region.wanted;rw[J];have u:ops[j]? =some A:=by rw[jY]at G;simpa using G
  have T:yielded ops a.tmps j=match a.tmps[d]? with|some (.bool b)=>some b|_=>none:=by unfold yielded;rw[u];simp only[Option.bind_some,hd];rfl
  simp only;rw[T];have hr:=N d av O;rw[Zd (by simpa[Nat.blt_eq]using h),Array.getD_eq_getD_getElem?]at hr;cases hx:a.tmps[d]? with
  |none=>rw[hx]at hr;have:=C _ hr;simp[undef]at this
  | some v=>
    rw[hx]at hr;have:=C v hr;cases v with
    |bool H=>simp at this;subst this;cases H<;>cases want<;>rfl
    |_=>simp at this
def tM{o A:Oper} {a:Act} {j d:Nat} {want:Bool} (H:o.guard=some (j,want)) (C:nth ops.toList j=some A) (hd:A.dst=some d) (h:Nat.blt d jE=true) (J:TR I t a.tmps) {av:AV} (N:t.get d=some av) (G:∀b,av≠ .bool b) (hs:∀v,av≠ .sv v):
    Region.wanted o (yielded ops a.tmps)=false:=by
  unfold Region.wanted;rw[H];have u:ops[j]? =some A:=by rw[jY]at C;simpa using C
  have O:yielded ops a.tmps j=match a.tmps[d]? with|some (.bool b)=>some b|_=>none:=by unfold yielded;rw[u];simp only[Option.bind_some,hd];rfl
  simp only;rw[O];have hr:=J d av N;rw[Zd (by simpa[Nat.blt_eq]using h),Array.getD_eq_getD_getElem?]at hr;cases hx:a.tmps[d]? with
  |none=>rfl
  | some v=>
    rw[hx]at hr;cases v with
    | bool T=>cases hr with
      |bool=>exact absurd rfl (G _)
      |sv=>exact absurd rfl (hs _)
    |_=>rfl
def RK (ops:Array Oper) (o:Oper) (t:T AV) (K:Bool->T AV->Prop):Prop:=match o.guard with
  |none=>K true t
  | some (j,want)=>match nth ops.toList j with
    | some h =>match h.dst with
      | some d=>match Nat.blt d jE with
        | true=>match t.get d with
          |some (.bool b)=>K (xk b want) t
          | some (.sv (.bool b))=>match T.put 64 d (some (.bool true)) t with
            | some t1=>match T.put 64 d (some (.bool false)) t with
              |some t2=>(Ob (b=true)->K (xk true want) t1)/\(Ob (b=false)->K (xk false want) t2)
              |none=>False
            |none=>False
          |some (.sv _)=>False
          |some _=>K false t
          |none=>False
        |false=>False
      |none=>False
    |none=>False
def qb4{t A:T AV} {h:Array Value} {d:Nat} {b:Bool} (u:TR I t h) (G:t.get d=some (.sv (.bool b))) (hp:T.put 64 d (some (.bool b)) t=some A):TR I A h:=λn a e=>by
 rw[T.get_put _ _ _ _ _ hp]at e;split at e
 ·rename_i C;subst C;cases e;have:=u _ _ G;generalize slot h n=v at this⊢;cases this;exact .bool b
 ·exact u n a e
variable {o:Oper}
def qgh {K:Bool->T AV->Prop} (h:RK ops o t K):∃b U,SP ops o t b/\K b U/\∀I J,TR I t J->TR I U J:=by
 unfold RK at h;split at h
 ·rename_i G;exact⟨true,t,λI a u=>by unfold Region.wanted;rw[G],h,λ_ _ h=>h⟩
 ·rename_i j want G;split at h
  ·rename_i Y H;split at h
   ·rename_i d hd;split at h
    ·rename_i A;split at h
     ·rename_i b C;exact⟨_,t,λI a u=>Ju (b:=b) G H hd A u C λv r=>by cases r;rfl,h,λ_ _ h=>h⟩
     ·rename_i b C;split at h;case h_2=>exact h.elim
      rename_i t1 N;split at h;case h_2=>exact h.elim
      rename_i t2 O;cases b with
      |true=>exact⟨_,t1,λI a u=>Ju (b:=true) G H hd A u C λv r=>by cases r;rfl,h.1 rfl,λI J u=>qb4 u C N⟩
      |false=>exact⟨_,t2,λI a u=>Ju (b:=false) G H hd A u C λv r=>by cases r;rfl,h.2 rfl,λI J u=>qb4 u C O⟩
     ·exact h.elim
     ·rename_i av V _ X C;exact⟨_,t,λI a u=>tM G H hd A u C (λb e=>V b e) (λv e=>X v e),h,λ_ _ h=>h⟩
     ·exact h.elim
    ·exact h.elim
   ·exact h.elim
  ·exact h.elim
def GE(g:GS):List GD:=match g with
 |none=>[]
 |some d=>[d]
def qc6{g:GS} {d:GD} (h:d∈GE g):g=some d:=by
 cases g with
 |none=>simp[GE]at h
 |some e=>simp[GE]at h;rw[h]
abbrev kc:=GL->T AV->T AO->Nat->Oper->Option ((GL->AV->T AO->Nat->Prop)->Prop)
def sQ:kc:=λ_ _ _ _ _=>none
def ye(P:O7) (hx:kc):Prop:=∀gl t h nx o q (K:GL->AV->T AO->Nat->Prop),hx gl t h nx o=some q->q K->∃(B:Type) (r:B->AV) (h':B->T AO) (u:Nat) (pm:B->PF),(∀b,wK gl (pm b) λgl=>K gl (r b) (h' b) u)/\nx<=u/\
 ∀ (F:Bool->Nat->Prop) (I:In) (n:Nat) (a:Act) (w:World),St gl F I t h n a w->vn I nx u->∀(G:Act->World->Prop) (Q:Exit->Act->World->Prop),
  (∀b z A C,VR A (r b) z->Grow F I nx w A u (h' b) C->(pm b).ok (jF F w A (h' b) C)->G (a.put o.dst z) C)->o.wp P a w G Q
def qgp{P:O7}:ye P sQ:=λgl t h nx o q K e=>by cases e
def xq(hs:jr) (hx:kc) (n:Nat) (ops:Array Oper) (C:Nat->List Nat):Nat->List Oper->GL->T AV->T AO->Nat->KS->Prop
  |_,[],gl,t,h,nx,K=>K gl t h nx
  | i,o::l,gl,t,h,nx,K=>wM (C i) gl t h λgl t h=>RK ops o t λw t=>match w with
    | true=>match hx gl t h nx o with
      | some q=>q λgl v h' u=>match yP n o.dst v t with
        |some A=>xq hs hx n ops C (i+1) l gl A h' u K
        |none=>False
      | none=>hs gl t h nx o λk v ob h' u g=>match yP n o.dst v t with
        |some A=>xj (GE g) gl A h' u λgl t h nx=>xq hs hx n ops C (i+1) l gl t h nx K
        |none=>False
    | false=>match yP n o.dst yL t with
      |some A=>xq hs hx n ops C (i+1) l gl A h nx K
      |none=>False
section
variable {P:O7} {F0:Bool->Nat->Prop} {I0:In} {nx0:Nat} {w0:World} {n:Nat}
def Vt {hs :jr} {hx:kc} (ho:vq P hs) (hX:ye P hx) {ops:Array Oper} {pb:Nat->List Nat}:∀(l:List Oper) (is:List Nat) (m:Nat),is.map (λi=>ops[i]?)=l.map some->∀{gl:GL} {t:T AV} {h:T AO} {nx:Nat} {K:KS},xq hs hx n ops pb m l gl t h nx K->∀{F:Bool->Nat->Prop} {I:In} {a:Act} {w:World},GK gl.tab I0->St gl F I t h n a w->At F0 I0 nx0 w0 F I nx w->∀(Q:Exit->Act->World->Prop),
    (∀a' O,yN F0 I0 nx0 w0 n K a' O->Q .normal a' O)->wpOps P ops Q is a w
  | [],is,m,C,gl,t,h,nx,K,e,F,I,a,w,H,st,A,Q,hQ=>by have:is=[]:=(by simpa using C);subst this;exact hQ a w ⟨gl,t,h,nx,F,I,e,H,st,A⟩
  | o :: l, is, m,C,gl,t,h,nx,K,e,F,I,a,w,H,st,A,Q,hQ=>by
    cases is with
    |nil=>simp at C
    | cons i is =>
      simp only[List.map_cons,List.cons.injEq]at C;obtain⟨hoi,C⟩:=C;rw[wpOps_cons];simp only[xq]at e;obtain⟨J,t0,h0,N,U,e,st,A⟩:=Ze _ e st A;have H:GK J.tab I0:=(by rw[U];exact H);clear U;obtain⟨b,t1,hg,e,htr⟩:=qgh e;unfold wpOp;simp only[hoi,hg I a st.tr];have st:St J N I t1 h0 n a w:={st with tr:=htr I _ st.tr};cases b with
      | true=>
        simp only at e;split at e
        · rename_i q hq;obtain⟨B,r,h',nx',pm,eb,hle,hact⟩:=hX _ _ _ _ _ _ _ hq e;simp only[if_true];refine .inl (hact N I n a w st (A.freshR _) _ Q λb z I' O hz u hpm=> ?_);have e:=eb b;obtain⟨V,hp⟩:∃V,yP n o.dst (r b) t1=some V:=by
            cases hp:yP n o.dst (r b) t1 with
            |some V=>exact⟨V,rfl⟩
            | none=>
              have hpf:(pm b).ok (q0x (λs x=>N s x\/(¬N true x/\x<O.heap.size/\¬Own (h' b) I' x)) O):=PF.ok_mono (λx o G=>by rw[yK]at G;rw[q03];exact⟨G.1.imp (λh=>h) λh=>⟨h.1,(Array.getElem?_eq_some_iff.1 G.2).1,h.2⟩,G.2⟩) hpm;have hgp:J.pf (q0x (λs x=>N s x\/(¬N true x/\x<O.heap.size/\¬Own (h' b) I' x)) O):=by have:q0x N O=q0x N w:=Wh (w:=w) λb G=>u.fr b (st.zf b G);refine J.mono _ _ (λx o G=> ?_) st.pf;rw[←this,q03]at G;rw[q03];exact⟨.inl G.1,G.2⟩
              have:=Jw e hgp hpf;rw[hp]at this;exact this.elim
          simp only[hp]at e;obtain⟨p1,p2,p3⟩:=SY (z:=z) hp (st.tr.mono u.le) st.size hz;have Z:St J N I' V (h' b) n (a.put o.dst z) O:=⟨p1,p2,p3.trans st.defers,u.sim,λb G=>Nat.lt_of_lt_of_le (st.low b G) u.size,st.gok.mono u.le,st.zf,by rw[Wh (w:=w) λb G=>u.fr b (st.zf b G)];exact st.pf⟩;obtain⟨gl2,t2,h2,nx2,F2,I2,e2,Y,st2,X⟩:=qfc (K:=λgl t h nx=>xq hs hx n ops pb (m+1) l gl t h nx K) e Z u hle A H hpm;exact Vt ho hX l is (m+1) C e2 Y st2 X Q hQ
        obtain⟨k,v,ob,h',nx',g,hk,e⟩:=ho _ _ _ _ _ _ e;split at e
        · rename_i V hp;simp only[if_true];refine .inl (hk.act.2 N I n a w st (A.freshR _) _ Q λz I' O hz u hgi=> ?_);obtain⟨p1,p2,p3⟩:=SY (z:=z) hp (st.tr.mono u.le) st.size hz;have Z:St J N I' V h' n (a.put o.dst z) O:=⟨p1,p2,p3.trans st.defers,u.sim,λb G=>Nat.lt_of_lt_of_le (st.low b G) u.size,st.gok.mono u.le,st.zf,by rw[Wh (w:=w) λb G=>u.fr b (st.zf b G)];exact st.pf⟩;obtain⟨gl2,t2,h2,nx2,F2,I2,e2,Y,st2,X⟩:=tR e Z u hk.act.1 A H λd hd=>(by rw[←qc6 hd];exact hgi);exact Vt ho hX l is (m+1) C e2 Y st2 X Q hQ
        · exact e.elim
      | false=>
        simp only at e;split at e
        · rename_i V hp;simp only[Bool.false_eq_true,if_false];obtain⟨p1,p2,p3⟩:=SY (z:=undef) hp st.tr st.size (Zc I);exact Vt ho hX l is (m+1) C e H ⟨p1,p2,p3.trans st.defers,st.sim,st.low,st.gok,st.zf,st.pf⟩ A Q hQ
        · exact e.elim
end
structure GT where
 b:Bool
 v:Bool
 h:b=v
def qgm(d:Nat):List (Nat×GT)->Option GT
  | []=>none
  | (e,g)::l=>match Nat.beq d e with
    |true=>some g
    |false=>qgm d l
def RJ (ops:Array Oper) (o:Oper) (t:T AV) (D:List (Nat×GT)) (K:Bool->List (Nat×GT)->Prop):Prop:=match o.guard with
  |none=>K true D
  | some (j,want)=>match nth ops.toList j with
    | some u=>match u.dst with
      | some d=>match Nat.blt d jE with
        | true=>match t.get d with
          |some (.bool b)=>K (xk b want) D
          | some (.sv (.bool b))=>match qgm d D with
            |some g=>Ob (b=g.b)/\K (xk g.v want) D
            |none=>(∀h:Ob (b=true),K (xk true want) ((d,⟨b,true,h⟩)::D))/\(∀h:Ob (b=false),K (xk false want) ((d,⟨b,false,h⟩)::D))
          |some (.sv _)=>False
          |some _=>K false D
          |none=>False
        |false=>False
      |none=>False
    |none=>False
def qgg {D :List (Nat×GT)} {K:Bool->List (Nat×GT)->Prop} (h:RJ ops o t D K):∃b J,SP ops o t b/\K b J:=by
 unfold RJ at h;split at h
 ·rename_i C;exact⟨true,D,λI a A=>by unfold Region.wanted;rw[C],h⟩
 ·rename_i j want C;split at h
  ·rename_i U H;split at h
   ·rename_i d hd;split at h
    ·rename_i u;split at h
     ·rename_i b G;exact⟨_,D,λI a A=>Ju (b:=b) C H hd u A G λv r=>by cases r;rfl,h⟩
     ·rename_i b G;split at h
      ·rename_i g T;obtain⟨e,h⟩:=h;have e:b=g.v:=Eq.trans e g.h;exact⟨_,D,λI a A=>Ju (b:=g.v) C H hd u A G λv r=>by cases r;rw[e],h⟩
      ·cases b with
       |true=>exact⟨_,_,λI a A=>Ju (b:=true) C H hd u A G λv r=>by cases r;rfl,h.1 rfl⟩
       |false=>exact⟨_,_,λI a A=>Ju (b:=false) C H hd u A G λv r=>by cases r;rfl,h.2 rfl⟩
     ·exact h.elim
     ·rename_i av N _ O G;exact⟨_,D,λI a A=>tM C H hd u A G (λb e=>N b e) (λv e=>O v e),h⟩
     ·exact h.elim
    ·exact h.elim
   ·exact h.elim
  ·exact h.elim
def Zp(hs:jr) (n:Nat) (ops:Array Oper) (gl:GL):List Oper->List (Nat×GT)->T AV->T AO->Nat->(List Rc->T AV->T AO->Nat->Prop)->Prop
  | [],D,t,h,nx,K=>K [] t h nx
  | o ::l,D,t,h,nx,K=>match Qn t (slotsOf ops o) .e with
    | some tr=>RJ ops o tr D λw D=>match w with
      | true=>hs gl tr h nx o λk v ob h' C g=>match yP n o.dst v t with
        |some G=>Zp hs n ops gl l D G h' C λrs t2 A u=>K (⟨o,true,k,tr,v,ob,nx,h,g⟩::rs) t2 A u
        |none=>False
      | false=>match yP n o.dst yL t with
        |some G=>Zp hs n ops gl l D G h nx λrs t2 A u=>K (⟨o,false, .q,tr,yL,none,nx,h,none⟩::rs) t2 A u
        |none=>False
    |none=>False
def qaz{P:O7} {hs:jr} (ho:vq P hs) {n:Nat} {ops:Array Oper} {gl:GL}:∀(l:List Oper) {D:List (Nat×GT)} {t:T AV} {h:T AO} {nx:Nat} {K:List Rc->T AV->T AO->Nat->Prop},Zp hs n ops gl l D t h nx K->
    ∃ rs G h' u,K rs G h' u/\∃(Tt:Nat->T AV) (H:Nat->T AO) (X:Nat->Nat),Tt 0=t/\H 0=h/\X 0=nx/\Tt l.length=G/\H l.length=h'/\X l.length=u/\rs.length=l.length/\
      ∀i o c,l[i]? =some o->rs[i]? =some c->c.o=o/\WA gl P n ops c (Tt i) (H i) (X i) (Tt (i+1)) (H (i+1)) (X (i+1))
  | [],D,t,h,nx,K,e=>⟨[],t,h,nx,e,λ_=>t,λ_=>h,λ_=>nx,rfl,rfl,rfl,rfl,rfl,rfl,rfl,λi o c C=>by simp at C⟩
  | o ::l,D,t,h,nx,K,e=>by
    have fin:∀(c:Rc) J t1 C A (V:List Rc->T AV->T AO->Nat->Prop),c.o=o->WA gl P n ops c t h nx t1 C A->Zp hs n ops gl l J t1 C A V->(∀rs t h nx,V rs t h nx->K (c::rs) t h nx)->∃rs G h' u,K rs G h' u/\∃(Tt:Nat->T AV) (H:Nat->T AO) (X:Nat->Nat),Tt 0=t/\H 0=h/\X 0=nx/\Tt (o::l).length=G/\H (o::l).length=h'/\X (o::l).length=u/\rs.length=(o::l).length/\
      ∀i U c,(o::l)[i]? =some U->rs[i]? =some c->c.o=U/\WA gl P n ops c (Tt i) (H i) (X i) (Tt (i+1)) (H (i+1)) (X (i+1)):=by
      intro c J t1 C A V hco hst N hK;obtain⟨rs,G,h',u,hk',Tt,H,X,a1,a2,a3,a4,a5,a6,a7,a8⟩:=qaz ho l N;refine⟨c::rs,G,h',u,hK _ _ _ _ hk',λi=>match i with|0=>t|i+1=>Tt i,λi=>match i with|0=>h|i+1=>H i,λi=>match i with|0=>nx|i+1=>X i,rfl,rfl,rfl,a4,a5,a6,by simp[a7],?_⟩;intro i U c' Y Z;cases i with
      | zero=>
        simp at Y Z;subst Y Z;simp only[a1,a2,a3];exact⟨hco,hst⟩
      |succ i=>exact a8 i U c' (by simpa using Y) (by simpa using Z)
    simp only[Zp]at e;split at e
    · rename_i tr O;obtain⟨b,J,hg,e⟩:=qgg e;cases b with
      | true=>
        simp only at e;obtain⟨k,v,ob,C,A,g,hk,e⟩:=ho _ _ _ _ _ _ e;split at e
        · rename_i t1 hp;exact fin _ J t1 C A _ rfl ⟨rfl,rfl,O,hp,hg,λ_=>hk,λhw=>by cases hw⟩ e λ_ _ _ _ h=>h
        · exact e.elim
      | false=>
        simp only at e;split at e
        · rename_i t1 hp;exact fin _ J t1 h nx _ rfl ⟨rfl,rfl,O,hp,hg,(λhw=>by cases hw),λ_=>⟨rfl,rfl,rfl,GS.triv_nil⟩⟩ e λ_ _ _ _ h=>h
        · exact e.elim
    · exact e.elim
end
section
def vU:List Rc->Nat->Option Rc
 | [],_=>none
 |a::_,0=>some a
 |_::l,n+1=>vU l n
def Vs:∀(l:List Rc) (n:Nat),vU l n=l[n]?
 | [],n=>by simp[vU]
 |a::l,0=>by simp[vU]
 |a::l,n+1=>by simp[vU,Vs l n]
def xg(rs:List Rc) (u:T AO) (e:Nat):T AO:=match vU rs e with
 |some c=>c.h
 |none=>u
def YQ(a b:AV) (K:Prop):Prop:=match N5 a b with
 |true=>K
 |false=>Ob (a=b)/\K
variable {K:Prop}
def S'{a b:AV} (h:YQ a b K):a=b/\K:=by
 unfold YQ at h;split at h
 ·rename_i e;exact⟨qem e,h⟩
 ·exact h
def F4(hr:jk) (gl:GL) (c:Rc) (rs:List Rc) (h:T AO):List Nat->Prop->Prop
 | [],K=>K
 |e::es,K=>hr gl c.t (xg rs h e) c.o λv=>YQ v c.v (F4 hr gl c rs h es K)
def Ql(hr:jk) (gl:GL) (l:List Oper) (A:List Nat) (rs:List Rc) (h:T AO):List Nat->Prop->Prop
  | [],K=>K
  | i ::is,K=>match vU rs i with
    | some c=>match c.w with
      | true=>match c.k with
        | .r=>F4 hr gl c rs h (others l A i) (Ql hr gl l A rs h is K)
        |_=>Ql hr gl l A rs h is K
      |false=>Ql hr gl l A rs h is K
    |none=>False
def NI (l:List Oper) (rs:List Rc) (h:T AO):Bool:=jZ l.length λi=>match vU rs i with
  |none=>false
  | some c=>match c.w with
    | true=>match c.k with
      | .a=>jZ (i+1) λe=>match VP l e with
        | true=>match(xg rs h e).get c.nx with
          |none=>true
          |some _=>false
        |false=>true
      |_=>true
    |false=>true
def tb{P:O7} {hr:jk} (ok:kD P hr) {gl:GL} {c:Rc} {rs:List Rc} {u:T AO}:∀{es:List Nat} {K:Prop},F4 hr gl c rs u es K->(∀e∈es,RP gl P c.t (xg rs u e) c.o c.v)/\K
  | [],K,h=>⟨λe he=>(by cases he),h⟩
  | e ::es,K,h=>by
    simp only[F4]at h;obtain⟨v,C,G⟩:=ok _ _ _ _ _ h;obtain⟨rfl,H⟩:=S' G;obtain⟨J,N⟩:=tb ok H;exact⟨λA he=>by
      cases he with
      |head=>exact C
      |tail _ he=>exact J A he,N⟩
def tc{P:O7} {hr:jk} (ok:kD P hr) {gl:GL} {l:List Oper} {A:List Nat} {rs:List Rc} {G:T AO}:∀{is:List Nat} {K:Prop},Ql hr gl l A rs G is K->(∀i∈is,∀c,vU rs i=some c->c.w=true->c.k= .r->∀e∈others l A i,RP gl P c.t (xg rs G e) c.o c.v)/\K
  | [],K,h=>⟨λe he=>(by cases he),h⟩
  | i ::is,K,h=>by
    simp only[Ql]at h;split at h
    · rename_i c N;have rest:(∀C,vU rs i=some C->C.w=true->C.k= .r->∀e∈others l A i,RP gl P C.t (xg rs G e) C.o C.v)->Ql hr gl l A rs G is K->(∀j∈i::is,∀c,vU rs j=some c->c.w=true->c.k= .r->∀e∈others l A j,RP gl P c.t (xg rs G e) c.o c.v)/\K:=λV J=>by
        obtain⟨Y,Z⟩:=tc ok J;exact⟨λj O=>by
          cases O with
          |head=>exact V
          |tail _ O=>exact Y j O,Z⟩
      split at h
      · split at h
        · obtain⟨J,X⟩:=tb ok h;exact rest (λC u _ _=>by rw[N]at u;cases u;exact J) X
        · rename_i hw U;exact rest (λC u _ hk=>by rw[N]at u;cases u;exact absurd hk U) h
      · rename_i hw;exact rest (λC u H _=>by rw[N]at u;cases u;rw[hw]at H;cases H) h
    · exact h.elim
def Qh:List Rc->List GD
  | []=>[]
  | c::l=>match c.g with
    |none=>Qh l
    |some d=>d::Qh l
def Sc:∀{l:List Rc} {d:GD},d∈Qh l->∃(j:Nat) (c:Rc),l[j]? =some c/\c.g=some d
  | c ::l,d,h=>by
    simp only[Qh]at h;split at h
    · rename_i G;obtain⟨j,u,A,C⟩:=Sc h;exact⟨j+1,u,by simpa using A,C⟩
    · rename_i e G;cases h with
      |head=>exact⟨0,c,rfl,G⟩
      | tail _ h=>
        obtain⟨j,u,A,C⟩:=Sc h;exact⟨j+1,u,by simpa using A,C⟩
def F9:List Rc->Bool
  | []=>true
  | c ::l=>(match c.w with
    | true=>match c.k with
      | .r=>Qc c.o
      |_=>true
    |false=>true)&&F9 l
def qac{l:List Rc} (h:F9 l=true):∀(k:Nat) (c:Rc),l[k]? =some c->c.w=true->c.k= .r->Qc c.o=true:=by
  induction l with
  |nil=>intro k c u;simp at u
  | cons a l C=>
    intro k c u hw A;unfold F9 at h;rw[Bool.and_eq_true]at h;cases k with
    | zero=>
      have u:a=c:=(by simpa using u);subst u;have:=h.1;rw[hw,A]at this;exact this
    |succ k=>exact C h.2 k c (by simpa using u) hw A
def Gu (hs:jr) (gl:GL) (c:Rc) (h:T AO) (K:T AO->Prop):Prop:=match c.w with
  | true=>match c.g with
    | none=>hs gl c.t h c.nx c.o λk v ob B u g=>match k with
      | .s=>match g with
        | none=>match Nat.beq u c.nx with
          |true=>YQ v c.v (K B)
          |false=>False
        |some _=>False
      |_=>False
    |some _=>False
  |false=>False
def FS{P:O7} {hs:jr} (H:vq P hs) {gl:GL} {c:Rc} {h:T AO} {K:T AO->Prop} (e:Gu hs gl c h K):c.w=true/\c.g=none/\∃B,K B/\wG gl P c.t h c.nx c.o none c.v B c.nx:=by
 unfold Gu at e;split at e;case h_2=>exact e.elim
 rename_i hw;split at e;case h_2=>exact e.elim
 rename_i C;obtain⟨k,v,ob,B,N,g,G,e⟩:=H _ _ _ _ _ _ e;split at e;case h_2=>exact e.elim
 split at e;case h_2=>exact e.elim
 split at e;case h_2=>exact e.elim
 rename_i u;obtain⟨J,e2⟩:=S' e;have u:=Nat.eq_of_beq_eq_true u;subst u;have A:=G.act;rw[J]at A;exact⟨hw,C,B,e2,A⟩
def Xu(a b:AV) (K:Prop):Prop:=match a,b with
  | .sv v, .sv u=>Ob (v=u)/\K
  | .ssl i o n e k, .ssl j p m f l=>match Nat.beq i j&&(Nat.beq o p&&(Nat.beq e f&&Nat.beq k l))with
    |true=>Ob (n=m)/\K
    |false=>False
  |a,b=>YQ a b K
def qg3{a b:AV} (h:Xu a b K):a=b/\K:=by
 unfold Xu at h;split at h
 ·rw[h.1];exact⟨rfl,h.2⟩
 ·split at h;case h_2=>exact h.elim
  rename_i u;simp only[Bool.and_eq_true]at u;have A:=Nat.eq_of_beq_eq_true u.1;have C:=Nat.eq_of_beq_eq_true u.2.1;have G:=Nat.eq_of_beq_eq_true u.2.2.1;have H:=Nat.eq_of_beq_eq_true u.2.2.2;rw[A,C,G,H,h.1];exact⟨rfl,h.2⟩
 ·exact S' h
def Gz:List AV->List AV->Prop->Prop
 | [],[],K=>K
 |a::l,b::m,K=>Xu a b (Gz l m K)
 |_,_,_=>False
def q9l:∀{l m:List AV} {K:Prop},Gz l m K->l=m/\K
  | [],[],K,h=>⟨rfl,h⟩
  | a::l,b::m,K,h=>by obtain⟨rfl,u⟩:=qg3 (show Xu a b (Gz l m K)from h);obtain⟨rfl,A⟩:=q9l u;exact⟨rfl,A⟩
  | [],b::m,K,h=>h.elim
  |a::l,[],K,h=>h.elim
def RC(a b:AO) (K:Prop):Prop:=match a,b with
  | .cells e f g l, .cells h u A m=>match Nat.beq e h&&(decide (f=u)&&(g==A))with
    |true=>Gz l m K
    |false=>False
  | .row e f l, .row h u m=>match Nat.beq e h&&Nat.beq f u with
    |true=>Ob (l=m)/\K
    |false=>False
  | .map [] c, .map [] d=>match Nat.beq c d with
    |true=>K
    |false=>False
  |a,b=>Ob (a=b)/\K
def qfz{a b:AO} (h:RC a b K):a=b/\K:=by
 unfold RC at h;split at h
 ·split at h;case h_2=>exact h.elim
  rename_i u;simp only[Bool.and_eq_true,decide_eq_true_eq,beq_iff_eq]at u;obtain⟨A,C,G⟩:=u;have A:=Nat.eq_of_beq_eq_true A;obtain⟨H,J⟩:=q9l h;rw[A,C,G,H];exact⟨rfl,J⟩
 ·split at h;case h_2=>exact h.elim
  rename_i u;simp only[Bool.and_eq_true]at u;have A:=Nat.eq_of_beq_eq_true u.1;have C:=Nat.eq_of_beq_eq_true u.2;rw[A,C,h.1];exact⟨rfl,h.2⟩
 ·split at h;case h_2=>exact h.elim
  rename_i u;rw[Nat.eq_of_beq_eq_true u];exact⟨rfl,h⟩
 ·exact h
def JM:T AO->T AO->Prop->Prop
  | .e, .e,K=>K
  | .n l v r, .n h A u,K=>match v,A with
    |none,none=>JM l h (JM r u K)
    |some a,some b=>RC a b (JM l h (JM r u K))
    |_,_=>False
  |_,_,_=>False
def VI:∀{t u:T AO} {K:Prop},JM t u K->t=u/\K
  | .e, .e,K,h=>⟨rfl,h⟩
  | .e, .n l v r,K,h=>h.elim
  | .n l v r, .e,K,h=>h.elim
  | .n l v r, .n H N J,K,h=>by
    simp only[JM]at h;split at h
    · obtain⟨rfl,A⟩:=VI h;obtain⟨rfl,C⟩:=VI A;exact⟨rfl,C⟩
    · obtain⟨rfl,G⟩:=qfz h;obtain⟨rfl,A⟩:=VI G;obtain⟨rfl,C⟩:=VI A;exact⟨rfl,C⟩
    · exact h.elim
def Gr(hs:jr) (gl:GL) (rs:List Rc) (u:T AO) (p q:Nat) (K:Prop):Prop:=match vU rs p with
  | some ci=>match vU rs q with
    | some cj=>match F9 rs with
      |true=>Gu hs gl cj ci.h λB=>Gu hs gl ci B λh=>JM h (xg rs u (q+1)) K
      |false=>False
    |none=>False
  |none=>False
def Gh (P:O7) (hs:jr) (hr:jk) (n:Nat) (ops:Array Oper) (G:List Nat) (gl:GL) (t:T AV) (h:T AO) (nx:Nat) (K:KS):Prop:=wM G gl t h λgl t h=>match vT ops.toList 0 []with
  | some A=>match VH P ops A none with
    | true=>Zp hs n ops gl ops.toList [] t h nx λrs C h' u=>match NI ops.toList rs h' with
      |true=>Ql hr gl ops.toList A rs h' (List.range ops.toList.length) (xj (Qh rs) gl C h' u K)
      |false=>False
    | false=>match qdg P ops A with
      | some (p,q)=>match VH P ops A (some (p,q))&&FP P ops A p q with
        | true=>Zp hs n ops gl ops.toList [] t h nx λrs C h' u=>match NI ops.toList rs h' with
          |true=>Ql hr gl ops.toList A rs h' (List.range ops.toList.length) (Gr hs gl rs h' p q (xj (Qh rs) gl C h' u K))
          |false=>False
        |false=>False
      |none=>False
  |none=>False
section
variable {P:O7} {F0:Bool->Nat->Prop} {I0:In} {nx0:Nat} {w0:World} {n:Nat}
variable {hs:jr} {hr:jk}
def tf(ho:vq P hs) (ok:kD P hr) {ops:Array Oper} {pb:List Nat} {gl:GL} {t:T AV} {h:T AO} {nx:Nat} {K:KS} (e:Gh P hs hr n ops pb gl t h nx K) {F:Bool->Nat->Prop} {I:In} {a:Act} {w:World} (hg0:GK gl.tab I0) (st:St gl F I t h n a w) (U:At F0 I0 nx0 w0 F I nx w) (Q:Exit->Act->World->Prop)
    (hQ:∀a' w',yN F0 I0 nx0 w0 n K a' w'->Q .normal a' w') {w':World} {d:Nat} (hw':w'={w with drawn:=d}):wpAny P .any ops Q ops.size (Array.replicate ops.size false) a w':=by
  subst hw';unfold Gh at e;obtain⟨u,t0,h0,F1,Z,e,st,U⟩:=Ze _ e st U;have hg0:GK u.tab I0:=by rw[Z];exact hg0
  clear Z;split at e;case h_2=>exact e.elim
  rename_i A hA;have fin:∀(pr:vS),VH P ops A pr=true->(Zp hs n ops u ops.toList [] t0 h0 nx λrs t' h' V=>match NI ops.toList rs h' with
      | true=>Ql hr u ops.toList A rs h' (List.range ops.toList.length) (match pr with
        |some (p,q)=>Gr hs u rs h' p q (xj (Qh rs) u t' h' V K)
        |none=>xj (Qh rs) u t' h' V K)
      |false=>False)->(∀p q,pr=some (p,q)->FP P ops A p q=true)->wpAny P .any ops Q ops.size (Array.replicate ops.size false) a {w with drawn:=d}:=by
    intro pr C e N;obtain⟨rs,t',h',V,e,Tt,H,X,a1,a2,a3,a4,a5,a6,a7,a8⟩:=qaz ho _ e;split at e;case h_2=>exact e.elim
    rename_i hfree;obtain⟨hag,e⟩:=tc ok e;have O:ops.toList.length=ops.size:=(by simp);rw[O]at a4 a5 a6 a7;have hat:∀e,e<=ops.size->xg rs h' e=H e:=λe he=>by
      unfold xg;by_cases hlt:e<ops.size
      · have h1:ops.toList[e]? =some ops[e]:=(by simp[hlt]);have Y:rs[e]? =some (rs[e]'(by rw[a7];exact hlt)):=List.getElem?_eq_getElem _;rw[Vs,Y];exact(a8 e _ _ h1 Y).2.1
      · have:e=ops.size:=(by omega);subst this;rw[Vs,List.getElem?_eq_none (by rw[a7];exact Nat.le_refl _)];exact a5.symm
    have x:Text u P n ops A pr rs Tt H X:={
      hA:=hA,st:=C,len:=a7
      step:=λi o c Y G=>a8 i o c (by simpa using Y) G
      free:=λi c e' hc hw J he hep=>by
        have hi:i<ops.size:=by have:=(List.getElem?_eq_some_iff.1 hc).1;rw[a7]at this;exact this
        have hf:=vP hfree i (by rw[O];exact hi);have hn:vU rs i=some c:=(by rw[Vs];exact hc);simp only[hn,hw,J]at hf;have:=vP hf e' (by omega);simp only[hep]at this;rw[hat e' (by omega)]at this;split at this
        · rename_i hg;exact hg
        · cases this
      again:=λi c e' hc hw J he hot=>by
        have hi:i<ops.size:=by have:=(List.getElem?_eq_some_iff.1 hc).1;rw[a7]at this;exact this
        have hn:vU rs i=some c:=(by rw[Vs];exact hc);have hmem:e'∈others ops.toList A i:=List.mem_filter.2 ⟨List.mem_range.2 (by rw[O];omega),hot⟩;have:=hag i (List.mem_range.2 (by rw[O];exact hi)) c hn hw J e' hmem;rw[hat e' he]at this;exact this}
    have hle:=x.xle (Nat.zero_le _) (Nat.le_refl ops.size);have hpo:∀p q,pr=some (p,q)->∃ci cj B,PairOK u P ops A pr rs H X p q ci cj B:=λp q hp=>by
      subst hp;simp only at e;have N:=N p q rfl;unfold FP at N;simp only[Bool.and_eq_true]at N;obtain⟨⟨⟨⟨s1,s2⟩,s3⟩,s4⟩,s5⟩:=N;have hpq:p<q:=(by simpa[Nat.blt_eq]using s3);have hqn:q<ops.size:=(by simpa[Nat.blt_eq]using s4);unfold Gr at e;split at e;case h_2=>exact e.elim
      rename_i ci hci;split at e;case h_2=>exact e.elim
      rename_i cj hcj;split at e;case h_2=>exact e.elim
      rename_i hkb;obtain⟨wj,gj,B,e,aq⟩:=FS ho e;obtain⟨wi,gi,B2,e,ap⟩:=FS ho e;rw[Vs]at hci hcj;have hoi:ops.toList[p]? =some ops[p]:=(by simp);have hoj:ops.toList[q]? =some ops[q]:=(by simp);have di:=(a8 p _ _ hoi hci).2;have dj:=(a8 q _ _ hoj hcj).2;have e1:B2=H (q+1):=(by rw[←hat (q+1) (by omega)];exact(VI e).1);have isSt:∀k,FX ops.toList k=true->flag qH ops.toList k=true:=λk J=>by
        unfold FX at J;unfold flag;split at J
        · rename_i o ho';split at J
          · rename_i hop;simp only[qH,hop]
          · cases J
        · cases J
      refine⟨ci,cj,B,⟨rfl,hpq,hqn,hci,hcj,wi,wj,gi,gj,isSt p s1,isSt q s2,?_,?_,λk J h1 Y G=> ?_,qac hkb⟩⟩
      · rw[←di.1,←dj.2.1];exact aq
      · rw[←e1,←di.2.1];exact ap
      · have:=vP s5 k (by rw[O];exact J);simp only[Bool.or_eq_true,Bool.not_eq_true',Bool.and_eq_true,Bool.or_eq_false_iff]at this;rcases this with((h|h)|h)|h
        · exact absurd (Nat.eq_of_beq_eq_true h) h1
        · exact absurd (Nat.eq_of_beq_eq_true h) Y
        · rcases G with G|G|G
          · rw[h.1.1]at G;cases G
          · rw[h.1.2]at G;cases G
          · rw[h.2]at G;cases G
        · exact h
    have e:xj (Qh rs) u t' h' V K:=by
      cases pr with
      |none=>exact e
      | some pq=>
        obtain⟨p,q⟩:=pq;simp only at e;unfold Gr at e;split at e;case h_2=>exact e.elim
        split at e;case h_2=>exact e.elim
        split at e;case h_2=>exact e.elim
        obtain⟨_,_,B,e,_⟩:=FS ho e;obtain⟨_,_,B2,e,_⟩:=FS ho e;exact(VI e).2
    refine q5d x hpo (F:=F1) (I:=I) (d:=d) (by rw[a1,a2];exact st) (by rw[a3,a6];exact U.freshR _) (λa' I' w' s g hgh=>hQ a' w' ?_);rw[a4,a5]at s;rw[a3,a6,a5]at g;rw[a5]at hgh;refine tR e s g (by rw[←a3,←a6];exact hle) U hg0 λd hd=> ?_;obtain⟨j,c,h1,Y⟩:=Sc hd;have:=hgh j c h1;rw[Y]at this;exact this
  split at e
  · rename_i C;exact fin none C e λp q h=>by cases h
  · split at e;case h_2=>exact e.elim
    rename_i p q hpq;split at e;case h_2=>exact e.elim
    rename_i C;simp only[Bool.and_eq_true]at C;exact fin (some (p,q)) C.1 e λp' q' h=>by cases h;exact C.2
def qgq(P:O7) (ops:Array Oper):Bool:=match vT ops.toList 0 []with
  | some A=>match VH P ops A none with
    |true=>true
    | false=>match qdg P ops A with
      |some (p,q)=>VH P ops A (some (p,q))&&FP P ops A p q
      |none=>false
  |none=>false
def JC(P:O7) (hs:jr) (hr:jk) (n:Nat) (ops:Array Oper) (C:List Nat) (gl:GL) (t:T AV) (h:T AO) (nx:Nat) (K:KS):Prop:=match qgq P ops with
  |true=>Gh P hs hr n ops C gl t h nx K
  | false=>match vT ops.toList 0 []with
    | some A=>match qgr A ops with
      |some u=>Gh P hs hr n u C gl t h nx K
      |none=>False
    |none=>False
def FE(U:vq P hs) (ok:kD P hr) {ops:Array Oper} {Y:List Nat} {gl:GL} {t:T AV} {h:T AO} {nx:Nat} {K:KS} (e:JC P hs hr n ops Y gl t h nx K) {F:Bool->Nat->Prop} {I:In} {a:Act} {w:World} (C:GK gl.tab I0) (st:St gl F I t h n a w) (u:At F0 I0 nx0 w0 F I nx w) (Q:Exit->Act->World->Prop)
  (hQ:∀J X,yN F0 I0 nx0 w0 n K J X->Q .normal J X) (d:Nat):wpAny P .any ops Q ops.size (Array.replicate ops.size false) a {w with drawn:=d}:=by
 unfold JC at e;split at e
 ·exact tf (d:=d) U ok e C st u Q hQ rfl
 ·split at e;case h_2=>exact e.elim
  rename_i A hA;split at e;case h_2=>exact e.elim
  rename_i V hp;unfold qgr at hp;split at hp
  ·rename_i H;split at hp
   ·rename_i x hx;cases hp;have p:=qar H hx;have N:=tf (d:=d) U ok e C st u Q hQ rfl;have hs:(⟨x⟩:Array Oper).size=ops.size:=p.size;rw[hs]at N;refine ta p ops.size _ (Array.replicate ops.size false) a _ ⟨by simp,by simp,λj O d=> ?_⟩ N;have G:yO j (Gs A ops)<ops.size:=p.lt j O;have e1:∀i,i<ops.size->(Array.replicate ops.size false).getD i d=false:=λi hi=>(by simp[Array.getD_eq_getD_getElem?,hi]);exact(e1 _ G).trans (e1 j O).symm
   ·cases hp
  ·cases hp
def qbw(hm:P.follows .mixedOrders=true) {hs:jr} {hr:jk} (H:vq P hs) (ok:kD P hr) {ops:Array Oper} {J:List Nat} {gl:GL} {t:T AV} {h:T AO} {nx:Nat} {K:KS} (e:JC P hs hr n ops J gl t h nx K) {F:Bool->Nat->Prop} {I:In} {a:Act} {w:World} (A:GK gl.tab I0) (st:St gl F I t h n a w) (u:At F0 I0 nx0 w0 F I nx w) (Q:Exit->Act->World->Prop)
  (hQ:∀C G,yN F0 I0 nx0 w0 n K C G->Q .normal C G) (id:Nat):(Code.region id ops true).wp P Q a w:=
 wp_region_any hm (FE H ok e A st u Q hQ _)
def NG(P:O7) (hs:jr) (hx:kc) (hr:jk) (n:Nat) (ops:Array Oper) (u:Nat->List Nat) (q:Nat) (gl:GL) (t:T AV) (h:T AO) (nx:Nat) (K:KS):Prop:=
 match S1 ops.toList q with
 |true=>JC P hs hr n (kY ops q) (u 0) gl t h nx λgl t h nx=>xq hs hx n ops u q (ops.toList.drop q) gl t h nx K
 |false=>False
def qc0(hm:P.follows .mixedOrders=true) {hs:jr} {hx:kc} {hr:jk} (U:vq P hs) (V:ye P hx) (ok:kD P hr) {ops:Array Oper} {Y:Nat->List Nat} {q:Nat} {gl:GL} {t:T AV} {h:T AO} {nx:Nat} {K:KS} (e:NG P hs hx hr n ops Y q gl t h nx K) {F:Bool->Nat->Prop} {I:In} {a:Act} {w:World} (H:GK gl.tab I0) (st:St gl F I t h n a w) (C:At F0 I0 nx0 w0 F I nx w) (Q:Exit->Act->World->Prop)
  (hQ:∀A O,yN F0 I0 nx0 w0 n K A O->Q .normal A O) (id:Nat):(Code.region id ops true).wp P Q a w:=by
 unfold NG at e;split at e;case h_2=>exact e.elim
 rename_i N;have s:=qcr N;refine wp_region_any hm ?_;have J:=Fz s.lt;have u:=FE U ok e H st C (λe a w=>(e= .normal/\wpOps P ops Q (List.range' q (ops.size- q)) a w)\/(e≠ .normal/\Q e a w)) λA O hp=>by
  obtain⟨gl,t,h,nx,F,I,e,X,st,G⟩:=hp;refine .inl ⟨rfl,Vt U V _ (List.range' q (ops.size- q)) q ?_ e X st G Q hQ⟩;apply List.ext_getElem?;intro i;simp only[List.getElem?_map,List.getElem?_drop];by_cases hi:i<ops.size- q
  ·rw[List.getElem?_range' hi,Array.getElem?_toList,Array.getElem?_eq_getElem (by omega)];simp
  ·rw[List.getElem?_eq_none (by rw[List.length_range'];omega),Array.getElem?_toList,Array.getElem?_eq_none (by omega)];rfl
 replace u:=u (w.drawn+1);rw[J]at u;have:=qb2 s (Q:=Q) (λa w h=>h.elim (λh=>h.2) λh=>absurd rfl h.1) (λe a w he h=>h.elim (λh=>absurd h.1 he) λh=>h.2) q (Array.replicate ops.size false) (Array.replicate q false) a _ ⟨by simp,λi hi h=>by simp[Array.getD_eq_getD_getElem?,hi]at h⟩ (λi _ hi d=>by simp[Array.getD_eq_getD_getElem?,hi]) (by simp) (λi hi d=>by have:=s.lt;simp[Array.getD_eq_getD_getElem?,hi,show i<ops.size by omega]) u;rw[show q+(ops.size- q)=ops.size by have:=s.lt;omega]at this;exact this
end
end
section
section
variable {P:O7} {F0:Bool->Nat->Prop} {I0:In} {nx0:Nat} {w0:World} {n:Nat}
def qj6:List Oper->Nat->Nat->Option Nat
  | [],_,_=>none
  | o::l,d,i=>match YV o.dst d with
    |true=>some i
    |false=>qj6 l d (i+1)
def Gi(P:O7) (hs:jr) (hx:kc) (hr:jk) (n:Nat) (ops:Array Oper) (u:Nat->List Nat) (q:Nat) (gl:GL) (t:T AV) (h:T AO) (nx:Nat) (R:KS):Prop:=
  match Nr ops.toList q with
  | true=>match nth ops.toList q with
    |some o=>JC P hs hr n (kY ops q) (u 0) gl t h nx λgl t h nx=>xq hs hx n ops u q [o] gl t h nx R
    |none=>False
  |false=>False
def NF(P:O7) (hs:jr) (hx:kc) (hr:jk) (n:Nat) (K:KS):List Nat->Array Oper->(Nat->List Nat)->Nat->KS
  | [],ops,u,q,gl,t,h,nx=>Gi P hs hx hr n ops u q gl t h nx λgl t h nx=>JC P hs hr n (jG ops (q+1)) (u (q+1)) gl t h nx K
  | d::A,ops,u,q,gl,t,h,nx=>Gi P hs hx hr n ops u q gl t h nx λgl t h nx=>match qj6 (jG ops (q+1)).toList d 0 with
    |some r=>NF P hs hx hr n K A (jG ops (q+1)) (λk=>u (q+1+k)) r gl t h nx
    |none=>False
def tg{hs:jr} {hx:kc} {hr:jk} (ho:vq P hs) (hX:ye P hx) (ok:kD P hr) {ops:Array Oper} {pb:Nat->List Nat} {q:Nat} {gl:GL} {t:T AV} {h:T AO} {nx:Nat} {R:KS} (e:Gi P hs hx hr n ops pb q gl t h nx R) {F:Bool->Nat->Prop} {I:In} {a:Act} {w:World} (V:GK gl.tab I0) (st:St gl F I t h n a w) (O:At F0 I0 nx0 w0 F I nx w) (Q:Exit->Act->World->Prop)
  (hR:∀u C,yN F0 I0 nx0 w0 n R u C->wpAny P .any (jG ops (q+1)) Q (jG ops (q+1)).size (Array.replicate (jG ops (q+1)).size false) u C) (d:Nat):wpAny P .any ops Q ops.size (Array.replicate ops.size false) a {w with drawn:=d}:=by
 unfold Gi at e;split at e;case h_2=>exact e.elim
 rename_i Z;split at e;case h_2=>exact e.elim
 rename_i o H;have s:=qb1 Z;have Y:=Fz s.lt;have J:ops[q]? =some o:=by rw[jY,Array.getElem?_toList]at H;exact H
 have key:∀u C,yN F0 I0 nx0 w0 n (λgl t h nx=>xq hs hx n ops pb q [o] gl t h nx R) u C->wpOp P ops Q q (wpAny P .any (jG ops (q+1)) Q (ops.size- q- 1) (Array.replicate (ops.size- q- 1) false)) u C:=λu C hp=>by
  obtain⟨gl,t,h,nx,F,I,e,hg,st,U⟩:=hp;have A:=Vt ho hX [o] [q] q (by simp[J]) e hg st U (λe a w=>(e= .normal/\wpAny P .any (jG ops (q+1)) Q (ops.size- q- 1) (Array.replicate (ops.size- q- 1) false) a w)\/(e≠ .normal/\Q e a w)) λa2 w2 X=>by refine .inl ⟨rfl,?_⟩;have h3:=hR _ _ X;rw[qb3,show ops.size- (q+1)=ops.size- q- 1 by omega]at h3;exact h3
  rw[wpOps_cons]at A;unfold wpOp at A⊢;rw[J]at A⊢;simp only at A⊢;have N:∀(e:Exit) (a:Act) (w:World),e≠ .normal->(e= .normal/\wpAny P .any (jG ops (q+1)) Q (ops.size- q- 1) (Array.replicate (ops.size- q- 1) false) a w)\/(e≠ .normal/\Q e a w)->Q e a w:=λe a w he h=>h.elim (λh=>absurd h.1 he) λh=>h.2;have nrm:∀(a:Act) (w:World),wpOps P ops (λe a w=>(e= .normal/\wpAny P .any (jG ops (q+1)) Q (ops.size- q- 1) (Array.replicate (ops.size- q- 1) false) a w)\/(e≠ .normal/\Q e a w)) [] a w->wpAny P .any (jG ops (q+1)) Q (ops.size- q- 1) (Array.replicate (ops.size- q- 1) false) a w:=λa w h=>by have h:((Exit.normal= .normal)/\wpAny P .any (jG ops (q+1)) Q (ops.size- q- 1) (Array.replicate (ops.size- q- 1) false) a w)\/(Exit.normal≠ .normal/\Q .normal a w):=h;exact h.elim (λh=>h.2) λh=>absurd rfl h.1
  split
  ·rename_i G;rw[if_pos G]at A;exact A.imp (λh=>SN N (Oper.wp_mono nrm h)) λh=>⟨h.1,h.2.elim λa h=>h.elim λw h=>⟨a,w,N _ _ _ (by simp) h⟩⟩
  ·rename_i G;rw[if_neg G]at A;exact nrm _ _ A
 have h1:=FE ho ok e V st O (λe a w=>(e= .normal/\wpOp P ops Q q (wpAny P .any (jG ops (q+1)) Q (ops.size- q- 1) (Array.replicate (ops.size- q- 1) false)) a w)\/(e≠ .normal/\Q e a w)) (λu C hp=> .inl ⟨rfl,key u C hp⟩) d;rw[Y]at h1;have:=q8n s (Q:=Q) (λa w h=>h.elim (λh=>h.2) λh=>absurd rfl h.1) (λe a w he h=>h.elim (λh=>absurd h.1 he) λh=>h.2) q (Array.replicate ops.size false) (Array.replicate q false) a _ ⟨by simp,λi hi h=>by simp[Array.getD_eq_getD_getElem?,hi]at h⟩ (λi _ hi d=>by simp[Array.getD_eq_getD_getElem?,hi]) (by simp) (λi hi d=>by have:=s.lt;simp[Array.getD_eq_getD_getElem?,hi,show i<ops.size by omega]) h1;rw[show q+(ops.size- q)=ops.size by have:=s.lt;omega]at this;exact this
def th{hs:jr} {hx:kc} {hr:jk} (J:vq P hs) (O:ye P hx) (ok:kD P hr) {K:KS} (Q:Exit->Act->World->Prop) (hQ:∀H G,yN F0 I0 nx0 w0 n K H G->Q .normal H G):∀(N:List Nat) {ops:Array Oper} {U:Nat->List Nat} {q:Nat} {gl:GL} {t:T AV} {h:T AO} {nx:Nat},NF P hs hx hr n K N ops U q gl t h nx->∀{F:Bool->Nat->Prop} {I:In} {a:Act} {w:World},GK gl.tab I0->St gl F I t h n a w->At F0 I0 nx0 w0 F I nx w->∀d:Nat,wpAny P .any ops Q ops.size (Array.replicate ops.size false) a {w with drawn:=d}
  | [],ops,U,q,gl,t,h,nx,e,F,I,a,w,C,st,u,d=>tg J O ok e C st u Q (λH G ⟨gl,t,h,nx,F,I,e,C,st,A⟩=>FE J ok e C st A Q hQ G.drawn) d
  | x::N,ops,U,q,gl,t,h,nx,e,F,I,a,w,C,st,u,d=>tg J O ok e C st u Q (λH G ⟨gl,t,h,nx,F,I,e,C,st,A⟩=>by
    split at e
    · exact th J O ok Q hQ N e C st A G.drawn
    · exact e.elim) d
def N7:List (Nat×List Nat)->Array Oper->(Array Oper->Prop)->Prop
 | [],ops,K=>K ops
 |x::l,ops,K=>WN x.1 x.2 ops λo=>N7 l o K
def qa1{P:O7} {Q:Exit->Act->World->Prop} {a:Act} {w:World}:∀{l:List (Nat×List Nat)} {ops:Array Oper} {K:Array Oper->Prop},N7 l ops K->(∀u,K u->vR P u Q a w)->vR P ops Q a w
 | [],ops,K,e,h=>h _ e
 |x::l,ops,K,e,h=>SW e λo e=>qa1 e h
def qg7(P:O7) (hs:jr) (hx:kc) (hr:jk) (n:Nat) (ops:Array Oper) (G:Nat->List Nat) (q f:Nat) (cs:List Nat) (A:List (Nat×List Nat)) (u:List Nat) (gl:GL) (t:T AV) (h:T AO) (nx:Nat) (K:KS):Prop:=
 WN f cs ops λo=>N7 A o λo=>match Ia o q f with
  |some (C,H)=>NF P hs hx hr n K u C G H gl t h nx
  |none=>False
def qbz(hm:P.follows .mixedOrders=true) {hs:jr} {hx:kc} {hr:jk} (O:vq P hs) (N:ye P hx) (ok:kD P hr) {ops:Array Oper} {U:Nat->List Nat} {q f:Nat} {cs:List Nat} {J:List (Nat×List Nat)} {G:List Nat} {gl:GL} {t:T AV} {h:T AO} {nx:Nat} {K:KS} (e:qg7 P hs hx hr n ops U q f cs J G gl t h nx K) {F:Bool->Nat->Prop} {I:In} {a:Act} {w:World} (A:GK gl.tab I0) (st:St gl F I t h n a w) (u:At F0 I0 nx0 w0 F I nx w) (Q:Exit->Act->World->Prop)
  (hQ:∀C H,yN F0 I0 nx0 w0 n K C H->Q .normal C H) (id:Nat):(Code.region id ops true).wp P Q a w:=by
 refine q5l hm (SW e λo e=>qa1 e λo e=> ?_);split at e
 ·rename_i V X hp;exact qf2 hp (th O N ok Q hQ G e A st u _)
 ·exact e.elim
end
end
section
def tB(b:Bool) (K:Prop):Prop:=match b with
 |true=>K
 |false=>False
variable {K:Prop}
def qU{b:Bool} (h:tB b K):b=true/\K:=by cases b<;>first|exact h.elim|exact⟨rfl,h⟩
def eV:Value->Value->Prop->Prop
 | .int k x, .int j y,K=>tB (Q8 k j) (Ob (x=y)/\K)
 | .bool x, .bool y,K=>Ob (x=y)/\K
 | .string x, .string y,K=>Ob (x=y)/\K
 | .pointer x, .pointer y,K=>Ob (x=y)/\K
 | .slice a n c, .slice b m d,K=>Ob (a=b)/\Ob (n=m)/\Ob (c=d)/\K
 | .map x, .map y,K=>Ob (x=y)/\K
 |v,u,K=>Ob (v=u)/\K
def Gl{v u:Value} (h:eV v u K):v=u/\K:=by
 unfold eV at h;split at h
 ·obtain⟨A,C,G⟩:=qU h;rw[Jy A,C];exact⟨rfl,G⟩
 ·rw[h.1];exact⟨rfl,h.2⟩
 ·rw[h.1];exact⟨rfl,h.2⟩
 ·rw[h.1];exact⟨rfl,h.2⟩
 ·rw[h.1,h.2.1,h.2.2.1];exact⟨rfl,h.2.2.2⟩
 ·rw[h.1];exact⟨rfl,h.2⟩
 ·exact h
def YS(ρ:Nat->Nat) (a b:AV) (K:Prop):Prop:=match a,b with
  | .sv v, .sv u=>eV v u K
  | .sv v,b=>match xn b with
    |some u=>eV v u K
    |none=>False
  | .ptr i o, .ptr j p=>tB (Nat.beq (ρ i) j&&Nat.beq o p) K
  | .sptr i o, .sptr j p=>tB (Nat.beq (ρ i) j) (Ob (o=p)/\K)
  | .sptr i o, .ptr j p=>tB (Nat.beq (ρ i) j) (Ob (o=p)/\K)
  | .ssl i o n e k, .ssl j p m f h=>tB (Nat.beq (ρ i) j&&(Nat.beq o p&&(Nat.beq e f&&Nat.beq (ρ k) h))) (Ob (n=m)/\K)
  | .ssl i o n e k, .nsl=>tB (Nat.beq (ρ k) 0) (Ob (n=0)/\K)
  | .usl i o n e, .usl j p m f=>tB (Nat.beq (ρ i) j&&(Nat.beq o p&&Nat.beq e f)) (Ob (n=m)/\K)
  | .usl i o n e, .ssl j p m f _=>tB (Nat.beq (ρ i) j&&(Nat.beq o p&&Nat.beq e f)) (Ob (n=m)/\K)
  | .usl _ _ n _, .nsl=>Ob (n=0)/\K
  | .msl i n e, .msl j m f=>tB (Nat.beq (ρ i) j&&Nat.beq e f) (Ob (n=m)/\K)
  | .sl i o n c, .sl j p m d=>tB (Nat.beq (ρ i) j&&(Nat.beq o p&&(Nat.beq n m&&Nat.beq c d))) K
  | .gsl i o n e, .gsl j p m f=>tB (Nat.beq (ρ i) j&&(Nat.beq o p&&(Nat.beq n m&&Nat.beq e f))) K
  | .map i, .map j=>tB (Nat.beq (ρ i) j) K
  | .nsl, .nsl| .nmap, .nmap| .nilf, .nilf| .nili, .nili| .ifo, .ifo=>K
  | a,b=>match xn a with
    | some v=>match b with
      | .sv u=>eV v u K
      |b=>tB (YU a b) K
    |none=>False
def qZ(h:Nat) (ρ:Nat->Nat) (I:In):In:=λi=>match Nat.blt i h with
 |true=>I (ρ i)
 |false=>none
variable {ρ:Nat->Nat} {I:In}
def jD{u:Nat} {i:Nat} {x} (h:qZ u ρ I i=some x):i<u/\I (ρ i)=some x:=by
 unfold qZ at h;split at h
 ·rename_i A;exact⟨by simpa[Nat.blt_eq]using A,h⟩
 ·cases h
def Vz(h:Nat):AV->Bool
 | .ptr i _=>Nat.blt i h
 | .sptr i _=>Nat.blt i h
 | .ssl i _ _ _ k=>Nat.blt i h&&Nat.blt k h
 | .msl i _ _=>Nat.blt i h
 | .usl i _ _ _=>Nat.blt i h
 | .sl i _ _ _=>Nat.blt i h
 | .gsl i _ _ _=>Nat.blt i h
 | .map i=>Nat.blt i h
 |_=>true
def Nc(z:I 0=some (0,0,0)) {U:Nat} {a b:AV} {K:Prop} (h:YS ρ a b K) (J:Vz U a=true):(∀v,VR I b v->VR (qZ U ρ I) a v)/\K:=by
 have N:∀{i:Nat} {x},Nat.blt i U=true->I (ρ i)=some x->qZ U ρ I i=some x:=λA C=>by unfold qZ;rw[A];exact C
 unfold YS at h;split at h
 ·obtain⟨rfl,C⟩:=Gl h;exact⟨λv r=>by cases r;exact .sv _,C⟩
 ·split at h
  ·rename_i u hu;obtain⟨rfl,C⟩:=Gl h;exact⟨λv r=>by rw[Wn hu r];exact .sv _,C⟩
  ·exact h.elim
 ·obtain⟨A,C⟩:=qU h;simp only[Bool.and_eq_true]at A;have e1:=Nat.eq_of_beq_eq_true A.1;have e2:=Nat.eq_of_beq_eq_true A.2;subst e1 e2;exact⟨λv r=>by cases r with|ptr G=>exact .ptr (N J G),C⟩
 ·obtain⟨A,C,H⟩:=qU h;have e1:=Nat.eq_of_beq_eq_true A;subst e1;rw[C];exact⟨λv r=>by cases r with|sptr G=>exact .sptr (N J G),H⟩
 ·obtain⟨A,C,H⟩:=qU h;have e1:=Nat.eq_of_beq_eq_true A;subst e1;rw[C];exact⟨λv r=>by cases r with|ptr G=>exact .sptr (N J G),H⟩
 ·obtain⟨A,C,H⟩:=qU h;simp only[Bool.and_eq_true]at A;have e1:=Nat.eq_of_beq_eq_true A.1;have e2:=Nat.eq_of_beq_eq_true A.2.1;have e3:=Nat.eq_of_beq_eq_true A.2.2.1;have X:=Nat.eq_of_beq_eq_true A.2.2.2;simp only[Vz,Bool.and_eq_true]at J;subst e1 e2 e3 X;rw[C];exact⟨λv r=>by
   cases r with
   |ssl G V O T Z hd=>exact .ssl (N J.1 G) V O T (N J.2 Z) hd
   |ssl0 Y Z hd=>exact .ssl0 Y (N J.2 Z) hd,H⟩
 ·obtain⟨A,C,H⟩:=qU h;have e1:=Nat.eq_of_beq_eq_true A;simp only[Vz,Bool.and_eq_true]at J;exact⟨λv r=>by cases r;exact .ssl0 C (N J.2 (by rw[e1];exact z)) rfl,H⟩
 ·obtain⟨A,C,H⟩:=qU h;simp only[Bool.and_eq_true]at A;have e1:=Nat.eq_of_beq_eq_true A.1;have e2:=Nat.eq_of_beq_eq_true A.2.1;have e3:=Nat.eq_of_beq_eq_true A.2.2;subst e1 e2 e3;rw[C];exact⟨λv r=>by
   cases r with
   |usl G V O T=>exact .usl (N J G) V O T
   |usl0 Y=>exact .usl0 Y,H⟩
 ·obtain⟨A,C,H⟩:=qU h;simp only[Bool.and_eq_true]at A;have e1:=Nat.eq_of_beq_eq_true A.1;have e2:=Nat.eq_of_beq_eq_true A.2.1;have e3:=Nat.eq_of_beq_eq_true A.2.2;subst e1 e2 e3;rw[C];exact⟨λv r=>by
   cases r with
   |ssl G V O T Z hd=>exact .usl (N J G) V O T
   |ssl0 Y Z hd=>exact .usl0 Y,H⟩
 ·obtain⟨C,H⟩:=h;exact⟨λv r=>by cases r;exact .usl0 C,H⟩
 ·obtain⟨A,C,H⟩:=qU h;simp only[Bool.and_eq_true]at A;have e1:=Nat.eq_of_beq_eq_true A.1;have e2:=Nat.eq_of_beq_eq_true A.2;subst e1 e2;rw[C];exact⟨λv r=>by cases r with|msl G O T=>exact .msl (N J G) O T,H⟩
 ·obtain⟨A,C⟩:=qU h;simp only[Bool.and_eq_true]at A;have e1:=Nat.eq_of_beq_eq_true A.1;have e2:=Nat.eq_of_beq_eq_true A.2.1;have e3:=Nat.eq_of_beq_eq_true A.2.2.1;have X:=Nat.eq_of_beq_eq_true A.2.2.2;subst e1 e2 e3 X;exact⟨λv r=>by cases r with|sl G=>exact .sl (N J G),C⟩
 ·obtain⟨A,C⟩:=qU h;simp only[Bool.and_eq_true]at A;have e1:=Nat.eq_of_beq_eq_true A.1;have e2:=Nat.eq_of_beq_eq_true A.2.1;have e3:=Nat.eq_of_beq_eq_true A.2.2.1;have X:=Nat.eq_of_beq_eq_true A.2.2.2;subst e1 e2 e3 X;exact⟨λv r=>by cases r with|gsl G V O T=>exact .gsl (N J G) V O T,C⟩
 ·obtain⟨A,C⟩:=qU h;have e1:=Nat.eq_of_beq_eq_true A;subst e1;exact⟨λv r=>by cases r with|map G=>exact .map (N J G),C⟩
 ·exact⟨λv r=>by cases r;constructor,h⟩
 ·exact⟨λv r=>by cases r;constructor,h⟩
 ·exact⟨λv r=>by cases r;constructor,h⟩
 ·exact⟨λv r=>by cases r;constructor,h⟩
 ·exact⟨λv r=>by cases r;constructor,h⟩
 ·split at h
  ·rename_i u hu;split at h
   ·obtain⟨rfl,C⟩:=Gl h;exact⟨λv r=>by cases r;exact tT hu,C⟩
   ·obtain⟨A,C⟩:=qU h;have e:=Nf A;exact⟨λv r=>by rw[←e]at r;rw[Wn hu r];exact tT hu,C⟩
  ·exact h.elim
def K7(ρ:Nat->Nat) (h:Nat):List AV->List AV->Prop->Prop
 | [],[],K=>K
 |a::l,b::m,K=>tB (Vz h a) (YS ρ a b (K7 ρ h l m K))
 |_,_,_=>False
def F5{ρ:Nat->Nat} {I:In} (z:I 0=some (0,0,0)) {u:Nat}:∀{l m:List AV} {K:Prop},K7 ρ u l m K->(∀vs,VRs I m vs->VRs (qZ u ρ I) l vs)/\K
  | [],[],K,h=>⟨λvs r=>by cases r;exact .nil,h⟩
  | a::l,b::m,K,h=>by simp only[K7]at h;obtain⟨A,C⟩:=qU h;obtain⟨G,H⟩:=Nc (I:=I) z C A;obtain⟨J,N⟩:=F5 (I:=I) z H;exact⟨λvs r=>by cases r with|cons O T=>exact .cons (G _ O) (J _ T),N⟩
  | [],_::_,K,h=>h.elim
  |_::_,[],K,h=>h.elim
def YT(ρ:Nat->Nat) (h:Nat) (a b:AV) (K:Prop):Prop:=match a,b with
 | .agg l, .agg m=>K7 ρ h l m K
 | .ifc t a, .ifc u b=>tB (Nat.beq t u&&Vz h a) (YS ρ a b K)
 | .fn f l, .fn g m=>tB (Nat.beq f g) (K7 ρ h l m K)
 |a,b=>tB (Vz h a) (YS ρ a b K)
def Nd(z:I 0=some (0,0,0)) {G:Nat} {a b:AV} {K:Prop} (h:YT ρ G a b K):(∀v,VR I b v->VR (qZ G ρ I) a v)/\K:=by
 unfold YT at h;split at h
 ·obtain⟨A,C⟩:=F5 (I:=I) z h;exact⟨λv r=>by cases r with|agg r=>exact .agg (A _ r),C⟩
 ·obtain⟨u,hq⟩:=qU h;clear h;simp only[Bool.and_eq_true]at u;have e1:=Nat.eq_of_beq_eq_true u.1;subst e1;obtain⟨A,C⟩:=Nc (I:=I) z hq u.2;exact⟨λv r=>by cases r with|ifc r=>exact .ifc (A _ r),C⟩
 ·obtain⟨u,hq⟩:=qU h;clear h;have e1:=Nat.eq_of_beq_eq_true u;subst e1;obtain⟨A,C⟩:=F5 (I:=I) z hq;exact⟨λv r=>by cases r with|fn r=>exact .fn (A _ r),C⟩
 ·obtain⟨u,h⟩:=qU h;exact Nc (I:=I) z h u
def K8(ρ:Nat->Nat) (h:Nat):List AV->List AV->Prop->Prop
 | [],[],K=>K
 |a::l,b::m,K=>YT ρ h a b (K8 ρ h l m K)
 |_,_,_=>False
def VB{ρ:Nat->Nat} {I:In} (z:I 0=some (0,0,0)) {u:Nat}:∀{l m:List AV} {K:Prop},K8 ρ u l m K->(∀vs,VRs I m vs->VRs (qZ u ρ I) l vs)/\K
  | [],[],K,h=>⟨λvs r=>by cases r;exact .nil,h⟩
  | a::l,b::m,K,h=>by simp only[K8]at h;obtain⟨A,C⟩:=Nd (I:=I) z h;obtain⟨G,H⟩:=VB (I:=I) z C;exact⟨λvs r=>by cases r with|cons J N=>exact .cons (A _ J) (G _ N),H⟩
  | [],_::_,K,h=>h.elim
  |_::_,[],K,h=>h.elim
def eA(ρ:Nat->Nat) (h:Nat) (a b:AV) (K:Prop):Prop:=match a,b with
 | .tup l, .tup m=>K8 ρ h l m K
 |a,b=>YT ρ h a b K
def qg8(z:I 0=some (0,0,0)) {u:Nat} {a b:AV} {K:Prop} (h:eA ρ u a b K):(∀v,VR I b v->VR (qZ u ρ I) a v)/\K:=by
 unfold eA at h;split at h
 ·obtain⟨A,C⟩:=VB (I:=I) z h;exact⟨λv r=>by cases r with|tup r=>exact .tup (A _ r),C⟩
 ·exact Nd z h
def eM(ρ:Nat->Nat) (h:Nat):List (Value×AV×Nat)->List (Value×AV×Nat)->Prop->Prop
 | [],[],K=>K
 | (k,a,n)::l,(j,b,m)::r,K=>tB (Nat.beq n m) (eV k j (YT ρ h a b (eM ρ h l r K)))
 |_,_,_=>False
def qg9{ρ:Nat->Nat} {I:In} (z:I 0=some (0,0,0)) {u:Nat}:∀{l m:List (Value×AV×Nat)} {K:Prop},eM ρ u l m K->(∀vs,MR I m vs->MR (qZ u ρ I) l vs)/\K
  | [],[],K,h=>⟨λvs r=>by cases r;exact .nil,h⟩
  | (k,a,n)::l,(j,b,m)::r,K,h=>by simp only[eM]at h;obtain⟨A,hq⟩:=qU h;clear h;have e1:=Nat.eq_of_beq_eq_true A;subst e1;obtain⟨e2,hr⟩:=Gl hq;clear hq;subst e2;obtain⟨C,G⟩:=Nd (I:=I) z hr;obtain⟨H,J⟩:=qg9 (I:=I) z G;exact⟨λvs r=>by cases r with|cons N O=>exact .cons (C _ N) (H _ O),J⟩
  | [],_::_,K,h=>h.elim
  | (_,_,_)::_,[],K,h=>h.elim
def tU(e:TypeId) (z:Option Nat) (g:Bool) (l:List AV) {m:List AV}:(AO.cells e z g m).rw=(AO.cells e z g l).rw:=by cases z<;>rfl
def sN(f g:Nat) (z:Option Nat):Bool:=match z with
 |some z=>Nat.ble z f
 |none=>false
def qgk{f g:Nat} {z:Option Nat} (h:sN f g z=true):∃y,z=some y/\y<=f:=by
 cases z with
 |none=>cases h
 |some y=>exact⟨y,rfl,Nat.le_of_ble_eq_true h⟩
def Gp:List (Value×AV×Nat)->Option (List MapEntry)
  | []=>some []
  | (k,a,n)::l=>match gv a with
    | some v=>match Gp l with
      |some r=>some (⟨k,v,n⟩::r)
      |none=>none
    |none=>none
def tq{I:In}:∀{l:List (Value×AV×Nat)} {r:List MapEntry},Gp l=some r->∀{ms},MR I l ms->ms=r
  | [],r,h,ms,m=>by cases h;cases m;rfl
  | (k,a,n)::l,r,h,ms,m=>by
    simp only[Gp]at h;split at h;case h_2=>cases h
    rename_i v C;split at h;case h_2=>cases h
    rename_i G hr;cases h;cases m with
    |cons u A=>rw[qd8 C u,tq hr A]
def eO(ρ:Nat->Nat) (C:Nat) (a b:AO) (K:Prop):Prop:=match a,b with
  | .cells e fz g l, .cells G u N H=>tB (Nat.beq e G&&(qj3 fz u&&xk g N)) (K7 ρ C l H K)
  | .row e fz vs, .row G u J=>tB (Nat.beq e G&&Nat.ble u fz) (Ob (vs=J)/\K)
  | .row e fz vs, .cells G u N H=>tB (Nat.beq e G&&sN fz 0 u) (match ur.concs H with
    |some us=>Ob (vs=us)/\K
    |none=>False)
  | .map es c, .map h A=>tB (Nat.beq c A) (eM ρ C es h K)
  | .mrow es c, .mrow h A=>Ob (es=h)/\Ob (c=A)/\K
  | .iter m s l c, .iter m' O H A=>tB (Nat.beq (ρ m) m'&&Nat.blt m C) (Ob (s=O)/\Ob (l=H)/\Ob (c=A)/\K)
  | .mrow es c, .map h A=>match Gp h with
    |some r=>Ob (es=r)/\Ob (c=A)/\K
    |none=>False
  |_,_=>False
def qga (z:I 0=some (0,0,0)) {G:Nat} {a b:AO} {K:Prop} (h:eO ρ G a b K):(∀t ob,OR I t b ob->OR (qZ G ρ I) t a ob)/\(a.rw=true->b.rw=true)/\(a.rw=false->b.rw=false)/\K:=by
  unfold eO at h;split at h
  · obtain⟨u,hq⟩:=qU h;clear h;simp only[Bool.and_eq_true]at u;obtain⟨e1,e2,e3⟩:=u;have e1:=Nat.eq_of_beq_eq_true e1;have e2:=qen e2;rw[qe7]at e3;have e3:=eq_of_beq e3;subst e1 e2 e3;obtain⟨A,C⟩:=F5 (I:=I) z hq;exact⟨λt ob r=>by cases r with|cells H O J T X N=>exact .cells (A _ H) O J T X N,λh=>(tU _ _ _ _).trans h,λh=>(tU _ _ _ _).trans h,C⟩
  · obtain⟨u,A,C⟩:=qU h;simp only[Bool.and_eq_true]at u;have e1:=Nat.eq_of_beq_eq_true u.1;have e2:=Nat.le_of_ble_eq_true u.2;subst e1;rw[A];exact⟨λt ob r=>by cases r with|row H O J=>exact .row H O λo ho=>J o (by omega),λ_=>rfl,(λh=>by cases h),C⟩
  · obtain ⟨u,hq⟩:=qU h;clear h;simp only[Bool.and_eq_true]at u;have e1:=Nat.eq_of_beq_eq_true u.1;have u:=u.2;split at hq
    · rename_i us V;obtain⟨z,hz,e2⟩:=qgk u;subst hz;subst e1;obtain⟨Z,h7⟩:=hq;rw[Z];exact ⟨λt ob r=>by
          cases r with
          | cells H O J T X N=>
            rw[Wi V H]at T⊢;rcases N with rfl|⟨N,_⟩
            · exact .row J T λo ho=>X z rfl o (by omega)
            · exact absurd N (by simp),λ_=>rfl,(λh=>by cases h),h7⟩
    · exact hq.elim
  · obtain⟨u,hq⟩:=qU h;clear h;have e1:=Nat.eq_of_beq_eq_true u;subst e1;obtain⟨A,C⟩:=qg9 (I:=I) z hq;exact⟨λt ob r=>by cases r with|map r=>exact .map (A _ r),λh=>h,λh=>h,C⟩
  · obtain⟨u,A,C⟩:=h;rw[u,A];exact⟨λt ob r=>by cases r;exact .mrow,λh=>h,λh=>h,C⟩
  · obtain⟨U,u,A,C,Y⟩:=qU h;simp only[Bool.and_eq_true]at U;have e1:=Nat.eq_of_beq_eq_true U.1;have e2:=U.2;subst e1;rw[u,A,C];exact⟨λt ob r=>by
      cases r with
      |iter hI hp=>exact .iter (by unfold qZ;rw[e2];exact hI) hp,λh=>h,λh=>h,Y⟩
  · split at h;case h_2=>exact h.elim
    rename_i r hr;obtain⟨u,A,C⟩:=h;rw[u,A];exact⟨λt ob m=>by
      cases m with
      |map m=>rw[tq hr m];exact .mrow,λ_=>rfl,(λh=>by cases h),C⟩
  · exact h.elim
end
section
def q0m{α:Type}:List (Nat×α)->T α->Option (T α)
  | [],t=>some t
  | (k,a)::l,t=>match T.put 64 k (some a) t with
    |some h=>q0m l h
    |none=>none
def assoc(i:Nat):List (Nat×Nat)->Option Nat
  | []=>none
  | (a,b)::l=>match Nat.beq a i with
    |true=>some b
    |false=>assoc i l
def wF(nx0:Nat) (l:List (Nat×Nat)) (i:Nat):Nat:=match Nat.blt i nx0 with
  |true=>i
  | false=>match assoc i l with
    |some j=>j
    |none=>Nat.add 1000000000 i
def wH(nx0 i j:Nat) (l:List (Nat×Nat)):List (Nat×Nat):=match Nat.blt i nx0 with
  |true=>l
  | false=>match assoc i l with
    |some _=>l
    |none=>(i,j)::l
def NB(nx0:Nat) (a b:AV) (l:List (Nat×Nat)):List (Nat×Nat):=match a,b with
 | .ptr i _, .ptr j _=>wH nx0 i j l
 | .sptr i _, .sptr j _=>wH nx0 i j l
 | .sptr i _, .ptr j _=>wH nx0 i j l
 | .ssl i _ _ _ k, .ssl j _ _ _ h=>wH nx0 k h (wH nx0 i j l)
 | .ssl _ _ _ _ k, .nsl=>wH nx0 k 0 l
 | .msl i _ _, .msl j _ _=>wH nx0 i j l
 | .usl i _ _ _, .usl j _ _ _=>wH nx0 i j l
 | .usl i _ _ _, .ssl j _ _ _ _=>wH nx0 i j l
 | .sl i _ _ _, .sl j _ _ _=>wH nx0 i j l
 | .gsl i _ _ _, .gsl j _ _ _=>wH nx0 i j l
 | .map i, .map j=>wH nx0 i j l
 |_,_=>l
def Gg(nx0:Nat):List AV->List AV->List (Nat×Nat)->List (Nat×Nat)
 |a::x,b::y,l=>Gg nx0 x y (NB nx0 a b l)
 |_,_,l=>l
def NC(nx0:Nat) (a b:AV) (l:List (Nat×Nat)):List (Nat×Nat):=match a,b with
 | .agg x, .agg y=>Gg nx0 x y l
 | .ifc _ a, .ifc _ b=>NB nx0 a b l
 | .fn _ x, .fn _ y=>Gg nx0 x y l
 |a,b=>NB nx0 a b l
def VK(nx0:Nat):List AV->List AV->List (Nat×Nat)->List (Nat×Nat)
 |a::x,b::y,l=>VK nx0 x y (NC nx0 a b l)
 |_,_,l=>l
def NY(nx0:Nat) (a b:AV) (l:List (Nat×Nat)):List (Nat×Nat):=match a,b with
 | .tup x, .tup y=>VK nx0 x y l
 |a,b=>NC nx0 a b l
def GA(nx0:Nat) (t:T AV):List (Nat×AV)->List (Nat×Nat)->List (Nat×Nat)
  | [],l=>l
  | (k,a)::r,l=>match t.get k with
    |some b=>GA nx0 t r (NY nx0 a b l)
    |none=>GA nx0 t r l
def qj2(nx0:Nat):List (Value×AV×Nat)->List (Value×AV×Nat)->List (Nat×Nat)->List (Nat×Nat)
 | (_,a,_)::x,(_,b,_)::y,l=>qj2 nx0 x y (NC nx0 a b l)
 |_,_,l=>l
def wJ(nx0:Nat) (h:T AO):List (Nat×AO)->List (Nat×Nat)->List (Nat×Nat)
  | [],l=>l
  | (i,o)::r,l=>match h.get (wF nx0 l i)with
    | some u=>match o,u with
      | .cells _ _ _ x, .cells _ _ _ y=>wJ nx0 h r (Gg nx0 x y l)
      | .map x _, .map y _=>wJ nx0 h r (qj2 nx0 x y l)
      |_,_=>wJ nx0 h r l
    |none=>wJ nx0 h r l
def eT(ρ:Nat->Nat) (h:Nat) (t:T AV):List (Nat×AV)->Prop->Prop
  | [],K=>K
  | (k,a)::l,K=>match t.get k with
    |some b=>eA ρ h a b (eT ρ h t l K)
    |none=>False
def qgb{ρ:Nat->Nat} {I:In} (z:I 0=some (0,0,0)) {u:Nat} {t:T AV}:∀{l:List (Nat×AV)} {K:Prop},eT ρ u t l K->(∀k a,(k,a)∈l->∃b,t.get k=some b/\∀v,VR I b v->VR (qZ u ρ I) a v)/\K
  | [],K,h=>⟨λk a h=>(by cases h),h⟩
  | (k, a)::l,K,h=>by
    simp only[eT]at h;split at h
    · rename_i b N;obtain⟨C,G⟩:=qg8 (I:=I) z h;obtain⟨H,J⟩:=qgb (I:=I) z G;exact⟨λO A hm=>by
        cases hm with
        |head=>exact⟨b,N,C⟩
        |tail _ hm=>exact H O A hm,J⟩
    · exact h.elim
def eH(ρ:Nat->Nat) (nx u:Nat) (h:T AO):List (Nat×AO)->Prop->Prop
  | [],K=>K
  | (i,o)::l,K=>match h.get (ρ i)with
    |some b=>eO ρ u o b (eH ρ nx u h l K)
    |none=>tB (Nat.ble nx (ρ i)) (eH ρ nx u h l K)
def Gk{ρ:Nat->Nat} {I:In} (z:I 0=some (0,0,0)) {nx u:Nat} {h:T AO} (fr:∀i,nx<=i->I i=none):∀{l:List (Nat×AO)} {K:Prop},eH ρ nx u h l K->(∀i o,(i,o)∈l->I (ρ i)=none\/∃b,h.get (ρ i)=some b/\(∀t ob,OR I t b ob->OR (qZ u ρ I) t o ob)/\(o.rw=false->b.rw=false)/\(o.rw=true->b.rw=true))/\K
  | [],K,e=>⟨λk a h=>(by cases h),e⟩
  | (i, o)::l,K,e=>by
    simp only[eH]at e;split at e
    · rename_i b V;obtain⟨C,G,H,J⟩:=qga (I:=I) z e;obtain⟨N,O⟩:=Gk z fr J;exact⟨λU A hm=>by
        cases hm with
        |head=>exact .inr ⟨b,V,C,H,G⟩
        |tail _ hm=>exact N U A hm,O⟩
    · obtain⟨C,J⟩:=qU e;obtain⟨N,O⟩:=Gk z fr J;exact⟨λU A hm=>by
        cases hm with
        |head=>exact .inl (fr _ (Nat.le_of_ble_eq_true C))
        |tail _ hm=>exact N U A hm,O⟩
def JI(ρ:Nat->Nat):List (Nat×AO)->List Nat->Bool
  | [],_=>true
  | (i,_)::l,acc=>match jd (ρ i) acc with
    |true=>false
    |false=>JI ρ l (ρ i::acc)
def FL{k:Nat}:∀{l:List Nat},jd k l=false->k∉l
  | [],_=>λh=>by cases h
  | a ::l,h=>by
    simp only[jd]at h;split at h
    · cases h
    · rename_i u;intro hm;cases hm with
      |head=>simp at u
      |tail _ hm=>exact FL h hm
def Ws{ρ:Nat->Nat}:∀{l:List (Nat×AO)} {acc:List Nat},JI ρ l acc=true->(∀i o,(i,o)∈l->ρ i∉acc)/\∀i o A H,(i,o)∈l->(A,H)∈l->ρ i=ρ A->i=A
  | [],acc,_=>⟨λi o h=>(by cases h),λi o A H h=>(by cases h)⟩
  | (i, o)::l,acc,h=>by
    simp only[JI]at h;split at h
    · cases h
    · rename_i T;obtain⟨C,N⟩:=Ws h;refine⟨λj q hm=> ?_,λj q G J hm u he=> ?_⟩
      · cases hm with
        |head=>exact FL T
        |tail _ hm=>exactλO=>C j q hm (List.mem_cons_of_mem _ O)
      · cases hm with
        | head=>
          cases u with
          |head=>rfl
          |tail _ u=>exact absurd (by rw[he];exact List.mem_cons_self) (C G J u)
        | tail _ hm=>
          cases u with
          |head=>exact absurd (by rw[←he];exact List.mem_cons_self) (C j q hm)
          |tail _ u=>exact N j q G J hm u he
def A' (nx0:Nat) (gl:GL) (t:T AV) (h:T AO) (nx:Nat) (gl0:GL) (C:PF) (G:T AV) (h':T AO) (u:Nat) (K:Prop):Prop:=
  match zU G with
  | lt => match zU h' with
    | A=>match wJ nx0 h A (GA nx0 t lt [])with
      | r =>match Nat.ble nx0 u&&JI (wF nx0 r) A []with
        | true=>eT (wF nx0 r) u t lt (eH (wF nx0 r) nx u h A (match gl0.triv with
          |true=>Qq gl C K
          |false=>Ob (∀p,gl.pf p->gl0.pf p)/\Qq gl C K))
        |false=>False
section
variable {F0:Bool->Nat->Prop} {I0:In} {nx0:Nat} {w0:World} {n:Nat}
def tz{l:List (Nat×Nat)} {i:Nat} (h:i<nx0):wF nx0 l i=i:=by unfold wF;rw[show Nat.blt i nx0=true by simpa[Nat.blt_eq]using h]
def qgo{gl gl0:GL} {Z:PF} {t t':T AV} {h h':T AO} {nx A:Nat} {K:Prop} (e:A' nx0 gl t h nx gl0 Z t' h' A K) {F:Bool->Nat->Prop} {I:In} {a:Act} {w:World} (st:St gl F I t h n a w) (u:At F0 I0 nx0 w0 F I nx w) (hg0:GK gl0.tab I0) (h00:∀i,nx0<=i->I0 i=none):
  K/\(∃p,gl0.pf p/\Z.ok p)/\∃I',St (gl0.withP Z) F I' t' h' n a w/\At F0 I0 nx0 w0 F I' A w:=by
 unfold A' at e;simp only at e;split at e;case h_2=>exact e.elim
 rename_i hb;rw[Bool.and_eq_true]at hb;obtain⟨hb1,X⟩:=hb;have hle:=Nat.le_of_ble_eq_true hb1;generalize hρ:wF nx0 (wJ nx0 h (zU h') (GA nx0 t (zU t') []))=ρ at e X;have J:∀i,i<nx0->ρ i=i:=λi hi=>by rw[←hρ];exact tz hi
 obtain⟨e1,e⟩:=qgb (I:=I) st.gok.z e;obtain⟨e2,e7⟩:=Gk st.gok.z u.fresh e;obtain⟨e3,e5⟩:(∀p,gl.pf p->gl0.pf p)/\Qq gl Z K:=by
  split at e7
  ·rename_i htr;exact⟨λp _=>gl0.all htr p,e7⟩
  ·exact e7
 obtain⟨e6,e4⟩:=Wu e5;obtain⟨_,inj⟩:=Ws X;refine⟨e4,⟨_,e3 _ st.pf,e6 _ st.pf⟩,qZ A ρ I,⟨?_,st.size,st.defers,⟨?_,?_,?_⟩,st.low,?_,st.zf,?_⟩,⟨?_,hle,?_,u.sup,u.sub,u.frm,u.siz,u.sam⟩⟩
 ·intro k av hk;obtain⟨b,H,N⟩:=e1 k av (jc hk);exact N _ (st.tr k b H)
 ·intro id o b tt H N;obtain⟨h3,C⟩:=jD N;rcases e2 id o (jc H)with G|⟨o2,G,h6,_⟩
  ·rw[G]at C;cases C
  ·obtain⟨ob,h7,h8⟩:=st.sim.obj _ _ _ _ G C;exact⟨ob,h7,h6 _ _ h8⟩
 ·intro id id' o o' b tt tt' H V N h2';obtain⟨h3,C⟩:=jD N;obtain⟨h3',O⟩:=jD h2';rcases e2 id o (jc H)with G|⟨o2,G,h6,_⟩
  ·rw[G]at C;cases C
  rcases e2 id' o' (jc V)with U|⟨o2',U,h6',_⟩
  ·rw[U]at O;cases O
  exact inj _ _ _ _ (jc H) (jc V) (st.sim.inj _ _ _ _ _ _ _ G U C O)
 ·intro id o b tt H N hf;obtain⟨h3,C⟩:=jD N;rcases e2 id o (jc H)with G|⟨o2,G,h6,_,h7⟩
  ·rw[G]at C;cases C
  ·obtain⟨g1,g2⟩:=st.sim.fr _ _ _ _ G C hf;refine⟨?_,g2⟩;cases hrw:o.rw with
   |false=>rfl
   |true=>rw[h7 hrw]at g1;cases g1
 ·have:I0.le (qZ A ρ I):=λi x hi=>by
   have Y:i<nx0:=by
    rcases Nat.lt_or_ge i nx0 with h|h
    ·exact h
    ·rw[h00 i h]at hi;cases hi
   unfold qZ;rw[show Nat.blt i A=true by simp[Nat.blt_eq];omega];simp only;rw[J i Y,u.le i Y];exact hi
  rw[GL.withP_tab];exact hg0.mono this
 ·exact GL.withP_of (e3 _ st.pf) (e6 _ st.pf)
 ·intro id hid;unfold qZ;rw[show Nat.blt id A=true by simp[Nat.blt_eq];omega];simp only;rw[J id hid,u.le id hid]
 ·intro i hi;cases hr:qZ A ρ I i with
  |none=>rfl
  |some y=>have:=(jD hr).1;omega
end
end
section
structure LT where
 σ:Type
 pre:σ->Prop:=λ_=>True
 mem:σ->PF:=λ_=>{}
 find:Option (T AV->T AO->Option σ):=none
 t:σ->List (Nat×AV)
 h:σ->List (Nat×AO)
 more:Nat
 μ:σ->Nat
 keep:List Nat:=[]
 del:List Nat:=[]
structure VE where
 unr:Nat:=0
 hs:jr
 hx:kc:=sQ
 hr:jk
 n:Nat
 nx0:Nat
 ann:Nat->T AV->T AO->Option LT
 cut:Nat->T AV->T AO->Option LT:=λ_ _ _=>none
 pub:Nat->Nat->List Nat:=λ_ _=>[]
 pubE:List Nat:=[]
 spl:Nat->Option Nat:=λ_=>none
 flo:Nat->Option (Nat×List Nat):=λ_=>none
 flu:Nat->List (Nat×List Nat):=λ_=>[]
 spm:Nat->List Nat:=λ_=>[]
def ND:List Nat->T AO->Option (T AO)
  | [],h=>some h
  | i::l,h=>match T.put 64 i none h with
    |some h'=>ND l h'
    |none=>none
def Jz:Code->Option Nat
  | .region i _ _=>some i
  | .seq a b=>match Jz a with
    |some i=>some i
    |none=>Jz b
  | .block _ c=>Jz c
  | .loop c=>Jz c
  | .cond _ a b=>match Jz a with
    |some i=>some i
    |none=>Jz b
  |_=>none
def cutAt(cut:Nat->T AV->T AO->Option LT) (c:Code) (t:T AV) (h:T AO):Option LT:=match Jz c with
 |some i=>cut i t h
 |none=>none
def LT.gl(L:LT) (gl:GL) (s:L.σ):GL:=gl.withP (L.mem s)
def LT.mt(L:LT) (nx0:Nat) (t0:T AV) (A:T AO) (u:Nat) (gl0:GL) (gl:GL) (t:T AV) (h:T AO) (nx:Nat) (s:L.σ) (K:Prop):Prop:=match q0m (L.t s) t0 with
  | some C=>match q0m (L.h s) A with
    |some h'=>A' nx0 gl t h nx gl0 (L.mem s) C h' u (Ob (L.pre s)/\K)
    |none=>False
  |none=>False
def LT.mtE(L:LT) (nx0:Nat) (t0:T AV) (A:T AO) (u:Nat) (gl0:GL) (gl:GL) (t:T AV) (h:T AO) (nx:Nat) (K:L.σ->Prop):Prop:=match L.find with
  |none=>∃s,L.mt nx0 t0 A u gl0 gl t h nx s (K s)
  | some f=>match f t h with
    |some s=>L.mt nx0 t0 A u gl0 gl t h nx s (K s)
    |none=>False
def LT.mtE_ok{L:LT} {nx0:Nat} {t0:T AV} {A:T AO} {u:Nat} {gl0 gl:GL} {t:T AV} {h:T AO} {nx:Nat} {K:L.σ->Prop} (e:L.mtE nx0 t0 A u gl0 gl t h nx K):∃s,L.mt nx0 t0 A u gl0 gl t h nx s (K s):=by
 unfold LT.mtE at e;split at e
 ·exact e
 ·split at e
  ·exact⟨_,e⟩
  ·exact e.elim
def GP(B:GL->T AV->T AO->Nat->(AX->KS)->Prop) (K:AX->KS):Nat->GL->T AV->T AO->Nat->Prop
  |0,_,_,_,_=>False
  | m+1,gl,t,h,nx=>B gl t h nx λx gl t h nx=>match x with
    | .nrm=>GP B K m gl t h nx
    | .ex j=>K (.ex j) gl t h nx
    | .rt=>K .rt gl t h nx
def vc (E : VE) (P:O7):Nat->Nat->Code->GL->T AV->T AO->Nat->(AX->KS)->Prop
  |0,_,_,_,_,_,_,_=>False
  | f + 1, u, c,gl,t,h,nx,K=>match c with
    | .skip=>K .nrm gl t h nx
    | .label _=>K .nrm gl t h nx
    | .exit id=>K (.ex id) gl t h nx
    | .ret=>K .rt gl t h nx
    | .region i ops draw=>match draw with
      |false=>xq E.hs E.hx E.n ops (E.pub i) 0 ops.toList gl t h nx (K .nrm)
      | true=>match E.spl i with
        |none=>JC P E.hs E.hr E.n ops (E.pub i 0) gl t h nx (K .nrm)
        | some q=>match E.flo i with
          |none=>NG P E.hs E.hx E.hr E.n ops (E.pub i) q gl t h nx (K .nrm)
          |some (f,cs)=>qg7 P E.hs E.hx E.hr E.n ops (E.pub i) q f cs (E.flu i) (E.spm i) gl t h nx (K .nrm)
    | .seq a b=>match cutAt E.cut b t h with
      | none=>vc E P f u a gl t h nx λx gl t h nx=>match x with
        | .nrm=>vc E P f u b gl t h nx K
        | .ex i=>K (.ex i) gl t h nx
        | .rt=>K .rt gl t h nx
      | some L=>match ND L.del h with
        | some J=>match Qn t L.keep .e with
          | some t0=>(vc E P f u a gl t h nx λx A t2 H C=>match x with
              | .nrm=>L.mtE E.nx0 t0 J (nx+L.more) gl A t2 H C λs=>True
              | .ex i=>K (.ex i) A t2 H C
              | .rt=>K .rt A t2 H C)/\
            ∀ s :L.σ,Ob (L.pre s)->wK gl (L.mem s) λG=>match q0m (L.t s) t0 with
              | some N=>match q0m (L.h s) J with
                |some h'=>vc E P f u b G N h' (nx+L.more) K
                |none=>False
              |none=>False
          |none=>False
        |none=>False
    | .cond x a b=>match ev t x with
      |some (.bool true)=>vc E P f u a gl t h nx K
      |some (.bool false)=>vc E P f u b gl t h nx K
      |some (.sv (.bool c))=>(Ob (c=true)->vc E P f u a gl t h nx K)/\(Ob (c=false)->vc E P f u b gl t h nx K)
      |_=>False
    | .block id c=>vc E P f id c gl t h nx λx gl t h nx=>match x with
      | .nrm=>K .nrm gl t h nx
      | .ex j=>match Nat.beq j id with
        |true=>K .nrm gl t h nx
        |false=>K (.ex j) gl t h nx
      | .rt=>K .rt gl t h nx
    | .loop c =>match E.ann u t h with
      | some L => match ND L.del h with
        | some J =>match Qn t L.keep .e with
          | some t0=>(L.mtE E.nx0 t0 J (nx+L.more) gl gl t h nx λs=>True)/\
            ∀ s : L.σ,Ob (L.pre s)->wK gl (L.mem s) λG=>match q0m (L.t s) t0 with
              | some N=>match q0m (L.h s) J with
                | some h'=>vc E P f u c G N h' (nx+L.more) λx A t2 H C=>match x with
                  | .nrm=>L.mtE E.nx0 t0 J (nx+L.more) gl A t2 H C λO=>Ob (L.μ O<L.μ s)/\True
                  | .ex j=>K (.ex j) A t2 H C
                  | .rt=>K .rt A t2 H C
                |none=>False
              |none=>False
          |none=>False
        |none=>False
      |none=>GP (vc E P f u c) K E.unr gl t h nx
    |_=>False
section
variable {P:O7} {E:VE} {F0:Bool->Nat->Prop} {I0:In} {w0:World}
def NK{L:LT} {t0:T AV} {N:T AO} {u:Nat} {gl0 gl:GL} {t:T AV} {h:T AO} {nx:Nat} {s:L.σ} {K:Prop} (e:L.mt E.nx0 t0 N u gl0 gl t h nx s K) (J:GK gl0.tab I0) (H:∀i,E.nx0<=i->I0 i=none) {F:Bool->Nat->Prop} {I:In} {a:Act} {w:World} (st:St gl F I t h E.n a w) (G:At F0 I0 E.nx0 w0 F I nx w):
  L.pre s/\K/\(∃p,gl0.pf p/\(L.mem s).ok p)/\∃C h' A,q0m (L.t s) t0=some C/\q0m (L.h s) N=some h'/\St (L.gl gl0 s) F A C h' E.n a w/\At F0 I0 E.nx0 w0 F A u w:=by
 unfold LT.mt at e;split at e
 ·rename_i C Z;split at e
  ·rename_i h' Y;obtain⟨O,U,A,V,X⟩:=qgo e st G J H;exact⟨O.1,O.2,U,C,h',A,Z,Y,V,X⟩
  ·exact e.elim
 ·exact e.elim
def qh7 (hm :P.follows .mixedOrders=true) (ho:vq P E.hs) (hX:ye P E.hx) (hr:kD P E.hr) (h00:∀i,E.nx0<=i->I0 i=none):∀(f O:Nat) (c:Code) {gl:GL} {t:T AV} {h:T AO} {nx:Nat} {K:AX->KS},vc E P f O c gl t h nx K->
    ∀ {F:Bool->Nat->Prop} {I:In} {a:Act} {w:World},GK gl.tab I0->St gl F I t h E.n a w->At F0 I0 E.nx0 w0 F I nx w->∀(Q:Exit->Act->World->Prop),
      (∀x e N U,x.is e->yN F0 I0 E.nx0 w0 E.n (K x) N U->Q e N U)->c.wp P Q a w:=by
  intro f;induction f with
  |zero=>intro O c gl t h nx K e;exact e.elim
  | succ f ih =>
    intro O c gl t h nx K e F I a w V st J Q hQ;have here:∀x ex,x.is ex->K x gl t h nx->Q ex a w:=λx ex hx hk=>hQ x ex a w hx ⟨gl,t,h,nx,F,I,hk,V,st,J⟩;cases c with
    |skip=>exact wp_skip (here .nrm _ trivial e)
    |label l=>exact wp_label (here .nrm _ trivial e)
    |exit id=>exact wp_exit (here (.ex id) _ rfl e)
    |ret=>exact wp_ret (here .rt _ trivial e)
    | region id ops draw=>
      cases draw with
      | false=>
        simp only[vc]at e;refine wp_region (Vt ho hX ops.toList (List.range ops.size) 0 ?_ e V st J Q λN U hp=>hQ .nrm .normal N U trivial hp);apply List.ext_getElem?;intro i;simp only[List.getElem?_map];by_cases hi:i<ops.size
        · simp[hi]
        · simp[hi]
      | true=>
        simp only[vc]at e;split at e
        · exact qbw hm ho hr e V st J Q (λN U hp=>hQ .nrm .normal N U trivial hp) id
        · split at e
          · exact qc0 hm ho hX hr e V st J Q (λN U hp=>hQ .nrm .normal N U trivial hp) id
          · exact qbz hm ho hX hr e V st J Q (λN U hp=>hQ .nrm .normal N U trivial hp) id
    | seq p q=>
      simp only[vc]at e;split at e;case h_2 L hL=>
        split at e;case h_2=>exact e.elim
        rename_i hb hhb;split at e;case h_2=>exact e.elim
        rename_i t0 ht0;obtain⟨e1,eb⟩:=e;refine wp_seq (ih O p e1 V st J _ λx ex N U hx hp=> ?_);obtain⟨G,t2,Z,H,X,Y,e2,C,A,u⟩:=hp;cases x with
        | nrm=>
          cases ex<;>simp only[AX.is]at hx;obtain⟨s,e2⟩:=LT.mtE_ok e2;obtain⟨hpre,_,⟨pp,hp1,hp2⟩,t3,h3,I3,r1,r2,st3,at3⟩:=NK e2 V h00 A u;have es:=Jw (eb s hpre) hp1 hp2;rw[r1]at es;simp only at es;rw[r2]at es;exact ih O q es (by rw[GL.withP_tab];exact V) st3 at3 Q hQ
        | ex i=>
          cases ex<;>simp only[AX.is]at hx;exact hQ (.ex i) _ N U hx ⟨G,t2,Z,H,X,Y,e2,C,A,u⟩
        | rt=>
          cases ex<;>simp only[AX.is]at hx;exact hQ .rt _ N U trivial ⟨G,t2,Z,H,X,Y,e2,C,A,u⟩
      refine wp_seq (ih O p e V st J _ λx ex N U hx hp=> ?_);obtain⟨G,t2,Z,H,X,Y,e2,C,A,u⟩:=hp;cases x with
      | nrm=>
        cases ex<;>simp only[AX.is]at hx;exact ih O q e2 C A u Q hQ
      | ex i=>
        cases ex<;>simp only[AX.is]at hx;exact hQ (.ex i) _ N U hx ⟨G,t2,Z,H,X,Y,e2,C,A,u⟩
      | rt=>
        cases ex<;>simp only[AX.is]at hx;exact hQ .rt _ N U trivial ⟨G,t2,Z,H,X,Y,e2,C,A,u⟩
    | cond x p q=>
      simp only[vc]at e;split at e
      · rename_i hx;refine wp_cond_true ?_ (ih O p e V st J Q hQ);have:=qn st.tr hx;generalize a.eval x=v at this;cases this;rfl
      · rename_i hx;refine wp_cond_false ?_ (ih O q e V st J Q hQ);have:=qn st.tr hx;generalize a.eval x=v at this;cases this;rfl
      · rename_i c hx;have:=qn st.tr hx;cases c with
        | true=>
          refine wp_cond_true ?_ (ih O p (e.1 rfl) V st J Q hQ);generalize a.eval x=v at this;cases this;rfl
        | false=>
          refine wp_cond_false ?_ (ih O q (e.2 rfl) V st J Q hQ);generalize a.eval x=v at this;cases this;rfl
      · exact e.elim
    | block id c=>
      simp only[vc]at e;refine wp_block (ih id c e V st J _ λx ex N U hx hp=> ?_);obtain⟨G,t2,Z,H,X,Y,e2,C,A,u⟩:=hp;cases x with
      | nrm=>
        cases ex<;>simp only[AX.is]at hx;exact hQ .nrm _ N U trivial ⟨G,t2,Z,H,X,Y,e2,C,A,u⟩
      | ex i=>
        cases ex<;>simp only[AX.is]at hx;subst hx;simp only at e2;split at e2
        · rename_i hb;have:=Nat.eq_of_beq_eq_true hb;subst this;simp only[Exit.inBlock,if_true];exact hQ .nrm .normal N U trivial ⟨G,t2,Z,H,X,Y,e2,C,A,u⟩
        · rename_i hb;have hne:¬i=id:=λh=>(by subst h;simp at hb);simp only[Exit.inBlock,if_neg hne];exact hQ (.ex i) _ N U rfl ⟨G,t2,Z,H,X,Y,e2,C,A,u⟩
      | rt=>
        cases ex<;>simp only[AX.is]at hx;exact hQ .rt _ N U trivial ⟨G,t2,Z,H,X,Y,e2,C,A,u⟩
    | loop c=>
      simp only[vc]at e;split at e;case h_2=>
        have key:∀m (gl:GL) t h nx F I a w,GP (vc E P f O c) K m gl t h nx->GK gl.tab I0->St gl F I t h E.n a w->At F0 I0 E.nx0 w0 F I nx w->Code.rounds P c Q m a w:=by
          intro m;induction m with
          |zero=>intro gl t h nx F I a w e;exact e.elim
          | succ m ihm=>
            intro gl t h nx F I a w e V st J;simp only[GP]at e;rw[rounds_succ];refine ih O c e V st J _ λx ex N U hx hp=> ?_;obtain⟨G,t2,Z,H,X,Y,e2,C,A,u⟩:=hp;cases x with
            | nrm=>
              cases ex<;>simp only[AX.is]at hx;exact ihm G t2 Z H X Y N U e2 C A u
            | ex i=>
              cases ex<;>simp only[AX.is]at hx;exact hQ (.ex i) _ N U hx ⟨G,t2,Z,H,X,Y,e2,C,A,u⟩
            | rt=>
              cases ex<;>simp only[AX.is]at hx;exact hQ .rt _ N U trivial ⟨G,t2,Z,H,X,Y,e2,C,A,u⟩
        exact wp_loop_rounds _ (key E.unr gl t h nx F I a w e V st J)
      rename_i L hL;split at e;case h_2=>exact e.elim
      rename_i hb hhb;split at e;case h_2=>exact e.elim
      rename_i t0 ht0;obtain⟨e0,eb⟩:=e;obtain⟨s0,e0⟩:=LT.mtE_ok e0;obtain⟨hpre0,_,hpp0,t1,h1,I1,q1,q2,st1,at1⟩:=NK e0 V h00 st J;have key:∀m (s:L.σ) t1 h1 F1 I1 a1 w1,L.μ s<m->L.pre s->(∃p,gl.pf p/\(L.mem s).ok p)->q0m (L.t s) t0=some t1->q0m (L.h s) hb=some h1->St (L.gl gl s) F1 I1 t1 h1 E.n a1 w1->At F0 I0 E.nx0 w0 F1 I1 (nx+L.more) w1->Code.rounds P c Q m a1 w1:=by
        intro m;induction m with
        |zero=>intro s t1 h1 F1 I1 a1 w1 hlt;omega
        | succ m ihm=>
          intro s t1 h1 F1 I1 a1 w1 hlt hpre hpp q1 q2 st1 at1;obtain⟨pp,hp1,hp2⟩:=hpp;have es:=Jw (eb s hpre) hp1 hp2;rw[q1]at es;simp only at es;rw[q2]at es;simp only at es;rw[rounds_succ];refine ih O c es (by rw[GL.withP_tab];exact V) st1 at1 _ λx ex N U hx hp=> ?_;obtain⟨G,t2,Z,H,X,Y,e2,C,A,u⟩:=hp;cases x with
          | nrm=>
            cases ex<;>simp only[AX.is]at hx;obtain⟨s',e2⟩:=LT.mtE_ok e2;obtain⟨hpre',hmu,hpp',t3,h3,I3,r1,r2,st3,at3⟩:=NK e2 V h00 A u;exact ihm s' t3 h3 X I3 N U (by have:L.μ s'<L.μ s:=hmu.1;omega) hpre' hpp' r1 r2 st3 at3
          | ex i=>
            cases ex<;>simp only[AX.is]at hx;exact hQ (.ex i) _ N U hx ⟨G,t2,Z,H,X,Y,e2,C,A,u⟩
          | rt=>
            cases ex<;>simp only[AX.is]at hx;exact hQ .rt _ N U trivial ⟨G,t2,Z,H,X,Y,e2,C,A,u⟩
      exact wp_loop_rounds _ (key (L.μ s0+1) s0 t1 h1 F I1 a w (Nat.lt_succ_self _) hpre0 hpp0 q1 q2 st1 at1)
    |_=>simp[vc]at e
end
end
section
structure Sel(σ:Type)where
 β:Type
 f:β->σ
structure Ct where
 σ:Type
 args:σ->List AV
 h:σ->List (Nat×AO)
 m:Nat
 pre:σ->Prop:=λ_=>True
 mem:σ->PF:=λ_=>{}
 find:Option (List AV->T AO->Option σ):=none
 sel:Option (List AV->T AO->Option (Sel σ)):=none
 r:σ->AV
 h':σ->List (Nat×AO)
 m':Nat
 g:σ->GS
def q4h(P:O7) (f:Nat):Prop:=∀args w,(callFunc f args).run P w= .ok (.enter f args) w
def q4a(P:O7) (f:Nat) (C:Ct):Prop:=C.m<=C.m'/\1<=C.m/\q4h P f/\∀s,∃G A,q0m (C.h s) .e=some G/\q0m (C.h' s) .e=some A/\
 ∀ (F:Bool->Nat->Prop) (I:In) (w:World) (vs:List Value),VRs I (C.args s) vs->Sim F I G w->(∀b,F true b->b<w.heap.size)->(∀b,F false b->F true b)->C.pre s->(C.mem s).ok (q0x F w)->(∀i,C.m<=i->I i=none)->I 0=some (0,0,0)->
  Calls P f ⟨vs⟩ w λe H=>∃z u,e= .returned z/\VR u (C.r s) z/\Grow F I C.m w u C.m' A H/\(C.g s).Φ u (jF F w u A H)
def SK(v:SV) (h:Pl v.1):∃y,zn y=v:=by
 obtain⟨a,n,c⟩:=v;cases a with
 |none=>exact q8l n c
 |some x=>obtain⟨b,o,p⟩:=x;exact q8m b o p n c
def O8(k:Nat):List (Nat×SV)->Option SV
  | []=>none
  | (a,b)::l=>match Nat.beq a k with
    |true=>some b
    |false=>O8 k l
def G2(l:List (Nat×SV)) (k:Nat):SV:=match O8 k l with
 |some v=>v
 |none=>(none,0,0)
def qg5(a b:AV) (l:List (Nat×SV)):List (Nat×SV):=match a,b with
 | .tsl k, .sv (.slice a n c)=>(k,(a,n,c))::l
 | .tpt k, .sv (.pointer a)=>(k,(a,0,0))::l
 | .tmap k, .sv (.map m)=>(k,(m.map λb=>⟨b,0,none⟩,0,0))::l
 |_,_=>l
mutual
def NZ(a b:AV) (l:List (Nat×SV)):List (Nat×SV):=match a,b with
 | .agg x, .agg y=>colRL x y l
 | .tup x, .tup y=>colRL x y l
 | .ifc _ a, .ifc _ b=>qg5 a b l
 |a,b=>qg5 a b l
def colRL:List AV->List AV->List (Nat×SV)->List (Nat×SV)
 |a::x,b::y,l=>colRL x y (NZ a b l)
 |_,_,l=>l
end
mutual
def zu(x:Nat->SV) (ks:List Nat):AV->AV
  | .tsl k=>match jd k ks with
    |true=> .sv (.slice (x k).1 (x k).2.1 (x k).2.2)
    |false=> .tsl k
  | .tpt k=>match jd k ks with
    |true=> .sv (.pointer (x k).1)
    |false=> .tpt k
  | .tmap k=>match jd k ks with
    |true=> .sv (.map (sO (x k).1))
    |false=> .tmap k
  | .ifc t a=> .ifc t (zu x ks a)
  | .agg l=> .agg (openRL x ks l)
  | .tup l=> .tup (openRL x ks l)
  | .fn f l=> .fn f (openRL x ks l)
  | .bfn f l m=> .bfn f (openRL x ks l) (openRL x ks m)
  | .bool b=> .bool b
  | .int k n=> .int k n
  | .str s=> .str s
  | .nilp=> .nilp
  | .ptr a b=> .ptr a b
  | .nsl=> .nsl
  | .sl a b c d=> .sl a b c d
  | .gsl a b c d=> .gsl a b c d
  | .nmap=> .nmap
  | .map a=> .map a
  | .nilf=> .nilf
  | .nili=> .nili
  | .ifo=> .ifo
  | .anyi k=> .anyi k
  | .lin k c l=> .lin k c l
  | .sv v=> .sv v
  | .ssl a b c d k=> .ssl a b c d k
  | .msl a b c=> .msl a b c
  | .usl a b c d=> .usl a b c d
  | .sptr a b=> .sptr a b
def openRL(x:Nat->SV) (ks:List Nat):List AV->List AV
 | []=>[]
 |a::l=>zu x ks a::openRL x ks l
end
section
variable {I J:In} {x:Nat->SV} {ks:List Nat}
mutual
def Nb(C:∀k,k∈ks->∃y,I k=some y/\zn y=x k) (A:J.le I):∀(a:AV) (v:Value),VR J (zu x ks a) v->VR I a v
  | .tsl k,v,h=>by
    unfold zu at h;split at h
    · rename_i hm;obtain⟨y,G,H⟩:=C k (wC hm);cases h;have:=VR.tsl G;rw[H]at this;exact this
    · exact h.mono A
  | .tpt k,v,h=>by
    unfold zu at h;split at h
    · rename_i hm;obtain⟨y,G,H⟩:=C k (wC hm);cases h;have:=VR.tpt G;rw[H]at this;exact this
    · exact h.mono A
  | .tmap k,v,h=>by
    unfold zu at h;split at h
    · rename_i hm;obtain⟨y,G,H⟩:=C k (wC hm);cases h;have:=VR.tmap G;rw[H]at this;exact this
    · exact h.mono A
  | .ifc t a,v,h=>by unfold zu at h;cases h with|ifc h=>exact .ifc (Nb C A a _ h)
  | .agg l,v,h=>by unfold zu at h;cases h with|agg h=>exact .agg (closeL C A l _ h)
  | .tup l,v,h=>by unfold zu at h;cases h with|tup h=>exact .tup (closeL C A l _ h)
  | .fn f l,v,h=>by unfold zu at h;cases h with|fn h=>exact .fn (closeL C A l _ h)
  | .bfn f l m,v,h=>by unfold zu at h;cases h with|bfn G h=>exact .bfn (closeL C A l _ G) (closeL C A m _ h)
  | .bool b,v,h=>by unfold zu at h;exact h.mono A
  | .int k n,v,h=>by unfold zu at h;exact h.mono A
  | .str s,v,h=>by unfold zu at h;exact h.mono A
  | .nilp,v,h=>by unfold zu at h;exact h.mono A
  | .ptr a b,v,h=>by unfold zu at h;exact h.mono A
  | .nsl,v,h=>by unfold zu at h;exact h.mono A
  | .sl a b c d,v,h=>by unfold zu at h;exact h.mono A
  | .gsl a b c d,v,h=>by unfold zu at h;exact h.mono A
  | .nmap,v,h=>by unfold zu at h;exact h.mono A
  | .map a,v,h=>by unfold zu at h;exact h.mono A
  | .nilf,v,h=>by unfold zu at h;exact h.mono A
  | .nili,v,h=>by unfold zu at h;exact h.mono A
  | .ifo,v,h=>by unfold zu at h;exact h.mono A
  | .anyi k,v,h=>by unfold zu at h;exact h.mono A
  | .lin k c l,v,h=>by unfold zu at h;exact h.mono A
  | .sv u,v,h=>by unfold zu at h;exact h.mono A
  | .ssl a b c d k,v,h=>by unfold zu at h;exact h.mono A
  | .msl a b c,v,h=>by unfold zu at h;exact h.mono A
  | .usl a b c d,v,h=>by unfold zu at h;exact h.mono A
  | .sptr a b,v,h=>by unfold zu at h;exact h.mono A
def closeL(A:∀k,k∈ks->∃y,I k=some y/\zn y=x k) (u:J.le I):∀(l:List AV) (vs:List Value),VRs J (openRL x ks l) vs->VRs I l vs
  | [],vs,h=>by unfold openRL at h;cases h;exact .nil
  | a::l,vs,h=>by unfold openRL at h;cases h with|cons C G=>exact .cons (Nb A u a _ C) (closeL A u l _ G)
end
end
def Sb(x:Nat->SV):List Nat->Prop->Prop
 | [],K=>K
 |k::l,K=>Ob (Pl (x k).1)/\Sb x l K
def qdh{x:Nat->SV}:∀{l:List Nat} {K:Prop},Sb x l K->(∀k∈l,Pl (x k).1)/\K
  | [],K,h=>⟨λk J=>(by cases J),h⟩
  | k ::l,K,h=>by
    obtain⟨A,C⟩:=h;obtain⟨G,H⟩:=qdh C;exact⟨λj u=>by
      cases u with
      |head=>exact A
      |tail _ u=>exact G j u,H⟩
def Ih(nx:Nat):List Nat->List (Nat×Nat)
 | []=>[]
 |k::l=>(k,nx+k)::Ih nx l
def Gy(p:Nat->Bool):List Nat->Bool
  | []=>true
  | a::l=>match p a with
    |true=>Gy p l
    |false=>false
def t_{p:Nat->Bool}:∀{l:List Nat},Gy p l=true->∀a∈l,p a=true
  | [],_,a,h=>by cases h
  | b ::l,h,a,hm=>by
    simp only[Gy]at h;split at h
    · rename_i u;cases hm with
      |head=>exact u
      |tail _ hm=>exact t_ h a hm
    · cases h
def Gq(ks:List Nat):List (Nat×AO)->Bool
  | []=>true
  | (i,_)::l=>match jd i ks with
    |true=>false
    |false=>Gq ks l
def tP{ks:List Nat}:∀{l:List (Nat×AO)},Gq ks l=true->∀i o,(i,o)∈l->i∉ks
  | [],_,i,o,h=>by cases h
  | (j,q)::l,h,i,o,hm=>by
    simp only[Gq]at h;split at h
    · cases h
    · rename_i u;cases hm with
      |head=>exact FL u
      |tail _ hm=>exact tP h i o hm
def WQ(m:Nat) (gl:GL) (r:AV) (h:T AO) (nx:Nat) (A:AV) (u:List (Nat×AO)) (m':Nat) (ks:List Nat) (x:Nat->SV) (K:Prop):Prop:=
  match wJ m h u (NY m A r (Ih nx ks))with
  | l=>match Nat.ble m m'&&(JI (wF m l) u []&&(Gq ks u&&Gy (λk=>Nat.ble m k&&(Nat.blt k m'&&Nat.ble nx (wF m l k))) ks))with
    |true=>eA (wF m l) m' (zu x ks A) r (eH (wF m l) nx m' h u (Sb x ks K))
    |false=>False
def GO(m:Nat) (gl:GL) (r:AV) (h:T AO) (nx:Nat) (u:AV) (A:List (Nat×AO)) (m':Nat) (g:GS):Prop:=match g with
  |none=>WQ m gl r h nx u A m' [] (G2 []) True
  | some d=>match NZ u r []with
    |C=>∃b:d.β,WQ m gl r h nx u A m' d.ks (G2 C) (Ob (d.pre b)/\Qq gl (d.mem b (d.ks.map (G2 C))) True)
end
section
variable {t:T AV}
def SZ{m m' nx n:Nat} {gl:GL} {r r' z} {h h1:T AO} {ks:List Nat} {x:Nat->SV} {K:Prop} {F0 F:Bool->Nat->Prop} {I0 I:In} {w0 w:World} {a:Act}
    (e:WQ m gl r h nx r' (zU h1) m' ks x K) (st:St gl F I t h n a w) (A:At F0 I0 m w0 F I nx w) (hz:VR I r z) (low:∀b,F0 true b->b<w0.heap.size) (h00:∀i,m<=i->I0 i=none):
    K/\∃H,VR H r' z/\Grow F0 I0 m w0 H m' h1 w/\(∀k∈ks,∃y,H k=some y/\zn y=x k)/\Pub.le (q0x F w) (jF F0 w0 H h1 w):=by
  unfold WQ at e;simp only at e;split at e;case h_2=>exact e.elim
  rename_i hb;simp only[Bool.and_eq_true]at hb;obtain⟨hb1,hb2,hb4,hb3⟩:=hb;have hle:=Nat.le_of_ble_eq_true hb1;generalize hρ:wF m (wJ m h (zU h1) (NY m r' r (Ih nx ks)))=ρ at e hb2 hb3;have Z:∀i,i<m->ρ i=i:=λi hi=>by rw[←hρ];exact tz hi
  obtain⟨e1,e⟩:=qg8 (I:=I) st.gok.z e;obtain⟨e2,e⟩:=Gk st.gok.z A.fresh e;obtain⟨e3,e4⟩:=qdh e;obtain⟨_,inj⟩:=Ws hb2;have V:∀k∈ks,m<=k/\k<m'/\nx<=ρ k:=λk u=>by have:=t_ hb3 k u;simp only[Bool.and_eq_true]at this;exact⟨Nat.le_of_ble_eq_true this.1,by simpa[Nat.blt_eq]using this.2.1,Nat.le_of_ble_eq_true this.2.2⟩
  have hy:∀k,∃y,k∈ks->zn y=x k:=λk=>by
    by_cases u:k∈ks
    · obtain⟨y,h⟩:=SK (x k) (e3 k u);exact⟨y,λ_=>h⟩
    · exact⟨(0,0,0),λh=>absurd h u⟩
  obtain⟨yf,hyf⟩:=Classical.axiomOfChoice hy;have hkn:∀k∈ks,qZ m' ρ I k=none:=λk u=>by
    cases hr:qZ m' ρ I k with
    |none=>rfl
    | some y=>
      have:=(jD hr).2;rw[A.fresh _ (V k u).2.2]at this;cases this
  let H:In:=λi=>match jd i ks with
    |true=>some (yf i)
    |false=>qZ m' ρ I i
  have hI'k:∀k∈ks,H k=some (yf k):=λk u=>by
    simp only[H];cases hm:jd k ks with
    |true=>rfl
    |false=>exact absurd u (FL hm)
  have G:∀k,k∉ks->H k=qZ m' ρ I k:=λk u=>by
    simp only[H];cases hm:jd k ks with
    |true=>exact absurd (wC hm) u
    |false=>rfl
  have hJ:(qZ m' ρ I).le H:=λi y hi=>by
    by_cases u:i∈ks
    · rw[hkn i u]at hi;cases hi
    · rw[G i u];exact hi
  have hkk:∀k∈ks,∃y,H k=some y/\zn y=x k:=λk u=>⟨_,hI'k k u,hyf k u⟩;have J:∀id o b N,h1.get id=some o->H id=some (b,N)->∃X,h.get (ρ id)=some X/\I (ρ id)=some (b,N)/\(∀t ob,OR I t X ob->OR (qZ m' ρ I) t o ob)/\(o.rw=true->X.rw=true):=λid o b N U hi=>by
    have u:=tP hb4 id o (jc U);rw[G id u]at hi;obtain⟨O,C⟩:=jD hi;rcases e2 id o (jc U)with g3|⟨X,g3,g4,_,g5⟩
    · rw[g3]at C;cases C
    · exact⟨X,g3,C,g4,g5⟩
  have sub0:∀b,F false b->F0 true b->F0 false b:=λb Y h0=>by
    rcases A.sub b Y with h|h
    · exact h
    · exact absurd h0 h
  refine⟨e4,H,Nb hkk hJ _ _ (e1 z hz),⟨?_,?_,⟨?_,?_,?_⟩,A.frm,A.siz,A.sam⟩,hkk,?_⟩
  · intro id y hi;have hid:id<m:=by
      rcases Nat.lt_or_ge id m with h|h
      · exact h
      · rw[h00 id h]at hi;cases hi
    have u:id∉ks:=λu=>by have:=(V id u).1;omega
    rw[G id u];unfold qZ;rw[show Nat.blt id m'=true by simp[Nat.blt_eq];omega];simp only;rw[Z id hid,A.le id hid];exact hi
  · intro i y hi;by_cases u:i∈ks
    · exact .inr ⟨(V i u).1,(V i u).2.1⟩
    · rw[G i u]at hi;obtain⟨O,C⟩:=jD hi;rcases Nat.lt_or_ge i m with h|h
      · rw[Z i h,A.le i h]at C;exact .inl C
      · exact .inr ⟨h,O⟩
  · intro id o b N U hi;obtain⟨X,O,C,g3,_⟩:=J id o b N U hi;obtain⟨ob,k1,k2⟩:=st.sim.obj _ _ _ _ O C;exact⟨ob,k1,(g3 _ _ k2).mono hJ⟩
  · intro id id' o o' b N tt' U hg' hi hi';obtain⟨X,O,C,_,_⟩:=J id o b N U hi;obtain⟨o2',g1',g2',_,_⟩:=J id' o' b tt' hg' hi';exact inj _ _ _ _ (jc U) (jc hg') (st.sim.inj _ _ _ _ _ _ _ O g1' C g2')
  · intro id o b N U hi Y;obtain⟨X,O,C,_,g5⟩:=J id o b N U hi;obtain⟨k1,k2⟩:=st.sim.fr _ _ _ _ O C (A.sup true b Y);refine⟨?_,sub0 b k2 Y⟩;cases hrw:o.rw with
    |false=>rfl
    |true=>rw[g5 hrw]at k1;cases k1
  · intro b ob hb;rw[q03]at hb;rw[yK];refine⟨?_,hb.2⟩;rcases A.sub b hb.1 with Y|Y
    · exact .inl Y
    · refine .inr ⟨Y,λ⟨id,o,N,q1,q2,q3⟩=> ?_⟩;obtain⟨X,O,C,_,g5⟩:=J id o b N q1 q3;have:=(st.sim.fr _ _ _ _ O C (st.zf b hb.1)).1;rw[g5 q2]at this;cases this
def qfe{m m' nx n:Nat} {gl:GL} {r N z} {h A:T AO} {g:GS} {F0 F:Bool->Nat->Prop} {I0 I:In} {w0 w:World} {a:Act}
  (e:GO m gl r h nx N (zU A) m' g) (st:St gl F I t h n a w) (C:At F0 I0 m w0 F I nx w) (V:VR I r z) (low:∀b,F0 true b->b<w0.heap.size) (G:∀i,m<=i->I0 i=none):
  ∃u,VR u N z/\Grow F0 I0 m w0 u m' A w/\g.Φ u (jF F0 w0 u A w):=by
 unfold GO at e;split at e
 ·obtain⟨_,u,A,J,_,_⟩:=SZ e st C V low G;exact⟨u,A,J,trivial⟩
 ·rename_i d;simp only at e;obtain⟨b,e⟩:=e;obtain⟨O,u,A,J,U,X⟩:=SZ e st C V low G;refine⟨u,A,J,λk H=>(U k H).imp λy Y=>Y.1,b,O.1,λx hx=> ?_⟩;have hm:d.ks.map x=d.ks.map (G2 (NZ N r [])):=List.map_congr_left λk H=>by obtain⟨y,y1,y2⟩:=U k H;rw[hx k y H y1,y2]
  rw[hm];exact PF.ok_mono X ((Wu O.2).1 _ st.pf)
end
end
end Go.Proofs.YtniogjgfomaicaaGreat.Sen
