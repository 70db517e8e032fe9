/-
  The machine with unknown values: questions reckoned out of the code. No condition but what its theorems ask.
-/
import Derived.Test.YtniogjgfomaicaaGreatU4
namespace Go.Proofs.YtniogjgfomaicaaGreat.Sen
open Go.Proofs.YtniogjgfomaicaaGreat.Eng Go.RowKit
set_option linter.defProp false
set_option linter.unusedVariables false
set_option linter.unusedSimpArgs false
noncomputable section
section
abbrev Pub:=Nat->Option Obj
def Pub.le(p q:Pub):Prop:=∀b o,p b=some o->q b=some o
open Classical in
def Wm(F:Bool->Nat->Prop) (w0:World) (own:Nat->Prop) (w:World):Pub:=λb=>if F false b\/(¬F true b/\¬own b)then w.heap[b]? else none
def yr{F w0 own w b o}:Wm F w0 own w b=some o↔(F false b\/(¬F true b/\¬own b))/\w.heap[b]? =some o:=by
 unfold Wm;split
 ·rename_i h;exact⟨λe=>⟨h,e⟩,λe=>e.2⟩
 ·rename_i h;exact⟨λe=>(by cases e),λe=>absurd e.1 h⟩
open Classical in
def q11(F:Bool->Nat->Prop) (w:World):Pub:=λb=>if F false b then w.heap[b]? else none
def q03{F w b o}:q11 F w b=some o↔F false b/\w.heap[b]? =some o:=by
 unfold q11;split
 ·rename_i h;exact⟨λe=>⟨h,e⟩,λe=>e.2⟩
 ·rename_i h;exact⟨λe=>(by cases e),λe=>absurd e.1 h⟩
def Own(h:T AO) (I:In) (b:Nat):Prop:=∃id o t,h.get id=some o/\o.rw=true/\I id=some (b,t)
abbrev jK(F:Bool->Nat->Prop) (w:World) (I':In) (h':T AO) (w':World):Pub:=Wm F w (Own h' I') w'
structure GK(tab:T AV) (I:In):Prop where
 g:ZE tab I
 z:I 0=some (0,0,0)
def GK.mono{tab:T AV} {I J:In} (hl:I.le J) (h:GK tab I):GK tab J:=⟨h.g.mono hl,hl _ _ h.z⟩
structure PF where
 on:Bool:=false
 pf:Pub->Prop:=λ_=>True
 mono:∀p q,Pub.le p q->pf p->pf q:=by exactλ_ _ _ h=>h
def PF.ok(f:PF) (p:Pub):Prop:=match f.on with
 |true=>f.pf p
 |false=>True
def PF.ok_mono{f:PF} {p q:Pub} (h:Pub.le p q) (e:f.ok p):f.ok q:=by
 unfold PF.ok at e⊢;split
 ·rename_i ho;rw[ho]at e;exact f.mono p q h e
 ·trivial
structure GD where
 β:Type
 ks:List Nat
 pre:β->Prop
 mem:β->List SV->PF
def GS:=Option GD
def GS.nil:GS:=none
def GS.Φ(g:GS) (I:In) (p:Pub):Prop:=match g with
 |none=>True
 |some d=>(∀k,k∈d.ks->∃y,I k=some y)/\∃b:d.β,d.pre b/\∀x:Nat->SV,(∀k y,k∈d.ks->I k=some y->x k=zp y)->(d.mem b (d.ks.map x)).ok p
def GS.mono(g:GS):∀(I J:In) (p q:Pub),I.le J->Pub.le p q->g.Φ I p->g.Φ J q:=λI J p q hI hp h=>by
  cases g with
  |none=>trivial
  | some d=>
    refine⟨λk hk=> ?_,h.2.imp λb hb=>⟨hb.1,λx hx=>PF.ok_mono hp (hb.2 x λk y hk hy=>hx k y hk (hI k y hy))⟩⟩;obtain⟨y,hy⟩:=h.1 k hk;exact⟨y,hI k y hy⟩
def GS.Triv(g:GS):Prop:=∀I p,g.Φ I p
def GS.triv_nil:GS.nil.Triv:=λ_ _=>trivial
structure GL where
 tab:T AV
 pf:Pub->Prop
 mono:∀p q,Pub.le p q->pf p->pf q
 triv:Bool
 all:triv=true->∀p,pf p
variable {gl:GL}
structure St(gl:GL) (F:Bool->Nat->Prop) (I:In) (t:T AV) (h:T AO) (n:Nat) (a:Act) (w:World):Prop where
 tr:TR I t a.tmps
 size:a.tmps.size=n
 defers:a.defers=[]
 sim:Sim F I h w
 low:∀b,F true b->b<w.heap.size
 gok:GK gl.tab I
 zf:∀b,F false b->F true b
 pf:gl.pf (q11 F w)
def YV{F w w'} (h:∀b,F false b->w'.heap[b]? =w.heap[b]?):q11 F w'=q11 F w:=by
 funext b;unfold q11;split
 ·rename_i hb;exact h b hb
 ·rfl
def y7(gl:GL) (P:IW) (t:T AV) (h:T AO) (nx:Nat) (o:Oper) (g:GS) (r:AV) (h':T AO) (nx':Nat):Prop:=
 nx<=nx'/\∀(F:Bool->Nat->Prop) (I:In) (n:Nat) (a:Act) (w:World),St gl F I t h n a w->vd I nx nx'->∀(K:Act->World->Prop) (Q:Exit->Act->World->Prop),
  (∀z I' w',VR I' r z->Grow F I nx w I' nx' h' w'->g.Φ I' (jK F w I' h' w')->K (a.put o.dst z) w')->o.wp P a w K Q
def QP(P:IW) (t:T AV) (o:Oper) (v:AV):Prop:=∀(I:In) (a:Act),TR I t a.tmps->FO P (execOp a.eval o) I v
def RP(gl:GL) (P:IW) (t:T AV) (h:T AO) (o:Oper) (v:AV):Prop:=∀(F:Bool->Nat->Prop) (I:In) (a:Act) (w:World),TR I t a.tmps->Sim F I h w->gl.pf (q11 F w)->
 ∃z,(execOp a.eval o).run P w= .ok (.value z) w/\VR I v z
def AP(P:IW) (t:T AV) (nx:Nat) (o:Oper) (v:AV) (ob:AO):Prop:=∀(I:In) (a:Act),TR I t a.tmps->Wc P I (execOp a.eval o) nx v ob
variable {t:T AV} {h:T AO} {nx:Nat} {o:Oper} {v:AV} {g:GS}
def QP.act{P:IW} (e:QP P t o v) (hg:g.Triv):y7 gl P t h nx o g v h nx:=by refine⟨Nat.le_refl _,λF I n a w st fr K Q hk=> ?_⟩;obtain⟨z,h1,h2⟩:=e I a st.tr;unfold Oper.wp;rw[h1 w];exact hk z I w h2 (st.sim.grow nx) (hg _ _)
def RP.act{P:IW} (e:RP gl P t h o v) (hg:g.Triv):y7 gl P t h nx o g v h nx:=by refine⟨Nat.le_refl _,λF I n a w st fr K Q hk=> ?_⟩;obtain⟨z,h1,h2⟩:=e F I a w st.tr st.sim st.pf;unfold Oper.wp;rw[h1];exact hk z I w h2 (st.sim.grow nx) (hg _ _)
def AP.act{P:IW} {h h':T AO} {ob:AO} (e:AP P t nx o v ob) (hp:T.put 64 nx (some ob) h=some h') (hg:g.Triv):y7 gl P t h nx o g v h' (nx+1):=by refine⟨Nat.le_succ _,λF I n a w st fr K Q hk=> ?_⟩;obtain⟨z,obj,tot,w',g1,g2,g3,g4⟩:=e I a st.tr w;have hI:=fr nx (Nat.le_refl _) (Nat.lt_succ_self _);obtain⟨k1,k2⟩:=g4 (ext I nx (w.heap.size,tot)) (QY _ hI) (zZ _ _ _);unfold Oper.wp;rw[g1];exact hk z _ w' k1 (st.sim.push hI st.low hp g2 k2 g3) (hg _ _)
def KP(gl:GL) (P:IW) (t:T AV) (h:T AO) (nx:Nat) (o:Oper):Kd->AV->Option AO->GS->T AO->Nat->Prop
 | .q,v,_,g,h',nx'=>h'=h/\nx'=nx/\QP P t o v/\g.Triv
 | .r,v,_,g,h',nx'=>h'=h/\nx'=nx/\RP gl P t h o v/\g.Triv
 | .a,v,ob,g,h',nx'=>∃x,ob=some x/\AP P t nx o v x/\T.put 64 nx (some x) h=some h'/\nx'=nx+1/\kS P o=true/\qG o=false/\g.Triv
 | .s,v,_,g,h',nx'=>y7 gl P t h nx o g v h' nx'/\qG o=true
def KP.act{P:IW} {t h nx o k v ob g h' nx'} (hk:KP gl P t h nx o k v ob g h' nx'):y7 gl P t h nx o g v h' nx':=by
 cases k with
 |q=>obtain⟨rfl,rfl,h1,h2⟩:=hk;exact h1.act h2
 |r=>obtain⟨rfl,rfl,h1,h2⟩:=hk;exact h1.act h2
 |a=>obtain⟨x,_,h1,h2,rfl,_,_,h3⟩:=hk;exact h1.act h2 h3
 |s=>exact hk.1
structure Rc where
 o:Oper
 w:Bool
 k:Kd
 t:T AV
 v:AV
 ob:Option AO
 nx:Nat
 h:T AO
 g:GS
def Ao(ops:Array Oper) (o:Oper) (t:T AV) (b:Bool):Prop:=∀(I:In) (a:Act),TR I t a.tmps->Region.wanted o (yielded ops a.tmps)=b
def We(gl:GL) (P:IW) (n:Nat) (ops:Array Oper) (c:Rc) (t:T AV) (h:T AO) (nx:Nat) (t':T AV) (h':T AO) (nx':Nat):Prop:=
 c.h=h/\c.nx=nx/\x0 t (slotsOf ops c.o) .e=some c.t/\yz n c.o.dst c.v t=some t'/\Ao ops c.o c.t c.w/\
  (c.w=true->KP gl P c.t h nx c.o c.k c.v c.ob c.g h' nx')/\(c.w=false->c.v=j8/\h'=h/\nx'=nx/\c.g.Triv)
structure Text(gl:GL) (P:IW) (n:Nat) (ops:Array Oper) (A:List Nat) (pr:vK) (rs:List Rc) (Tt:Nat->T AV) (H:Nat->T AO) (X:Nat->Nat):Prop where
 hA:vL ops.toList 0 []=some A
 st:Vi P ops A pr=true
 len:rs.length=ops.size
 step:∀i o c,ops[i]? =some o->rs[i]? =some c->c.o=o/\We gl P n ops c (Tt i) (H i) (X i) (Tt (i+1)) (H (i+1)) (X (i+1))
 free:∀i c e,rs[i]? =some c->c.w=true->c.k= .a->e<=i->Vq ops.toList e=true->(H e).get c.nx=none
 again:∀i c e,rs[i]? =some c->c.w=true->c.k= .r->e<=ops.size->other ops.toList A i e=true->RP gl P c.t (H e) c.o c.v
section
variable {P:IW} {n:Nat} {ops:Array Oper} {A:List Nat} {pr:vK} {rs:List Rc} {Tt:Nat->T AV} {H:Nat->T AO} {X:Nat->Nat}
def Text.rc(x:Text gl P n ops A pr rs Tt H X) {i:Nat} (hi:i<ops.size):∃o c,ops[i]? =some o/\rs[i]? =some c/\c.o=o/\We gl P n ops c (Tt i) (H i) (X i) (Tt (i+1)) (H (i+1)) (X (i+1)):=by have h1:ops[i]? =some ops[i]:=Array.getElem?_eq_getElem hi;have h2:rs[i]? =some (rs[i]'(by rw[x.len];exact hi)):=List.getElem?_eq_getElem _;exact⟨_,_,h1,h2,x.step i _ _ h1 h2⟩
def Text.xle1(x:Text gl P n ops A pr rs Tt H X) {i:Nat} (hi:i<ops.size):X i<=X (i+1):=by
  obtain⟨o,c,h1,h2,h3,h4⟩:=x.rc hi;obtain⟨_,_,_,_,hg,hw,hu⟩:=h4;cases hcw:c.w with
  |false=>rw[(hu hcw).2.2.1];exact Nat.le_refl _
  | true=>
    have:=hw hcw;cases hk:c.k<;>rw[hk]at this
    · rw[this.2.1];exact Nat.le_refl _
    · rw[this.2.1];exact Nat.le_refl _
    · obtain⟨y,_,_,_,e,_⟩:=this;rw[e];exact Nat.le_succ _
    · exact this.1.1
def Text.xle(x:Text gl P n ops A pr rs Tt H X) {i j:Nat} (h:i<=j) (hj:j<=ops.size):X i<=X j:=by
  induction j with
  | zero => have:i=0:=by omega
            subst this;exact Nat.le_refl _
  | succ j ih=>
    by_cases e:i=j+1
    · subst e;exact Nat.le_refl _
    · exact Nat.le_trans (ih (by omega) (by omega)) (x.xle1 (by omega))
def Text.slot(x:Text gl P n ops A pr rs Tt H X):∀i,i<=ops.size->∀τ,(∃j c,j<i/\rs[j]? =some c/\c.o.dst=some τ/\(Tt i).get τ=some c.v)\/((∀j c,j<i->rs[j]? =some c->c.o.dst≠some τ)/\(Tt i).get τ=(Tt 0).get τ)
  |0,_,τ=> .inr ⟨λj c h=>by omega,rfl⟩
  | i + 1,hi,τ=>by
    obtain⟨o,c,h1,h2,h3,h4⟩:=x.rc (i:=i) (by omega);obtain⟨_,_,_,hp,_⟩:=h4;have ih:=Text.slot x i (by omega) τ;have other:c.o.dst≠some τ->(Tt (i+1)).get τ=(Tt i).get τ:=λhne=>by
      cases hd:c.o.dst with
      |none=>rw[hd]at hp;simp[yz]at hp;rw[hp]
      | some d=>
        rw[hd]at hp;rw[(Fl hp).2.2 τ,if_neg (λe=>hne (by rw[hd,e]))]
    by_cases hd:c.o.dst=some τ
    · rw[hd]at hp;exact .inl ⟨i,c,Nat.lt_succ_self _,h2,hd,by rw[(Fl hp).2.2 τ,if_pos rfl]⟩
    · rcases ih with⟨j,cj,a1,a2,a3,a4⟩|⟨a1,a2⟩
      · exact .inl ⟨j,cj,by omega,a2,a3,by rw[other hd];exact a4⟩
      · refine .inr ⟨λj cj hj hc=> ?_,by rw[other hd];exact a2⟩;by_cases e:j=i
        · subst e;rw[h2]at hc;cases hc;exact hd
        · exact a1 j cj (by omega) hc
def Text.look(x:Text gl P n ops A pr rs Tt H X) {i:Nat} {o:Oper} {c:Rc} (ho:ops[i]? =some o) (hc:rs[i]? =some c):
  (∀j cj d,rs[j]? =some cj->o.dst=some d->cj.o.dst=some d->j=i)/\
  (∀j cj τ,τ∈slotsOf ops o->rs[j]? =some cj->cj.o.dst=some τ->j=i\/j0 A i j=true\/j0 A j i=true)/\
  (qG o=true->∀j,j<i->flag qG ops.toList j=true\/flag (kS P) ops.toList j=true->j0 A i j=true\/pr=some (j,i)):=by
 have hil:i<ops.toList.length:=by have:=(Array.getElem?_eq_some_iff.1 ho).1;simpa using this
 have h:=vG x.st i hil;have hn:nth ops.toList i=some o:=by rw[jY];simpa using ho
 simp only[hn,Bool.and_eq_true]at h;obtain⟨⟨h1,h2⟩,h3⟩:=h;have dst:∀j cj τ,rs[j]? =some cj->cj.o.dst=some τ->j<ops.toList.length/\FR ops.toList j=some τ:=λj cj τ hj hd=>by
  have hjl:j<ops.size:=by have:=(List.getElem?_eq_some_iff.1 hj).1;rw[x.len]at this;exact this
  obtain⟨oj,cj',g1,g2,g3,_⟩:=x.rc hjl;rw[hj]at g2;cases g2;refine⟨by simpa using hjl,?_⟩;unfold FR;have:nth ops.toList j=some oj:=by rw[jY];simpa using g1
  rw[this];simp only;rw[←g3];exact hd
 refine⟨λj cj d hj hd hjd=> ?_,λj cj τ hτ hj hjd=> ?_,λhs j hji hf=> ?_⟩
 ·rw[hd]at h1;obtain⟨g1,g2⟩:=dst j cj d hj hjd;have:=vG h1 j g1;rw[g2]at this;simp only[Xd,Bool.or_eq_true,Bool.not_eq_true']at this;rcases this with h|h
  ·exact(Nat.eq_of_beq_eq_true h).symm
  ·simp at h
 ·obtain⟨g1,g2⟩:=dst j cj τ hj hjd;have:=vG (List.all_eq_true.1 h2 τ hτ) j g1;rw[g2]at this;simp only[Xd,Bool.or_eq_true,Bool.not_eq_true']at this;rcases this with((h|h)|h)|h
  ·exact .inl (Nat.eq_of_beq_eq_true h).symm
  ·simp at h
  ·exact .inr (.inl h)
  ·exact .inr (.inr h)
 ·rw[hs]at h3;simp only[Bool.not_true,Bool.false_or]at h3;have:=vG h3 j hji;simp only[Bool.or_eq_true,Bool.not_eq_true',Bool.or_eq_false_iff]at this;rcases this with(h|h)|h
  ·rcases hf with hf|hf
   ·rw[h.1]at hf;cases hf
   ·rw[h.2]at hf;cases hf
  ·exact .inl h
  ·exact .inr (qfj h)
def xW{f:Oper->Bool} {i:Nat} {o:Oper} (ho:ops[i]? =some o):flag f ops.toList i=f o:=by
 have:nth ops.toList i=some o:=by rw[jY];simpa using ho
 unfold flag;rw[this]
def Text.reach(x:Text gl P n ops A pr rs Tt H X) {e:Nat}:∀m,e<=m->m<=ops.size->(∀s,e<=s->s<m->flag qG ops.toList s=false)->∀id o,(H m).get id=some o->
    (∃j c,rs[j]? =some c/\e<=j/\j<m/\c.w=true/\c.k= .a/\c.nx=id/\c.ob=some o)\/(H e).get id=some o:=by
  intro m;induction m with
  | zero => intro h1 _ _ id o h;have:e=0:=by omega
            subst this;exact .inr h
  | succ m ih=>
    intro h1 h2 h3 id o h;by_cases hem:e=m+1
    · subst hem;exact .inr h
    · obtain⟨op,c,g1,g2,g3,g4⟩:=x.rc (i:=m) (by omega);have ih:=ih (by omega) (by omega) λs a b=>h3 s a (by omega);have lift:(H m).get id=some o->(∃j c,rs[j]? =some c/\e<=j/\j<m+1/\c.w=true/\c.k= .a/\c.nx=id/\c.ob=some o)\/(H e).get id=some o:=λh=>by
        rcases ih id o h with⟨j,cj,a1,a2,a3,a4⟩|a
        · exact .inl ⟨j,cj,a1,a2,by omega,a4⟩
        · exact .inr a
      obtain⟨_,hnx,_,_,_,hw,hu⟩:=g4;cases hcw:c.w with
      |false=>rw[(hu hcw).2.1]at h;exact lift h
      | true=>
        have hk:=hw hcw;cases hck:c.k<;>rw[hck]at hk
        · rw[hk.1]at h;exact lift h
        · rw[hk.1]at h;exact lift h
        · obtain⟨y,k1,_,k3,_,_,_,_⟩:=hk;rw[T.get_put _ _ _ _ _ k3]at h;split at h
          · rename_i hid;cases h;exact .inl ⟨m,c,g2,by omega,Nat.lt_succ_self _,hcw,hck,by rw[hnx,hid],k1⟩
          · exact lift h
        · have hS:=hk.2;have:=h3 m (by omega) (Nat.lt_succ_self _);rw[xW g1,←g3,hS]at this;cases this
end
end
section
variable {gl:GL}
def RR(rs:List Rc) (H:Nat->T AO) (e:Nat) (L:Nat->Prop) (id:Nat) (o:AO):Prop:=
 (∃j c,rs[j]? =some c/\e<=j/\L j/\c.w=true/\c.k= .a/\c.nx=id/\c.ob=some o)\/(H e).get id=some o
def Ja(rs:List Rc) (H:Nat->T AO) (e:Nat) (L:Nat->Prop) (I:In) (b:Nat):Prop:=
 (∃id o t,RR rs H e L id o/\o.rw=true/\I id=some (b,t))\/∃j c t,rs[j]? =some c/\e<=j/\L j/\c.w=true/\c.k= .a/\I c.nx=some (b,t)
structure Inv(gl:GL) (P:IW) (F:Bool->Nat->Prop) (n:Nat) (ops:Array Oper) (rs:List Rc) (T0:T AV) (H:Nat->T AO) (X:Nat->Nat) (I0:In) (w0:World) (e:Nat) (L:Nat->Prop) (I:In) (a:Act) (w:World):Prop where
 eN:e<=ops.size
 ep:Vq ops.toList e=true
 e1:∀s,s<e->flag qG ops.toList s=true->L s
 e2:∀s,e<=s->flag qG ops.toList s=true->¬L s
 e3:∀j,j<e->flag (kS P) ops.toList j=true->L j
 cl:K9 ops L
 lN:∀i,L i->i<ops.size
 sz:a.tmps.size=n
 df:a.defers=[]
 s1:∀i c τ,rs[i]? =some c->L i->c.o.dst=some τ->VR I c.v (slot a.tmps τ)
 s2:∀τ b,(∀i c,rs[i]? =some c->c.o.dst=some τ->¬L i)->T0.get τ=some b->VR I b (slot a.tmps τ)
 obj:∀id o b t,RR rs H e L id o->I id=some (b,t)->∃ob,w.heap[b]? =some ob/\OR I t o ob
 inj:∀id id' o o' b t t',RR rs H e L id o->RR rs H e L id' o'->I id=some (b,t)->I id'=some (b,t')->id=id'
 fr:∀id o b t,RR rs H e L id o->I id=some (b,t)->F true b->o.rw=false/\F false b
 ex:∀j c,rs[j]? =some c->L j->c.w=true->c.k= .a->∃x,I c.nx=some x
 exf:∀j c b t,rs[j]? =some c->e<=j->L j->c.w=true->c.k= .a->I c.nx=some (b,t)->¬F true b
 dom:∀id x,I id=some x->I0 id=some x\/∃j,L j/\X j<=id/\id<X (j+1)
 le:I0.le I
 frm:∀b,F true b->w.heap[b]? =w0.heap[b]?
 siz:w0.heap.size<=w.heap.size
 sam:Same w0 w
 gh:∀j c,rs[j]? =some c->L j->c.g.Φ I (Wm F w0 (Ja rs H e L I) w)
structure SInv(n:Nat) (ops:Array Oper) (rs:List Rc) (T0:T AV) (L:Nat->Prop) (I:In) (a:Act):Prop where
 cl:K9 ops L
 lN:∀i,L i->i<ops.size
 sz:a.tmps.size=n
 df:a.defers=[]
 s1:∀i c τ,rs[i]? =some c->L i->c.o.dst=some τ->VR I c.v (slot a.tmps τ)
 s2:∀τ b,(∀i c,rs[i]? =some c->c.o.dst=some τ->¬L i)->T0.get τ=some b->VR I b (slot a.tmps τ)
def Inv.slots{P:IW} {F n ops rs T0 H X I0 w0 e L I a w} (v:Inv gl P F n ops rs T0 H X I0 w0 e L I a w):SInv n ops rs T0 L I a:=⟨v.cl,v.lN,v.sz,v.df,v.s1,v.s2⟩
section
variable {P:IW} {n:Nat} {ops:Array Oper} {A:List Nat} {pr:vK} {rs:List Rc} {Tt:Nat->T AV} {H:Nat->T AO} {X:Nat->Nat} {F:Bool->Nat->Prop} {I0:In} {w0:World} {e:Nat} {L:Nat->Prop} {I:In} {a:Act} {w:World}
def Inv.doneX(v:Inv gl P F n ops rs (Tt 0) H X I0 w0 e L I a w) (x:Text gl P n ops A pr rs Tt H X) (fr0:vd I0 (X 0) (X ops.size)) {i id:Nat} {y:Nat×Nat×Nat} (hi:i<ops.size) (h1:X i<=id) (h2:id<X (i+1)) (h:I id=some y):L i:=by
 rcases v.dom id y h with h3|⟨j,hj,h3,h4⟩
 ·have:=fr0 id (Nat.le_trans (x.xle (Nat.zero_le _) (by omega)) h1) (Nat.lt_of_lt_of_le h2 (x.xle (by omega) (Nat.le_refl _)));rw[this]at h3;cases h3
 ·have hjN:=v.lN j hj;rcases Nat.lt_trichotomy i j with hij|hij|hij
  ·have:=x.xle (i:=i+1) (j:=j) (by omega) (by omega);omega
  ·subst hij;exact hj
  ·have:=x.xle (i:=j+1) (j:=i) (by omega) (by omega);omega
def Inv.simAt(v:Inv gl P F n ops rs (Tt 0) H X I0 w0 e L I a w) (x:Text gl P n ops A pr rs Tt H X) (fr0:vd I0 (X 0) (X ops.size)) {m:Nat} (h1:e<=m) (h2:m<=ops.size) (h3:∀s,e<=s->s<m->flag qG ops.toList s=false) {id:Nat} {o:AO} {y} (h:(H m).get id=some o) (hI:I id=some y):RR rs H e L id o:=by
 rcases x.reach m h1 h2 h3 id o h with⟨j,c,g1,g2,g3,g4,g5,g6,g7⟩|g
 ·refine .inl ⟨j,c,g1,g2,?_,g4,g5,g6,g7⟩;obtain⟨oj,cj,k1,k2,k3,k4⟩:=x.rc (i:=j) (by omega);rw[g1]at k2;cases k2;obtain⟨_,hnx,_,_,_,hw,_⟩:=k4;have hk:=hw g4;rw[g5]at hk;obtain⟨_,_,_,_,hX,_⟩:=hk;exact v.doneX x fr0 (by omega) (by omega) (by omega) hI
 ·exact .inr g
def Inv.sim(v:Inv gl P F n ops rs (Tt 0) H X I0 w0 e L I a w) (x:Text gl P n ops A pr rs Tt H X) (fr0:vd I0 (X 0) (X ops.size)) {m:Nat} (h1:e<=m) (h2:m<=ops.size) (h3:∀s,e<=s->s<m->flag qG ops.toList s=false):Sim F I (H m) w:=
  ⟨λid o b t g hI=>v.obj id o b t (v.simAt x fr0 h1 h2 h3 g hI) hI,
   λid id' o o' b t t' g g' hI hI'=>v.inj id id' o o' b t t' (v.simAt x fr0 h1 h2 h3 g hI) (v.simAt x fr0 h1 h2 h3 g' hI') hI hI',
   λid o b t g hI=>v.fr id o b t (v.simAt x fr0 h1 h2 h3 g hI) hI⟩
def SInv.tr(v:SInv n ops rs (Tt 0) L I a) (x:Text gl P n ops A pr rs Tt H X) {i:Nat} {o:Oper} {c:Rc} (ho:ops[i]? =some o) (hc:rs[i]? =some c) (hL:¬L i) (hr:∀e∈o.after,Region.binds .any e=true->L e.on):TR I c.t a.tmps:=by
 obtain⟨hco,hst⟩:=x.step i o c ho hc;obtain⟨_,_,hres,_⟩:=hst;obtain⟨_,l2,_⟩:=x.look ho hc;have hi:i<ops.size:=(Array.getElem?_eq_some_iff.1 ho).1;intro τ b hb;rcases Ai hres τ b hb with h|⟨h1,h2⟩
 ·rw[T.get_e]at h;cases h
 ·rw [hco]at h1;have later:∀j cj,rs[j]? =some cj->cj.o.dst=some τ->L j->j<i:=λj cj hj hd hLj=>by
   rcases l2 j cj τ h1 hj hd with h|h|h
   ·subst h;exact absurd hLj hL
   ·exact AL x.hA h
   ·obtain⟨oj,_,k1,_⟩:=x.rc (v.lN j hLj);exact absurd (KY x.hA v.cl k1 (λe he hb=>v.cl j oj k1 hLj e he hb) h) hL
  rcases x.slot i (by omega) τ with⟨j,cj,a1,a2,a3,a4⟩|⟨a1,a2⟩
  ·rw[h2]at a4;cases a4;rcases l2 j cj τ h1 a2 a3 with h|h|h
   ·omega
   ·exact v.s1 j cj τ a2 (KY x.hA v.cl ho hr h) a3
   ·have:=AL x.hA h;omega
  ·rw[a2]at h2;exact v.s2 τ b (λj cj hj hd hLj=>a1 j cj (later j cj hj hd hLj) hj hd) h2
def SInv.put(v:SInv n ops rs (Tt 0) L I a) (x:Text gl P n ops A pr rs Tt H X) {i:Nat} {o:Oper} {c:Rc} (ho:ops[i]? =some o) (hc:rs[i]? =some c) (hL:¬L i) {I':In} (hle:I.le I') {z:Value} (hz:VR I' c.v z):
    (a.put o.dst z).tmps.size=n/\(a.put o.dst z).defers=[]/\
    (∀j cj τ,rs[j]? =some cj->L j\/j=i->cj.o.dst=some τ->VR I' cj.v (slot (a.put o.dst z).tmps τ))/\
    (∀τ b,(∀j cj,rs[j]? =some cj->cj.o.dst=some τ->¬(L j\/j=i))->(Tt 0).get τ=some b->VR I' b (slot (a.put o.dst z).tmps τ)):=by
  obtain⟨hco,hst⟩:=x.step i o c ho hc;obtain⟨_,_,_,hp,_⟩:=hst;obtain⟨l1,_,_⟩:=x.look ho hc;rw[hco]at hp;refine⟨by rw[Act.put_size];exact v.sz,by cases o.dst<;>exact v.df,λj cj τ hj hLj hd=> ?_,fun τ b hno hb=> ?_⟩
  · cases hod:o.dst with
    | none=>
      rcases hLj with hLj|rfl
      · exact(v.s1 j cj τ hj hLj hd).mono hle
      · rw[hc]at hj;cases hj;rw[hco,hod]at hd;cases hd
    | some d=>
      rw[hod]at hp;obtain⟨p1,p2,_⟩:=Fl hp;rw[rR v.sz p1 p2];by_cases hτ:τ=d
      · subst hτ;rw[if_pos rfl];have:=l1 j cj τ hj hod hd;subst this;rw[hc]at hj;cases hj;exact hz
      · rw[if_neg hτ];rcases hLj with hLj|rfl
        · exact(v.s1 j cj τ hj hLj hd).mono hle
        · rw[hc]at hj;cases hj;rw[hco,hod]at hd;cases hd;exact absurd rfl hτ
  · have old:VR I b (Eng.slot a.tmps τ):=v.s2 τ b (λj cj hj hd hLj=>hno j cj hj hd (.inl hLj)) hb;cases hod:o.dst with
    |none=>exact old.mono hle
    | some d=>
      rw[hod]at hp;obtain⟨p1,p2,_⟩:=Fl hp;rw[rR v.sz p1 p2];have hτ:τ≠d:=λh=>hno i c hc (by rw[hco,hod,h]) (.inr rfl);rw[if_neg hτ];exact old.mono hle
def KZ(hcl:K9 ops L) {i:Nat} {o:Oper} (ho:ops[i]? =some o) (hr:∀e∈o.after,Region.binds .any e=true->L e.on):K9 ops λj=>L j\/j=i:=λj oj hj hL e he hb=>by
 rcases hL with hL|rfl
 ·exact .inl (hcl j oj hj hL e he hb)
 ·rw[ho]at hj;cases hj;exact .inl (hr e he hb)
end
end
section
variable {gl:GL}
def rf(l:List Oper):∀i,Z8 l i<=i/\∀s,Z8 l i<=s->s<i->flag qG l s=false
  |0=>⟨Nat.le_refl _,λs _ h=>by omega⟩
  | i +1=>by
    simp only[Z8];split
    · exact⟨Nat.le_refl _,λs h1 h2=>by omega⟩
    · rename_i hf;obtain⟨h1,h2⟩:=rf l i;refine⟨by omega,λs h3 h4=> ?_⟩;by_cases e:s=i
      · subst e;exact hf
      · exact h2 s h3 (by omega)
section
variable {P:IW} {n:Nat} {ops:Array Oper} {A:List Nat} {pr:vK} {rs:List Rc} {Tt:Nat->T AV} {H:Nat->T AO} {X:Nat->Nat} {F:Bool->Nat->Prop} {I0:In} {w0:World} {e:Nat} {L:Nat->Prop} {I:In} {a:Act} {w:World}
def Inv.stay(v:Inv gl P F n ops rs (Tt 0) H X I0 w0 e L I a w) (x:Text gl P n ops A pr rs Tt H X) {i:Nat} {o:Oper} {c:Rc} (ho:ops[i]? =some o) (hc:rs[i]? =some c) (hL:¬L i) (hr:∀e∈o.after,Region.binds .any e=true->L e.on) (hS:flag qG ops.toList i=false) (hk:¬(c.w=true/\c.k= .a)) (hg:c.g.Triv) {z:Value} (hz:VR I c.v z):
  Inv gl P F n ops rs (Tt 0) H X I0 w0 e (λj=>L j\/j=i) I (a.put o.dst z) w:=by
 obtain⟨p1,p2,p3,p4⟩:=v.slots.put x ho hc hL (In.le_refl I) hz;have sub:∀id o,RR rs H e (λj=>L j\/j=i) id o->RR rs H e L id o:=λid o h=>by
  rcases h with⟨j,cj,a1,a2,a3,a4,a5,a6⟩|h
  ·rcases a3 with a3|rfl
   ·exact .inl ⟨j,cj,a1,a2,a3,a4,a5,a6⟩
   ·rw[hc]at a1;cases a1;exact absurd ⟨a4,a5⟩ hk
  ·exact .inr h
 exact {
  eN:=v.eN,ep:=v.ep,e1:=λs h1 h2=> .inl (v.e1 s h1 h2)
  e2:=λs h1 h2 h3=>by
   rcases h3 with h3|rfl
   ·exact v.e2 s h1 h2 h3
   ·rw[hS]at h2;cases h2
  e3:=λj h1 h2=> .inl (v.e3 j h1 h2)
  cl:=KZ v.cl ho hr
  lN:=λj h=>h.elim (v.lN j) λh=>by subst h;exact(Array.getElem?_eq_some_iff.1 ho).1
  sz:=p1,df:=p2,s1:=λj cj τ h1 h2 h3=>p3 j cj τ h1 h2 h3,s2:=p4
  obj:=λid o b t h=>v.obj id o b t (sub _ _ h)
  inj:=λid id' o o' b t t' h h'=>v.inj id id' o o' b t t' (sub _ _ h) (sub _ _ h')
  fr:=λid o b t h=>v.fr id o b t (sub _ _ h)
  ex:=λj cj h1 h2 h3 h4=>by
   rcases h2 with h2|rfl
   ·exact v.ex j cj h1 h2 h3 h4
   ·rw[hc]at h1;cases h1;exact absurd ⟨h3,h4⟩ hk
  exf:=λj cj b t h1 h2 h3 h4 h5 h6=>by
   rcases h3 with h3|rfl
   ·exact v.exf j cj b t h1 h2 h3 h4 h5 h6
   ·rw[hc]at h1;cases h1;exact absurd ⟨h4,h5⟩ hk
  dom:=λid y h=>(v.dom id y h).imp (λh=>h) λ⟨j,h1,h2⟩=>⟨j, .inl h1,h2⟩
  le:=v.le,frm:=v.frm,siz:=v.siz,sam:=v.sam
  gh := λj cj h1 h2=>by
   rcases h2 with h2|rfl
   ·refine cj.g.mono _ _ _ _ (In.le_refl I) (λb ob hb=> ?_) (v.gh j cj h1 h2);rw[yr]at hb⊢;refine⟨hb.1.imp (λh=>h) λ⟨h3,h4⟩=>⟨h3,λh5=>h4 ?_⟩,hb.2⟩;rcases h5 with⟨id,o',t,q1,q2,q3⟩|⟨k,ck,t,q1,q2,q3,q4,q5,q6⟩
    ·exact .inl ⟨id,o',t,sub _ _ q1,q2,q3⟩
    ·rcases q3 with q3|rfl
     ·exact .inr ⟨k,ck,t,q1,q2,q3,q4,q5,q6⟩
     ·rw[hc]at q1;cases q1;exact absurd ⟨q4,q5⟩ hk
   ·rw[hc]at h1;cases h1;exact hg _ _}
def Inv.make(v:Inv gl P F n ops rs (Tt 0) H X I0 w0 e L I a w) (x:Text gl P n ops A pr rs Tt H X) (fr0:vd I0 (X 0) (X ops.size)) (low:∀b,F true b->b<w0.heap.size) {i:Nat} {o:Oper} {c:Rc} (ho:ops[i]? =some o) (hc:rs[i]? =some c) (hL:¬L i) (hr:∀e∈o.after,Region.binds .any e=true->L e.on) (hS:flag qG ops.toList i=false) (hw:c.w=true) (hk:c.k= .a) {ob:AO} (hob:c.ob=some ob) (hg:c.g.Triv) (hA:kS P o=true) (hX:X (i+1)=X i+1) (hnx:c.nx=X i)
  {z:Value} {obj:Obj} {tot:Nat×Nat} {w':World} (hheap:w'.heap=w.heap.push obj) (hsame:Same w w') (hz:VR (ext I (X i) (w.heap.size,tot)) c.v z) (hor:OR (ext I (X i) (w.heap.size,tot)) tot ob obj) (hfree:I (X i)=none):
  Inv gl P F n ops rs (Tt 0) H X I0 w0 e (λj=>L j\/j=i) (ext I (X i) (w.heap.size,tot)) (a.put o.dst z) w':=by
 have hle:=QY (w.heap.size,tot) hfree;obtain⟨p1,p2,p3,p4⟩:=v.slots.put x ho hc hL hle hz;have hei:e<=i:=by
  rcases Nat.lt_or_ge i e with h|h
  ·exact absurd (v.e3 i h (by rw[xW ho];exact hA)) hL
  ·exact h
 have old:∀b,b<w.heap.size->w'.heap[b]? =w.heap[b]? :=λb hb=>by rw[hheap,Array.getElem?_push,if_neg (by omega)]
 have hnew:∀id y,id≠X i->ext I (X i) (w.heap.size,tot) id=some y->I id=some y:=λid y hne h=>by simpa[ext,hne]using h
 have part:∀id o',RR rs H e (λj=>L j\/j=i) id o'->(id≠X i/\RR rs H e L id o')\/(id=X i/\o'=ob):=λid o' h=>by
  rcases h with⟨j,cj,a1,a2,a3,a4,a5,a6,a7⟩|h
  ·rcases a3 with a3|rfl
   ·refine .inl ⟨λhe=> ?_, .inl ⟨j,cj,a1,a2,a3,a4,a5,a6,a7⟩⟩;obtain⟨y,hy⟩:=v.ex j cj a1 a3 a4 a5;rw[a6,he,hfree]at hy;cases hy
   ·rw[hc]at a1;cases a1;rw[hob]at a7;cases a7;exact .inr ⟨by rw[←a6,hnx],rfl⟩
  ·refine .inl ⟨λhe=> ?_, .inr h⟩;have:=x.free i c e hc hw hk hei v.ep;rw[hnx,←he,h]at this;cases this
 have lowb:∀id o' b t,RR rs H e L id o'->I id=some (b,t)->b<w.heap.size:=λid o' b t h hI=>by obtain⟨ob',h1,_⟩:=v.obj id o' b t h hI;exact(Array.getElem?_eq_some_iff.1 h1).1
 exact {
  eN:=v.eN,ep:=v.ep,e1:=λs h1 h2=> .inl (v.e1 s h1 h2)
  e2:=λs h1 h2 h3=>by
   rcases h3 with h3|rfl
   ·exact v.e2 s h1 h2 h3
   ·rw[hS]at h2;cases h2
  e3:=λj h1 h2=> .inl (v.e3 j h1 h2)
  cl:=KZ v.cl ho hr
  lN:=λj h=>h.elim (v.lN j) λh=>by subst h;exact(Array.getElem?_eq_some_iff.1 ho).1
  sz:=p1,df:=p2,s1:=λj cj τ h1 h2 h3=>p3 j cj τ h1 h2 h3,s2:=p4
  obj :=λid o' b t h hI=>by
   rcases part id o' h with⟨h1,h2⟩|⟨rfl,rfl⟩
   ·have hI:=hnew id _ h1 hI;obtain⟨ob',g1,g2⟩:=v.obj id o' b t h2 hI;exact⟨ob',(old b (lowb _ _ _ _ h2 hI)).trans g1,g2.mono hle⟩
   ·rw[zZ]at hI;cases hI;exact⟨obj,by rw[hheap];simp,hor⟩
  inj :=λid id' o1 o2 b t t' h h' hI hI'=>by
   rcases part id o1 h with⟨h1,h2⟩|⟨rfl,rfl⟩<;>rcases part id' o2 h' with⟨h1',h2'⟩|⟨e2,e3⟩
   ·exact v.inj id id' o1 o2 b t t' h2 h2' (hnew _ _ h1 hI) (hnew _ _ h1' hI')
   ·subst e2;rw[zZ]at hI';cases hI';have:=lowb _ _ _ _ h2 (hnew _ _ h1 hI);omega
   ·rw[zZ]at hI;cases hI;have:=lowb _ _ _ _ h2' (hnew _ _ h1' hI');omega
   ·exact e2.symm
  fr:=λid o' b t h hI hf=>by
   rcases part id o' h with⟨h1,h2⟩|⟨rfl,rfl⟩
   ·exact v.fr id o' b t h2 (hnew _ _ h1 hI) hf
   ·rw[zZ]at hI;cases hI;have:=low _ hf;have:=v.siz;omega
  ex:=λj cj h1 h2 h3 h4=>by
   rcases h2 with h2|rfl
   ·obtain⟨y,hy⟩:=v.ex j cj h1 h2 h3 h4;exact⟨y,hle _ _ hy⟩
   ·rw[hc]at h1;cases h1;exact⟨_,by rw[hnx];exact zZ _ _ _⟩
  exf :=λj cj b t h1 h2 h3 h4 h5 h6 hf=>by
   rcases h3 with h3|rfl
   ·obtain⟨y,hy⟩:=v.ex j cj h1 h3 h4 h5;have:=hle _ _ hy;rw[h6]at this;cases this;exact v.exf j cj b t h1 h2 h3 h4 h5 hy hf
   ·rw[hc]at h1;cases h1;rw[hnx,zZ]at h6;cases h6;have:=low _ hf;have:=v.siz;omega
  dom:=λid y h=>by
   by_cases hid:id=X i
   ·exact .inr ⟨i, .inr rfl,by omega,by omega⟩
   ·exact(v.dom id y (hnew id y hid h)).imp (λh=>h) λ⟨j,h1,h2⟩=>⟨j, .inl h1,h2⟩
  le:=In.le_trans v.le hle
  frm:=λb hb=>(old b (by have:=low b hb;have:=v.siz;omega)).trans (v.frm b hb)
  siz:=by rw[hheap];have:=v.siz;simp;omega
  sam:=v.sam.trans hsame
  gh := λj cj h1 h2=>by
   rcases h2 with h2|rfl
   ·refine cj.g.mono _ _ _ _ hle (λb ob' hb=> ?_) (v.gh j cj h1 h2);rw[yr]at hb⊢;have hbl:=(Array.getElem?_eq_some_iff.1 hb.2).1;refine⟨hb.1.imp (λh=>h) λ⟨h3,h4⟩=>⟨h3,λh5=>h4 ?_⟩,by rw[old b hbl];exact hb.2⟩;rcases h5 with⟨id,o',t,q1,q2,q3⟩|⟨k,ck,t,q1,q2,q3,q4,q5,q6⟩
    ·rcases part id o' q1 with⟨r1,r2⟩|⟨rfl,rfl⟩
     ·exact .inl ⟨id,o',t,r2,q2,hnew id _ r1 q3⟩
     ·rw[zZ]at q3;cases q3;omega
    ·rcases q3 with q3|rfl
     ·obtain⟨y,hy⟩:=v.ex k ck q1 q3 q4 q5;have:=hle _ _ hy;rw[q6]at this;cases this;exact .inr ⟨k,ck,t,q1,q2,q3,q4,q5,hy⟩
     ·rw[hc]at q1;cases q1;rw[hnx,zZ]at q6;cases q6;omega
   ·rw[hc]at h1;cases h1;exact hg _ _}
end
end
section
variable {gl:GL}
section
variable {P:IW} {n:Nat} {ops:Array Oper} {A:List Nat} {pr:vK} {rs:List Rc} {Tt:Nat->T AV} {H:Nat->T AO} {X:Nat->Nat} {F:Bool->Nat->Prop} {I0:In} {w0:World} {e:Nat} {L:Nat->Prop} {I:In} {a:Act} {w:World}
def NP(F:Bool->Nat->Prop) (rs:List Rc) (H:Nat->T AO) (e:Nat) (L:Nat->Prop) (I:In) (w0 w:World) (b:Nat):Prop:=¬F true b/\b<w.heap.size/\¬Ja rs H e L I b
def Wb(F:Bool->Nat->Prop) (rs:List Rc) (H:Nat->T AO) (e i:Nat) (L:Nat->Prop) (I:In) (w0 w:World):Bool->Nat->Prop
 |true,b=>F true b\/(∃j c t,rs[j]? =some c/\i<j/\L j/\c.w=true/\c.k= .a/\I c.nx=some (b,t))\/NP F rs H e L I w0 w b
 |false,b=>F false b\/NP F rs H e L I w0 w b
def Inv.turn (v:Inv gl P F n ops rs (Tt 0) H X I0 w0 e L I a w) (x:Text gl P n ops A pr rs Tt H X) (fr0:vd I0 (X 0) (X ops.size)) (low:∀b,F true b->b<w0.heap.size) (zf:∀b,F false b->F true b) {i:Nat} {o:Oper} {c:Rc} (ho:ops[i]? =some o) (hc:rs[i]? =some c) (hL:¬L i) (hr:∀e∈o.after,Region.binds .any e=true->L e.on) (hS:flag qG ops.toList i=true) (hpr:∀p,pr=some (p,i)->L p):
  e<=i/\Sim (Wb F rs H e i L I w0 w) I (H i) w/\(∀b,Wb F rs H e i L I w0 w true b->b<w.heap.size)/\vd I (X i) (X (i+1))/\
  ∀z I' w',VR I' c.v z->Grow (Wb F rs H e i L I w0 w) I (X i) w I' (X (i+1)) (H (i+1)) w'->c.g.Φ I' (jK (Wb F rs H e i L I w0 w) w I' (H (i+1)) w')->Inv gl P F n ops rs (Tt 0) H X I0 w0 (i+1) (λj=>L j\/j=i) I' (a.put o.dst z) w':=by
 obtain⟨hco,hst⟩:=x.step i o c ho hc;obtain⟨_,hnx,_,_,_,hkw,_⟩:=hst;obtain⟨_,_,l3⟩:=x.look ho hc;have hi:i<ops.size:=(Array.getElem?_eq_some_iff.1 ho).1;have hso:qG o=true:=by rw[xW ho]at hS;exact hS
 have ahead:∀j,j<i->flag qG ops.toList j=true\/flag (kS P) ops.toList j=true->L j:=λj h1 h2=>(l3 hso j h1 h2).elim (KY x.hA v.cl ho hr) (hpr j);have hei:e<=i:=by
  rcases Nat.lt_or_ge i e with h|h
  ·exact absurd (v.e1 i h hS) hL
  ·exact h
 have none':∀s,e<=s->s<i->flag qG ops.toList s=false:=λs h1 h2=>by
  cases hf:flag qG ops.toList s with
  |false=>rfl
  |true=>exact absurd (ahead s h2 (.inl hf)) (v.e2 s h1 hf)
 have apart:∀j cj t b id o' y,rs[j]? =some cj->i<j->L j->cj.w=true->cj.k= .a->I cj.nx=some (b,t)->(H i).get id=some o'->I id=some (b,y)->False:=by
  intro j cj t b id o' y h1 h2 h3 h4 h5 h6 h7 h8;obtain⟨oj,cj',g1,g2,g3,g4⟩:=x.rc (v.lN j h3);rw[h1]at g2;cases g2;obtain⟨_,gnx,_,_,_,gw,_⟩:=g4;have gk:=gw h4;rw[h5]at gk;obtain⟨xx,gob,_,_,gX,_⟩:=gk;have hid:id=cj.nx:=v.inj id cj.nx o' xx b y t (v.simAt x fr0 hei (by omega) none' h7 h8) (.inl ⟨j,cj,h1,by omega,h3,h4,h5,rfl,gob⟩) h8 h6;subst hid;rcases x.reach i hei (by omega) none' _ _ h7 with⟨j',c',q1,q2,q3,q4,q5,q6,q7⟩|h9
  ·obtain⟨oj',cj2,r1,r2,r3,r4⟩:=x.rc (i:=j') (by omega);rw[q1]at r2;cases r2;obtain⟨_,rnx,_,_,_,rw',_⟩:=r4;have rk:=rw' q4;rw[q5]at rk;obtain⟨_,_,_,_,rX,_⟩:=rk;have:=x.xle (i:=j'+1) (j:=j) (by omega) (by have:=v.lN j h3;omega);omega
  ·have:=x.free j cj e h1 h4 h5 (by omega:e<=j) v.ep;rw[this]at h9;cases h9
 refine⟨hei,?_,?_,?_,?_⟩
 ·have s:=v.sim x fr0 hei (by omega) none';refine⟨s.obj,s.inj,λid o' b t h1 h2 hf=> ?_⟩;rcases hf with hf|⟨j,cj,t',q1,q2,q3,q4,q5,q6⟩|hf
  ·exact(s.fr id o' b t h1 h2 hf).imp (λh=>h) .inl
  ·exact(apart j cj t' b id o' t q1 q2 q3 q4 q5 q6 h1 h2).elim
  ·refine⟨?_, .inr hf⟩;cases hrw:o'.rw with
   |false=>rfl
   |true=>exact absurd (.inl ⟨id,o',t,v.simAt x fr0 hei (by omega) none' h1 h2,hrw,h2⟩) hf.2.2
 ·intro b hb;rcases hb with hb|⟨j,cj,t',q1,q2,q3,q4,q5,q6⟩|hb
  ·have:=low b hb;have:=v.siz;omega
  rotate_left
  ·exact hb.2.1
  ·obtain⟨oj,cj',g1,g2,g3,g4⟩:=x.rc (v.lN j q3);rw[q1]at g2;cases g2;obtain⟨_,gnx,_,_,_,gw,_⟩:=g4;have gk:=gw q4;rw[q5]at gk;obtain⟨xx,gob,_⟩:=gk;obtain⟨ob',k1,_⟩:=v.obj _ _ _ _ (.inl ⟨j,cj,q1,by omega,q3,q4,q5,rfl,gob⟩) q6;exact(Array.getElem?_eq_some_iff.1 k1).1
 ·intro id h1 h2;cases hI:I id with
  |none=>rfl
  |some y=>exact absurd (v.doneX x fr0 hi h1 h2 hI) hL
 ·intro z I' w' hz g hgi;obtain⟨p1,p2,p3,p4⟩:=v.slots.put x ho hc hL g.le hz;have stays:∀j cj b t,rs[j]? =some cj->i+1<=j->L j\/j=i->cj.w=true->cj.k= .a->I' cj.nx=some (b,t)->L j/\I cj.nx=some (b,t)/\Wb F rs H e i L I w0 w true b:=by
   intro j cj b t h1 h2 h3 h4 h5 h6;have h3:L j:=by
    rcases h3 with h3|h3
    ·exact h3
    ·omega
   obtain⟨y,hy⟩:=v.ex j cj h1 h3 h4 h5;have:=g.le _ _ hy;rw[h6]at this;cases this;exact⟨h3,hy, .inr (.inl ⟨j,cj,t,h1,by omega,h3,h4,h5,hy⟩)⟩
  have ahd:∀j cj o',rs[j]? =some cj->i+1<=j->L j->cj.w=true->cj.k= .a->cj.ob=some o'->RR rs H e L cj.nx o':=λj cj o' h1 h2 h3 h4 h5 h6=> .inl ⟨j,cj,h1,by omega,h3,h4,h5,rfl,h6⟩;have noF:∀j cj b t,rs[j]? =some cj->i+1<=j->L j->cj.w=true->cj.k= .a->I cj.nx=some (b,t)->¬F true b:=λj cj b t h1 h2 h3 h4 h5 h6=>v.exf j cj b t h1 (by omega) h3 h4 h5 h6;exact {
   eN:=by omega
   ep:=by simp only[Vq];exact hS
   e1:=λs h1 h2=>by
    by_cases es:s=i
    ·exact .inr es
    ·exact .inl (ahead s (by omega) (.inl h2))
   e2:=λs h1 h2 h3=>by
    rcases h3 with h3|h3
    ·exact v.e2 s (by omega) h2 h3
    ·omega
   e3:=λj h1 h2=>by
    by_cases es:j=i
    ·exact .inr es
    ·exact .inl (ahead j (by omega) (.inr h2))
   cl:=KZ v.cl ho hr
   lN:=λj h=>h.elim (v.lN j) λh=>by subst h;exact hi
   sz:=p1,df:=p2,s1:=λj cj τ h1 h2 h3=>p3 j cj τ h1 h2 h3,s2:=p4
   obj :=λid o' b t h hI=>by
    rcases h with⟨j,cj,a1,a2,a3,a4,a5,a6,a7⟩|h
    ·subst a6;obtain⟨q1,q2,q3⟩:=stays j cj b t a1 a2 a3 a4 a5 hI;obtain⟨ob',k1,k2⟩:=v.obj _ _ _ _ (ahd j cj o' a1 a2 q1 a4 a5 a7) q2;exact⟨ob',(g.fr b q3).trans k1,k2.mono g.le⟩
    ·exact g.sim.obj id o' b t h hI
   inj :=λid id' o1 o2 b t t' h h' hI hI'=>by
    rcases h with⟨j,cj,a1,a2,a3,a4,a5,a6,a7⟩|h<;>rcases h' with⟨j',cj',b1,b2,b3,b4,b5,b6,b7⟩|h'
    ·subst a6 b6;obtain⟨q1,q2,_⟩:=stays j cj b t a1 a2 a3 a4 a5 hI;obtain⟨q1',q2',_⟩:=stays j' cj' b t' b1 b2 b3 b4 b5 hI';exact v.inj _ _ o1 o2 b t t' (ahd j cj o1 a1 a2 q1 a4 a5 a7) (ahd j' cj' o2 b1 b2 q1' b4 b5 b7) q2 q2'
    ·subst a6;obtain⟨q1,q2,q3⟩:=stays j cj b t a1 a2 a3 a4 a5 hI;rcases(g.sim.fr id' o2 b t' h' hI' q3).2 with this|this
     ·exact absurd (zf b this) (noF j cj b t a1 a2 q1 a4 a5 q2)
     ·exact absurd (.inr ⟨j,cj,t,a1,by omega,q1,a4,a5,q2⟩) this.2.2
    ·subst b6;obtain⟨q1',q2',q3'⟩:=stays j' cj' b t' b1 b2 b3 b4 b5 hI';rcases(g.sim.fr id o1 b t h hI q3').2 with this|this
     ·exact absurd (zf b this) (noF j' cj' b t' b1 b2 q1' b4 b5 q2')
     ·exact absurd (.inr ⟨j',cj',t',b1,by omega,q1',b4,b5,q2'⟩) this.2.2
    ·exact g.sim.inj id id' o1 o2 b t t' h h' hI hI'
   fr:=λid o' b t h hI hf=>by
    rcases h with⟨j,cj,a1,a2,a3,a4,a5,a6,a7⟩|h
    ·subst a6;obtain⟨q1,q2,q3⟩:=stays j cj b t a1 a2 a3 a4 a5 hI;exact absurd hf (noF j cj b t a1 a2 q1 a4 a5 q2)
    ·obtain⟨h1,h2⟩:=g.sim.fr id o' b t h hI (.inl hf);refine⟨h1,h2.elim (λh=>h) λh=> ?_⟩;exact absurd hf h.1
   ex:=λj cj h1 h2 h3 h4=>by
    rcases h2 with h2|rfl
    ·obtain⟨y,hy⟩:=v.ex j cj h1 h2 h3 h4;exact⟨y,g.le _ _ hy⟩
    ·rw[hc]at h1;cases h1;have:=hkw h3;rw[h4]at this;obtain⟨_,_,_,_,_,_,hns,_⟩:=this;rw[hco,hso]at hns;cases hns
   exf:=λj cj b t h1 h2 h3 h4 h5 h6=>by obtain⟨q1,q2,q3⟩:=stays j cj b t h1 h2 h3 h4 h5 h6;exact noF j cj b t h1 h2 q1 h4 h5 q2
   dom:=λid y h=>by
    rcases g.new id y h with h|h
    ·exact(v.dom id y h).imp (λh=>h) λ⟨j,h1,h2⟩=>⟨j, .inl h1,h2⟩
    ·exact .inr ⟨i, .inr rfl,h⟩
   le:=In.le_trans v.le g.le
   frm:=λb hb=>(g.fr b (.inl hb)).trans (v.frm b hb)
   siz:=Nat.le_trans v.siz g.size
   sam:=v.sam.trans g.same
   gh := by
    have pubs:∀b,NP F rs H e L I w0 w b->¬Ja rs H (i+1) (λj=>L j\/j=i) I' b:=λb hb h5=>by
     rcases h5 with⟨id,o',t,q1,q2,q3⟩|⟨k,ck,t,q1,q2,q3,q4,q5,q6⟩
     ·rcases q1 with⟨j,cj,a1,a2,a3,a4,a5,a6,a7⟩|h
      ·subst a6;obtain⟨r1,r2,r3⟩:=stays j cj b t a1 a2 a3 a4 a5 q3;exact hb.2.2 (.inr ⟨j,cj,t,a1,by omega,r1,a4,a5,r2⟩)
      ·have:=(g.sim.fr id o' b t h q3 (.inr (.inr hb))).1;rw[q2]at this;cases this
     ·obtain⟨r1,r2,r3⟩:=stays k ck b t q1 q2 q3 q4 q5 q6;exact hb.2.2 (.inr ⟨k,ck,t,q1,by omega,r1,q4,q5,r2⟩)
    intro j cj h1 h2;by_cases hj:j=i
    ·rw [hj,hc]at h1;cases h1;refine c.g.mono _ _ _ _ (In.le_refl I') (λb ob hb=> ?_) hgi;rw[yr]at hb⊢;refine⟨?_,hb.2⟩;rcases hb.1 with(h|h)|⟨h3,h4⟩
     ·exact .inl h
     ·exact .inr ⟨h.1,pubs b h⟩
     ·refine .inr ⟨λhf=>h3 (.inl hf),λh5=> ?_⟩;rcases h5 with⟨id,o',t,q1,q2,q3⟩|⟨k,ck,t,q1,q2,q3,q4,q5,q6⟩
      ·rcases q1 with⟨k,ck,a1,a2,a3,a4,a5,a6,a7⟩|h
       ·subst a6;exact h3 (stays k ck b t a1 a2 a3 a4 a5 q3).2.2
       ·exact h4 ⟨id,o',t,h,q2,q3⟩
      ·exact h3 (stays k ck b t q1 q2 q3 q4 q5 q6).2.2
    ·have h2:L j:=h2.elim (λh=>h) λh=>absurd h hj;refine cj.g.mono _ _ _ _ g.le (λb ob hb=> ?_) (v.gh j cj h1 h2);rw[yr]at hb⊢;have hbl:=(Array.getElem?_eq_some_iff.1 hb.2).1;rcases hb.1 with h|⟨h3,h4⟩
     ·exact⟨.inl h,by rw[g.fr b (.inl (zf b h))];exact hb.2⟩
     ·have hnp:NP F rs H e L I w0 w b:=⟨h3,hbl,h4⟩;exact⟨.inr ⟨h3,pubs b hnp⟩,by rw[g.fr b (.inr (.inr hnp))];exact hb.2⟩}
end
end
section
variable {gl:GL}
structure PairOK(gl:GL) (P:IW) (ops:Array Oper) (A:List Nat) (pr:vK) (rs:List Rc) (H:Nat->T AO) (X:Nat->Nat) (p q:Nat) (ci cj:Rc) (B:T AO):Prop where
 pr:pr=some (p,q)
 lt:p<q
 hq:q<ops.size
 ei:rs[p]? =some ci
 ej:rs[q]? =some cj
 wi:ci.w=true
 wj:cj.w=true
 gi:ci.g=none
 gj:cj.g=none
 Si:flag qG ops.toList p=true
 Sj:flag qG ops.toList q=true
 aq:y7 gl P cj.t (H p) (X q) cj.o none cj.v B (X q)
 ap:y7 gl P ci.t B (X p) ci.o none ci.v (H (q+1)) (X p)
 anc:∀k,k<ops.size->k≠p->k≠q->(flag qG ops.toList k=true\/flag (kS P) ops.toList k=true\/flag xS ops.toList k=true)->j0 A p k=true/\j0 A q k=true
 red:∀(k:Nat) (c:Rc),rs[k]? =some c->c.w=true->c.k= .r->xS c.o=true
structure Inv2(gl:GL) (P:IW) (F:Bool->Nat->Prop) (n:Nat) (ops:Array Oper) (rs:List Rc) (T0:T AV) (X:Nat->Nat) (I0:In) (w0:World) (p:Nat) (B:T AO) (L:Nat->Prop) (I:In) (a:Act) (w:World):Prop where
 np:¬L p
 all:∀k,k<ops.size->k≠p->(flag qG ops.toList k=true\/flag (kS P) ops.toList k=true\/flag xS ops.toList k=true)->L k
 sl:SInv n ops rs T0 L I a
 sim:Sim F I B w
 ex:∀j c,rs[j]? =some c->L j->c.w=true->c.k= .a->∃x,I c.nx=some x
 dom:∀id x,I id=some x->I0 id=some x\/∃j,L j/\X j<=id/\id<X (j+1)
 le:I0.le I
 frm:∀b,F true b->w.heap[b]? =w0.heap[b]?
 siz:w0.heap.size<=w.heap.size
 sam:Same w0 w
 gh:∀j c,rs[j]? =some c->L j->c.g.Φ I (Wm F w0 (Own B I) w)
def MK(F:Bool->Nat->Prop) (O:Nat->Prop) (w:World) (b:Nat):Prop:=¬F true b/\b<w.heap.size/\¬O b
def QI(F:Bool->Nat->Prop) (O:Nat->Prop) (w:World):Bool->Nat->Prop:=λs b=>F s b\/MK F O w b
section
variable {P:IW} {n:Nat} {ops:Array Oper} {A:List Nat} {pr:vK} {rs:List Rc} {Tt:Nat->T AV} {H:Nat->T AO} {X:Nat->Nat} {F:Bool->Nat->Prop} {I0:In} {w0:World} {e:Nat} {L:Nat->Prop} {I:In} {a:Act} {w:World} {p q:Nat} {ci cj:Rc} {B:T AO}
def Sa(x:Text gl P n ops A pr rs Tt H X) {j:Nat} {c:Rc} (hc:rs[j]? =some c) (hw:c.w=true) (hk:c.k= .a):j<ops.size/\flag (kS P) ops.toList j=true:=by
 have hj:j<ops.size:=by have:=(List.getElem?_eq_some_iff.1 hc).1;rw[x.len]at this;exact this
 obtain⟨o,c',g1,g2,g3,g4⟩:=x.rc hj;rw[hc]at g2;cases g2;obtain⟨_,_,_,_,_,hkw,_⟩:=g4;have:=hkw hw;rw[hk]at this;obtain⟨_,_,_,_,_,hA,_⟩:=this;exact⟨hj,by rw[xW g1,←g3];exact hA⟩
def PairOK.notA(k:PairOK gl P ops A pr rs H X p q ci cj B) (x:Text gl P n ops A pr rs Tt H X) {j:Nat} {c:Rc} (hc:rs[j]? =some c) (hw:c.w=true) (hk:c.k= .a):j≠p/\j≠q:=by
 obtain⟨hj,hA⟩:=Sa x hc hw hk;obtain⟨o,c',g1,g2,g3,g4⟩:=x.rc hj;rw[hc]at g2;cases g2;obtain⟨_,_,_,_,_,hkw,_⟩:=g4;have:=hkw hw;rw[hk]at this;obtain⟨_,_,_,_,_,_,hS,_⟩:=this;have hS':flag qG ops.toList j=false:=by rw[xW g1,←g3];exact hS
 exact⟨λh=>(by rw[h,k.Si]at hS';cases hS'),λh=>(by rw[h,k.Sj]at hS';cases hS')⟩
def Inv.later(v:Inv gl P F n ops rs (Tt 0) H X I0 w0 e L I a w) (k:PairOK gl P ops A pr rs H X p q ci cj B) (x:Text gl P n ops A pr rs Tt H X) (fr0:vd I0 (X 0) (X ops.size)) (low:∀b,F true b->b<w0.heap.size) (zf:∀b,F false b->F true b) (hnp:¬L p) {o:Oper} (ho:ops[q]? =some o) (hL:¬L q) (hr:∀e∈o.after,Region.binds .any e=true->L e.on):
  Sim (QI F (Ja rs H e L I) w) I (H p) w/\(∀b,QI F (Ja rs H e L I) w true b->b<w.heap.size)/\
  ∀z I' w',VR I' cj.v z->Grow (QI F (Ja rs H e L I) w) I (X q) w I' (X q) B w'->Inv2 gl P F n ops rs (Tt 0) X I0 w0 p B (λj=>L j\/j=q) I' (a.put o.dst z) w':=by
 have done:∀j,j<ops.size->j≠p->j≠q->(flag qG ops.toList j=true\/flag (kS P) ops.toList j=true\/flag xS ops.toList j=true)->L j:=λj h1 h2 h3 h4=>KY x.hA v.cl ho hr (k.anc j h1 h2 h3 h4).2;have hep:e<=p:=by
  rcases Nat.lt_or_ge p e with h|h
  ·exact absurd (v.e1 p h k.Si) hnp
  ·exact h
 have hpn:p<ops.size:=Nat.lt_trans k.lt k.hq;have none':∀s,e<=s->s<p->flag qG ops.toList s=false:=λs h1 h2=>by
  cases hf:flag qG ops.toList s with
  |false=>rfl
  |true=>exact absurd (done s (by omega) (by omega) (by have:=k.lt;omega) (.inl hf)) (v.e2 s h1 hf)
 have s:=v.sim x fr0 hep (by omega) none';refine⟨⟨s.obj,s.inj,λid o' b t h1 h2 hf=> ?_⟩,λb hb=> ?_,λz I' w' hz g=> ?_⟩
 ·rcases hf with hf|hf
  ·exact(s.fr id o' b t h1 h2 hf).imp (λh=>h) .inl
  ·refine⟨?_, .inr hf⟩;cases hrw:o'.rw with
   |false=>rfl
   |true=>exact absurd (.inl ⟨id,o',t,v.simAt x fr0 hep (by omega) none' h1 h2,hrw,h2⟩) hf.2.2
 ·rcases hb with hb|hb
  ·have:=low b hb;have:=v.siz;omega
  ·exact hb.2.1
 ·obtain ⟨p1,p2,p3,p4⟩:=v.slots.put x ho k.ej hL g.le hz;have hI:∀id y,I' id=some y->I id=some y:=λid y h=>(g.new id y h).elim (λh=>h) λh=>by omega
  exact {
   np:=λh=>h.elim hnp λh=>by have:=k.lt;omega
   all:=λj h1 h2 h3=>by
    by_cases hj:j=q
    ·exact .inr hj
    ·exact .inl (done j h1 h2 hj h3)
   sl:=⟨KZ v.cl ho hr,λj h=>h.elim (v.lN j) λh=>by rw[h];exact k.hq,p1,p2,λj cj' τ h1 h2 h3=>p3 j cj' τ h1 h2 h3,p4⟩
   sim:=⟨g.sim.obj,g.sim.inj,λid o' b t h1 h2 hf=>by obtain⟨h3,h4⟩:=g.sim.fr id o' b t h1 h2 (.inl hf);exact⟨h3,h4.elim (λh=>h) λh=>absurd hf h.1⟩⟩
   ex:=λj c h1 h2 h3 h4=>by have hj:=(k.notA x h1 h3 h4).2;obtain⟨y,hy⟩:=v.ex j c h1 (h2.elim (λh=>h) λh=>absurd h hj) h3 h4;exact⟨y,g.le _ _ hy⟩
   dom:=λid y h=>(v.dom id y (hI id y h)).imp (λh=>h) λ⟨j,h1,h2⟩=>⟨j, .inl h1,h2⟩
   le:=In.le_trans v.le g.le
   frm:=λb hb=>(g.fr b (.inl hb)).trans (v.frm b hb)
   siz:=Nat.le_trans v.siz g.size
   sam:=v.sam.trans g.same
   gh := λj c h1 h2=>by
    by_cases hj:j=q
    ·rw[hj,k.ej]at h1;cases h1;rw[k.gj];trivial
    ·have h2:L j:=h2.elim (λh=>h) λh=>absurd h hj;refine c.g.mono _ _ _ _ g.le (λb ob hb=> ?_) (v.gh j c h1 h2);rw[yr]at hb⊢;have hbl:=(Array.getElem?_eq_some_iff.1 hb.2).1;rcases hb.1 with h|⟨h3,h4⟩
     ·exact⟨.inl h,by rw[g.fr b (.inl (zf b h))];exact hb.2⟩
     ·have hnp2:MK F (Ja rs H e L I) w b:=⟨h3,hbl,h4⟩;refine⟨.inr ⟨h3,λ⟨id,o',t,q1,q2,q3⟩=> ?_⟩,by rw[g.fr b (.inr hnp2)];exact hb.2⟩;have:=(g.sim.fr id o' b t q1 q3 (.inr hnp2)).1;rw[q2]at this;cases this}
def Inv2.stay(v:Inv2 gl P F n ops rs (Tt 0) X I0 w0 p B L I a w) (x:Text gl P n ops A pr rs Tt H X) {i:Nat} {o:Oper} {c:Rc} (ho:ops[i]? =some o) (hc:rs[i]? =some c) (hL:¬L i) (hr:∀e∈o.after,Region.binds .any e=true->L e.on) (hip:i≠p) (hk:¬(c.w=true/\c.k= .a)) (hg:c.g.Triv) {z:Value} (hz:VR I c.v z):
  Inv2 gl P F n ops rs (Tt 0) X I0 w0 p B (λj=>L j\/j=i) I (a.put o.dst z) w:=by
 obtain⟨p1,p2,p3,p4⟩:=v.sl.put x ho hc hL (In.le_refl I) hz;exact{
  np:=λh=>h.elim v.np λh=>hip h.symm
  all:=λj h1 h2 h3=> .inl (v.all j h1 h2 h3)
  sl:=⟨KZ v.sl.cl ho hr,λj h=>h.elim (v.sl.lN j) λh=>by subst h;exact(Array.getElem?_eq_some_iff.1 ho).1,p1,p2,λj cj' τ h1 h2 h3=>p3 j cj' τ h1 h2 h3,p4⟩
  sim:=v.sim
  ex:=λj cj h1 h2 h3 h4=>by
   rcases h2 with h2|rfl
   ·exact v.ex j cj h1 h2 h3 h4
   ·rw[hc]at h1;cases h1;exact absurd ⟨h3,h4⟩ hk
  dom:=λid y h=>(v.dom id y h).imp (λh=>h) λ⟨j,h1,h2⟩=>⟨j, .inl h1,h2⟩
  le:=v.le,frm:=v.frm,siz:=v.siz,sam:=v.sam
  gh:=λj cj h1 h2=>by
   rcases h2 with h2|rfl
   ·exact v.gh j cj h1 h2
   ·rw[hc]at h1;cases h1;exact hg _ _}
def Inv2.earlier(v:Inv2 gl P F n ops rs (Tt 0) X I0 w0 p B L I a w) (k:PairOK gl P ops A pr rs H X p q ci cj B) (x:Text gl P n ops A pr rs Tt H X) (low:∀b,F true b->b<w0.heap.size) (zf:∀b,F false b->F true b) {o:Oper} (ho:ops[p]? =some o) (hr:∀e∈o.after,Region.binds .any e=true->L e.on):
  Sim (QI F (Own B I) w) I B w/\(∀b,QI F (Own B I) w true b->b<w.heap.size)/\
  ∀z I' w',VR I' ci.v z->Grow (QI F (Own B I) w) I (X p) w I' (X p) (H (q+1)) w'->Inv gl P F n ops rs (Tt 0) H X I0 w0 (q+1) (λj=>L j\/j=p) I' (a.put o.dst z) w':=by
 have hpn:p<ops.size:=Nat.lt_trans k.lt k.hq;have behind:∀j,q+1<=j->j<ops.size->(flag qG ops.toList j=true\/flag (kS P) ops.toList j=true\/flag xS ops.toList j=true)->False:=λj h1 h2 h3=>by have:=AL x.hA (k.anc j h2 (by have:=k.lt;omega) (by omega) h3).1;have:=k.lt;omega
 have noA:∀j c,rs[j]? =some c->q+1<=j->c.w=true->c.k= .a->False:=λj c h1 h2 h3 h4=>by obtain⟨hj,hA⟩:=Sa x h1 h3 h4;exact behind j h2 hj (.inr (.inl hA))
 refine⟨⟨v.sim.obj,v.sim.inj,λid o' b t h1 h2 hf=> ?_⟩,λb hb=> ?_,λz I' w' hz g=> ?_⟩
 ·rcases hf with hf|hf
  ·exact(v.sim.fr id o' b t h1 h2 hf).imp (λh=>h) .inl
  ·refine⟨?_, .inr hf⟩;cases hrw:o'.rw with
   |false=>rfl
   |true=>exact absurd ⟨id,o',t,h1,hrw,h2⟩ hf.2.2
 ·rcases hb with hb|hb
  ·have:=low b hb;have:=v.siz;omega
  ·exact hb.2.1
 ·obtain ⟨p1,p2,p3,p4⟩:=v.sl.put x ho k.ei v.np g.le hz;have hI:∀id y,I' id=some y->I id=some y:=λid y h=>(g.new id y h).elim (λh=>h) λh=>by omega
  have only:∀L' id o',RR rs H (q+1) L' id o'->(H (q+1)).get id=some o':=λL' id o' h=>by
   rcases h with⟨j,c,a1,a2,a3,a4,a5,_⟩|h
   ·exact(noA j c a1 a2 a4 a5).elim
   ·exact h
  exact {
   eN:=by have:=k.hq;omega
   ep:=by simp only[Vq];exact k.Sj
   e1:=λs h1 h2=>by
    by_cases hs:s=p
    ·exact .inr hs
    ·exact .inl (v.all s (by have:=k.hq;omega) hs (.inl h2))
   e2:=λs h1 h2 h3=>by have hs:s<ops.size:=h3.elim (v.sl.lN s) λh=>(by omega);exact behind s h1 hs (.inl h2)
   e3:=λj h1 h2=>by
    by_cases hs:j=p
    ·exact .inr hs
    ·exact .inl (v.all j (by have:=k.hq;omega) hs (.inr (.inl h2)))
   cl:=KZ v.sl.cl ho hr
   lN:=λj h=>h.elim (v.sl.lN j) λh=>by rw[h];exact hpn
   sz:=p1,df:=p2,s1:=λj cj' τ h1 h2 h3=>p3 j cj' τ h1 h2 h3,s2:=p4
   obj:=λid o' b t h hI=>g.sim.obj id o' b t (only _ _ _ h) hI
   inj:=λid id' o1 o2 b t t' h h' hI hI'=>g.sim.inj id id' o1 o2 b t t' (only _ _ _ h) (only _ _ _ h') hI hI'
   fr:=λid o' b t h hI hf=>by obtain⟨h3,h4⟩:=g.sim.fr id o' b t (only _ _ _ h) hI (.inl hf);exact⟨h3,h4.elim (λh=>h) λh=>absurd hf h.1⟩
   ex:=λj c h1 h2 h3 h4=>by have hj:=(k.notA x h1 h3 h4).1;obtain⟨y,hy⟩:=v.ex j c h1 (h2.elim (λh=>h) λh=>absurd h hj) h3 h4;exact⟨y,g.le _ _ hy⟩
   exf:=λj c b t h1 h2 h3 h4 h5 h6=>(noA j c h1 h2 h4 h5).elim
   dom:=λid y h=>(v.dom id y (hI id y h)).imp (λh=>h) λ⟨j,h1,h2⟩=>⟨j, .inl h1,h2⟩
   le:=In.le_trans v.le g.le
   frm:=λb hb=>(g.fr b (.inl hb)).trans (v.frm b hb)
   siz:=Nat.le_trans v.siz g.size
   sam:=v.sam.trans g.same
   gh := λj c h1 h2=>by
    by_cases hj:j=p
    ·rw[hj,k.ei]at h1;cases h1;rw[k.gi];trivial
    ·have h2:L j:=h2.elim (λh=>h) λh=>absurd h hj;refine c.g.mono _ _ _ _ g.le (λb ob hb=> ?_) (v.gh j c h1 h2);rw[yr]at hb⊢;have hbl:=(Array.getElem?_eq_some_iff.1 hb.2).1;rcases hb.1 with h|⟨h3,h4⟩
     ·exact⟨.inl h,by rw[g.fr b (.inl (zf b h))];exact hb.2⟩
     ·have hnp2:MK F (Own B I) w b:=⟨h3,hbl,h4⟩;refine⟨.inr ⟨h3,λh5=> ?_⟩,by rw[g.fr b (.inr hnp2)];exact hb.2⟩;rcases h5 with⟨id,o',t,q1,q2,q3⟩|⟨j',c',t,q1,q2,q3,q4,q5,_⟩
      ·have:=(g.sim.fr id o' b t (only _ _ _ q1) q3 (.inr hnp2)).1;rw[q2]at this;cases this
      ·exact noA j' c' q1 q2 q4 q5}
end
end
section
variable {gl:GL}
def q99 {P : IW} {n:Nat} {ops:Array Oper} {A:List Nat} {pr:vK} {rs:List Rc} {Tt:Nat->T AV} {H:Nat->T AO} {X:Nat->Nat} (x:Text gl P n ops A pr rs Tt H X) (hpo:∀p q,pr=some (p,q)->∃ci cj B,PairOK gl P ops A pr rs H X p q ci cj B) {F:Bool->Nat->Prop} {I0:In} {w0:World} (fr0:vd I0 (X 0) (X ops.size)) (low:∀b,F true b->b<w0.heap.size) (zf:∀b,F false b->F true b) (hG:GK gl.tab I0) (hpf:gl.pf (q11 F w0)) {Q:Exit->Act->World->Prop}
    (hQ:∀a' I' w',St gl F I' (Tt ops.size) (H ops.size) n a' w'->Grow F I0 (X 0) w0 I' (X ops.size) (H ops.size) w'->(∀(j:Nat) (c:Rc),rs[j]? =some c->c.g.Φ I' (jK F w0 I' (H ops.size) w'))->Q .normal a' w'):
    ∀(fuel:Nat) (listed:Array Bool) (I:In) (a:Act) (w:World),listed.size=ops.size->cnt ops.size (λi=>listed.getD i false)+fuel=ops.size->((∃e,Inv gl P F n ops rs (Tt 0) H X I0 w0 e (λi=>listed.getD i false=true) I a w)\/∃p q ci cj B,PairOK gl P ops A pr rs H X p q ci cj B/\Inv2 gl P F n ops rs (Tt 0) X I0 w0 p B (λi=>listed.getD i false=true) I a w)->wpAny P .any ops Q fuel listed a w:=by
  intro fuel;have pfw:∀{e:Nat} {L:Nat->Prop} {I:In} {a:Act} {w:World},Inv gl P F n ops rs (Tt 0) H X I0 w0 e L I a w->gl.pf (q11 F w):=λv=>by rw[YV (w:=w0) λb hb=>v.frm b (zf b hb)];exact hpf
  have fin:∀(listed:Array Bool) (e:Nat) (I:In) (a:Act) (w:World),(∀i,i<ops.size->listed.getD i false=true)->Inv gl P F n ops rs (Tt 0) H X I0 w0 e (λi=>listed.getD i false=true) I a w->Q .normal a w:=by
    intro listed e I a w hall v;have noS:∀s,e<=s->s<ops.size->flag qG ops.toList s=false:=λs h1 h2=>by
      cases hf:flag qG ops.toList s with
      |false=>rfl
      |true=>exact absurd (hall s h2) (v.e2 s h1 hf)
    refine hQ a I w ⟨fun τ b hb=> ?_,v.sz,v.df,v.sim x fr0 v.eN (Nat.le_refl _) noS,λb hb=>Nat.lt_of_lt_of_le (low b hb) v.siz,hG.mono v.le,zf,pfw v⟩ ⟨v.le,λid y h=> ?_,v.sim x fr0 v.eN (Nat.le_refl _) noS,v.frm,v.siz,v.sam⟩ ?_
    · rcases x.slot ops.size (Nat.le_refl _) τ with⟨j,cj,a1,a2,a3,a4⟩|⟨a1,a2⟩
      · rw[hb]at a4;cases a4;exact v.s1 j cj τ a2 (hall j a1) a3
      · rw[a2]at hb;refine v.s2 τ b (λj cj hj hd _=> ?_) hb;have:j<ops.size:=by have:=(List.getElem?_eq_some_iff.1 hj).1;rw[x.len]at this;exact this
        exact a1 j cj this hj hd
    · rcases v.dom id y h with h|⟨j,h1,h2,h3⟩
      · exact .inl h
      · have hj:=v.lN j h1;exact .inr ⟨Nat.le_trans (x.xle (Nat.zero_le _) (by omega)) h2,Nat.lt_of_lt_of_le h3 (x.xle (by omega) (Nat.le_refl _))⟩
    · intro j cj hj;have hjN:j<ops.size:=by have:=(List.getElem?_eq_some_iff.1 hj).1;rw[x.len]at this;exact this
      refine cj.g.mono _ _ _ _ (In.le_refl I) (λb ob hb=> ?_) (v.gh j cj hj (hall j hjN));rw[yr]at hb⊢;refine⟨hb.1.imp (λh=>h) λ⟨h3,h4⟩=>⟨h3,λ⟨id,o',t,q1,q2,q3⟩=>h4 (.inl ⟨id,o',t,v.simAt x fr0 v.eN (Nat.le_refl _) noS q1 q3,q2,q3⟩)⟩,hb.2⟩
  have stuck:∀(listed:Array Bool),listed.size=ops.size->Region.ready .any ops listed=[]->∀i,i<ops.size->listed.getD i false=true:=by
    intro listed hsz hr i;induction i using Nat.strongRecOn with
    | _ i ih=>
      intro hi;cases hl:listed.getD i false with
      |true=>rfl
      | false =>
        exfalso;obtain⟨o,c,h1,h2,h3,h4⟩:=x.rc hi;have hrd:i∈Region.ready .any ops listed:=by
          rw[mem_ready];refine⟨?_,o,h1,λe' he hb=> ?_⟩
          · rw[Array.getD_eq_getD_getElem?]at hl⊢;rw[Array.getElem?_eq_getElem (by omega)]at hl⊢;exact hl
          · obtain⟨m,g1,g2⟩:=(K3 ops.toList 0 [] A rfl x.hA).2.2 i o (by simpa using h1);have:e'.on<i:=by have hanc:=x.hA;exact qfg hanc h1 he hb
            exact ih e'.on this (by omega)
        rw[hr]at hrd;cases hrd
  induction fuel with
  | zero=>
    intro listed I a w hsz hc v;have hall:=sa ops.size _ (by omega);rcases v with v|⟨p,q,ci,cj,B,k,v⟩;case inr=>exact absurd (hall p (Nat.lt_trans k.lt k.hq)) v.np
    obtain⟨e,v⟩:=v;refine⟨?_,fin listed e I a w hall v⟩;rw[List.eq_nil_iff_forall_not_mem];intro i hi;obtain⟨g1,o,g2,_⟩:=mem_ready.1 hi;have hlt:i<ops.size:=(Array.getElem?_eq_some_iff.1 g2).1;have:=hall i hlt;rw[Array.getD_eq_getD_getElem?,Array.getElem?_eq_getElem (by omega)]at g1 this;simp only[Option.getD_some]at g1 this;rw[g1]at this;cases this
  | succ fuel ih=>
    intro listed I a w hsz hc v;refine⟨λhr=> ?_,λi hi=> ?_⟩
    · rcases v with⟨e,v⟩|⟨p,q,ci,cj,B,k,v⟩
      · exact fin listed e I a w (stuck listed hsz hr) v
      · exact absurd (stuck listed hsz hr p (Nat.lt_trans k.lt k.hq)) v.np
    obtain⟨g1,o,ho,hr⟩:=mem_ready.1 hi;have hlt:i<ops.size:=(Array.getElem?_eq_some_iff.1 ho).1;obtain⟨o',c,h1,h2,h3,h4⟩:=x.rc hlt;rw[ho]at h1;cases h1;have hLf:listed.getD i false=false:=(by rw[Array.getD_eq_getD_getElem?,Array.getElem?_eq_getElem (by omega)]at g1⊢;exact g1);have hL:¬listed.getD i false=true:=(by rw[hLf];simp);have hL':(λj=>(listed.setIfInBounds i true).getD j false=true)=λj=>listed.getD j false=true\/j=i:=by
      funext j;apply propext;by_cases hji:j=i
      · subst hji;rw[Array.getD_eq_getD_getElem?,Array.getElem?_setIfInBounds_self_of_lt (by omega)];simp
      · rw[Array.getD_eq_getD_getElem?,Array.getElem?_setIfInBounds_ne (by omega),←Array.getD_eq_getD_getElem?];simp[hji]
    have hcnt:cnt ops.size (λj=>(listed.setIfInBounds i true).getD j false)+fuel=ops.size:=by have:=sb ops.size (λj=>listed.getD j false) (λj=>(listed.setIfInBounds i true).getD j false) i hlt hLf (by simp only[Array.getD_eq_getD_getElem?];rw[Array.getElem?_setIfInBounds_self_of_lt (by omega)];rfl) (λj hj=>by simp only[Array.getD_eq_getD_getElem?];rw[Array.getElem?_setIfInBounds_ne (by omega)]);omega
    have go:∀e' I' a' w',Inv gl P F n ops rs (Tt 0) H X I0 w0 e' (λj=>listed.getD j false=true\/j=i) I' a' w'->wpAny P .any ops Q fuel (listed.setIfInBounds i true) a' w':=λe' I' a' w' v'=>
      ih (listed.setIfInBounds i true) I' a' w' (by simp[hsz]) hcnt (.inl ⟨e',by rw[hL'];exact v'⟩)
    have go2:∀p q ci cj B I' a' w',PairOK gl P ops A pr rs H X p q ci cj B->Inv2 gl P F n ops rs (Tt 0) X I0 w0 p B (λj=>listed.getD j false=true\/j=i) I' a' w'->wpAny P .any ops Q fuel (listed.setIfInBounds i true) a' w':=λp q ci cj B I' a' w' k v'=>
      ih (listed.setIfInBounds i true) I' a' w' (by simp[hsz]) hcnt (.inr ⟨p,q,ci,cj,B,k,by rw[hL'];exact v'⟩)
    obtain⟨_,hnx,_,_,hgd,hkw,hun⟩:=h4;have fm:∀{O:Nat->Prop} {w:World},(∀b,QI F O w false b->QI F O w true b):=λb h=>h.imp (zf b) λh=>h;rcases v with⟨e,v⟩|⟨p,q,ci,cj,B,k,v⟩;case inr=>
      have htr:=v.sl.tr x ho h2 hL hr;have hwant:=hgd I a htr;rw[h3]at hwant;unfold wpOp;simp only[ho,hwant];have pf2:gl.pf (q11 F w):=(by rw[YV (w:=w0) λb hb=>v.frm b (zf b hb)];exact hpf);by_cases hip:i=p
      · subst hip;rw[k.ei]at h2;cases h2;simp only[k.wi,if_true];refine .inl ?_;obtain⟨t1,t2,t3⟩:=v.earlier k x low zf ho hr;have hact:=k.ap;rw[h3]at hact;exact hact.2 _ I n a w ⟨htr,v.sl.sz,v.sl.df,t1,t2,hG.mono v.le,fm,gl.mono _ _ (λb ob hb=>by rw[q03]at hb⊢;exact⟨.inl hb.1,hb.2⟩) pf2⟩ (λ_ h1 h2=>by omega) _ Q λz I' w' hz hgr _=>go _ _ _ _ (t3 z I' w' hz hgr)
      · have noS:¬(flag qG ops.toList i=true\/flag (kS P) ops.toList i=true\/flag xS ops.toList i=true):=λh=>hL (v.all i hlt hip h);cases hcw:c.w with
        | false=>
          simp only[Bool.false_eq_true,if_false];obtain⟨u1,u2,u3,u4⟩:=hun hcw;exact go2 _ _ _ _ _ _ _ _ k (v.stay x ho h2 hL hr hip (λhh=>by rw[hcw]at hh;cases hh.1) u4 (by rw[u1];exact wZ I))
        | true=>
          simp only[if_true];refine .inl ?_;have hk:=hkw hcw;cases hck:c.k with
          | q=>
            rw[hck]at hk;obtain⟨k1,k2,k3,k4⟩:=hk;rw[h3]at k3;obtain⟨z,q1,q2⟩:=k3 I a htr;unfold Oper.wp;rw[q1 w];exact go2 _ _ _ _ _ _ _ _ k (v.stay x ho h2 hL hr hip (λhh=>by rw[hck]at hh;cases hh.2) k4 q2)
          | r=>
            refine absurd (.inr (.inr ?_)) noS;rw[xW ho,←h3];exact k.red i c h2 hcw hck
          | a=>
            exact absurd (.inr (.inl (Sa x h2 hcw hck).2)) noS
          | s=>
            rw[hck]at hk;refine absurd (.inl ?_) noS;rw[xW ho,←h3];exact hk.2
    have htr:=v.slots.tr x ho h2 hL hr;have hwant:=hgd I a htr;rw[h3]at hwant;unfold wpOp;simp only[ho,hwant];cases hS:flag qG ops.toList i with
    | true=>
      by_cases hlater:∃p,pr=some (p,i)/\¬listed.getD p false=true
      · obtain⟨p,hpr,hnp⟩:=hlater;obtain⟨ci,cj,B,k⟩:=hpo p i hpr;have h2':=h2;rw[k.ej]at h2';cases h2';simp only[k.wj,if_true];refine .inl ?_;obtain⟨t1,t2,t3⟩:=v.later k x fr0 low zf hnp ho hL hr;have hact:=k.aq;rw[h3]at hact;exact hact.2 _ I n a w ⟨htr,v.sz,v.df,t1,t2,hG.mono v.le,fm,gl.mono _ _ (λb ob hb=>by rw[q03]at hb⊢;exact⟨.inl hb.1,hb.2⟩) (pfw v)⟩ (λ_ h1 h2=>by omega) _ Q λz I' w' hz hgr _=>go2 _ _ _ _ _ _ _ _ k (t3 z I' w' hz hgr)
      have hpr:∀p,pr=some (p,i)->listed.getD p false=true:=λp hp=>by
        cases hb:listed.getD p false with
        |true=>rfl
        |false=>exact absurd ⟨p,hp,by rw[hb];simp⟩ hlater
      obtain⟨t1,t2,t3,t4,t5⟩:=v.turn x fr0 low zf ho h2 hL hr hS hpr;cases hcw:c.w with
      | false=>
        simp only[Bool.false_eq_true,if_false];obtain⟨u1,u2,u3,u4⟩:=hun hcw;refine go _ _ _ _ (t5 undef I w (by rw[u1];exact wZ I) ?_ (u4 _ _));rw[u2,u3];exact t2.grow (X i)
      | true=>
        simp only[if_true];refine .inl ?_;have hact:=(hkw hcw).act;rw[h3]at hact;exact hact.2 _ I n a w ⟨htr,v.sz,v.df,t2,t3,hG.mono v.le,λb hb=>hb.elim (λh=> .inl (zf b h)) λh=> .inr (.inr h),gl.mono _ _ (λb ob hb=>by rw[q03]at hb⊢;exact⟨.inl hb.1,hb.2⟩) (pfw v)⟩ t4 _ Q λz I' w' hz hgr hgi=>go _ _ _ _ (t5 z I' w' hz hgr hgi)
    | false =>
      cases hcw:c.w with
      | false=>
        simp only[Bool.false_eq_true,if_false];obtain⟨u1,u2,u3,u4⟩:=hun hcw;exact go _ _ _ _ (v.stay x ho h2 hL hr hS (λhh=>by rw[hcw]at hh;cases hh.1) u4 (by rw[u1];exact wZ I))
      | true=>
        simp only[if_true];refine .inl ?_;have hk:=hkw hcw;cases hck:c.k with
        | q=>
          rw[hck]at hk;obtain⟨k1,k2,k3,k4⟩:=hk;rw[h3]at k3;obtain⟨z,q1,q2⟩:=k3 I a htr;unfold Oper.wp;rw[q1 w];exact go _ _ _ _ (v.stay x ho h2 hL hr hS (λhh=>by rw[hck]at hh;cases hh.2) k4 q2)
        | r =>
          rw[hck]at hk;obtain⟨k1,k2,k3,k4⟩:=hk;have hrun : ∃z,(execOp a.eval o).run P w= .ok (.value z) w/\VR I c.v z:=by
            obtain⟨le1,le2⟩:=rf ops.toList i;by_cases hep:e=Z8 ops.toList i
            · rw[h3]at k3;exact k3 F I a w htr (v.sim x fr0 (m:=i) (by rw[hep];exact le1) (by omega) (λs a1 a2=>le2 s (by rw[←hep];exact a1) a2)) (pfw v)
            · have hother:other ops.toList A i e=true:=by
                unfold other;simp only[Bool.and_eq_true,Bool.not_eq_true'];refine⟨⟨⟨v.ep,?_⟩,?_⟩,?_⟩
                · cases hb:Nat.beq e (Z8 ops.toList i)with
                  |false=>rfl
                  |true=>exact absurd (Nat.eq_of_beq_eq_true hb) hep
                · cases e with
                  |zero=>rfl
                  | succ e'=>
                    simp only;cases hb:j0 A e' i with
                    |false=>rfl
                    | true=>
                      have hf:flag qG ops.toList e'=true:=v.ep;have hLe:=v.e1 e' (Nat.lt_succ_self _) hf;obtain⟨oe,_,q1,_⟩:=x.rc (v.lN e' hLe);exact absurd (KY x.hA v.cl q1 (λe'' he hb=>v.cl e' oe q1 hLe e'' he hb) hb) hL
                · apply rD;intro s hs;simp only[Bool.or_eq_true,Bool.not_eq_true'];by_cases hse:s<e
                  · exact .inl (.inl (by rw[blt_eq];exact decide_eq_true hse))
                  · cases hf:flag qG ops.toList s with
                    |false=>exact .inl (.inr rfl)
                    | true=>
                      refine .inr ?_;cases hb:j0 A i s with
                      |false=>rfl
                      |true=>exact absurd (KY x.hA v.cl ho hr hb) (v.e2 s (by omega) hf)
              have hag:=x.again i c e h2 hcw hck v.eN hother;rw[h3]at hag;exact hag F I a w htr (v.sim x fr0 (m:=e) (Nat.le_refl _) v.eN (λs a1 a2=>by omega)) (pfw v)
          obtain⟨z,q1,q2⟩:=hrun;unfold Oper.wp;rw[q1];exact go _ _ _ _ (v.stay x ho h2 hL hr hS (λhh=>by rw[hck]at hh;cases hh.2) k4 q2)
        | a =>
          rw[hck]at hk;obtain⟨ob,k1,k2,k3,k4,k5,k6,k7⟩:=hk;rw[h3]at k2 k5;obtain⟨z,obj,tot,w',q1,q2,q3,q4⟩:=k2 I a htr w;have hfree:I (X i)=none:=by
            cases hI:I (X i)with
            |none=>rfl
            |some y=>exact absurd (v.doneX x fr0 hlt (Nat.le_refl _) (by omega) hI) hL
          obtain⟨r1,r2⟩:=q4 (ext I (X i) (w.heap.size,tot)) (QY _ hfree) (zZ _ _ _);unfold Oper.wp;rw[q1];exact go _ _ _ _ (v.make x fr0 low ho h2 hL hr hS hcw hck k1 k7 k5 k4 hnx q2 q3 r1 r2 hfree)
        | s=>
          rw[hck]at hk;have:=hk.2;rw[h3,←xW (f:=qG) ho,hS]at this;cases this
def q5y{P:IW} {n:Nat} {ops:Array Oper} {A:List Nat} {pr:vK} {rs:List Rc} {Tt:Nat->T AV} {H:Nat->T AO} {X:Nat->Nat} (x:Text gl P n ops A pr rs Tt H X) (hpo:∀p q,pr=some (p,q)->∃ci cj B,PairOK gl P ops A pr rs H X p q ci cj B) {F:Bool->Nat->Prop} {I:In} {a:Act} {w:World} (st:St gl F I (Tt 0) (H 0) n a w) (fr:vd I (X 0) (X ops.size)) {Q:Exit->Act->World->Prop}
  (hQ:∀a' I' w',St gl F I' (Tt ops.size) (H ops.size) n a' w'->Grow F I (X 0) w I' (X ops.size) (H ops.size) w'->(∀(j:Nat) (c:Rc),rs[j]? =some c->c.g.Φ I' (jK F w I' (H ops.size) w'))->Q .normal a' w') (d:Nat):wpAny P .any ops Q ops.size (Array.replicate ops.size false) a {w with drawn:=d}:=by
 refine(q99 x hpo (F:=F) (I0:=I) (w0:=w) fr st.low st.zf st.gok st.pf hQ ops.size (Array.replicate ops.size false) I a _ (by simp) ?_ (.inl ⟨0,?_⟩))
 ·have:cnt ops.size (λi=>(Array.replicate ops.size false).getD i false)=0:=by
   have h0:∀m,cnt m (λ_=>false)=0:=by
    intro m;induction m with
    |zero=>rfl
    |succ m ih=>simp[cnt,ih]
   rw[←h0 ops.size];refine Ab _ _ _ λj hj=> ?_;simp[Array.getD_eq_getD_getElem?,hj]
  omega
 ·have none':∀i,¬(Array.replicate ops.size false).getD i false=true:=λi=>by
   rw[Array.getD_eq_getD_getElem?];by_cases hi:i<ops.size
   ·simp[hi]
   ·simp[hi]
  have init:∀id o,RR rs H 0 (λi=>(Array.replicate ops.size false).getD i false=true) id o->(H 0).get id=some o:=λid o hR=>by
   rcases hR with⟨j,c,_,_,hL,_⟩|hR
   ·exact absurd hL (none' j)
   ·exact hR
  exact{
   eN:=Nat.zero_le _,ep:=rfl,e1:=λs h=>by omega,e2:=λs _ _ hL=>none' s hL,e3:=λj h=>by omega
   cl:=λi o _ hL=>absurd hL (none' i),lN:=λi hL=>absurd hL (none' i)
   sz:=st.size,df:=st.defers,s1:=λi c τ _ hL=>absurd hL (none' i)
   s2:=fun τ b _ hb=>st.tr τ b hb
   obj:=λid o b t hR hI=>st.sim.obj id o b t (init id o hR) hI
   inj:=λid id' o o' b t t' hR hR'=>st.sim.inj id id' o o' b t t' (init id o hR) (init id' o' hR')
   fr:=λid o b t hR=>st.sim.fr id o b t (init id o hR)
   ex:=λj c _ hL=>absurd hL (none' j),exf:=λj c b t _ _ hL=>absurd hL (none' j)
   dom:=λid y h=> .inl h,le:=In.le_refl I,frm:=λ_ _=>rfl,siz:=Nat.le_refl _,sam:=⟨rfl,rfl,rfl⟩
   gh:=λj c _ hL=>absurd hL (none' j)}
end
section
@[reducible] def Ob (p:Prop):Prop:=p
def pG(a:Option Addr):Option Nat:=a.map (·.block)
def je(k:Nat):List Nat->Bool
  | []=>false
  | a::l=>match Nat.beq k a with
    |true=>true
    |false=>je k l
def y3{k:Nat}:∀{l:List Nat},je k l=true->k∈l
  | [],h=>by cases h
  | a::l,h=>by
    simp only[je]at h;split at h
    · rename_i hb;rw[Nat.eq_of_beq_eq_true hb];exact List.mem_cons_self
    · exact List.mem_cons_of_mem _ (y3 h)
mutual
def zl(x:Nat->SV) (ks:List Nat):AV->AV
  | .tsl k=>match je k ks with
    |true=> .sv (.slice (x k).1 (x k).2.1 (x k).2.2)
    |false=> .tsl k
  | .tpt k=>match je k ks with
    |true=> .sv (.pointer (x k).1)
    |false=> .tpt k
  | .tmap k=>match je k ks with
    |true=> .sv (.map (pG (x k).1))
    |false=> .tmap k
  | .ifc t a=> .ifc t (zl x ks a)
  | .agg l=> .agg (openL x ks l)
  | .tup l=> .tup (openL x ks l)
  | .fn f l=> .fn f (openL x ks l)
  | .bfn f l m=> .bfn f (openL x ks l) (openL x ks m)
  | .bool b=> .bool b
  | .int k n=> .int k n
  | .str s=> .str s
  | .nilp=> .nilp
  | .ptr a b=> .ptr a b
  | .nsl=> .nsl
  | .sl a b c d=> .sl a b c d
  | .gsl a b c d=> .gsl a b c d
  | .nmap=> .nmap
  | .map a=> .map a
  | .nilf=> .nilf
  | .nili=> .nili
  | .ifo=> .ifo
  | .anyi k=> .anyi k
  | .lin k c l=> .lin k c l
  | .sv v=> .sv v
  | .ssl a b c d k=>match je k ks with
    |true=> .sv (.slice (x k).1 c (x k).2.2)
    |false=> .ssl a b c d k
  | .msl a b c=> .msl a b c
  | .usl a b c d=> .usl a b c d
  | .sptr a b=> .sptr a b
def openL(x:Nat->SV) (ks:List Nat):List AV->List AV
 | []=>[]
 |a::l=>zl x ks a::openL x ks l
end
section
variable {I:In} {x:Nat->SV} {ks:List Nat} (hx:∀k y,k∈ks->I k=some y->x k=zp y)
mutual
def Fi(hx:∀k y,k∈ks->I k=some y->x k=zp y):∀{a v},VR I a v->VR I (zl x ks a) v
  | _,_, .tsl (k:=k) h=>by
    unfold zl;split
    · rename_i hm;rw[hx _ _ (y3 hm) h];exact .sv _
    · exact .tsl h
  | _,_, .tpt (k:=k) h=>by
    unfold zl;split
    · rename_i hm;rw[hx _ _ (y3 hm) h];exact .sv _
    · exact .tpt h
  | _,_, .tmap (k:=k) h=>by
    unfold zl;split
    · rename_i hm;rw[hx _ _ (y3 hm) h];exact .sv _
    · exact .tmap h
  |_,_, .ifc h=>by unfold zl;exact .ifc (Fi hx h)
  |_,_, .agg h=>by unfold zl;exact .agg (openL_ok hx h)
  |_,_, .tup h=>by unfold zl;exact .tup (openL_ok hx h)
  |_,_, .fn h=>by unfold zl;exact .fn (openL_ok hx h)
  |_,_, .bfn h1 h=>by unfold zl;exact .bfn (openL_ok hx h1) (openL_ok hx h)
  |_,_, .bool b=>by unfold zl;exact .bool b
  |_,_, .int k n=>by unfold zl;exact .int k n
  |_,_, .str l=>by unfold zl;exact .str l
  |_,_, .nilp=>by unfold zl;exact .nilp
  |_,_, .ptr h=>by unfold zl;exact .ptr h
  |_,_, .nsl=>by unfold zl;exact .nsl
  |_,_, .sl h=>by unfold zl;exact .sl h
  |_,_, .gsl h h1 h2 h3=>by unfold zl;exact .gsl h h1 h2 h3
  |_,_, .nmap=>by unfold zl;exact .nmap
  |_,_, .map h=>by unfold zl;exact .map h
  |_,_, .nilf=>by unfold zl;exact .nilf
  |_,_, .nili=>by unfold zl;exact .nili
  |_,_, .ifo=>by unfold zl;exact .ifo
  |_,_, .anyi=>by unfold zl;exact .anyi
  |_,_, .lin h=>by unfold zl;exact .lin h
  |_,_, .sv v=>by unfold zl;exact .sv v
  | _,_, .ssl (k:=k) h h1 h2 h3 hk hd=>by
    unfold zl;split
    · rename_i hm;rw[hx _ _ (y3 hm) hk,hd];exact .sv _
    · exact .ssl h h1 h2 h3 hk hd
  |_,_, .msl h h2 h3=>by unfold zl;exact .msl h h2 h3
  |_,_, .usl h h1 h2 h3=>by unfold zl;exact .usl h h1 h2 h3
  |_,_, .usl0 h=>by unfold zl;exact .usl0 h
  | _,_, .ssl0 (k:=k) h hk hd=>by
    unfold zl;split
    · rename_i hm;rw[hx _ _ (y3 hm) hk,hd,h];exact .sv _
    · exact .ssl0 h hk hd
  |_,_, .sptr h=>by unfold zl;exact .sptr h
def openL_ok(hx:∀k y,k∈ks->I k=some y->x k=zp y):∀{l vs},VRs I l vs->VRs I (openL x ks l) vs
 |_,_, .nil=>by unfold openL;exact .nil
 |_,_, .cons h t=>by unfold openL;exact .cons (Fi hx h) (openL_ok hx t)
end
end
def Sw(x:Nat->SV) (ks:List Nat):List (Value×AV×Nat)->List (Value×AV×Nat)
 | []=>[]
 | (k,a,n)::l=>(k,zl x ks a,n)::Sw x ks l
def Vo(x:Nat->SV) (ks:List Nat):AO->AO
 | .cells e fz g l=> .cells e fz g (openL x ks l)
 | .map es c=> .map (Sw x ks es) c
 | .row e fz vs=> .row e fz vs
 | .mrow es c=> .mrow es c
 | .iter m s l c=> .iter m s l c
def rL{I:In} {x:Nat->SV} {ks:List Nat} (hx:∀k y,k∈ks->I k=some y->x k=zp y):∀{l ms},MR I l ms->MR I (Sw x ks l) ms
 |_,_, .nil=> .nil
 |_,_, .cons h t=> .cons (Fi hx h) (rL hx t)
def qd7{I:In} {x:Nat->SV} {ks:List Nat} (hx:∀k y,k∈ks->I k=some y->x k=zp y) {t o ob} (h:OR I t o ob):OR I t (Vo x ks o) ob:=by
 cases h with
 |cells h hg hp ht hf hE=>exact .cells (openL_ok hx h) hg hp ht hf hE
 |map h=>exact .map (rL hx h)
 |row hp ht hf=>exact .row hp ht hf
 |mrow=>exact .mrow
 |iter h hp=>exact .iter h hp
def qd8{x:Nat->SV} {ks:List Nat}:∀o:AO,(Vo x ks o).rw=o.rw
 | .cells _ none _ _=>rfl
 | .cells _ (some _) _ _=>rfl
 | .map .. =>rfl
 | .row .. =>rfl
 | .mrow .. =>rfl
 | .iter .. =>rfl
def jn{α β:Type} (f:α->β):T α->T β
 | .e=> .e
 | .n l v r=> .n (jn f l) (match v with|some a=>some (f a)|none=>none) (jn f r)
def E2{α β:Type} (f:α->β):∀(t:T α) (k:Nat),(jn f t).getS k=(t.getS k).map f
  | .e,k=>rfl
  | .n l v r,0=>by simp only[jn,T.getS];cases v<;>rfl
  | .n l v r,k+1=>by
    simp only[jn,T.getS];split
    · exact E2 f l _
    · exact E2 f r _
def Ff{α β:Type} (f:α->β) (t:T α) (k:Nat):(jn f t).get k=(t.get k).map f:=by rw[T.get_eq,T.get_eq,E2]
def qfx{I:In} {x:Nat->SV} {ks:List Nat} (hx:∀k y,k∈ks->I k=some y->x k=zp y) {t:T AV} {tm:Array Value} (h:TR I t tm):TR I (jn (zl x ks) t) tm:=λn a e=>by
 rw[Ff]at e;cases hg:t.get n with
 |none=>rw[hg]at e;cases e
 |some b=>rw[hg]at e;cases e;exact Fi hx (h n b hg)
def qd9{I:In} {x:Nat->SV} {ks:List Nat} (hx:∀k y,k∈ks->I k=some y->x k=zp y) {F:Bool->Nat->Prop} {h:T AO} {w:World} (s:Sim F I h w):Sim F I (jn (Vo x ks) h) w:=by
 have back:∀id o,(jn (Vo x ks) h).get id=some o->∃o',h.get id=some o'/\o=Vo x ks o':=λid o e=>by
  rw[Ff]at e;cases hg:h.get id with
  |none=>rw[hg]at e;cases e
  |some b=>rw[hg]at e;cases e;exact⟨b,rfl,rfl⟩
 refine⟨λid o b t g hi=> ?_,λid id' o o' b t t' g g' hi hi'=> ?_,λid o b t g hi hf=> ?_⟩
 ·obtain⟨o',h1,rfl⟩:=back _ _ g;obtain⟨ob,h2,h3⟩:=s.obj _ _ _ _ h1 hi;exact⟨ob,h2,qd7 hx h3⟩
 ·obtain⟨_,h1,_⟩:=back _ _ g;obtain⟨_,h2,_⟩:=back _ _ g';exact s.inj _ _ _ _ _ _ _ h1 h2 hi hi'
 ·obtain⟨o',h1,rfl⟩:=back _ _ g;rw[qd8];exact s.fr _ _ _ _ h1 hi hf
structure At(F0:Bool->Nat->Prop) (I0:In) (nx0:Nat) (w0:World) (F:Bool->Nat->Prop) (I:In) (nx:Nat) (w:World):Prop where
 le:∀id,id<nx0->I id=I0 id
 nxl:nx0<=nx
 fresh:∀i,nx<=i->I i=none
 sup:∀s b,F0 s b->F s b
 sub:∀b,F false b->F0 false b\/¬F0 true b
 frm:∀b,F0 true b->w.heap[b]? =w0.heap[b]?
 siz:w0.heap.size<=w.heap.size
 sam:Same w0 w
section
variable {F0:Bool->Nat->Prop} {I0:In} {nx0:Nat} {w0:World}
def At.grow{F I nx w I' nx' h' w'} (v:At F0 I0 nx0 w0 F I nx w) (g:Grow F I nx w I' nx' h' w') (hle:nx<=nx'):At F0 I0 nx0 w0 F I' nx' w':={
  le := λid hid=>by
    rw[←v.le id hid];cases hI:I id with
    |some x=>exact g.le _ _ hI
    | none=>
      cases hJ:I' id with
      |none=>rfl
      | some y=>
        rcases g.new id y hJ with h|h
        · rw[hI]at h;cases h
        · have:=v.nxl;omega
  nxl:=Nat.le_trans v.nxl hle
  fresh:=λi hi=>by
    cases hJ:I' i with
    |none=>rfl
    | some y=>
      rcases g.new i y hJ with h|h
      · rw[v.fresh i (by omega)]at h;cases h
      · omega
  sup:=v.sup,sub:=v.sub
  frm:=λb hb=>(g.fr b (v.sup true b hb)).trans (v.frm b hb)
  siz:=Nat.le_trans v.siz g.size,sam:=v.sam.trans g.same}
def At.freshR{F I nx w} (v:At F0 I0 nx0 w0 F I nx w) (nx':Nat):vd I nx nx':=λi h _=>v.fresh i h
end
def GL.and(gl:GL) (f:Pub->Prop) (m:∀p q,Pub.le p q->f p->f q):GL:=⟨gl.tab,λp=>gl.pf p/\f p,λp q hp h=>⟨gl.mono p q hp h.1,m p q hp h.2⟩,false,λh=>by cases h⟩
def GL.withP(gl:GL) (f:PF):GL:=match f.on with
 |true=>gl.and f.pf f.mono
 |false=>gl
def GL.withP_tab(gl:GL) (f:PF):(gl.withP f).tab=gl.tab:=by unfold GL.withP;split<;>rfl
variable {gl:GL} {f:PF}
def GL.withP_of{p:Pub} (h1:gl.pf p) (h2:f.ok p):(gl.withP f).pf p:=by
 unfold GL.withP PF.ok at*;split
 ·rename_i ho;rw[ho]at h2;exact⟨h1,h2⟩
 ·exact h1
def x6(gl:GL) (f:PF) (K:Prop):Prop:=match f.on with
 |true=>Ob (∀p,gl.pf p->f.pf p)/\K
 |false=>K
def Y8{K:Prop} (h:x6 gl f K):(∀p,gl.pf p->f.ok p)/\K:=by
 unfold x6 PF.ok at*;split
 ·rename_i ho;rw[ho]at h;exact h
 ·rename_i ho;rw[ho]at h;exact⟨λ_ _=>trivial,h⟩
def wb(gl:GL) (f:PF) (K:GL->Prop):Prop:=match f.on with
 |true=>Ob (∃p,(gl.and f.pf f.mono).pf p)->K (gl.and f.pf f.mono)
 |false=>K gl
def Z4{K:GL->Prop} (h:wb gl f K) {p:Pub} (h1:gl.pf p) (h2:f.ok p):K (gl.withP f):=by
 unfold wb GL.withP PF.ok at*;split
 ·rename_i ho;rw[ho]at h h2;exact h ⟨p,h1,h2⟩
 ·rename_i ho;rw[ho]at h;exact h
def Q1:List Nat->(Nat->SV)->((Nat->SV)->Prop)->Prop
 | [],x,K=>K x
 |k::l,x,K=>∀(a:Option Addr) (n c:Nat),Q1 l (λj=>match Nat.beq j k with|true=>(a,n,c)|false=>x j) K
def Ah{K:(Nat->SV)->Prop} (y:Nat->SV):∀(l:List Nat) (x:Nat->SV),Q1 l x K->∃z,K z/\(∀k∈l,z k=y k)/\∀k,k∉l->z k=x k
  | [],x,h=>⟨x,h,λk hk=>(by cases hk),λ_ _=>rfl⟩
  | k ::l,x,h=>by
    obtain⟨z,h1,h2,h3⟩:=Ah y l _ (h (y k).1 (y k).2.1 (y k).2.2);refine⟨z,h1,λj hj=> ?_,λj hj=> ?_⟩
    · by_cases hl:j∈l
      · exact h2 j hl
      · have:j=k:=by
          cases hj with
          |head=>rfl
          |tail _ hj=>exact absurd hj hl
        subst this;rw[h3 j hl];simp
    · rw[h3 j λhl=>hj (List.mem_cons_of_mem _ hl)];have:Nat.beq j k=false:=by
        cases hb:Nat.beq j k with
        |false=>rfl
        |true=>exact absurd (by rw[Nat.eq_of_beq_eq_true hb];exact List.mem_cons_self) hj
      rw[this]
def x_:Nat->SV:=λ_=>(none,0,0)
abbrev KS:=GL->T AV->T AO->Nat->Prop
def u0:List GD->GL->T AV->T AO->Nat->KS->Prop
 | [],gl,t,h,nx,K=>K gl t h nx
 |d::l,gl,t,h,nx,K=>∀b:d.β,Ob (d.pre b)->Q1 d.ks x_ λx=>wb gl (d.mem b (d.ks.map x)) λgl=>u0 l gl (jn (zl x d.ks) t) (jn (Vo x d.ks) h) nx K
section
variable {F0:Bool->Nat->Prop} {I0:In} {nx0:Nat} {w0:World} {n:Nat}
def y8(F0:Bool->Nat->Prop) (I0:In) (nx0:Nat) (w0:World) (n:Nat) (K:KS) (a:Act) (w:World):Prop:=∃gl t h nx F I,K gl t h nx/\GK gl.tab I0/\St gl F I t h n a w/\At F0 I0 nx0 w0 F I nx w
def rm{F:Bool->Nat->Prop} {I:In} {a:Act} {w:World} {nx:Nat} (at1:At F0 I0 nx0 w0 F I nx w) {K:KS}:∀{l:List GD} {gl:GL} {t:T AV} {h:T AO},u0 l gl t h nx K->St gl F I t h n a w->GK gl.tab I0->(∀d∈l,GS.Φ (some d) I (q11 F w))->y8 F0 I0 nx0 w0 n K a w
  | [],gl,t,h,e,st,hg0,hl=>⟨gl,t,h,nx,F,I,e,hg0,st,at1⟩
  | d::l,gl,t,h,e,st,hg0,hl=>by simp only[u0]at e;obtain⟨_,b,hb0,hb⟩:=hl d (by simp);obtain⟨x,e,hx,_⟩:=Ah (λk=>match I k with|some y=>zp y|none=>(none,0,0)) _ _ (e b hb0);have hx':∀k y,k∈d.ks->I k=some y->x k=zp y:=λk y hk hy=>(by rw[hx k hk];simp only[hy]);have hok:=hb x hx';have hall:=GL.withP_of st.pf hok;exact rm at1 (Z4 e st.pf hok) ⟨qfx hx' st.tr,st.size,st.defers,qd9 hx' st.sim,st.low,by rw[GL.withP_tab];exact st.gok,st.zf,hall⟩ (by rw[GL.withP_tab];exact hg0) λc hc=>hl c (by simp[hc])
def rN{l:List GD} {gl:GL} {t:T AV} {h:T AO} {nx nx1:Nat} {K:KS} (e:u0 l gl t h nx K) {F:Bool->Nat->Prop} {I I1:In} {a:Act} {w w1:World} (st:St gl F I t h n a w) (g:Grow F I1 nx1 w1 I nx h w) (hle:nx1<=nx) (at0:At F0 I0 nx0 w0 F I1 nx1 w1) (hg0:GK gl.tab I0) (hl:∀d∈l,GS.Φ (some d) I (jK F w1 I h w)):y8 F0 I0 nx0 w0 n K a w:=by
 have at1:=at0.grow g hle
 let F2:Bool->Nat->Prop:=λs b=>F s b\/(¬F true b/\b<w.heap.size/\¬Own h I b)
 have hpub:Pub.le (jK F w1 I h w) (q11 F2 w):=λb o hb=>by rw[yr]at hb;rw[q03];exact⟨hb.1.imp (λh=>h) λh=>⟨h.1,(Array.getElem?_eq_some_iff.1 hb.2).1,h.2⟩,hb.2⟩
 have hpf:Pub.le (q11 F w) (q11 F2 w):=λb o hb=>by rw[q03]at hb⊢;exact⟨.inl hb.1,hb.2⟩
 have at2:At F0 I0 nx0 w0 F2 I nx w:={at1 with sup:=λs b hb=> .inl (at1.sup s b hb),sub:=λb hb=>hb.elim (at1.sub b) λh=> .inr λh0=>h.1 (at1.sup true b h0),frm:=at1.frm};refine rm at2 e ⟨st.tr,st.size,st.defers,⟨st.sim.obj,st.sim.inj,λid o b tt h1 h2 hf=> ?_⟩,λb hb=>hb.elim (st.low b) λh=>h.2.1,st.gok,λb hb=>hb.imp (st.zf b) λh=>h,gl.mono _ _ hpf st.pf⟩ hg0 λd hd=>GS.mono _ _ _ _ _ (In.le_refl I) hpub (hl d hd);rcases hf with hf|hf
 ·exact(st.sim.fr id o b tt h1 h2 hf).imp (λh=>h) .inl
 ·refine⟨?_, .inr hf⟩;cases hrw:o.rw with
  |false=>rfl
  |true=>exact absurd ⟨id,o,tt,h1,hrw,h2⟩ hf.2.2
def qg9{f:PF} {gl:GL} {t:T AV} {h:T AO} {nx nx1:Nat} {K:KS} (e:wb gl f λgl=>K gl t h nx) {F:Bool->Nat->Prop} {I I1:In} {a:Act} {w w1:World} (st:St gl F I t h n a w) (g:Grow F I1 nx1 w1 I nx h w) (hle:nx1<=nx) (at0:At F0 I0 nx0 w0 F I1 nx1 w1) (hg0:GK gl.tab I0) (hl:f.ok (jK F w1 I h w)):y8 F0 I0 nx0 w0 n K a w:=by
 have at1:=at0.grow g hle
 let F2:Bool->Nat->Prop:=λs b=>F s b\/(¬F true b/\b<w.heap.size/\¬Own h I b)
 have hpub:Pub.le (jK F w1 I h w) (q11 F2 w):=λb o hb=>by rw[yr]at hb;rw[q03];exact⟨hb.1.imp (λh=>h) λh=>⟨h.1,(Array.getElem?_eq_some_iff.1 hb.2).1,h.2⟩,hb.2⟩
 have hpf:Pub.le (q11 F w) (q11 F2 w):=λb o hb=>by rw[q03]at hb⊢;exact⟨.inl hb.1,hb.2⟩
 have at2:At F0 I0 nx0 w0 F2 I nx w:={at1 with sup:=λs b hb=> .inl (at1.sup s b hb),sub:=λb hb=>hb.elim (at1.sub b) λh=> .inr λh0=>h.1 (at1.sup true b h0),frm:=at1.frm};have stF:St gl F2 I t h n a w:=⟨st.tr,st.size,st.defers,⟨st.sim.obj,st.sim.inj,λid o b tt h1 h2 hf=> ?_⟩,λb hb=>hb.elim (st.low b) λh=>h.2.1,st.gok,λb hb=>hb.imp (st.zf b) λh=>h,gl.mono _ _ hpf st.pf⟩
 ·have hok:f.ok (q11 F2 w):=PF.ok_mono hpub hl;exact⟨gl.withP f,t,h,nx,F2,I,Z4 e stF.pf hok,by rw[GL.withP_tab];exact hg0,⟨stF.tr,stF.size,stF.defers,stF.sim,stF.low,by rw[GL.withP_tab];exact stF.gok,stF.zf,GL.withP_of stF.pf hok⟩,at2⟩
 rcases hf with hf|hf
 ·exact(st.sim.fr id o b tt h1 h2 hf).imp (λh=>h) .inl
 ·refine⟨?_, .inr hf⟩;cases hrw:o.rw with
  |false=>rfl
  |true=>exact absurd ⟨id,o,tt,h1,hrw,h2⟩ hf.2.2
end
end
section
def kU{α:Type}:T α->(Nat->Nat)->List (Nat×α)->List (Nat×α)
  | .e,_,acc=>acc
  | .n l v r,f,acc=>match v with
    |some a=>(f 0,a)::kU l (λm=>f (2*m+1)) (kU r (λm=>f (2*m+2)) acc)
    |none=>kU l (λm=>f (2*m+1)) (kU r (λm=>f (2*m+2)) acc)
def Ac{α:Type}:∀(t:T α) (f:Nat->Nat) (acc:List (Nat×α)) (x:Nat×α),x∈acc->x∈kU t f acc
  | .e,_,_,_,h=>h
  | .n l v r,f,acc,x,h=>by
    have:=Ac l (λm=>f (2*m+1)) _ x (Ac r (λm=>f (2*m+2)) acc x h);simp only[kU];split
    · exact List.mem_cons_of_mem _ this
    · exact this
def Ae{α:Type}:∀(t:T α) (f:Nat->Nat) (acc:List (Nat×α)) (k:Nat) (a:α),t.getS k=some a->(f k,a)∈kU t f acc
  | .e,f,acc,k,a,h=>by cases h
  | .n l v r,f,acc,0,a,h=>by simp only[T.getS]at h;subst h;simp[kU]
  | .n l v r,f,acc,k+1,a,h=>by
    simp only[T.getS]at h;have:(f (k+1),a)∈kU l (λm=>f (2*m+1)) (kU r (λm=>f (2*m+2)) acc):=by
      split at h
      · rename_i hb;have hk:=(T.parity k).1 hb;have:=Ae l (λm=>f (2*m+1)) (kU r (λm=>f (2*m+2)) acc) _ a h;simp only[T.div2]at this;rwa [show 2*(k / 2)+1=k+1 by omega]at this
      · rename_i hb;have hk:=(T.parity k).2 hb;have:=Ae r (λm=>f (2*m+2)) acc _ a h;simp only[T.div2]at this;rw[show 2*(k / 2)+2=k+1 by omega]at this;exact Ac l _ _ _ this
    simp only[kU];split
    · exact List.mem_cons_of_mem _ this
    · exact this
def z6{α:Type} (t:T α):List (Nat×α):=kU t (λm=>m) []
variable {α:Type}
def jd{t:T α} {k:Nat} {a:α} (h:t.get k=some a):(k,a)∈z6 t:=by rw[T.get_eq]at h;exact Ae t (λm=>m) [] k a h
def Ad{α:Type}:∀(t:T α) (f:Nat->Nat) (acc:List (Nat×α)) (k:Nat) (a:α),(k,a)∈kU t f acc->(k,a)∈acc\/∃j,t.getS j=some a/\k=f j
  | .e,f,acc,k,a,h=> .inl h
  | .n l v r,f,acc,k,a,h=>by
    have rest:(k,a)∈kU l (λm=>f (2*m+1)) (kU r (λm=>f (2*m+2)) acc)->(k,a)∈acc\/∃j,(T.n l v r).getS j=some a/\k=f j:=λh=>by
      rcases Ad l _ _ k a h with h|⟨j,h1,h2⟩
      · rcases Ad r _ _ k a h with h|⟨j,h1,h2⟩
        · exact .inl h
        · refine .inr ⟨2*j+2,?_,h2⟩;simp only[T.getS];have:Nat.beq (Nat.mod (2*j+1) 2) 0=false:=by have:Nat.mod (2*j+1) 2=1:=(by show(2*j+1) % 2=1;omega);rw[this];rfl
          rw[this];simp only[T.div2];rw[show(2*j+1) / 2=j by omega];exact h1
      · refine .inr ⟨2*j+1,?_,h2⟩;simp only[T.getS];have:Nat.beq (Nat.mod (2*j) 2) 0=true:=by have:Nat.mod (2*j) 2=0:=(by show(2*j) % 2=0;omega);rw[this];rfl
        rw[this];simp only[T.div2];rw[show(2*j) / 2=j by omega];exact h1
    simp only[kU]at h;split at h
    · rcases List.mem_cons.1 h with h|h
      · cases h;exact .inr ⟨0,rfl,rfl⟩
      · exact rest h
    · exact rest h
def X9{t:T α} {k:Nat} {a:α} (h:(k,a)∈z6 t):t.get k=some a:=by
 rcases Ad t _ _ k a h with h|⟨j,h1,h2⟩
 ·cases h
 ·rw[h2,T.get_eq];exact h1
end
section
def gv:AV->Option Value
 | .sv v=>some v
 |a=>u9 a
def Vf{I:In} {a:AV} {v u:Value} (h:gv a=some v) (r:VR I a u):u=v:=by
 unfold gv at h;split at h
 ·cases h;cases r;rfl
 ·exact Y1 h r
def jH:List AV->Option (List Value)
  | []=>some []
  | a ::l=>match gv a with
    | some v=>match jH l with
      |some r=>some (v::r)
      |none=>none
    |none=>none
def uU{I:In}:∀{l:List AV} {x:List Value},jH l=some x->∀{u},VRs I l u->u=x
  | [],x,h,u,r=>by simp[jH]at h;subst h;cases r;rfl
  | a ::l,x,h,u,r=>by
    simp only[jH]at h;split at h
    · rename_i v hv;split at h
      · rename_i y hy;cases h;cases r with|cons h1 h2=>rw[Vf hv h1,uU hy h2]
      · cases h
    · cases h
def qai(o:Obj) (a:Addr):Option Value:=match o with
  | .cells c _ _=>match a.spot with
    |none=>c[a.off]?
    |some _=>none
  |_=>none
def q5n(p:Pub) (a:Addr):Option Value:=match p a.block with
 |some o=>qai o a
 |none=>none
def q8y{p q:Pub} (h:Pub.le p q) {a:Addr} {v:Value} (e:q5n p a=some v):q5n q a=some v:=by
 unfold q5n at e⊢;cases hp:p a.block with
 |none=>rw[hp]at e;cases e
 |some o=>rw[hp]at e;rw[h _ _ hp];exact e
def X2{F:Bool->Nat->Prop} {w:World} {a:Addr} {v:Value} (e:q5n (q11 F w) a=some v):w.cell? a=some v:=by
  unfold q5n at e;cases hp:q11 F w a.block with
  |none=>rw[hp]at e;cases e
  | some o=>
    rw[hp]at e;rw[q03]at hp;unfold World.cell?;rw[hp.2];simp only[qai]at e;cases o<;>simp only at e⊢<;>first|exact(by cases e)|skip
    split at e
    · rename_i hs;rw[hs];simpa using e
    · cases e
def q37(p:Pub) (a:Addr) (vs:List Value):Prop:=∀(j:Nat) v,vs[j]? =some v->q5n p (a.add j)=some v
def pM{p q:Pub} (h:Pub.le p q) {a:Addr} {vs:List Value} (e:q37 p a vs):q37 q a vs:=λj v hj=>q8y h (e j v hj)
def Pl(a:Option Addr):Prop:=True
def qgs(p:Pub) (a:Option Addr) (vs:List Value):Prop:=(vs=[]/\Pl a)\/∃x,a=some x/\x.spot=none/\q37 p x vs
def qbt{p q:Pub} (h:Pub.le p q) {a:Option Addr} {vs:List Value} (e:qgs p a vs):qgs q a vs:=e.imp (λh=>h) λ⟨x,h1,h2,h3⟩=>⟨x,h1,h2,pM h h3⟩
variable {vs:List Value}
def rowP_Pl{p:Pub} {a:Option Addr} (h:qgs p a vs):Pl a:=trivial
def qgt(p:Pub) (a:Option Addr) (n c:Nat) (vs:List Value):Prop:=n<=c/\qgs p a vs
def q4n{p q:Pub} (h:Pub.le p q) {a:Option Addr} {n c:Nat} {vs:List Value} (e:qgt p a n c vs):qgt q a n c vs:=⟨e.1,qbt h e.2⟩
abbrev jA:=Nat×Nat×Nat×Nat
def tM(k:Nat):List jA->Bool
  | []=>false
  | (_,_,_,j)::l=>match Nat.beq k j with
    |true=>true
    |false=>tM k l
def addOcc(q:jA) (acc:List jA):List jA:=match tM q.2.2.2 acc with
 |true=>acc
 |false=>q::acc
mutual
def zK(id:Nat):AV->List jA->List jA
  | .ssl i off len esz k,acc=>match Nat.beq i id with
    |true=>addOcc (off,len,esz,k) acc
    |false=>acc
  | .agg l,acc=>occL id l acc
  | .tup l,acc=>occL id l acc
  |_,acc=>acc
def occL(id:Nat):List AV->List jA->List jA
 | [],acc=>acc
 |a::l,acc=>occL id l (zK id a acc)
end
def Gg(id:Nat):List (Nat×AV)->List jA->List jA
 | [],acc=>acc
 | (_,a)::l,acc=>Gg id l (zK id a acc)
section
variable {I:In} {id:Nat}
abbrev uZ(I:In) (id:Nat) (q:jA):Prop:=∃u,VR I (.ssl id q.1 q.2.1 q.2.2.1 q.2.2.2) u
def q9y{q:jA} {acc:List jA} (h:∀r∈acc,uZ I id r) (hq:uZ I id q):∀r∈addOcc q acc,uZ I id r:=λr hr=>by
 unfold addOcc at hr;split at hr
 ·exact h r hr
 ·cases hr with
  |head=>exact hq
  |tail _ hr=>exact h r hr
mutual
def so:∀{a:AV} {v:Value},VR I a v->∀{acc:List jA},(∀r∈acc,uZ I id r)->∀r∈zK id a acc,uZ I id r
  | .ssl i off len esz k,v,hv,acc,h=>by
    unfold zK;split
    · rename_i hb;have e:=Nat.eq_of_beq_eq_true hb;subst e;exact q9y h ⟨v,hv⟩
    · exact h
  | .agg l,v,hv,acc,h=>by unfold zK;cases hv with|agg hl=>exact occL_ok hl h
  | .tup l,v,hv,acc,h=>by unfold zK;cases hv with|tup hl=>exact occL_ok hl h
  | .bool _,_,_,_,h=>by unfold zK;exact h
  | .int _ _,_,_,_,h=>by unfold zK;exact h
  | .str _,_,_,_,h=>by unfold zK;exact h
  | .nilp,_,_,_,h=>by unfold zK;exact h
  | .ptr _ _,_,_,_,h=>by unfold zK;exact h
  | .nsl,_,_,_,h=>by unfold zK;exact h
  | .sl _ _ _ _,_,_,_,h=>by unfold zK;exact h
  | .gsl _ _ _ _,_,_,_,h=>by unfold zK;exact h
  | .nmap,_,_,_,h=>by unfold zK;exact h
  | .map _,_,_,_,h=>by unfold zK;exact h
  | .fn _ _,_,_,_,h=>by unfold zK;exact h
  | .nilf,_,_,_,h=>by unfold zK;exact h
  | .nili,_,_,_,h=>by unfold zK;exact h
  | .ifc _ _,_,_,_,h=>by unfold zK;exact h
  | .ifo,_,_,_,h=>by unfold zK;exact h
  | .anyi _,_,_,_,h=>by unfold zK;exact h
  | .lin _ _ _,_,_,_,h=>by unfold zK;exact h
  | .bfn _ _ _,_,_,_,h=>by unfold zK;exact h
  | .sv _,_,_,_,h=>by unfold zK;exact h
  | .tsl _,_,_,_,h=>by unfold zK;exact h
  | .msl _ _ _,_,_,_,h=>by unfold zK;exact h
  | .usl _ _ _ _,_,_,_,h=>by unfold zK;exact h
  | .sptr _ _,_,_,_,h=>by unfold zK;exact h
  | .tpt _,_,_,_,h=>by unfold zK;exact h
  | .tmap _,_,_,_,h=>by unfold zK;exact h
def occL_ok:∀{l:List AV} {vs:List Value},VRs I l vs->∀{acc:List jA},(∀r∈acc,uZ I id r)->∀r∈occL id l acc,uZ I id r
 | [],_,_,acc,h=>by unfold occL;exact h
 |a::l,_,hv,acc,h=>by unfold occL;cases hv with|cons h1 h2=>exact occL_ok h2 (so h1 h)
end
def sr{t:T AV} {tm:Array Value} (ht:TR I t tm):∀{l:List (Nat×AV)},(∀k a,(k,a)∈l->t.get k=some a)->∀{acc:List jA},(∀r∈acc,uZ I id r)->∀r∈Gg id l acc,uZ I id r
 | [],_,acc,h=>h
 | (k,a)::l,hl,acc,h=>sr ht (λk b hm=>hl k b (List.mem_cons_of_mem _ hm)) (so (ht k a (hl k a List.mem_cons_self)) h)
end
mutual
def q8(id b s u:Nat) (x:Nat->SV) (ks:List Nat):AV->AV
  | .ptr i off=>match Nat.beq i id with
    |true=> .sv (.pointer (some ⟨b,s+off,none⟩))
    |false=> .ptr i off
  | .sptr i off=>match Nat.beq i id with
    |true=> .sv (.pointer (some ⟨b,s+off,none⟩))
    |false=> .sptr i off
  | .sl i off len cap=>match Nat.beq i id with
    |true=> .sv (.slice (some ⟨b,s+off,none⟩) len cap)
    |false=> .sl i off len cap
  | .msl i len esz=>match Nat.beq i id with
    |true=> .sv (.slice (some ⟨b,s,none⟩) len (u / esz))
    |false=> .msl i len esz
  | .usl i off len esz=> .usl i off len esz
  | .map i=>match Nat.beq i id with
    |true=> .sv (.map (some b))
    |false=> .map i
  | .ssl i off len esz k=>match je k ks with
    |true=> .sv (.slice (x k).1 len (x k).2.2)
    |false=> .ssl i off len esz k
  | .ifc t a=> .ifc t (q8 id b s u x ks a)
  | .agg l=> .agg (pubL id b s u x ks l)
  | .tup l=> .tup (pubL id b s u x ks l)
  | .fn f l=> .fn f (pubL id b s u x ks l)
  | .bfn f l m=> .bfn f (pubL id b s u x ks l) (pubL id b s u x ks m)
  | .bool b=> .bool b
  | .int k n=> .int k n
  | .str s=> .str s
  | .nilp=> .nilp
  | .nsl=> .nsl
  | .gsl a b c d=> .gsl a b c d
  | .nmap=> .nmap
  | .nilf=> .nilf
  | .nili=> .nili
  | .ifo=> .ifo
  | .anyi k=> .anyi k
  | .lin k c l=> .lin k c l
  | .sv v=> .sv v
  | .tsl k=> .tsl k
  | .tpt k=> .tpt k
  | .tmap k=> .tmap k
def pubL(id b s u:Nat) (x:Nat->SV) (ks:List Nat):List AV->List AV
 | []=>[]
 |a::l=>q8 id b s u x ks a::pubL id b s u x ks l
end
section
variable {I:In} {id b s u:Nat} {x:Nat->SV} {ks:List Nat}
mutual
def Fv(hid:∀b' s' t,I id=some (b',s',t)->b'=b/\s'=s/\t=u) (hx:∀k y,k∈ks->I k=some y->x k=zp y):∀{a v},VR I a v->VR I (q8 id b s u x ks a) v
  | _,_, .ptr h=>by
    unfold q8;split
    · rename_i hb;have e:=Nat.eq_of_beq_eq_true hb;subst e;obtain⟨rfl,rfl,rfl⟩:=hid _ _ _ h;exact .sv _
    · exact .ptr h
  | _,_, .sptr h=>by
    unfold q8;split
    · rename_i hb;have e:=Nat.eq_of_beq_eq_true hb;subst e;obtain⟨rfl,rfl,rfl⟩:=hid _ _ _ h;exact .sv _
    · exact .sptr h
  | _,_, .sl h=>by
    unfold q8;split
    · rename_i hb;have e:=Nat.eq_of_beq_eq_true hb;subst e;obtain⟨rfl,rfl,rfl⟩:=hid _ _ _ h;exact .sv _
    · exact .sl h
  | _,_, .msl h h2 h3=>by
    unfold q8;split
    · rename_i hb;have e:=Nat.eq_of_beq_eq_true hb;subst e;obtain⟨rfl,rfl,rfl⟩:=hid _ _ _ h;exact .sv _
    · exact .msl h h2 h3
  |_,_, .usl h h1 h2 h3=>by unfold q8;exact .usl h h1 h2 h3
  |_,_, .usl0 h=>by unfold q8;exact .usl0 h
  | _,_, .map (t:=t) h=>by
    unfold q8;split
    · rename_i hb;have e:=Nat.eq_of_beq_eq_true hb;subst e;obtain⟨rfl,_⟩:=hid _ _ _ h;exact .sv _
    · exact .map h
  | _,_, .ssl (k:=k) h h1 h2 h3 hk hd=>by
    unfold q8;split
    · rename_i hm;rw[hx _ _ (y3 hm) hk,hd];exact .sv _
    · exact .ssl h h1 h2 h3 hk hd
  | _,_, .ssl0 (k:=k) h hk hd=>by
    unfold q8;split
    · rename_i hm;rw[hx _ _ (y3 hm) hk,hd,h];exact .sv _
    · exact .ssl0 h hk hd
  |_,_, .tsl h=>by unfold q8;exact .tsl h
  |_,_, .tpt h=>by unfold q8;exact .tpt h
  |_,_, .tmap h=>by unfold q8;exact .tmap h
  |_,_, .ifc h=>by unfold q8;exact .ifc (Fv hid hx h)
  |_,_, .agg h=>by unfold q8;exact .agg (pubL_ok hid hx h)
  |_,_, .tup h=>by unfold q8;exact .tup (pubL_ok hid hx h)
  |_,_, .fn h=>by unfold q8;exact .fn (pubL_ok hid hx h)
  |_,_, .bfn h1 h=>by unfold q8;exact .bfn (pubL_ok hid hx h1) (pubL_ok hid hx h)
  |_,_, .bool b=>by unfold q8;exact .bool b
  |_,_, .int k n=>by unfold q8;exact .int k n
  |_,_, .str l=>by unfold q8;exact .str l
  |_,_, .nilp=>by unfold q8;exact .nilp
  |_,_, .nsl=>by unfold q8;exact .nsl
  |_,_, .gsl h h1 h2 h3=>by unfold q8;exact .gsl h h1 h2 h3
  |_,_, .nmap=>by unfold q8;exact .nmap
  |_,_, .nilf=>by unfold q8;exact .nilf
  |_,_, .nili=>by unfold q8;exact .nili
  |_,_, .ifo=>by unfold q8;exact .ifo
  |_,_, .anyi=>by unfold q8;exact .anyi
  |_,_, .lin h=>by unfold q8;exact .lin h
  |_,_, .sv v=>by unfold q8;exact .sv v
def pubL_ok(hid:∀b' s' t,I id=some (b',s',t)->b'=b/\s'=s/\t=u) (hx:∀k y,k∈ks->I k=some y->x k=zp y):∀{l vs},VRs I l vs->VRs I (pubL id b s u x ks l) vs
 |_,_, .nil=>by unfold pubL;exact .nil
 |_,_, .cons h t=>by unfold pubL;exact .cons (Fv hid hx h) (pubL_ok hid hx t)
end
end
def pubE(id b s u:Nat) (x:Nat->SV) (ks:List Nat):List (Value×AV×Nat)->List (Value×AV×Nat)
 | []=>[]
 | (k,a,n)::l=>(k,q8 id b s u x ks a,n)::pubE id b s u x ks l
def xe(id b s u:Nat) (x:Nat->SV) (ks:List Nat):AO->AO
 | .cells e fz g l=> .cells e fz g (pubL id b s u x ks l)
 | .map es c=> .map (pubE id b s u x ks es) c
 | .row e fz vs=> .row e fz vs
 | .mrow es c=> .mrow es c
 | .iter m s l c=> .iter m s l c
section
variable {I:In} {id b s u:Nat} {x:Nat->SV} {ks:List Nat}
def sw(hid:∀b' s' t,I id=some (b',s',t)->b'=b/\s'=s/\t=u) (hx:∀k y,k∈ks->I k=some y->x k=zp y):∀{l ms},MR I l ms->MR I (pubE id b s u x ks l) ms
 |_,_, .nil=> .nil
 |_,_, .cons h t=> .cons (Fv hid hx h) (sw hid hx t)
def qg4(hid:∀b' s' t,I id=some (b',s',t)->b'=b/\s'=s/\t=u) (hx:∀k y,k∈ks->I k=some y->x k=zp y) {t o ob} (h:OR I t o ob):OR I t (xe id b s u x ks o) ob:=by
 cases h with
 |cells h hg hp ht hf hE=>exact .cells (pubL_ok hid hx h) hg hp ht hf hE
 |map h=>exact .map (sw hid hx h)
 |row hp ht hf=>exact .row hp ht hf
 |mrow=>exact .mrow
 |iter h hp=>exact .iter h hp
def qg5:∀o:AO,(xe id b s u x ks o).rw=o.rw
 | .cells _ none _ _=>rfl
 | .cells _ (some _) _ _=>rfl
 | .map .. =>rfl
 | .row .. =>rfl
 | .mrow .. =>rfl
 | .iter .. =>rfl
end
mutual
def zI(id:Nat):AV->List (Nat×Nat)->List (Nat×Nat)
  | .msl i len esz,acc=>match Nat.beq i id with
    |true=>(len,esz)::acc
    |false=>acc
  | .agg l,acc=>mocL id l acc
  | .tup l,acc=>mocL id l acc
  |_,acc=>acc
def mocL(id:Nat):List AV->List (Nat×Nat)->List (Nat×Nat)
 | [],acc=>acc
 |a::l,acc=>mocL id l (zI id a acc)
end
def Vr(id:Nat):List (Nat×AV)->List (Nat×Nat)
  | []=>[]
  | (_,a)::l=>match zI id a []with
    | []=>Vr id l
    |q::_=>[q]
section
variable {I:In} {id:Nat}
abbrev Vk(I:In) (id:Nat) (q:Nat×Nat):Prop:=∃u,VR I (.msl id q.1 q.2) u
mutual
def si:∀{a:AV} {v:Value},VR I a v->∀{acc:List (Nat×Nat)},(∀r∈acc,Vk I id r)->∀r∈zI id a acc,Vk I id r
  | .msl i len esz,v,hv,acc,h=>by
    unfold zI;split
    · rename_i hb;have e:=Nat.eq_of_beq_eq_true hb;subst e;intro r hr;cases hr with
      |head=>exact⟨v,hv⟩
      |tail _ hr=>exact h r hr
    · exact h
  | .agg l,v,hv,acc,h=>by unfold zI;cases hv with|agg hl=>exact mocL_ok hl h
  | .tup l,v,hv,acc,h=>by unfold zI;cases hv with|tup hl=>exact mocL_ok hl h
  | .bool _,_,_,_,h=>by unfold zI;exact h
  | .int _ _,_,_,_,h=>by unfold zI;exact h
  | .str _,_,_,_,h=>by unfold zI;exact h
  | .nilp,_,_,_,h=>by unfold zI;exact h
  | .ptr _ _,_,_,_,h=>by unfold zI;exact h
  | .nsl,_,_,_,h=>by unfold zI;exact h
  | .sl _ _ _ _,_,_,_,h=>by unfold zI;exact h
  | .gsl _ _ _ _,_,_,_,h=>by unfold zI;exact h
  | .nmap,_,_,_,h=>by unfold zI;exact h
  | .map _,_,_,_,h=>by unfold zI;exact h
  | .fn _ _,_,_,_,h=>by unfold zI;exact h
  | .nilf,_,_,_,h=>by unfold zI;exact h
  | .nili,_,_,_,h=>by unfold zI;exact h
  | .ifc _ _,_,_,_,h=>by unfold zI;exact h
  | .ifo,_,_,_,h=>by unfold zI;exact h
  | .anyi _,_,_,_,h=>by unfold zI;exact h
  | .lin _ _ _,_,_,_,h=>by unfold zI;exact h
  | .bfn _ _ _,_,_,_,h=>by unfold zI;exact h
  | .sv _,_,_,_,h=>by unfold zI;exact h
  | .tsl _,_,_,_,h=>by unfold zI;exact h
  | .ssl _ _ _ _ _,_,_,_,h=>by unfold zI;exact h
  | .usl _ _ _ _,_,_,_,h=>by unfold zI;exact h
  | .sptr _ _,_,_,_,h=>by unfold zI;exact h
  | .tpt _,_,_,_,h=>by unfold zI;exact h
  | .tmap _,_,_,_,h=>by unfold zI;exact h
def mocL_ok:∀{l:List AV} {vs:List Value},VRs I l vs->∀{acc:List (Nat×Nat)},(∀r∈acc,Vk I id r)->∀r∈mocL id l acc,Vk I id r
 | [],_,_,acc,h=>by unfold mocL;exact h
 |a::l,_,hv,acc,h=>by unfold mocL;cases hv with|cons h1 h2=>exact mocL_ok h2 (si h1 h)
end
def sj{t:T AV} {tm:Array Value} (ht:TR I t tm):∀{l:List (Nat×AV)},(∀k a,(k,a)∈l->t.get k=some a)->∀r∈Vr id l,Vk I id r
  | [],_,r,hr=>by cases hr
  | (k,a)::l,hl,r,hr=>by
    unfold Vr at hr;split at hr
    · exact sj ht (λk b hm=>hl k b (List.mem_cons_of_mem _ hm)) r hr
    · rename_i q l' hq;have:=si (id:=id) (ht k a (hl k a List.mem_cons_self)) (acc:=[]) (λr hr=>by cases hr) q (by rw[hq];simp);cases hr with
      |head=>exact this
      |tail _ hr=>cases hr
end
def Je(vs:List Value) (b s u:Nat) (p:Pub):List (Nat×Nat)->Prop
 | []=>True
 |q::_=>qgt p (some ⟨b,s,none⟩) q.1 (u / q.2) (vs.take (q.1*q.2))
def qba{b s u:Nat} {p q:Pub} (hp:Pub.le p q):∀{l:List (Nat×Nat)},Je vs b s u p l->Je vs b s u q l
 | [],_=>trivial
 |r::l,h=>q4n hp h
def yw:List jA->List Nat
 | []=>[]
 |q::l=>q.2.2.2::yw l
def we(vs:List Value) (x:Nat->SV) (p:Pub):List jA->Prop
 | []=>True
 | [q]=>qgt p (x q.2.2.2).1 q.2.1 (x q.2.2.2).2.2 (match q.1 with|0=>vs.take (q.2.1*q.2.2.1)|off=>(vs.drop off).take (q.2.1*q.2.2.1))
 |q::l=>qgt p (x q.2.2.2).1 q.2.1 (x q.2.2.2).2.2 (match q.1 with|0=>vs.take (q.2.1*q.2.2.1)|off=>(vs.drop off).take (q.2.1*q.2.2.1))/\we vs x p l
def sq{vs:List Value} {x:Nat->SV} {p:Pub}:∀{l:List jA},(∀q∈l,qgt p (x q.2.2.2).1 q.2.1 (x q.2.2.2).2.2 ((vs.drop q.1).take (q.2.1*q.2.2.1)))->we vs x p l
  | [],_=>trivial
  | [q],h=>by
    have:=h q (by simp);simp only[we];split
    · rename_i h0;rw[h0]at this;exact this
    · exact this
  | q::r::l,h=>by
    have:=h q (by simp);refine⟨?_,sq λc hc=>h c (by simp at hc⊢;exact .inr hc)⟩;split
    · rename_i h0;rw[h0]at this;exact this
    · exact this
def E5{vs:List Value} {x:Nat->SV} {p q:Pub} (hp:Pub.le p q):∀{l:List jA},we vs x p l->we vs x q l
 | [],_=>trivial
 | [r],h=>q4n hp h
 |r::s::l,h=>⟨q4n hp h.1,E5 hp h.2⟩
def A'(id:Nat) (vs:List Value) (gl:GL) (t:T AV) (h1:T AO) (K:GL->T AV->T AO->Prop) (oc:List jA):List (Nat×Nat)->Prop
 | []=>∀b s u:Nat,Q1 (yw oc) x_ λx=>Ob (∃p,gl.pf p/\we vs x p oc)->K (gl.and (λp=>we vs x p oc) (λ_ _ hp h=>E5 hp h)) (jn (q8 id b s u x (yw oc)) t) (jn (xe id b s u x (yw oc)) h1)
 |q::l=>∀b s u:Nat,Q1 (yw oc) x_ λx=>Ob (∃p,gl.pf p/\we vs x p oc/\Je vs b s u p (q::l))->K (gl.and (λp=>we vs x p oc/\Je vs b s u p (q::l)) (λ_ _ hp h=>⟨E5 hp h.1,qba hp h.2⟩)) (jn (q8 id b s u x (yw oc)) t) (jn (xe id b s u x (yw oc)) h1)
def SX(id:Nat) (gl:GL) (t:T AV) (h:T AO) (K:GL->T AV->T AO->Prop):Prop:=match h.get id with
  | some (.row e fz vs)=>match T.put 64 id none h with
    |some h1=>A' id vs gl t h1 K (Gg id (z6 t) []) (Vr id (z6 t))
    |none=>False
  | some (.cells e fz g l)=>match jH l with
    | some vs=>match T.put 64 id none h with
      |some h1=>∀b s u:Nat,Ob (∃p,gl.pf p/\q37 p ⟨b,s,none⟩ vs)->K (gl.and (λp=>q37 p ⟨b,s,none⟩ vs) (λ_ _ hp h=>pM hp h)) (jn (q8 id b s u x_ []) t) (jn (xe id b s u x_ []) h1)
      |none=>False
    |none=>False
  | some (.mrow es c)=>match T.put 64 id none h with
    |some h1=>∀b s u:Nat,Ob (∃p,gl.pf p/\p b=some (.map ⟨es⟩ c))->K (gl.and (λp=>p b=some (.map ⟨es⟩ c)) (λ_ _ hp h=>hp _ _ h)) (jn (q8 id b s u x_ []) t) (jn (xe id b s u x_ []) h1)
    |none=>False
  |_=>False
section
variable {F0:Bool->Nat->Prop} {I0:In} {nx0:Nat} {w0:World} {n:Nat}
def kr(F0:Bool->Nat->Prop) (I0:In) (nx0:Nat) (w0:World) (n:Nat) (I:In) (nx:Nat) (a:Act) (w:World) (tab:T AV) (K:GL->T AV->T AO->Prop):Prop:=∃gl t h F,gl.tab=tab/\K gl t h/\St gl F I t h n a w/\At F0 I0 nx0 w0 F I nx w
def qd2{I:In} {id b s u:Nat} {x:Nat->SV} {ks:List Nat} (hid:∀b' s' t,I id=some (b',s',t)->b'=b/\s'=s/\t=u) (hx:∀k y,k∈ks->I k=some y->x k=zp y) {t:T AV} {tm:Array Value} (h:TR I t tm):TR I (jn (q8 id b s u x ks) t) tm:=λn a e=>by
 rw[Ff]at e;cases hg:t.get n with
 |none=>rw[hg]at e;cases e
 |some c=>rw[hg]at e;cases e;exact Fv hid hx (h n c hg)
variable {gl:GL} {F:Bool->Nat->Prop} {t:T AV} {nx:Nat} {a:Act} {w:World}
def E7{u:Nat} {I:In} {h h1:T AO} (st:St gl F I t h n a w) (at0:At F0 I0 nx0 w0 F I nx w) {id:Nat} {o:AO} (hg:h.get id=some o) (hp:T.put 64 id none h=some h1) {b s:Nat} {x:Nat->SV} {ks:List Nat} (hid:∀b' s' t,I id=some (b',s',t)->b'=b/\s'=s/\t=u) (hx:∀k y,k∈ks->I k=some y->x k=zp y)
  {f:Pub->Prop} {m:∀p q,Pub.le p q->f p->f q} (hrw:o.rw=true) {K:GL->T AV->T AO->Prop} (hf:f (q11 (λs c=>F s c\/(c=b/\∃y,I id=some y)) w)) (e:K (gl.and f m) (jn (q8 id b s u x ks) t) (jn (xe id b s u x ks) h1)):kr F0 I0 nx0 w0 n I nx a w gl.tab K:=by
 let F2:Bool->Nat->Prop:=λs c=>F s c\/(c=b/\∃y,I id=some y)
 have hpf:Pub.le (q11 F w) (q11 F2 w):=λc ob hb=>by rw[q03]at hb⊢;exact⟨.inl hb.1,hb.2⟩
 have old:∀k q,h1.get k=some q->h.get k=some q/\k≠id:=λk q hk=>by
  rw[T.get_put _ _ _ _ _ hp]at hk;split at hk
  ·cases hk
  ·rename_i hne;exact⟨hk,hne⟩
 have back:∀k q,(jn (xe id b s u x ks) h1).get k=some q->∃q',h.get k=some q'/\k≠id/\q=xe id b s u x ks q':=λk q hk=>by
  rw[Ff]at hk;cases hg1:h1.get k with
  |none=>rw[hg1]at hk;cases hk
  |some q'=>rw[hg1]at hk;cases hk;exact⟨q',(old k q' hg1).1,(old k q' hg1).2,rfl⟩
 have idb:∀y,I id=some y->y.1=b:=λy hy=>(hid y.1 y.2.1 y.2.2 hy).1;refine⟨gl.and f m,_,_,F2,rfl,e,⟨qd2 hid hx st.tr,st.size,st.defers,⟨λk q c tt hk hI=> ?_,λk k' q q' c tt tt' hk hk' hI hI'=> ?_,λk q c tt hk hI hF=> ?_⟩,λc hc=> ?_,st.gok,λc hc=>hc.imp (st.zf c) λh=>h,⟨gl.mono _ _ hpf st.pf,hf⟩⟩,{at0 with sup:=λs c hc=> .inl (at0.sup s c hc),sub:=λc hc=>hc.elim (at0.sub c) λhc=> .inr λh0=> ?_,frm:=at0.frm}⟩
 ·obtain⟨q',g1,g2,rfl⟩:=back k q hk;obtain⟨ob,g3,g4⟩:=st.sim.obj _ _ _ _ g1 hI;exact⟨ob,g3,qg4 hid hx g4⟩
 ·obtain⟨q1,g1,_,_⟩:=back k q hk;obtain⟨q2,g2,_,_⟩:=back k' q' hk';exact st.sim.inj _ _ _ _ _ _ _ g1 g2 hI hI'
 ·obtain⟨q',g1,g2,rfl⟩:=back k q hk;rw[qg5];rcases hF with hF|⟨rfl,y,hy⟩
  ·exact(st.sim.fr _ _ _ _ g1 hI hF).imp (λh=>h) .inl
  ·have:=idb y hy;obtain⟨y1,y2⟩:=y;simp only at this;subst this;exact absurd (st.sim.inj _ _ _ _ _ _ _ g1 hg hI hy) g2
 ·rcases hc with hc|⟨rfl,y,hy⟩
  ·exact st.low c hc
  ·have:=idb y hy;obtain⟨y1,y2⟩:=y;simp only at this;subst this;obtain⟨ob,g3,_⟩:=st.sim.obj _ _ _ _ hg hy;exact(Array.getElem?_eq_some_iff.1 g3).1
 ·obtain⟨rfl,y,hy⟩:=hc;have:=idb y hy;obtain⟨y1,y2⟩:=y;simp only at this;subst this;have:=(st.sim.fr _ _ _ _ hg hy (at0.sup true _ h0)).1;rw[hrw]at this;cases this
def E3{q:jA}:∀{l:List jA},q∈l->q.2.2.2∈yw l
  | r::l,h=>by
    simp only[yw];cases h with
    |head=>exact List.mem_cons_self
    |tail _ h=>exact List.mem_cons_of_mem _ (E3 h)
def ES{K L:(Nat->SV)->Prop} (h:∀x,K x->L x):∀(l:List Nat) (x:Nat->SV),Q1 l x K->Q1 l x L
 | [],x,e=>h x e
 |k::l,x,e=>λa n c=>ES h l _ (e a n c)
variable {h:T AO} {K:GL->T AV->T AO->Prop}
def qg2 {I:In} {id:Nat} (e:SX id gl t h K) (st:St gl F I t h n a w) (at0:At F0 I0 nx0 w0 F I nx w) (hid:(∃o,h.get id=some o/\o.rw=true)/\((∃e fz vs,h.get id=some (.row e fz vs))\/∃y,I id=some y)):kr F0 I0 nx0 w0 n I nx a w gl.tab K:=by
  obtain⟨⟨o,ho,hrw⟩,hor⟩:=hid;unfold SX at e;rw[ho]at e;have all:∀y,I id=some y->∃ob,w.heap[y.1]? =some ob/\OR I y.2 o ob:=λy hy=>by obtain⟨b,t⟩:=y;exact st.sim.obj _ _ _ _ ho hy
  cases o with
  | row el fz vs=>
    simp only at e;split at e;case h_2=>exact e.elim
    rename_i h1 hp;generalize hoc:Gg id (z6 t) []=oc at e;have hocc:∀q∈oc,uZ I id q:=(by rw[←hoc];exact sr st.tr (λk a hm=>X9 hm) λr hr=>by cases hr);have hmoc:∀q∈Vr id (z6 t),Vk I id q:=sj st.tr λk a hm=>X9 hm;generalize hmc:Vr id (z6 t)=mc at e hmoc;obtain⟨bs,hbs⟩:∃bs:Nat×Nat×Nat,∀b' s' t,I id=some (b',s',t)->b'=bs.1/\s'=bs.2.1/\t=bs.2.2:=by
      cases hI:I id with
      |none=>exact⟨(0,0,0),λ_ _ _ h=>by cases h⟩
      |some y=>exact⟨y,λ_ _ _ h=>by cases h;exact⟨rfl,rfl,rfl⟩⟩
    have e:Q1 (yw oc) x_ λx=>Ob (∃p,gl.pf p/\we vs x p oc/\Je vs bs.1 bs.2.1 bs.2.2 p mc)->∃f m,(∀p,we vs x p oc/\Je vs bs.1 bs.2.1 bs.2.2 p mc->f p)/\K (gl.and f m) (jn (q8 id bs.1 bs.2.1 bs.2.2 x (yw oc)) t) (jn (xe id bs.1 bs.2.1 bs.2.2 x (yw oc)) h1):=by
      cases mc with
      | nil=>
        simp only[A']at e;refine ES (λx hx hp=> ?_) _ _ (e bs.1 bs.2.1 bs.2.2);obtain⟨p,h1,h2,_⟩:=hp;exact⟨_,_,λp h=>h.1,hx ⟨p,h1,h2⟩⟩
      | cons q l=>
        simp only[A']at e;exact ES (λx hx hp=>⟨_,_,λp h=>h,hx hp⟩) _ _ (e bs.1 bs.2.1 bs.2.2)
    obtain⟨x,e,hx,_⟩:=Ah (λk=>match I k with|some y=>zp y|none=>(none,0,0)) _ _ e;have hx':∀k y,k∈yw oc->I k=some y->x k=zp y:=λk y hk hy=>by rw[hx k hk];simp only[hy]
    let F2:Bool->Nat->Prop:=λs c=>F s c\/(c=bs.1/\∃y,I id=some y)
    have hfm:Je vs bs.1 bs.2.1 bs.2.2 (q11 F2 w) mc:=by
      cases mc with
      |nil=>trivial
      | cons q l=>
        obtain⟨u,hu⟩:=hmoc q (by simp);cases hu with
        | @msl _ _ _ b s tt hI g2 g3=>
          obtain⟨ob,k1,k2⟩:=all _ hI;obtain⟨rfl,rfl,rfl⟩:=hbs _ _ _ hI;refine⟨(Nat.le_div_iff_mul_le g3).2 g2, .inr ⟨_,rfl,rfl,λj v hj=> ?_⟩⟩;cases k2 with
          | @row _ _ pre _ rest fr p1 p2 p3=>
            rw[j6];unfold q5n;have:q11 F2 w bs.1=some (.cells ⟨pre++(vs++rest)⟩ el fr):=q03.2 ⟨.inr ⟨rfl,_,hI⟩,k1⟩;simp only[this,qai,List.getElem?_toArray];rw[List.getElem?_take]at hj;split at hj
            · simp only at p1;rw[List.getElem?_append_right (by omega),List.getElem?_append_left (by have:=(List.getElem?_eq_some_iff.1 hj).1;omega),←hj];congr 1;omega
            · cases hj
    have hf : we vs x (q11 F2 w) oc:=by
      refine sq λq hq=> ?_;obtain⟨u,hu⟩:=hocc q hq;cases hu with
      | @ssl _ _ _ _ _ b s tt c o y hI g1 g2 g3 hk hd=>
        rw[hx' _ _ (E3 hq) hk,hd];obtain⟨ob,k1,k2⟩:=all _ hI;obtain⟨rfl,rfl,rfl⟩:=hbs _ _ _ hI;refine⟨g1,?_⟩;cases k2 with
        | @row _ _ pre _ rest fr p1 p2 p3=>
          by_cases hl:q.2.1*q.2.2.1=0
          · rw[hl];exact .inl ⟨by simp,trivial⟩
          · have hlen:0<q.2.1:=Nat.pos_of_ne_zero λh0=>hl (by rw[h0];simp);have ho:o=bs.2.1+q.1:=by
              rcases g3 with g3|g3
              · exact g3
              · omega
            refine .inr ⟨_,rfl,rfl,λj v hj=> ?_⟩;rw[j6];unfold q5n;have:q11 F2 w bs.1=some (.cells ⟨pre++(vs++rest)⟩ el fr):=q03.2 ⟨.inr ⟨rfl,_,hI⟩,k1⟩;simp only[this,qai,List.getElem?_toArray];rw[List.getElem?_take]at hj;split at hj
            · rw[List.getElem?_drop]at hj;simp only at p1;rw[ho,List.getElem?_append_right (by omega),List.getElem?_append_left (by have:=(List.getElem?_eq_some_iff.1 hj).1;omega),←hj];congr 1;omega
            · cases hj
      | @ssl0 _ _ _ _ _ y h0 hk hd=>
        rw[hx' _ _ (E3 hq) hk,hd];refine⟨by omega, .inl ⟨by rw[h0];simp,?_⟩⟩;exact trivial
    obtain⟨f,m,hff,e⟩:=e ⟨_,gl.mono _ _ (λc ob hb=>by rw[q03]at hb⊢;exact⟨.inl hb.1,hb.2⟩) st.pf,hf,hfm⟩;exact E7 st at0 ho hp hbs hx' hrw (hff _ ⟨hf,hfm⟩) e
  | cells el fz g l=>
    simp only at e;split at e;case h_2=>exact e.elim
    rename_i vs hvs;split at e;case h_2=>exact e.elim
    rename_i h1 hp;obtain⟨y,hy⟩:∃y,I id=some y:=by
      rcases hor with⟨_,_,_,h⟩|h
      · rw[ho]at h;cases h
      · exact h
    obtain⟨b,s,tt⟩:=y;have hbs:∀b' s' t,I id=some (b',s',t)->b'=b/\s'=s/\t=tt:=λ_ _ _ h=>(by rw[hy]at h;cases h;exact⟨rfl,rfl,rfl⟩);obtain⟨ob,k1,k2⟩:=all _ hy;have hf:q37 (q11 (λs c=>F s c\/(c=b/\∃y,I id=some y)) w) ⟨b,s,none⟩ vs:=λj v hj=>by
      cases k2 with
      | @cells _ el' _ _ _ pre us rest fr h hg hp' ht hf hE=>
        rw[uU hvs h]at k1 ht;rw[j6];unfold q5n;have:q11 (λs c=>F s c\/(c=b/\∃y,I id=some y)) w b=some (.cells ⟨pre++(vs++rest)⟩ el' fr):=q03.2 ⟨.inr ⟨rfl,_,hy⟩,k1⟩;simp only[this,qai,List.getElem?_toArray];simp only at hp';rw[List.getElem?_append_right (by omega),List.getElem?_append_left (by have:=(List.getElem?_eq_some_iff.1 hj).1;omega),←hj];congr 1;omega
    exact E7 st at0 ho hp hbs (λk y hk=>by cases hk) hrw hf (e b s tt ⟨_,gl.mono _ _ (λc ob hb=>by rw[q03]at hb⊢;exact⟨.inl hb.1,hb.2⟩) st.pf,hf⟩)
  | mrow es c=>
    simp only at e;split at e;case h_2=>exact e.elim
    rename_i h1 hp;obtain⟨y,hy⟩:∃y,I id=some y:=by
      rcases hor with⟨_,_,_,h⟩|h
      · rw[ho]at h;cases h
      · exact h
    obtain⟨b,s,tt⟩:=y;have hbs:∀b' s' t,I id=some (b',s',t)->b'=b/\s'=s/\t=tt:=λ_ _ _ h=>(by rw[hy]at h;cases h;exact⟨rfl,rfl,rfl⟩);obtain⟨ob,k1,k2⟩:=all _ hy;have hf:(q11 (λs c=>F s c\/(c=b/\∃y,I id=some y)) w) b=some (.map ⟨es⟩ c):=(by cases k2;exact q03.2 ⟨.inr ⟨rfl,_,hy⟩,k1⟩);exact E7 st at0 ho hp hbs (λk y hk=>by cases hk) hrw hf (e b s tt ⟨_,gl.mono _ _ (λc ob hb=>by rw[q03]at hb⊢;exact⟨.inl hb.1,hb.2⟩) st.pf,hf⟩)
  |map es c=>exact e.elim
  |iter m s l c=>exact e.elim
def x7(id:Nat) (gl:GL) (t:T AV) (h:T AO) (K:GL->T AV->T AO->Prop):Prop:=match h.get id with
  | some o=>match o.rw with
    |true=>SX id gl t h K
    |false=>K gl t h
  |none=>K gl t h
def tG(id:Nat) (h:T AO) (K0:Prop) (K:T AO->Prop):Prop:=match h.get id with
  | some (.cells e (some fz) true l)=>match jH l with
    | some vs=>match T.put 64 id (some (.row e fz vs)) h with
      |some h'=>K h'
      |none=>K0
    |none=>K0
  |_=>K0
def qdj{I:In} {h h':T AO} (s:Sim F I h w) {id:Nat} {e:TypeId} {fz:Nat} {l:List AV} {vs:List Value} (hg:h.get id=some (.cells e (some fz) true l)) (hv:jH l=some vs) (hp:T.put 64 id (some (.row e fz vs)) h=some h'):Sim F I h' w:=by
  have hget:=T.get_put _ _ _ _ _ hp;refine⟨λid1 o b t h1 h2=> ?_,λid1 id2 o1 o2 b t1 t2 h1 h2 i1 i2=> ?_,λid1 o b t h1 h2 hf=> ?_⟩
  · rw [hget]at h1;split at h1
    · rename_i e1;subst e1;cases h1;obtain⟨ob,k1,k2⟩:=s.obj _ _ _ _ hg h2;cases k2 with
      | cells hl _ hpp ht hff hE=>
        have:=uU hv hl;subst this;rcases hE with hE|hE
        · subst hE;exact⟨_,k1, .row hpp ht (hff fz rfl)⟩
        · cases hE.1
    · exact s.obj _ _ _ _ h1 h2
  · have old:∀k o,h'.get k=some o->∃o',h.get k=some o':=λk o hk=>by
      rw[hget]at hk;split at hk
      · rename_i e1;subst e1;exact⟨_,hg⟩
      · exact⟨_,hk⟩
    obtain⟨_,g1⟩:=old _ _ h1;obtain⟨_,g2⟩:=old _ _ h2;exact s.inj _ _ _ _ _ _ _ g1 g2 i1 i2
  · rw[hget]at h1;split at h1
    · rename_i e1;subst e1;have:=(s.fr _ _ _ _ hg h2 hf).1;cases this
    · exact s.fr _ _ _ _ h1 h2 hf
mutual
def wh:Nat->AV->GL->T AV->T AO->(GL->T AV->T AO->Prop)->Prop
  |0,_,gl,t,h,K=>K gl t h
  | f + 1,a,gl,t,h,K=>match a with
    | .ptr id _=>match h.get id with
      |some (.cells _ _ _ l)=>pubVs f l gl t h λgl t h=>x7 id gl t h K
      |_=>K gl t h
    | .sl id _ _ _=>match h.get id with
      |some (.cells _ _ _ l)=>pubVs f l gl t h λgl t h=>x7 id gl t h K
      |_=>K gl t h
    | .map id=>match h.get id with
      |some (.mrow _ _)=>x7 id gl t h K
      |_=>K gl t h
    | .ssl id _ len _ _=>match h.get id with
      |some (.row _ _ _)=>x7 id gl t h K
      | some (.cells _ _ _ l)=>match Nat.blt 0 len with
        |true=>pubVs f l gl t h λgl t h=>tG id h (K gl t h) λh=>x7 id gl t h K
        |false=>K gl t h
      |_=>K gl t h
    | .msl id _ _=>match h.get id with
      |some (.row _ _ _)=>x7 id gl t h K
      |_=>K gl t h
    | .agg l=>pubVs f l gl t h K
    | .tup l=>pubVs f l gl t h K
    |_=>K gl t h
def pubVs:Nat->List AV->GL->T AV->T AO->(GL->T AV->T AO->Prop)->Prop
 |_,[],gl,t,h,K=>K gl t h
 |0,_,gl,t,h,K=>K gl t h
 |f+1,a::l,gl,t,h,K=>wh f a gl t h λgl t h=>pubVs f l gl t h K
end
def kr.bind{I:In} {tab:T AV} {K L:GL->T AV->T AO->Prop} (p:kr F0 I0 nx0 w0 n I nx a w tab K) (hk:∀gl t h F,gl.tab=tab->K gl t h->St gl F I t h n a w->At F0 I0 nx0 w0 F I nx w->kr F0 I0 nx0 w0 n I nx a w tab L):kr F0 I0 nx0 w0 n I nx a w tab L:=by obtain⟨gl,t,h,F,h1,h2,h3,h4⟩:=p;exact hk gl t h F h1 h2 h3 h4
def Y9{I:In} {id:Nat} (e:x7 id gl t h K) (st:St gl F I t h n a w) (at0:At F0 I0 nx0 w0 F I nx w) (hid:(∃e fz vs,h.get id=some (.row e fz vs))\/∃y,I id=some y):kr F0 I0 nx0 w0 n I nx a w gl.tab K:=by
 unfold x7 at e;split at e
 ·rename_i o ho;split at e
  ·rename_i hrw;exact qg2 e st at0 ⟨⟨o,ho,hrw⟩,hid⟩
  ·exact⟨_,_,_,_,rfl,e,st,at0⟩
 ·exact⟨_,_,_,_,rfl,e,st,at0⟩
mutual
def sx {I:In} {nx:Nat} {a:Act} {w:World}:∀(f:Nat) (v:AV) {gl:GL} {F:Bool->Nat->Prop} {t:T AV} {h:T AO} {K:GL->T AV->T AO->Prop},wh f v gl t h K->St gl F I t h n a w->At F0 I0 nx0 w0 F I nx w->(∃u,VR I v u)->kr F0 I0 nx0 w0 n I nx a w gl.tab K
  |0,v,gl,F,t,h,K,e,st,at0,hv=>⟨_,_,_,_,rfl,by simpa[wh]using e,st,at0⟩
  | f + 1, v, gl, F,t,h,K,e,st,at0,⟨u,hv⟩=>by
    have triv:K gl t h->kr F0 I0 nx0 w0 n I nx a w gl.tab K:=λe=>⟨_,_,_,_,rfl,e,st,at0⟩;have cellsC:∀id y,I id=some y->(match h.get id with
      |some (.cells _ _ _ l)=>pubVs f l gl t h λgl t h=>x7 id gl t h K
      |_=>K gl t h)->kr F0 I0 nx0 w0 n I nx a w gl.tab K:=λid y hy e=>by
      split at e
      · rename_i el fz g l hg;obtain⟨b,tt⟩:=y;obtain⟨ob,k1,k2⟩:=st.sim.obj _ _ _ _ hg hy;cases k2 with
        | cells hl _ _ _ _ _=>
          refine kr.bind (pubVs_ok f l e st at0 ⟨_,hl⟩) λgl2 t2 h2 F2 g1 g2 g3 g4=> ?_;have:=Y9 g2 g3 g4 (.inr ⟨_,hy⟩);rw[g1]at this;exact this
      · exact triv e
    cases v with
    | ptr id off=>
      simp only[wh]at e;cases hv with|ptr hI=>exact cellsC id _ hI e
    | sl id off len cap=>
      simp only[wh]at e;cases hv with|sl hI=>exact cellsC id _ hI e
    | map id=>
      simp only[wh]at e;cases hv with
      | map hI=>
        split at e
        · exact Y9 e st at0 (.inr ⟨_,hI⟩)
        · exact triv e
    | ssl id off len esz k=>
      simp only[wh]at e;split at e
      · rename_i el fz vs hg;exact Y9 e st at0 (.inl ⟨_,_,_,hg⟩)
      · rename_i el fz g l hg;split at e
        · rename_i hb;have h0:0<len:=(by simpa[Nat.blt_eq]using hb);cases hv with
          | ssl hI _ _ _ _ _=>
            obtain⟨ob,k1,k2⟩:=st.sim.obj _ _ _ _ hg hI;cases k2 with
            | cells hl _ _ _ _ _=>
              refine kr.bind (pubVs_ok f l e st at0 ⟨_,hl⟩) λgl2 t2 h2 F2 g1 g2 g3 g4=> ?_;unfold tG at g2;split at g2
              · rename_i e2 fz2 l2 hg2;split at g2
                · rename_i vs2 hvs2;split at g2
                  · rename_i h3 hp3;have st3:St gl2 F2 I t2 h3 n a w:={g3 with sim:=qdj g3.sim hg2 hvs2 hp3};have:=Y9 g2 st3 g4 (.inr ⟨_,hI⟩);rw[g1]at this;exact this
                  · exact⟨_,_,_,_,g1,g2,g3,g4⟩
                · exact⟨_,_,_,_,g1,g2,g3,g4⟩
              · exact⟨_,_,_,_,g1,g2,g3,g4⟩
          |ssl0 hz _ _=>omega
        · exact triv e
      · exact triv e
    | msl id len esz=>
      simp only[wh]at e;split at e
      · rename_i el fz vs hg;exact Y9 e st at0 (.inl ⟨_,_,_,hg⟩)
      · exact triv e
    | agg l=>
      simp only[wh]at e;cases hv with|agg hl=>exact pubVs_ok f l e st at0 ⟨_,hl⟩
    | tup l=>
      simp only[wh]at e;cases hv with|tup hl=>exact pubVs_ok f l e st at0 ⟨_,hl⟩
    |_=>simp only[wh]at e;exact triv e
def pubVs_ok{I:In} {nx:Nat} {a:Act} {w:World}:∀(f:Nat) (l:List AV) {gl:GL} {F:Bool->Nat->Prop} {t:T AV} {h:T AO} {K:GL->T AV->T AO->Prop},pubVs f l gl t h K->St gl F I t h n a w->At F0 I0 nx0 w0 F I nx w->(∃vs,VRs I l vs)->kr F0 I0 nx0 w0 n I nx a w gl.tab K
  |f,[],gl,F,t,h,K,e,st,at0,hv=>⟨_,_,_,_,rfl,by cases f<;>simpa[pubVs]using e,st,at0⟩
  |0,b::l,gl,F,t,h,K,e,st,at0,hv=>⟨_,_,_,_,rfl,by simpa[pubVs]using e,st,at0⟩
  | f +1,b::l,gl,F,t,h,K,e,st,at0,⟨vs,hv⟩=>by
    simp only[pubVs]at e;cases hv with
    | cons h1 h2=>
      refine kr.bind (sx f b e st at0 ⟨_,h1⟩) λgl2 t2 h3 F2 g1 g2 g3 g4=> ?_;have:=pubVs_ok f l g2 g3 g4 ⟨_,h2⟩;rw[g1]at this;exact this
end
def SY(a:AV) (gl:GL) (t:T AV) (h:T AO) (K:GL->T AV->T AO->Prop):Prop:=match a with
  | .ptr id _=>match h.get id with
    |some (.cells _ _ _ l)=>pubVs 200 l gl t h K
    |_=>K gl t h
  |_=>K gl t h
def qg3{I:In} {v:AV} (e:SY v gl t h K) (st:St gl F I t h n a w) (at0:At F0 I0 nx0 w0 F I nx w) (hv:∃u,VR I v u):kr F0 I0 nx0 w0 n I nx a w gl.tab K:=by
  obtain⟨u,hv⟩:=hv;unfold SY at e;split at e
  · rename_i id off;cases hv with
    | ptr hI=>
      split at e
      · rename_i el fz g l hg;obtain⟨ob,k1,k2⟩:=st.sim.obj _ _ _ _ hg hI;cases k2 with
        |cells hl _ _ _ _ _=>exact pubVs_ok 200 l e st at0 ⟨_,hl⟩
      · exact⟨_,_,_,_,rfl,e,st,at0⟩
  · exact⟨_,_,_,_,rfl,e,st,at0⟩
def wg:List Nat->GL->T AV->T AO->(GL->T AV->T AO->Prop)->Prop
  | [],gl,t,h,K=>K gl t h
  | k ::l,gl,t,h,K=>match Nat.ble 1000000 k with
    | true=>match t.get (Nat.sub k 1000000)with
      |some a=>SY a gl t h λgl t h=>wg l gl t h K
      |none=>wg l gl t h K
    | false=>match t.get k with
      |some a=>wh 200 a gl t h λgl t h=>wg l gl t h K
      |none=>wg l gl t h K
def QW{I:In} {nx:Nat} {a:Act} {w:World}:∀(l:List Nat) {gl:GL} {F:Bool->Nat->Prop} {t:T AV} {h:T AO} {K:GL->T AV->T AO->Prop},wg l gl t h K->St gl F I t h n a w->At F0 I0 nx0 w0 F I nx w->kr F0 I0 nx0 w0 n I nx a w gl.tab K
  | [],gl,F,t,h,K,e,st,at0=>⟨_,_,_,_,rfl,e,st,at0⟩
  | k ::l,gl,F,t,h,K,e,st,at0=>by
    simp only[wg]at e;split at e
    · split at e
      · rename_i b hb;refine kr.bind (qg3 e st at0 ⟨_,st.tr _ b hb⟩) λgl2 t2 h3 F2 g1 g2 g3 g4=> ?_;have:=QW l g2 g3 g4;rw[g1]at this;exact this
      · exact QW l e st at0
    · split at e
      · rename_i b hb;refine kr.bind (sx 200 b e st at0 ⟨_,st.tr k b hb⟩) λgl2 t2 h3 F2 g1 g2 g3 g4=> ?_;have:=QW l g2 g3 g4;rw[g1]at this;exact this
      · exact QW l e st at0
end
end
section
abbrev KK:=Kd->AV->Option AO->T AO->Nat->GS->Prop
abbrev jF:=GL->T AV->T AO->Nat->Oper->KK->Prop
def vJ(P:IW) (hs:jF):Prop:=∀gl t h nx o K,hs gl t h nx o K->∃k v ob h' nx' g,KP gl P t h nx o k v ob g h' nx'/\K k v ob h' nx' g
abbrev jl:=GL->T AV->T AO->Oper->(AV->Prop)->Prop
def ka(P:IW) (hr:jl):Prop:=∀gl t h o K,hr gl t h o K->∃v,RP gl P t h o v/\K v
def yx:Bool->Bool->Bool
 |true,true=>true
 |false,false=>true
 |_,_=>false
def qf2(a b:Bool):yx a b=(a==b):=by cases a<;>cases b<;>rfl
def hG (ops:Array Oper) (o:Oper) (t:T AV) (K:Bool->Prop):Prop:=match o.guard with
  |none=>K true
  | some (j,want)=>match nth ops.toList j with
    | some oj=>match oj.dst with
      | some d=>match Nat.blt d jB with
        | true=>match t.get d with
          |some (.bool b)=>K (yx b want)
          |some (.sv (.bool b))=>(Ob (b=true)->K (yx true want))/\(Ob (b=false)->K (yx false want))
          |some (.sv _)=>False
          |some _=>K false
          |none=>False
        |false=>False
      |none=>False
    |none=>False
variable {I:In} {t:T AV} {ops:Array Oper}
def guard_of{o oj:Oper} {a:Act} {j d:Nat} {want b:Bool} (hg:o.guard=some (j,want)) (hj:nth ops.toList j=some oj) (hd:oj.dst=some d) (hdg:Nat.blt d jB=true) (ht:TR I t a.tmps) {av:AV} (hv:t.get d=some av) (hb:∀v,VR I av v->(match v with| .bool b=>some b|_=>none)=some b):
    Region.wanted o (yielded ops a.tmps)=yx b want:=by
  unfold Region.wanted;rw[hg];have hj':ops[j]? =some oj:=by rw[jY]at hj;simpa using hj
  have hy:yielded ops a.tmps j=match a.tmps[d]? with|some (.bool b)=>some b|_=>none:=by unfold yielded;rw[hj'];simp only[Option.bind_some,hd];rfl
  simp only;rw[hy];have hr:=ht d av hv;rw[QV (by simpa[Nat.blt_eq]using hdg),Array.getD_eq_getD_getElem?]at hr;cases hx:a.tmps[d]? with
  |none=>rw[hx]at hr;have:=hb _ hr;simp[undef]at this
  | some v=>
    rw[hx]at hr;have:=hb v hr;cases v with
    |bool bb=>simp at this;subst this;cases bb<;>cases want<;>rfl
    |_=>simp at this
def rH{o oj:Oper} {a:Act} {j d:Nat} {want:Bool} (hg:o.guard=some (j,want)) (hj:nth ops.toList j=some oj) (hd:oj.dst=some d) (hdg:Nat.blt d jB=true) (ht:TR I t a.tmps) {av:AV} (hv:t.get d=some av) (hb:∀b,av≠ .bool b) (hs:∀v,av≠ .sv v):
    Region.wanted o (yielded ops a.tmps)=false:=by
  unfold Region.wanted;rw[hg];have hj':ops[j]? =some oj:=by rw[jY]at hj;simpa using hj
  have hy:yielded ops a.tmps j=match a.tmps[d]? with|some (.bool b)=>some b|_=>none:=by unfold yielded;rw[hj'];simp only[Option.bind_some,hd];rfl
  simp only;rw[hy];have hr:=ht d av hv;rw[QV (by simpa[Nat.blt_eq]using hdg),Array.getD_eq_getD_getElem?]at hr;cases hx:a.tmps[d]? with
  |none=>rfl
  | some v=>
    rw[hx]at hr;cases v with
    | bool bb=>cases hr with
      |bool=>exact absurd rfl (hb _)
      |sv=>exact absurd rfl (hs _)
    |_=>rfl
def MV (ops:Array Oper) (o:Oper) (t:T AV) (K:Bool->T AV->Prop):Prop:=match o.guard with
  |none=>K true t
  | some (j,want)=>match nth ops.toList j with
    | some oj =>match oj.dst with
      | some d=>match Nat.blt d jB with
        | true=>match t.get d with
          |some (.bool b)=>K (yx b want) t
          | some (.sv (.bool b))=>match T.put 64 d (some (.bool true)) t with
            | some t1=>match T.put 64 d (some (.bool false)) t with
              |some t2=>(Ob (b=true)->K (yx true want) t1)/\(Ob (b=false)->K (yx false want) t2)
              |none=>False
            |none=>False
          |some (.sv _)=>False
          |some _=>K false t
          |none=>False
        |false=>False
      |none=>False
    |none=>False
def sD{t t':T AV} {tm:Array Value} {d:Nat} {b:Bool} (ht:TR I t tm) (hv:t.get d=some (.sv (.bool b))) (hp:T.put 64 d (some (.bool b)) t=some t'):TR I t' tm:=λn a e=>by
 rw[T.get_put _ _ _ _ _ hp]at e;split at e
 ·rename_i hn;subst hn;cases e;have:=ht _ _ hv;generalize slot tm n=v at this⊢;cases this;exact .bool b
 ·exact ht n a e
variable {o:Oper}
def qhe {K:Bool->T AV->Prop} (h:MV ops o t K):∃b t',Ao ops o t b/\K b t'/\∀I tm,TR I t tm->TR I t' tm:=by
 unfold MV at h;split at h
 ·rename_i hg;exact⟨true,t,λI a ht=>by unfold Region.wanted;rw[hg],h,λ_ _ h=>h⟩
 ·rename_i j want hg;split at h
  ·rename_i oj hj;split at h
   ·rename_i d hd;split at h
    ·rename_i hdg;split at h
     ·rename_i b hv;exact⟨_,t,λI a ht=>guard_of (b:=b) hg hj hd hdg ht hv λv r=>by cases r;rfl,h,λ_ _ h=>h⟩
     ·rename_i b hv;split at h;case h_2=>exact h.elim
      rename_i t1 hp1;split at h;case h_2=>exact h.elim
      rename_i t2 hp2;cases b with
      |true=>exact⟨_,t1,λI a ht=>guard_of (b:=true) hg hj hd hdg ht hv λv r=>by cases r;rfl,h.1 rfl,λI tm ht=>sD ht hv hp1⟩
      |false=>exact⟨_,t2,λI a ht=>guard_of (b:=false) hg hj hd hdg ht hv λv r=>by cases r;rfl,h.2 rfl,λI tm ht=>sD ht hv hp2⟩
     ·exact h.elim
     ·rename_i av h1 _ h2 hv;exact⟨_,t,λI a ht=>rH hg hj hd hdg ht hv (λb e=>h1 b e) (λv e=>h2 v e),h,λ_ _ h=>h⟩
     ·exact h.elim
    ·exact h.elim
   ·exact h.elim
  ·exact h.elim
def Gb(g:GS):List GD:=match g with
 |none=>[]
 |some d=>[d]
def qcy{g:GS} {d:GD} (h:d∈Gb g):g=some d:=by
 cases g with
 |none=>simp[Gb]at h
 |some e=>simp[Gb]at h;rw[h]
abbrev jv:=GL->T AV->T AO->Nat->Oper->Option ((GL->AV->T AO->Nat->Prop)->Prop)
def pI:jv:=λ_ _ _ _ _=>none
def j9(P:IW) (hx:jv):Prop:=∀gl t h nx o q (K:GL->AV->T AO->Nat->Prop),hx gl t h nx o=some q->q K->∃(B:Type) (r:B->AV) (h':B->T AO) (nx':Nat) (pm:B->PF),(∀b,wb gl (pm b) λgl=>K gl (r b) (h' b) nx')/\nx<=nx'/\
 ∀ (F:Bool->Nat->Prop) (I:In) (n:Nat) (a:Act) (w:World),St gl F I t h n a w->vd I nx nx'->∀(K':Act->World->Prop) (Q:Exit->Act->World->Prop),
  (∀b z I' w',VR I' (r b) z->Grow F I nx w I' nx' (h' b) w'->(pm b).ok (jK F w I' (h' b) w')->K' (a.put o.dst z) w')->o.wp P a w K' Q
def qhr{P:IW}:j9 P pI:=λgl t h nx o q K e=>by cases e
def xf(hs:jF) (hx:jv) (n:Nat) (ops:Array Oper) (pb:Nat->List Nat):Nat->List Oper->GL->T AV->T AO->Nat->KS->Prop
  |_,[],gl,t,h,nx,K=>K gl t h nx
  | i,o::l,gl,t,h,nx,K=>wg (pb i) gl t h λgl t h=>MV ops o t λw t=>match w with
    | true=>match hx gl t h nx o with
      | some q=>q λgl v h' nx'=>match yz n o.dst v t with
        |some t'=>xf hs hx n ops pb (i+1) l gl t' h' nx' K
        |none=>False
      | none=>hs gl t h nx o λk v ob h' nx' g=>match yz n o.dst v t with
        |some t'=>u0 (Gb g) gl t' h' nx' λgl t h nx=>xf hs hx n ops pb (i+1) l gl t h nx K
        |none=>False
    | false=>match yz n o.dst j8 t with
      |some t'=>xf hs hx n ops pb (i+1) l gl t' h nx K
      |none=>False
section
variable {P:IW} {F0:Bool->Nat->Prop} {I0:In} {nx0:Nat} {w0:World} {n:Nat}
def K5 {hs :jF} {hx:jv} (ho:vJ P hs) (hX:j9 P hx) {ops:Array Oper} {pb:Nat->List Nat}:∀(l:List Oper) (is:List Nat) (m:Nat),is.map (λi=>ops[i]?)=l.map some->∀{gl:GL} {t:T AV} {h:T AO} {nx:Nat} {K:KS},xf hs hx n ops pb m l gl t h nx K->∀{F:Bool->Nat->Prop} {I:In} {a:Act} {w:World},GK gl.tab I0->St gl F I t h n a w->At F0 I0 nx0 w0 F I nx w->∀(Q:Exit->Act->World->Prop),
    (∀a' w',y8 F0 I0 nx0 w0 n K a' w'->Q .normal a' w')->wpOps P ops Q is a w
  | [],is,m,his,gl,t,h,nx,K,e,F,I,a,w,hg0,st,at0,Q,hQ=>by have:is=[]:=(by simpa using his);subst this;exact hQ a w ⟨gl,t,h,nx,F,I,e,hg0,st,at0⟩
  | o :: l, is, m,his,gl,t,h,nx,K,e,F,I,a,w,hg0,st,at0,Q,hQ=>by
    cases is with
    |nil=>simp at his
    | cons i is =>
      simp only[List.map_cons,List.cons.injEq]at his;obtain⟨hoi,his⟩:=his;rw[wpOps_cons];simp only[xf]at e;obtain⟨gl1,t0,h0,F1,htab,e,st,at0⟩:=QW _ e st at0;have hg0:GK gl1.tab I0:=(by rw[htab];exact hg0);clear htab;obtain⟨b,t1,hg,e,htr⟩:=qhe e;unfold wpOp;simp only[hoi,hg I a st.tr];have st:St gl1 F1 I t1 h0 n a w:={st with tr:=htr I _ st.tr};cases b with
      | true=>
        simp only at e;split at e
        · rename_i q hq;obtain⟨B,r,h',nx',pm,eb,hle,hact⟩:=hX _ _ _ _ _ _ _ hq e;simp only[if_true];refine .inl (hact F1 I n a w st (at0.freshR _) _ Q λb z I' w' hz hgr hpm=> ?_);have e:=eb b;obtain⟨t',hp⟩:∃t',yz n o.dst (r b) t1=some t':=by
            cases hp:yz n o.dst (r b) t1 with
            |some t'=>exact⟨t',rfl⟩
            | none=>
              have hpf:(pm b).ok (q11 (λs x=>F1 s x\/(¬F1 true x/\x<w'.heap.size/\¬Own (h' b) I' x)) w'):=PF.ok_mono (λx o hb=>by rw[yr]at hb;rw[q03];exact⟨hb.1.imp (λh=>h) λh=>⟨h.1,(Array.getElem?_eq_some_iff.1 hb.2).1,h.2⟩,hb.2⟩) hpm;have hgp:gl1.pf (q11 (λs x=>F1 s x\/(¬F1 true x/\x<w'.heap.size/\¬Own (h' b) I' x)) w'):=by have:q11 F1 w'=q11 F1 w:=YV (w:=w) λb hb=>hgr.fr b (st.zf b hb);refine gl1.mono _ _ (λx o hb=> ?_) st.pf;rw[←this,q03]at hb;rw[q03];exact⟨.inl hb.1,hb.2⟩
              have:=Z4 e hgp hpf;rw[hp]at this;exact this.elim
          simp only[hp]at e;obtain⟨p1,p2,p3⟩:=Ax (z:=z) hp (st.tr.mono hgr.le) st.size hz;have st':St gl1 F1 I' t' (h' b) n (a.put o.dst z) w':=⟨p1,p2,p3.trans st.defers,hgr.sim,λb hb=>Nat.lt_of_lt_of_le (st.low b hb) hgr.size,st.gok.mono hgr.le,st.zf,by rw[YV (w:=w) λb hb=>hgr.fr b (st.zf b hb)];exact st.pf⟩;obtain⟨gl2,t2,h2,nx2,F2,I2,e2,hg2,st2,at2⟩:=qg9 (K:=λgl t h nx=>xf hs hx n ops pb (m+1) l gl t h nx K) e st' hgr hle at0 hg0 hpm;exact K5 ho hX l is (m+1) his e2 hg2 st2 at2 Q hQ
        obtain⟨k,v,ob,h',nx',g,hk,e⟩:=ho _ _ _ _ _ _ e;split at e
        · rename_i t' hp;simp only[if_true];refine .inl (hk.act.2 F1 I n a w st (at0.freshR _) _ Q λz I' w' hz hgr hgi=> ?_);obtain⟨p1,p2,p3⟩:=Ax (z:=z) hp (st.tr.mono hgr.le) st.size hz;have st':St gl1 F1 I' t' h' n (a.put o.dst z) w':=⟨p1,p2,p3.trans st.defers,hgr.sim,λb hb=>Nat.lt_of_lt_of_le (st.low b hb) hgr.size,st.gok.mono hgr.le,st.zf,by rw[YV (w:=w) λb hb=>hgr.fr b (st.zf b hb)];exact st.pf⟩;obtain⟨gl2,t2,h2,nx2,F2,I2,e2,hg2,st2,at2⟩:=rN e st' hgr hk.act.1 at0 hg0 λd hd=>(by rw[←qcy hd];exact hgi);exact K5 ho hX l is (m+1) his e2 hg2 st2 at2 Q hQ
        · exact e.elim
      | false=>
        simp only at e;split at e
        · rename_i t' hp;simp only[Bool.false_eq_true,if_false];obtain⟨p1,p2,p3⟩:=Ax (z:=undef) hp st.tr st.size (wZ I);exact K5 ho hX l is (m+1) his e hg0 ⟨p1,p2,p3.trans st.defers,st.sim,st.low,st.gok,st.zf,st.pf⟩ at0 Q hQ
        · exact e.elim
end
structure GT where
 b:Bool
 v:Bool
 h:b=v
def tz(d:Nat):List (Nat×GT)->Option GT
  | []=>none
  | (e,g)::l=>match Nat.beq d e with
    |true=>some g
    |false=>tz d l
def MU (ops:Array Oper) (o:Oper) (t:T AV) (D:List (Nat×GT)) (K:Bool->List (Nat×GT)->Prop):Prop:=match o.guard with
  |none=>K true D
  | some (j,want)=>match nth ops.toList j with
    | some oj=>match oj.dst with
      | some d=>match Nat.blt d jB with
        | true=>match t.get d with
          |some (.bool b)=>K (yx b want) D
          | some (.sv (.bool b))=>match tz d D with
            |some g=>Ob (b=g.b)/\K (yx g.v want) D
            |none=>(∀h:Ob (b=true),K (yx true want) ((d,⟨b,true,h⟩)::D))/\(∀h:Ob (b=false),K (yx false want) ((d,⟨b,false,h⟩)::D))
          |some (.sv _)=>False
          |some _=>K false D
          |none=>False
        |false=>False
      |none=>False
    |none=>False
def qhd {D :List (Nat×GT)} {K:Bool->List (Nat×GT)->Prop} (h:MU ops o t D K):∃b D',Ao ops o t b/\K b D':=by
 unfold MU at h;split at h
 ·rename_i hg;exact⟨true,D,λI a ht=>by unfold Region.wanted;rw[hg],h⟩
 ·rename_i j want hg;split at h
  ·rename_i oj hj;split at h
   ·rename_i d hd;split at h
    ·rename_i hdg;split at h
     ·rename_i b hv;exact⟨_,D,λI a ht=>guard_of (b:=b) hg hj hd hdg ht hv λv r=>by cases r;rfl,h⟩
     ·rename_i b hv;split at h
      ·rename_i g hl;obtain⟨e,h⟩:=h;have e:b=g.v:=Eq.trans e g.h;exact⟨_,D,λI a ht=>guard_of (b:=g.v) hg hj hd hdg ht hv λv r=>by cases r;rw[e],h⟩
      ·cases b with
       |true=>exact⟨_,_,λI a ht=>guard_of (b:=true) hg hj hd hdg ht hv λv r=>by cases r;rfl,h.1 rfl⟩
       |false=>exact⟨_,_,λI a ht=>guard_of (b:=false) hg hj hd hdg ht hv λv r=>by cases r;rfl,h.2 rfl⟩
     ·exact h.elim
     ·rename_i av h1 _ h2 hv;exact⟨_,D,λI a ht=>rH hg hj hd hdg ht hv (λb e=>h1 b e) (λv e=>h2 v e),h⟩
     ·exact h.elim
    ·exact h.elim
   ·exact h.elim
  ·exact h.elim
def Q7(hs:jF) (n:Nat) (ops:Array Oper) (gl:GL):List Oper->List (Nat×GT)->T AV->T AO->Nat->(List Rc->T AV->T AO->Nat->Prop)->Prop
  | [],D,t,h,nx,K=>K [] t h nx
  | o ::l,D,t,h,nx,K=>match x0 t (slotsOf ops o) .e with
    | some tr=>MU ops o tr D λw D=>match w with
      | true=>hs gl tr h nx o λk v ob h' nx' g=>match yz n o.dst v t with
        |some t'=>Q7 hs n ops gl l D t' h' nx' λrs t2 h2 nx2=>K (⟨o,true,k,tr,v,ob,nx,h,g⟩::rs) t2 h2 nx2
        |none=>False
      | false=>match yz n o.dst j8 t with
        |some t'=>Q7 hs n ops gl l D t' h nx λrs t2 h2 nx2=>K (⟨o,false, .q,tr,j8,none,nx,h,none⟩::rs) t2 h2 nx2
        |none=>False
    |none=>False
def sC{P:IW} {hs:jF} (ho:vJ P hs) {n:Nat} {ops:Array Oper} {gl:GL}:∀(l:List Oper) {D:List (Nat×GT)} {t:T AV} {h:T AO} {nx:Nat} {K:List Rc->T AV->T AO->Nat->Prop},Q7 hs n ops gl l D t h nx K->
    ∃ rs t' h' nx',K rs t' h' nx'/\∃(Tt:Nat->T AV) (H:Nat->T AO) (X:Nat->Nat),Tt 0=t/\H 0=h/\X 0=nx/\Tt l.length=t'/\H l.length=h'/\X l.length=nx'/\rs.length=l.length/\
      ∀i o c,l[i]? =some o->rs[i]? =some c->c.o=o/\We gl P n ops c (Tt i) (H i) (X i) (Tt (i+1)) (H (i+1)) (X (i+1))
  | [],D,t,h,nx,K,e=>⟨[],t,h,nx,e,λ_=>t,λ_=>h,λ_=>nx,rfl,rfl,rfl,rfl,rfl,rfl,rfl,λi o c h1=>by simp at h1⟩
  | o ::l,D,t,h,nx,K,e=>by
    have fin:∀(c:Rc) D1 t1 h1 nx1 (K':List Rc->T AV->T AO->Nat->Prop),c.o=o->We gl P n ops c t h nx t1 h1 nx1->Q7 hs n ops gl l D1 t1 h1 nx1 K'->(∀rs t h nx,K' rs t h nx->K (c::rs) t h nx)->∃rs t' h' nx',K rs t' h' nx'/\∃(Tt:Nat->T AV) (H:Nat->T AO) (X:Nat->Nat),Tt 0=t/\H 0=h/\X 0=nx/\Tt (o::l).length=t'/\H (o::l).length=h'/\X (o::l).length=nx'/\rs.length=(o::l).length/\
      ∀i o' c,(o::l)[i]? =some o'->rs[i]? =some c->c.o=o'/\We gl P n ops c (Tt i) (H i) (X i) (Tt (i+1)) (H (i+1)) (X (i+1)):=by
      intro c D1 t1 h1 nx1 K' hco hst hrun hK;obtain⟨rs,t',h',nx',hk',Tt,H,X,a1,a2,a3,a4,a5,a6,a7,a8⟩:=sC ho l hrun;refine⟨c::rs,t',h',nx',hK _ _ _ _ hk',λi=>match i with|0=>t|i+1=>Tt i,λi=>match i with|0=>h|i+1=>H i,λi=>match i with|0=>nx|i+1=>X i,rfl,rfl,rfl,a4,a5,a6,by simp[a7],?_⟩;intro i o' c' h2 h3;cases i with
      | zero=>
        simp at h2 h3;subst h2 h3;simp only[a1,a2,a3];exact⟨hco,hst⟩
      |succ i=>exact a8 i o' c' (by simpa using h2) (by simpa using h3)
    simp only[Q7]at e;split at e
    · rename_i tr htr;obtain⟨b,D1,hg,e⟩:=qhd e;cases b with
      | true=>
        simp only at e;obtain⟨k,v,ob,h1,nx1,g,hk,e⟩:=ho _ _ _ _ _ _ e;split at e
        · rename_i t1 hp;exact fin _ D1 t1 h1 nx1 _ rfl ⟨rfl,rfl,htr,hp,hg,λ_=>hk,λhw=>by cases hw⟩ e λ_ _ _ _ h=>h
        · exact e.elim
      | false=>
        simp only at e;split at e
        · rename_i t1 hp;exact fin _ D1 t1 h nx _ rfl ⟨rfl,rfl,htr,hp,hg,(λhw=>by cases hw),λ_=>⟨rfl,rfl,rfl,GS.triv_nil⟩⟩ e λ_ _ _ _ h=>h
        · exact e.elim
    · exact e.elim
end
section
def vN:List Rc->Nat->Option Rc
 | [],_=>none
 |a::_,0=>some a
 |_::l,n+1=>vN l n
def K4:∀(l:List Rc) (n:Nat),vN l n=l[n]?
 | [],n=>by simp[vN]
 |a::l,0=>by simp[vN]
 |a::l,n+1=>by simp[vN,K4 l n]
def uX(rs:List Rc) (hN:T AO) (e:Nat):T AO:=match vN rs e with
 |some c=>c.h
 |none=>hN
def Yq(a b:AV) (K:Prop):Prop:=match SN a b with
 |true=>K
 |false=>Ob (a=b)/\K
variable {K:Prop}
def AJ{a b:AV} (h:Yq a b K):a=b/\K:=by
 unfold Yq at h;split at h
 ·rename_i e;exact⟨qfh e,h⟩
 ·exact h
def Fx(hr:jl) (gl:GL) (c:Rc) (rs:List Rc) (hN:T AO):List Nat->Prop->Prop
 | [],K=>K
 |e::es,K=>hr gl c.t (uX rs hN e) c.o λv=>Yq v c.v (Fx hr gl c rs hN es K)
def xX(hr:jl) (gl:GL) (l:List Oper) (A:List Nat) (rs:List Rc) (hN:T AO):List Nat->Prop->Prop
  | [],K=>K
  | i ::is,K=>match vN rs i with
    | some c=>match c.w with
      | true=>match c.k with
        | .r=>Fx hr gl c rs hN (others l A i) (xX hr gl l A rs hN is K)
        |_=>xX hr gl l A rs hN is K
      |false=>xX hr gl l A rs hN is K
    |none=>False
def Ss (l:List Oper) (rs:List Rc) (hN:T AO):Bool:=jZ l.length λi=>match vN rs i with
  |none=>false
  | some c=>match c.w with
    | true=>match c.k with
      | .a=>jZ (i+1) λe=>match Vq l e with
        | true=>match(uX rs hN e).get c.nx with
          |none=>true
          |some _=>false
        |false=>true
      |_=>true
    |false=>true
def pY{P:IW} {hr:jl} (ok:ka P hr) {gl:GL} {c:Rc} {rs:List Rc} {hN:T AO}:∀{es:List Nat} {K:Prop},Fx hr gl c rs hN es K->(∀e∈es,RP gl P c.t (uX rs hN e) c.o c.v)/\K
  | [],K,h=>⟨λe he=>(by cases he),h⟩
  | e ::es,K,h=>by
    simp only[Fx]at h;obtain⟨v,h1,h2⟩:=ok _ _ _ _ _ h;obtain⟨rfl,h3⟩:=AJ h2;obtain⟨h4,h5⟩:=pY ok h3;exact⟨λe' he=>by
      cases he with
      |head=>exact h1
      |tail _ he=>exact h4 e' he,h5⟩
def pZ{P:IW} {hr:jl} (ok:ka P hr) {gl:GL} {l:List Oper} {A:List Nat} {rs:List Rc} {hN:T AO}:∀{is:List Nat} {K:Prop},xX hr gl l A rs hN is K->(∀i∈is,∀c,vN rs i=some c->c.w=true->c.k= .r->∀e∈others l A i,RP gl P c.t (uX rs hN e) c.o c.v)/\K
  | [],K,h=>⟨λe he=>(by cases he),h⟩
  | i ::is,K,h=>by
    simp only[xX]at h;split at h
    · rename_i c hc;have rest:(∀c',vN rs i=some c'->c'.w=true->c'.k= .r->∀e∈others l A i,RP gl P c'.t (uX rs hN e) c'.o c'.v)->xX hr gl l A rs hN is K->(∀j∈i::is,∀c,vN rs j=some c->c.w=true->c.k= .r->∀e∈others l A j,RP gl P c.t (uX rs hN e) c.o c.v)/\K:=λh0 h1=>by
        obtain⟨h4,h5⟩:=pZ ok h1;exact⟨λj hj=>by
          cases hj with
          |head=>exact h0
          |tail _ hj=>exact h4 j hj,h5⟩
      split at h
      · split at h
        · obtain⟨h1,h2⟩:=pY ok h;exact rest (λc' hc' _ _=>by rw[hc]at hc';cases hc';exact h1) h2
        · rename_i hw hne;exact rest (λc' hc' _ hk=>by rw[hc]at hc';cases hc';exact absurd hk hne) h
      · rename_i hw;exact rest (λc' hc' hw' _=>by rw[hc]at hc';cases hc';rw[hw]at hw';cases hw') h
    · exact h.elim
def xV:List Rc->List GD
  | []=>[]
  | c::l=>match c.g with
    |none=>xV l
    |some d=>d::xV l
def EI:∀{l:List Rc} {d:GD},d∈xV l->∃(j:Nat) (c:Rc),l[j]? =some c/\c.g=some d
  | c ::l,d,h=>by
    simp only[xV]at h;split at h
    · rename_i hc;obtain⟨j,c',h1,h2⟩:=EI h;exact⟨j+1,c',by simpa using h1,h2⟩
    · rename_i e hc;cases h with
      |head=>exact⟨0,c,rfl,hc⟩
      | tail _ h=>
        obtain⟨j,c',h1,h2⟩:=EI h;exact⟨j+1,c',by simpa using h1,h2⟩
def FD:List Rc->Bool
  | []=>true
  | c ::l=>(match c.w with
    | true=>match c.k with
      | .r=>xS c.o
      |_=>true
    |false=>true)&&FD l
def qb5{l:List Rc} (h:FD l=true):∀(k:Nat) (c:Rc),l[k]? =some c->c.w=true->c.k= .r->xS c.o=true:=by
  induction l with
  |nil=>intro k c hc;simp at hc
  | cons a l ih=>
    intro k c hc hw hk;unfold FD at h;rw[Bool.and_eq_true]at h;cases k with
    | zero=>
      have hc:a=c:=(by simpa using hc);subst hc;have:=h.1;rw[hw,hk]at this;exact this
    |succ k=>exact ih h.2 k c (by simpa using hc) hw hk
def F4 (hs:jF) (gl:GL) (c:Rc) (h:T AO) (K:T AO->Prop):Prop:=match c.w with
  | true=>match c.g with
    | none=>hs gl c.t h c.nx c.o λk v ob B nx' g=>match k with
      | .s=>match g with
        | none=>match Nat.beq nx' c.nx with
          |true=>Yq v c.v (K B)
          |false=>False
        |some _=>False
      |_=>False
    |some _=>False
  |false=>False
def Fo{P:IW} {hs:jF} (ho:vJ P hs) {gl:GL} {c:Rc} {h:T AO} {K:T AO->Prop} (e:F4 hs gl c h K):c.w=true/\c.g=none/\∃B,K B/\y7 gl P c.t h c.nx c.o none c.v B c.nx:=by
 unfold F4 at e;split at e;case h_2=>exact e.elim
 rename_i hw;split at e;case h_2=>exact e.elim
 rename_i hg;obtain⟨k,v,ob,B,nx',g,hk,e⟩:=ho _ _ _ _ _ _ e;split at e;case h_2=>exact e.elim
 split at e;case h_2=>exact e.elim
 split at e;case h_2=>exact e.elim
 rename_i hn;obtain⟨hv,e2⟩:=AJ e;have hn:=Nat.eq_of_beq_eq_true hn;subst hn;have ha:=hk.act;rw[hv]at ha;exact⟨hw,hg,B,e2,ha⟩
def U_(a b:AV) (K:Prop):Prop:=match a,b with
  | .sv v, .sv u=>Ob (v=u)/\K
  | .ssl i o n e k, .ssl j p m f l=>match Nat.beq i j&&(Nat.beq o p&&(Nat.beq e f&&Nat.beq k l))with
    |true=>Ob (n=m)/\K
    |false=>False
  |a,b=>Yq a b K
def qh0{a b:AV} (h:U_ a b K):a=b/\K:=by
 unfold U_ at h;split at h
 ·rw[h.1];exact⟨rfl,h.2⟩
 ·split at h;case h_2=>exact h.elim
  rename_i hb;simp only[Bool.and_eq_true]at hb;have h1:=Nat.eq_of_beq_eq_true hb.1;have h2:=Nat.eq_of_beq_eq_true hb.2.1;have h3:=Nat.eq_of_beq_eq_true hb.2.2.1;have h4:=Nat.eq_of_beq_eq_true hb.2.2.2;rw[h1,h2,h3,h4,h.1];exact⟨rfl,h.2⟩
 ·exact AJ h
def F8:List AV->List AV->Prop->Prop
 | [],[],K=>K
 |a::l,b::m,K=>U_ a b (F8 l m K)
 |_,_,_=>False
def rZ:∀{l m:List AV} {K:Prop},F8 l m K->l=m/\K
  | [],[],K,h=>⟨rfl,h⟩
  | a::l,b::m,K,h=>by obtain⟨rfl,h2⟩:=qh0 (show U_ a b (F8 l m K)from h);obtain⟨rfl,h3⟩:=rZ h2;exact⟨rfl,h3⟩
  | [],b::m,K,h=>h.elim
  |a::l,[],K,h=>h.elim
def MM(a b:AO) (K:Prop):Prop:=match a,b with
  | .cells e f g l, .cells e' f' g' m=>match Nat.beq e e'&&(decide (f=f')&&(g==g'))with
    |true=>F8 l m K
    |false=>False
  | .row e f l, .row e' f' m=>match Nat.beq e e'&&Nat.beq f f' with
    |true=>Ob (l=m)/\K
    |false=>False
  | .map [] c, .map [] d=>match Nat.beq c d with
    |true=>K
    |false=>False
  |a,b=>Ob (a=b)/\K
def qgx{a b:AO} (h:MM a b K):a=b/\K:=by
 unfold MM at h;split at h
 ·split at h;case h_2=>exact h.elim
  rename_i hb;simp only[Bool.and_eq_true,decide_eq_true_eq,beq_iff_eq]at hb;obtain⟨h1,h2,h3⟩:=hb;have h1:=Nat.eq_of_beq_eq_true h1;obtain⟨h4,h5⟩:=rZ h;rw[h1,h2,h3,h4];exact⟨rfl,h5⟩
 ·split at h;case h_2=>exact h.elim
  rename_i hb;simp only[Bool.and_eq_true]at hb;have h1:=Nat.eq_of_beq_eq_true hb.1;have h2:=Nat.eq_of_beq_eq_true hb.2;rw[h1,h2,h.1];exact⟨rfl,h.2⟩
 ·split at h;case h_2=>exact h.elim
  rename_i hb;rw[Nat.eq_of_beq_eq_true hb];exact⟨rfl,h⟩
 ·exact h
def Jl:T AO->T AO->Prop->Prop
  | .e, .e,K=>K
  | .n l v r, .n l' v' r',K=>match v,v' with
    |none,none=>Jl l l' (Jl r r' K)
    |some a,some b=>MM a b (Jl l l' (Jl r r' K))
    |_,_=>False
  |_,_,_=>False
def Vj:∀{t u:T AO} {K:Prop},Jl t u K->t=u/\K
  | .e, .e,K,h=>⟨rfl,h⟩
  | .e, .n l v r,K,h=>h.elim
  | .n l v r, .e,K,h=>h.elim
  | .n l v r, .n l' v' r',K,h=>by
    simp only[Jl]at h;split at h
    · obtain⟨rfl,h1⟩:=Vj h;obtain⟨rfl,h2⟩:=Vj h1;exact⟨rfl,h2⟩
    · obtain⟨rfl,h0⟩:=qgx h;obtain⟨rfl,h1⟩:=Vj h0;obtain⟨rfl,h2⟩:=Vj h1;exact⟨rfl,h2⟩
    · exact h.elim
def FX(hs:jF) (gl:GL) (rs:List Rc) (hN:T AO) (p q:Nat) (K:Prop):Prop:=match vN rs p with
  | some ci=>match vN rs q with
    | some cj=>match FD rs with
      |true=>F4 hs gl cj ci.h λB=>F4 hs gl ci B λh=>Jl h (uX rs hN (q+1)) K
      |false=>False
    |none=>False
  |none=>False
def FQ (P:IW) (hs:jF) (hr:jl) (n:Nat) (ops:Array Oper) (pb:List Nat) (gl:GL) (t:T AV) (h:T AO) (nx:Nat) (K:KS):Prop:=wg pb gl t h λgl t h=>match vL ops.toList 0 []with
  | some A=>match Vi P ops A none with
    | true=>Q7 hs n ops gl ops.toList [] t h nx λrs t' h' nx'=>match Ss ops.toList rs h' with
      |true=>xX hr gl ops.toList A rs h' (List.range ops.toList.length) (u0 (xV rs) gl t' h' nx' K)
      |false=>False
    | false=>match s9 P ops A with
      | some (p,q)=>match Vi P ops A (some (p,q))&&Fk P ops A p q with
        | true=>Q7 hs n ops gl ops.toList [] t h nx λrs t' h' nx'=>match Ss ops.toList rs h' with
          |true=>xX hr gl ops.toList A rs h' (List.range ops.toList.length) (FX hs gl rs h' p q (u0 (xV rs) gl t' h' nx' K))
          |false=>False
        |false=>False
      |none=>False
  |none=>False
section
variable {P:IW} {F0:Bool->Nat->Prop} {I0:In} {nx0:Nat} {w0:World} {n:Nat}
variable {hs:jF} {hr:jl}
def p_(ho:vJ P hs) (ok:ka P hr) {ops:Array Oper} {pb:List Nat} {gl:GL} {t:T AV} {h:T AO} {nx:Nat} {K:KS} (e:FQ P hs hr n ops pb gl t h nx K) {F:Bool->Nat->Prop} {I:In} {a:Act} {w:World} (hg0:GK gl.tab I0) (st:St gl F I t h n a w) (at0:At F0 I0 nx0 w0 F I nx w) (Q:Exit->Act->World->Prop)
    (hQ:∀a' w',y8 F0 I0 nx0 w0 n K a' w'->Q .normal a' w') {w':World} {d:Nat} (hw':w'={w with drawn:=d}):wpAny P .any ops Q ops.size (Array.replicate ops.size false) a w':=by
  subst hw';unfold FQ at e;obtain⟨gl1,t0,h0,F1,htab,e,st,at0⟩:=QW _ e st at0;have hg0:GK gl1.tab I0:=by rw[htab];exact hg0
  clear htab;split at e;case h_2=>exact e.elim
  rename_i A hA;have fin:∀(pr:vK),Vi P ops A pr=true->(Q7 hs n ops gl1 ops.toList [] t0 h0 nx λrs t' h' nx'=>match Ss ops.toList rs h' with
      | true=>xX hr gl1 ops.toList A rs h' (List.range ops.toList.length) (match pr with
        |some (p,q)=>FX hs gl1 rs h' p q (u0 (xV rs) gl1 t' h' nx' K)
        |none=>u0 (xV rs) gl1 t' h' nx' K)
      |false=>False)->(∀p q,pr=some (p,q)->Fk P ops A p q=true)->wpAny P .any ops Q ops.size (Array.replicate ops.size false) a {w with drawn:=d}:=by
    intro pr hst e hps;obtain⟨rs,t',h',nx',e,Tt,H,X,a1,a2,a3,a4,a5,a6,a7,a8⟩:=sC ho _ e;split at e;case h_2=>exact e.elim
    rename_i hfree;obtain⟨hag,e⟩:=pZ ok e;have hsz:ops.toList.length=ops.size:=(by simp);rw[hsz]at a4 a5 a6 a7;have hat:∀e,e<=ops.size->uX rs h' e=H e:=λe he=>by
      unfold uX;by_cases hlt:e<ops.size
      · have h1:ops.toList[e]? =some ops[e]:=(by simp[hlt]);have h2:rs[e]? =some (rs[e]'(by rw[a7];exact hlt)):=List.getElem?_eq_getElem _;rw[K4,h2];exact(a8 e _ _ h1 h2).2.1
      · have:e=ops.size:=(by omega);subst this;rw[K4,List.getElem?_eq_none (by rw[a7];exact Nat.le_refl _)];exact a5.symm
    have x:Text gl1 P n ops A pr rs Tt H X:={
      hA:=hA,st:=hst,len:=a7
      step:=λi o c h2 h3=>a8 i o c (by simpa using h2) h3
      free:=λi c e' hc hw hk he hep=>by
        have hi:i<ops.size:=by have:=(List.getElem?_eq_some_iff.1 hc).1;rw[a7]at this;exact this
        have hf:=vG hfree i (by rw[hsz];exact hi);have hn:vN rs i=some c:=(by rw[K4];exact hc);simp only[hn,hw,hk]at hf;have:=vG hf e' (by omega);simp only[hep]at this;rw[hat e' (by omega)]at this;split at this
        · rename_i hg;exact hg
        · cases this
      again:=λi c e' hc hw hk he hot=>by
        have hi:i<ops.size:=by have:=(List.getElem?_eq_some_iff.1 hc).1;rw[a7]at this;exact this
        have hn:vN rs i=some c:=(by rw[K4];exact hc);have hmem:e'∈others ops.toList A i:=List.mem_filter.2 ⟨List.mem_range.2 (by rw[hsz];omega),hot⟩;have:=hag i (List.mem_range.2 (by rw[hsz];exact hi)) c hn hw hk e' hmem;rw[hat e' he]at this;exact this}
    have hle:=x.xle (Nat.zero_le _) (Nat.le_refl ops.size);have hpo:∀p q,pr=some (p,q)->∃ci cj B,PairOK gl1 P ops A pr rs H X p q ci cj B:=λp q hp=>by
      subst hp;simp only at e;have hps:=hps p q rfl;unfold Fk at hps;simp only[Bool.and_eq_true]at hps;obtain⟨⟨⟨⟨s1,s2⟩,s3⟩,s4⟩,s5⟩:=hps;have hpq:p<q:=(by simpa[Nat.blt_eq]using s3);have hqn:q<ops.size:=(by simpa[Nat.blt_eq]using s4);unfold FX at e;split at e;case h_2=>exact e.elim
      rename_i ci hci;split at e;case h_2=>exact e.elim
      rename_i cj hcj;split at e;case h_2=>exact e.elim
      rename_i hkb;obtain⟨wj,gj,B,e,aq⟩:=Fo ho e;obtain⟨wi,gi,B2,e,ap⟩:=Fo ho e;rw[K4]at hci hcj;have hoi:ops.toList[p]? =some ops[p]:=(by simp);have hoj:ops.toList[q]? =some ops[q]:=(by simp);have di:=(a8 p _ _ hoi hci).2;have dj:=(a8 q _ _ hoj hcj).2;have e1:B2=H (q+1):=(by rw[←hat (q+1) (by omega)];exact(Vj e).1);have isSt:∀k,Fu ops.toList k=true->flag qG ops.toList k=true:=λk hk=>by
        unfold Fu at hk;unfold flag;split at hk
        · rename_i o ho';split at hk
          · rename_i hop;simp only[qG,hop]
          · cases hk
        · cases hk
      refine⟨ci,cj,B,⟨rfl,hpq,hqn,hci,hcj,wi,wj,gi,gj,isSt p s1,isSt q s2,?_,?_,λk hk h1 h2 h3=> ?_,qb5 hkb⟩⟩
      · rw[←di.1,←dj.2.1];exact aq
      · rw[←e1,←di.2.1];exact ap
      · have:=vG s5 k (by rw[hsz];exact hk);simp only[Bool.or_eq_true,Bool.not_eq_true',Bool.and_eq_true,Bool.or_eq_false_iff]at this;rcases this with((h|h)|h)|h
        · exact absurd (Nat.eq_of_beq_eq_true h) h1
        · exact absurd (Nat.eq_of_beq_eq_true h) h2
        · rcases h3 with h3|h3|h3
          · rw[h.1.1]at h3;cases h3
          · rw[h.1.2]at h3;cases h3
          · rw[h.2]at h3;cases h3
        · exact h
    have e:u0 (xV rs) gl1 t' h' nx' K:=by
      cases pr with
      |none=>exact e
      | some pq=>
        obtain⟨p,q⟩:=pq;simp only at e;unfold FX at e;split at e;case h_2=>exact e.elim
        split at e;case h_2=>exact e.elim
        split at e;case h_2=>exact e.elim
        obtain⟨_,_,B,e,_⟩:=Fo ho e;obtain⟨_,_,B2,e,_⟩:=Fo ho e;exact(Vj e).2
    refine q5y x hpo (F:=F1) (I:=I) (d:=d) (by rw[a1,a2];exact st) (by rw[a3,a6];exact at0.freshR _) (λa' I' w' s g hgh=>hQ a' w' ?_);rw[a4,a5]at s;rw[a3,a6,a5]at g;rw[a5]at hgh;refine rN e s g (by rw[←a3,←a6];exact hle) at0 hg0 λd hd=> ?_;obtain⟨j,c,h1,h2⟩:=EI hd;have:=hgh j c h1;rw[h2]at this;exact this
  split at e
  · rename_i hst;exact fin none hst e λp q h=>by cases h
  · split at e;case h_2=>exact e.elim
    rename_i p q hpq;split at e;case h_2=>exact e.elim
    rename_i hst;simp only[Bool.and_eq_true]at hst;exact fin (some (p,q)) hst.1 e λp' q' h=>by cases h;exact hst.2
def qhs(P:IW) (ops:Array Oper):Bool:=match vL ops.toList 0 []with
  | some A=>match Vi P ops A none with
    |true=>true
    | false=>match s9 P ops A with
      |some (p,q)=>Vi P ops A (some (p,q))&&Fk P ops A p q
      |none=>false
  |none=>false
def Q0(P:IW) (hs:jF) (hr:jl) (n:Nat) (ops:Array Oper) (pb:List Nat) (gl:GL) (t:T AV) (h:T AO) (nx:Nat) (K:KS):Prop:=match qhs P ops with
  |true=>FQ P hs hr n ops pb gl t h nx K
  | false=>match vL ops.toList 0 []with
    | some A=>match tC A ops with
      |some ops'=>FQ P hs hr n ops' pb gl t h nx K
      |none=>False
    |none=>False
def X8(ho:vJ P hs) (ok:ka P hr) {ops:Array Oper} {pb:List Nat} {gl:GL} {t:T AV} {h:T AO} {nx:Nat} {K:KS} (e:Q0 P hs hr n ops pb gl t h nx K) {F:Bool->Nat->Prop} {I:In} {a:Act} {w:World} (hg0:GK gl.tab I0) (st:St gl F I t h n a w) (at0:At F0 I0 nx0 w0 F I nx w) (Q:Exit->Act->World->Prop)
  (hQ:∀a' w',y8 F0 I0 nx0 w0 n K a' w'->Q .normal a' w') (d:Nat):wpAny P .any ops Q ops.size (Array.replicate ops.size false) a {w with drawn:=d}:=by
 unfold Q0 at e;split at e
 ·exact p_ (d:=d) ho ok e hg0 st at0 Q hQ rfl
 ·split at e;case h_2=>exact e.elim
  rename_i A hA;split at e;case h_2=>exact e.elim
  rename_i ops' hp;unfold tC at hp;split at hp
  ·rename_i hok;split at hp
   ·rename_i x hx;cases hp;have p:=FN hok hx;have h1:=p_ (d:=d) ho ok e hg0 st at0 Q hQ rfl;have hs:(⟨x⟩:Array Oper).size=ops.size:=p.size;rw[hs]at h1;refine pX p ops.size _ (Array.replicate ops.size false) a _ ⟨by simp,by simp,λj hj d=> ?_⟩ h1;have hlt:yy j (FY A ops)<ops.size:=p.lt j hj;have e1:∀i,i<ops.size->(Array.replicate ops.size false).getD i d=false:=λi hi=>(by simp[Array.getD_eq_getD_getElem?,hi]);exact(e1 _ hlt).trans (e1 j hj).symm
   ·cases hp
  ·cases hp
def qcp(hm:P.follows .mixedOrders=true) {hs:jF} {hr:jl} (ho:vJ P hs) (ok:ka P hr) {ops:Array Oper} {pb:List Nat} {gl:GL} {t:T AV} {h:T AO} {nx:Nat} {K:KS} (e:Q0 P hs hr n ops pb gl t h nx K) {F:Bool->Nat->Prop} {I:In} {a:Act} {w:World} (hg0:GK gl.tab I0) (st:St gl F I t h n a w) (at0:At F0 I0 nx0 w0 F I nx w) (Q:Exit->Act->World->Prop)
  (hQ:∀a' w',y8 F0 I0 nx0 w0 n K a' w'->Q .normal a' w') (id:Nat):(Code.region id ops true).wp P Q a w:=
 wp_region_any hm (X8 ho ok e hg0 st at0 Q hQ _)
def Sq(P:IW) (hs:jF) (hx:jv) (hr:jl) (n:Nat) (ops:Array Oper) (pb:Nat->List Nat) (q:Nat) (gl:GL) (t:T AV) (h:T AO) (nx:Nat) (K:KS):Prop:=
 match AA ops.toList q with
 |true=>Q0 P hs hr n (kT ops q) (pb 0) gl t h nx λgl t h nx=>xf hs hx n ops pb q (ops.toList.drop q) gl t h nx K
 |false=>False
def qcs(hm:P.follows .mixedOrders=true) {hs:jF} {hx:jv} {hr:jl} (ho:vJ P hs) (hX:j9 P hx) (ok:ka P hr) {ops:Array Oper} {pb:Nat->List Nat} {q:Nat} {gl:GL} {t:T AV} {h:T AO} {nx:Nat} {K:KS} (e:Sq P hs hx hr n ops pb q gl t h nx K) {F:Bool->Nat->Prop} {I:In} {a:Act} {w:World} (hg0:GK gl.tab I0) (st:St gl F I t h n a w) (at0:At F0 I0 nx0 w0 F I nx w) (Q:Exit->Act->World->Prop)
  (hQ:∀a' w',y8 F0 I0 nx0 w0 n K a' w'->Q .normal a' w') (id:Nat):(Code.region id ops true).wp P Q a w:=by
 unfold Sq at e;split at e;case h_2=>exact e.elim
 rename_i hsp;have s:=qdk hsp;refine wp_region_any hm ?_;have hs0:=X3 s.lt;have h1:=X8 ho ok e hg0 st at0 (λe a w=>(e= .normal/\wpOps P ops Q (List.range' q (ops.size- q)) a w)\/(e≠ .normal/\Q e a w)) λa' w' hp=>by
  obtain⟨gl,t,h,nx,F,I,e,hg,st,at1⟩:=hp;refine .inl ⟨rfl,K5 ho hX _ (List.range' q (ops.size- q)) q ?_ e hg st at1 Q hQ⟩;apply List.ext_getElem?;intro i;simp only[List.getElem?_map,List.getElem?_drop];by_cases hi:i<ops.size- q
  ·rw[List.getElem?_range' hi,Array.getElem?_toList,Array.getElem?_eq_getElem (by omega)];simp
  ·rw[List.getElem?_eq_none (by rw[List.length_range'];omega),Array.getElem?_toList,Array.getElem?_eq_none (by omega)];rfl
 replace h1:=h1 (w.drawn+1);rw[hs0]at h1;have:=qbx s (Q:=Q) (λa w h=>h.elim (λh=>h.2) λh=>absurd rfl h.1) (λe a w he h=>h.elim (λh=>absurd h.1 he) λh=>h.2) q (Array.replicate ops.size false) (Array.replicate q false) a _ ⟨by simp,λi hi h=>by simp[Array.getD_eq_getD_getElem?,hi]at h⟩ (λi _ hi d=>by simp[Array.getD_eq_getD_getElem?,hi]) (by simp) (λi hi d=>by have:=s.lt;simp[Array.getD_eq_getD_getElem?,hi,show i<ops.size by omega]) h1;rw[show q+(ops.size- q)=ops.size by have:=s.lt;omega]at this;exact this
end
end
section
section
variable {P:IW} {F0:Bool->Nat->Prop} {I0:In} {nx0:Nat} {w0:World} {n:Nat}
def Sp(P:IW) (hs:jF) (hx:jv) (hr:jl) (n:Nat) (ops:Array Oper) (pb:Nat->List Nat) (q:Nat) (gl:GL) (t:T AV) (h:T AO) (nx:Nat) (K:KS):Prop:=
  match Sb ops.toList q with
  | true=>match nth ops.toList q with
    |some o=>Q0 P hs hr n (kT ops q) (pb 0) gl t h nx λgl t h nx=>xf hs hx n ops pb q [o] gl t h nx λgl t h nx=>Q0 P hs hr n (ku ops (q+1)) (pb (q+1)) gl t h nx K
    |none=>False
  |false=>False
def qam{hs:jF} {hx:jv} {hr:jl} (ho:vJ P hs) (hX:j9 P hx) (ok:ka P hr) {ops:Array Oper} {pb:Nat->List Nat} {q:Nat} {gl:GL} {t:T AV} {h:T AO} {nx:Nat} {K:KS} (e:Sp P hs hx hr n ops pb q gl t h nx K) {F:Bool->Nat->Prop} {I:In} {a:Act} {w:World} (hg0:GK gl.tab I0) (st:St gl F I t h n a w) (at0:At F0 I0 nx0 w0 F I nx w) (Q:Exit->Act->World->Prop)
  (hQ:∀a' w',y8 F0 I0 nx0 w0 n K a' w'->Q .normal a' w'):wpAny P .any ops Q ops.size (Array.replicate ops.size false) a {w with drawn:=w.drawn+1}:=by
 unfold Sp at e;split at e;case h_2=>exact e.elim
 rename_i hsp;split at e;case h_2=>exact e.elim
 rename_i o ho';have s:=qbw hsp;have hs0:=X3 s.lt;have hoq:ops[q]? =some o:=by rw[jY,Array.getElem?_toList]at ho';exact ho'
 have key:∀a' w',y8 F0 I0 nx0 w0 n (λgl t h nx=>xf hs hx n ops pb q [o] gl t h nx λgl t h nx=>Q0 P hs hr n (ku ops (q+1)) (pb (q+1)) gl t h nx K) a' w'->wpOp P ops Q q (wpAny P .any (ku ops (q+1)) Q (ops.size- q- 1) (Array.replicate (ops.size- q- 1) false)) a' w':=λa' w' hp=>by
  obtain⟨gl,t,h,nx,F,I,e,hg,st,at1⟩:=hp;have h2:=K5 ho hX [o] [q] q (by simp[hoq]) e hg st at1 (λe a w=>(e= .normal/\wpAny P .any (ku ops (q+1)) Q (ops.size- q- 1) (Array.replicate (ops.size- q- 1) false) a w)\/(e≠ .normal/\Q e a w)) λa2 w2 hp2=>by obtain⟨gl,t,h,nx,F,I,e,hg,st,at1⟩:=hp2;refine .inl ⟨rfl,?_⟩;have h3:=X8 ho ok e hg st at1 Q hQ w2.drawn;rw[qby,show ops.size- (q+1)=ops.size- q- 1 by omega]at h3;exact h3
  rw[wpOps_cons]at h2;unfold wpOp at h2⊢;rw[hoq]at h2⊢;simp only at h2⊢;have oth:∀(e:Exit) (a:Act) (w:World),e≠ .normal->(e= .normal/\wpAny P .any (ku ops (q+1)) Q (ops.size- q- 1) (Array.replicate (ops.size- q- 1) false) a w)\/(e≠ .normal/\Q e a w)->Q e a w:=λe a w he h=>h.elim (λh=>absurd h.1 he) λh=>h.2;have nrm:∀(a:Act) (w:World),wpOps P ops (λe a w=>(e= .normal/\wpAny P .any (ku ops (q+1)) Q (ops.size- q- 1) (Array.replicate (ops.size- q- 1) false) a w)\/(e≠ .normal/\Q e a w)) [] a w->wpAny P .any (ku ops (q+1)) Q (ops.size- q- 1) (Array.replicate (ops.size- q- 1) false) a w:=λa w h=>by have h:((Exit.normal= .normal)/\wpAny P .any (ku ops (q+1)) Q (ops.size- q- 1) (Array.replicate (ops.size- q- 1) false) a w)\/(Exit.normal≠ .normal/\Q .normal a w):=h;exact h.elim (λh=>h.2) λh=>absurd rfl h.1
  split
  ·rename_i hwt;rw[if_pos hwt]at h2;exact h2.imp (λh=>Am oth (Oper.wp_mono nrm h)) λh=>⟨h.1,h.2.elim λa h=>h.elim λw h=>⟨a,w,oth _ _ _ (by simp) h⟩⟩
  ·rename_i hwt;rw[if_neg hwt]at h2;exact nrm _ _ h2
 have h1:=X8 ho ok e hg0 st at0 (λe a w=>(e= .normal/\wpOp P ops Q q (wpAny P .any (ku ops (q+1)) Q (ops.size- q- 1) (Array.replicate (ops.size- q- 1) false)) a w)\/(e≠ .normal/\Q e a w)) (λa' w' hp=> .inl ⟨rfl,key a' w' hp⟩) (w.drawn+1);rw[hs0]at h1;have:=q9d s (Q:=Q) (λa w h=>h.elim (λh=>h.2) λh=>absurd rfl h.1) (λe a w he h=>h.elim (λh=>absurd h.1 he) λh=>h.2) q (Array.replicate ops.size false) (Array.replicate q false) a _ ⟨by simp,λi hi h=>by simp[Array.getD_eq_getD_getElem?,hi]at h⟩ (λi _ hi d=>by simp[Array.getD_eq_getD_getElem?,hi]) (by simp) (λi hi d=>by have:=s.lt;simp[Array.getD_eq_getD_getElem?,hi,show i<ops.size by omega]) h1;rw[show q+(ops.size- q)=ops.size by have:=s.lt;omega]at this;exact this
def SP:List (Nat×List Nat)->Array Oper->(Array Oper->Prop)->Prop
 | [],ops,K=>K ops
 |x::l,ops,K=>Wp x.1 x.2 ops λo=>SP l o K
def sf{P:IW} {Q:Exit->Act->World->Prop} {a:Act} {w:World}:∀{l:List (Nat×List Nat)} {ops:Array Oper} {K:Array Oper->Prop},SP l ops K->(∀ops',K ops'->vI P ops' Q a w)->vI P ops Q a w
 | [],ops,K,e,h=>h _ e
 |x::l,ops,K,e,h=>Au e λo e=>sf e h
def ti(P:IW) (hs:jF) (hx:jv) (hr:jl) (n:Nat) (ops:Array Oper) (pb:Nat->List Nat) (q f:Nat) (cs:List Nat) (fl:List (Nat×List Nat)) (gl:GL) (t:T AV) (h:T AO) (nx:Nat) (K:KS):Prop:=
 Wp f cs ops λo=>SP fl o λo=>match SU o q f with
  |some (o2,q2)=>Sp P hs hx hr n o2 pb q2 gl t h nx K
  |none=>False
def qcr(hm:P.follows .mixedOrders=true) {hs:jF} {hx:jv} {hr:jl} (ho:vJ P hs) (hX:j9 P hx) (ok:ka P hr) {ops:Array Oper} {pb:Nat->List Nat} {q f:Nat} {cs:List Nat} {fl:List (Nat×List Nat)} {gl:GL} {t:T AV} {h:T AO} {nx:Nat} {K:KS} (e:ti P hs hx hr n ops pb q f cs fl gl t h nx K) {F:Bool->Nat->Prop} {I:In} {a:Act} {w:World} (hg0:GK gl.tab I0) (st:St gl F I t h n a w) (at0:At F0 I0 nx0 w0 F I nx w) (Q:Exit->Act->World->Prop)
  (hQ:∀a' w',y8 F0 I0 nx0 w0 n K a' w'->Q .normal a' w') (id:Nat):(Code.region id ops true).wp P Q a w:=by
 refine q66 hm (Au e λo e=>sf e λo e=> ?_);split at e
 ·rename_i o2 q2 hp;exact qfy hp (qam ho hX ok e hg0 st at0 Q hQ)
 ·exact e.elim
end
end
section
def tB(b:Bool) (K:Prop):Prop:=match b with
 |true=>K
 |false=>False
variable {K:Prop}
def qP{b:Bool} (h:tB b K):b=true/\K:=by cases b<;>first|exact h.elim|exact⟨rfl,h⟩
def eV:Value->Value->Prop->Prop
 | .int k x, .int j y,K=>tB (QM k j) (Ob (x=y)/\K)
 | .bool x, .bool y,K=>Ob (x=y)/\K
 | .string x, .string y,K=>Ob (x=y)/\K
 | .pointer x, .pointer y,K=>Ob (x=y)/\K
 | .slice a n c, .slice b m d,K=>Ob (a=b)/\Ob (n=m)/\Ob (c=d)/\K
 | .map x, .map y,K=>Ob (x=y)/\K
 |v,u,K=>Ob (v=u)/\K
def FT{v u:Value} (h:eV v u K):v=u/\K:=by
 unfold eV at h;split at h
 ·obtain⟨h1,h2,h3⟩:=qP h;rw[Z6 h1,h2];exact⟨rfl,h3⟩
 ·rw[h.1];exact⟨rfl,h.2⟩
 ·rw[h.1];exact⟨rfl,h.2⟩
 ·rw[h.1];exact⟨rfl,h.2⟩
 ·rw[h.1,h.2.1,h.2.2.1];exact⟨rfl,h.2.2.2⟩
 ·rw[h.1];exact⟨rfl,h.2⟩
 ·exact h
def Yt(ρ:Nat->Nat) (a b:AV) (K:Prop):Prop:=match a,b with
  | .sv v, .sv u=>eV v u K
  | .sv v,b=>match u9 b with
    |some u=>eV v u K
    |none=>False
  | .ptr i o, .ptr j p=>tB (Nat.beq (ρ i) j&&Nat.beq o p) K
  | .sptr i o, .sptr j p=>tB (Nat.beq (ρ i) j) (Ob (o=p)/\K)
  | .sptr i o, .ptr j p=>tB (Nat.beq (ρ i) j) (Ob (o=p)/\K)
  | .ssl i o n e k, .ssl j p m f k'=>tB (Nat.beq (ρ i) j&&(Nat.beq o p&&(Nat.beq e f&&Nat.beq (ρ k) k'))) (Ob (n=m)/\K)
  | .ssl i o n e k, .nsl=>tB (Nat.beq (ρ k) 0) (Ob (n=0)/\K)
  | .usl i o n e, .usl j p m f=>tB (Nat.beq (ρ i) j&&(Nat.beq o p&&Nat.beq e f)) (Ob (n=m)/\K)
  | .usl i o n e, .ssl j p m f _=>tB (Nat.beq (ρ i) j&&(Nat.beq o p&&Nat.beq e f)) (Ob (n=m)/\K)
  | .usl _ _ n _, .nsl=>Ob (n=0)/\K
  | .msl i n e, .msl j m f=>tB (Nat.beq (ρ i) j&&Nat.beq e f) (Ob (n=m)/\K)
  | .sl i o n c, .sl j p m d=>tB (Nat.beq (ρ i) j&&(Nat.beq o p&&(Nat.beq n m&&Nat.beq c d))) K
  | .gsl i o n e, .gsl j p m f=>tB (Nat.beq (ρ i) j&&(Nat.beq o p&&(Nat.beq n m&&Nat.beq e f))) K
  | .map i, .map j=>tB (Nat.beq (ρ i) j) K
  | .nsl, .nsl| .nmap, .nmap| .nilf, .nilf| .nili, .nili| .ifo, .ifo=>K
  | a,b=>match u9 a with
    | some v=>match b with
      | .sv u=>eV v u K
      |b=>tB (Yv a b) K
    |none=>False
def q9(nx':Nat) (ρ:Nat->Nat) (I:In):In:=λi=>match Nat.blt i nx' with
 |true=>I (ρ i)
 |false=>none
variable {ρ:Nat->Nat} {I:In}
def jJ{nx':Nat} {i:Nat} {x} (h:q9 nx' ρ I i=some x):i<nx'/\I (ρ i)=some x:=by
 unfold q9 at h;split at h
 ·rename_i hb;exact⟨by simpa[Nat.blt_eq]using hb,h⟩
 ·cases h
def Va(nx':Nat):AV->Bool
 | .ptr i _=>Nat.blt i nx'
 | .sptr i _=>Nat.blt i nx'
 | .ssl i _ _ _ k=>Nat.blt i nx'&&Nat.blt k nx'
 | .msl i _ _=>Nat.blt i nx'
 | .usl i _ _ _=>Nat.blt i nx'
 | .sl i _ _ _=>Nat.blt i nx'
 | .gsl i _ _ _=>Nat.blt i nx'
 | .map i=>Nat.blt i nx'
 |_=>true
def AN(z:I 0=some (0,0,0)) {nx':Nat} {a b:AV} {K:Prop} (h:Yt ρ a b K) (hb:Va nx' a=true):(∀v,VR I b v->VR (q9 nx' ρ I) a v)/\K:=by
 have rn:∀{i:Nat} {x},Nat.blt i nx'=true->I (ρ i)=some x->q9 nx' ρ I i=some x:=λh1 h2=>by unfold q9;rw[h1];exact h2
 unfold Yt at h;split at h
 ·obtain⟨rfl,h2⟩:=FT h;exact⟨λv r=>by cases r;exact .sv _,h2⟩
 ·split at h
  ·rename_i u hu;obtain⟨rfl,h2⟩:=FT h;exact⟨λv r=>by rw[Y1 hu r];exact .sv _,h2⟩
  ·exact h.elim
 ·obtain⟨h1,h2⟩:=qP h;simp only[Bool.and_eq_true]at h1;have e1:=Nat.eq_of_beq_eq_true h1.1;have e2:=Nat.eq_of_beq_eq_true h1.2;subst e1 e2;exact⟨λv r=>by cases r with|ptr hI=>exact .ptr (rn hb hI),h2⟩
 ·obtain⟨h1,h2,h3⟩:=qP h;have e1:=Nat.eq_of_beq_eq_true h1;subst e1;rw[h2];exact⟨λv r=>by cases r with|sptr hI=>exact .sptr (rn hb hI),h3⟩
 ·obtain⟨h1,h2,h3⟩:=qP h;have e1:=Nat.eq_of_beq_eq_true h1;subst e1;rw[h2];exact⟨λv r=>by cases r with|ptr hI=>exact .sptr (rn hb hI),h3⟩
 ·obtain⟨h1,h2,h3⟩:=qP h;simp only[Bool.and_eq_true]at h1;have e1:=Nat.eq_of_beq_eq_true h1.1;have e2:=Nat.eq_of_beq_eq_true h1.2.1;have e3:=Nat.eq_of_beq_eq_true h1.2.2.1;have e4:=Nat.eq_of_beq_eq_true h1.2.2.2;simp only[Va,Bool.and_eq_true]at hb;subst e1 e2 e3 e4;rw[h2];exact⟨λv r=>by
   cases r with
   |ssl hI g1 g2 g3 hk hd=>exact .ssl (rn hb.1 hI) g1 g2 g3 (rn hb.2 hk) hd
   |ssl0 h0 hk hd=>exact .ssl0 h0 (rn hb.2 hk) hd,h3⟩
 ·obtain⟨h1,h2,h3⟩:=qP h;have e1:=Nat.eq_of_beq_eq_true h1;simp only[Va,Bool.and_eq_true]at hb;exact⟨λv r=>by cases r;exact .ssl0 h2 (rn hb.2 (by rw[e1];exact z)) rfl,h3⟩
 ·obtain⟨h1,h2,h3⟩:=qP h;simp only[Bool.and_eq_true]at h1;have e1:=Nat.eq_of_beq_eq_true h1.1;have e2:=Nat.eq_of_beq_eq_true h1.2.1;have e3:=Nat.eq_of_beq_eq_true h1.2.2;subst e1 e2 e3;rw[h2];exact⟨λv r=>by
   cases r with
   |usl hI g1 g2 g3=>exact .usl (rn hb hI) g1 g2 g3
   |usl0 h0=>exact .usl0 h0,h3⟩
 ·obtain⟨h1,h2,h3⟩:=qP h;simp only[Bool.and_eq_true]at h1;have e1:=Nat.eq_of_beq_eq_true h1.1;have e2:=Nat.eq_of_beq_eq_true h1.2.1;have e3:=Nat.eq_of_beq_eq_true h1.2.2;subst e1 e2 e3;rw[h2];exact⟨λv r=>by
   cases r with
   |ssl hI g1 g2 g3 hk hd=>exact .usl (rn hb hI) g1 g2 g3
   |ssl0 h0 hk hd=>exact .usl0 h0,h3⟩
 ·obtain⟨h2,h3⟩:=h;exact⟨λv r=>by cases r;exact .usl0 h2,h3⟩
 ·obtain⟨h1,h2,h3⟩:=qP h;simp only[Bool.and_eq_true]at h1;have e1:=Nat.eq_of_beq_eq_true h1.1;have e2:=Nat.eq_of_beq_eq_true h1.2;subst e1 e2;rw[h2];exact⟨λv r=>by cases r with|msl hI g2 g3=>exact .msl (rn hb hI) g2 g3,h3⟩
 ·obtain⟨h1,h2⟩:=qP h;simp only[Bool.and_eq_true]at h1;have e1:=Nat.eq_of_beq_eq_true h1.1;have e2:=Nat.eq_of_beq_eq_true h1.2.1;have e3:=Nat.eq_of_beq_eq_true h1.2.2.1;have e4:=Nat.eq_of_beq_eq_true h1.2.2.2;subst e1 e2 e3 e4;exact⟨λv r=>by cases r with|sl hI=>exact .sl (rn hb hI),h2⟩
 ·obtain⟨h1,h2⟩:=qP h;simp only[Bool.and_eq_true]at h1;have e1:=Nat.eq_of_beq_eq_true h1.1;have e2:=Nat.eq_of_beq_eq_true h1.2.1;have e3:=Nat.eq_of_beq_eq_true h1.2.2.1;have e4:=Nat.eq_of_beq_eq_true h1.2.2.2;subst e1 e2 e3 e4;exact⟨λv r=>by cases r with|gsl hI g1 g2 g3=>exact .gsl (rn hb hI) g1 g2 g3,h2⟩
 ·obtain⟨h1,h2⟩:=qP h;have e1:=Nat.eq_of_beq_eq_true h1;subst e1;exact⟨λv r=>by cases r with|map hI=>exact .map (rn hb hI),h2⟩
 ·exact⟨λv r=>by cases r;constructor,h⟩
 ·exact⟨λv r=>by cases r;constructor,h⟩
 ·exact⟨λv r=>by cases r;constructor,h⟩
 ·exact⟨λv r=>by cases r;constructor,h⟩
 ·exact⟨λv r=>by cases r;constructor,h⟩
 ·split at h
  ·rename_i u hu;split at h
   ·obtain⟨rfl,h2⟩:=FT h;exact⟨λv r=>by cases r;exact rP hu,h2⟩
   ·obtain⟨h1,h2⟩:=qP h;have e:=AR h1;exact⟨λv r=>by rw[←e]at r;rw[Y1 hu r];exact rP hu,h2⟩
  ·exact h.elim
def KC(ρ:Nat->Nat) (nx':Nat):List AV->List AV->Prop->Prop
 | [],[],K=>K
 |a::l,b::m,K=>tB (Va nx' a) (Yt ρ a b (KC ρ nx' l m K))
 |_,_,_=>False
def Fz{ρ:Nat->Nat} {I:In} (z:I 0=some (0,0,0)) {nx':Nat}:∀{l m:List AV} {K:Prop},KC ρ nx' l m K->(∀vs,VRs I m vs->VRs (q9 nx' ρ I) l vs)/\K
  | [],[],K,h=>⟨λvs r=>by cases r;exact .nil,h⟩
  | a::l,b::m,K,h=>by simp only[KC]at h;obtain⟨h1,h2⟩:=qP h;obtain⟨h3,h4⟩:=AN (I:=I) z h2 h1;obtain⟨h5,h6⟩:=Fz (I:=I) z h4;exact⟨λvs r=>by cases r with|cons r1 r2=>exact .cons (h3 _ r1) (h5 _ r2),h6⟩
  | [],_::_,K,h=>h.elim
  |_::_,[],K,h=>h.elim
def Yu(ρ:Nat->Nat) (nx':Nat) (a b:AV) (K:Prop):Prop:=match a,b with
 | .agg l, .agg m=>KC ρ nx' l m K
 | .ifc t a, .ifc u b=>tB (Nat.beq t u&&Va nx' a) (Yt ρ a b K)
 | .fn f l, .fn g m=>tB (Nat.beq f g) (KC ρ nx' l m K)
 |a,b=>tB (Va nx' a) (Yt ρ a b K)
def AQ(z:I 0=some (0,0,0)) {nx':Nat} {a b:AV} {K:Prop} (h:Yu ρ nx' a b K):(∀v,VR I b v->VR (q9 nx' ρ I) a v)/\K:=by
 unfold Yu at h;split at h
 ·obtain⟨h1,h2⟩:=Fz (I:=I) z h;exact⟨λv r=>by cases r with|agg r=>exact .agg (h1 _ r),h2⟩
 ·obtain⟨h0,hq⟩:=qP h;clear h;simp only[Bool.and_eq_true]at h0;have e1:=Nat.eq_of_beq_eq_true h0.1;subst e1;obtain⟨h1,h2⟩:=AN (I:=I) z hq h0.2;exact⟨λv r=>by cases r with|ifc r=>exact .ifc (h1 _ r),h2⟩
 ·obtain⟨h0,hq⟩:=qP h;clear h;have e1:=Nat.eq_of_beq_eq_true h0;subst e1;obtain⟨h1,h2⟩:=Fz (I:=I) z hq;exact⟨λv r=>by cases r with|fn r=>exact .fn (h1 _ r),h2⟩
 ·obtain⟨h0,h⟩:=qP h;exact AN (I:=I) z h h0
def KD(ρ:Nat->Nat) (nx':Nat):List AV->List AV->Prop->Prop
 | [],[],K=>K
 |a::l,b::m,K=>Yu ρ nx' a b (KD ρ nx' l m K)
 |_,_,_=>False
def Vc{ρ:Nat->Nat} {I:In} (z:I 0=some (0,0,0)) {nx':Nat}:∀{l m:List AV} {K:Prop},KD ρ nx' l m K->(∀vs,VRs I m vs->VRs (q9 nx' ρ I) l vs)/\K
  | [],[],K,h=>⟨λvs r=>by cases r;exact .nil,h⟩
  | a::l,b::m,K,h=>by simp only[KD]at h;obtain⟨h3,h4⟩:=AQ (I:=I) z h;obtain⟨h5,h6⟩:=Vc (I:=I) z h4;exact⟨λvs r=>by cases r with|cons r1 r2=>exact .cons (h3 _ r1) (h5 _ r2),h6⟩
  | [],_::_,K,h=>h.elim
  |_::_,[],K,h=>h.elim
def eA(ρ:Nat->Nat) (nx':Nat) (a b:AV) (K:Prop):Prop:=match a,b with
 | .tup l, .tup m=>KD ρ nx' l m K
 |a,b=>Yu ρ nx' a b K
def tj(z:I 0=some (0,0,0)) {nx':Nat} {a b:AV} {K:Prop} (h:eA ρ nx' a b K):(∀v,VR I b v->VR (q9 nx' ρ I) a v)/\K:=by
 unfold eA at h;split at h
 ·obtain⟨h1,h2⟩:=Vc (I:=I) z h;exact⟨λv r=>by cases r with|tup r=>exact .tup (h1 _ r),h2⟩
 ·exact AQ z h
def eM(ρ:Nat->Nat) (nx':Nat):List (Value×AV×Nat)->List (Value×AV×Nat)->Prop->Prop
 | [],[],K=>K
 | (k,a,n)::l,(j,b,m)::r,K=>tB (Nat.beq n m) (eV k j (Yu ρ nx' a b (eM ρ nx' l r K)))
 |_,_,_=>False
def tn{ρ:Nat->Nat} {I:In} (z:I 0=some (0,0,0)) {nx':Nat}:∀{l m:List (Value×AV×Nat)} {K:Prop},eM ρ nx' l m K->(∀vs,MR I m vs->MR (q9 nx' ρ I) l vs)/\K
  | [],[],K,h=>⟨λvs r=>by cases r;exact .nil,h⟩
  | (k,a,n)::l,(j,b,m)::r,K,h=>by simp only[eM]at h;obtain⟨h1,hq⟩:=qP h;clear h;have e1:=Nat.eq_of_beq_eq_true h1;subst e1;obtain⟨e2,hr⟩:=FT hq;clear hq;subst e2;obtain⟨h3,h4⟩:=AQ (I:=I) z hr;obtain⟨h5,h6⟩:=tn (I:=I) z h4;exact⟨λvs r=>by cases r with|cons r1 r2=>exact .cons (h3 _ r1) (h5 _ r2),h6⟩
  | [],_::_,K,h=>h.elim
  | (_,_,_)::_,[],K,h=>h.elim
def rQ(e:TypeId) (z:Option Nat) (g:Bool) (l:List AV) {m:List AV}:(AO.cells e z g m).rw=(AO.cells e z g l).rw:=by cases z<;>rfl
def pF(f g:Nat) (z:Option Nat):Bool:=match z with
 |some z=>Nat.ble z f
 |none=>false
def qhh{f g:Nat} {z:Option Nat} (h:pF f g z=true):∃y,z=some y/\y<=f:=by
 cases z with
 |none=>cases h
 |some y=>exact⟨y,rfl,Nat.le_of_ble_eq_true h⟩
def Wi:List (Value×AV×Nat)->Option (List MapEntry)
  | []=>some []
  | (k,a,n)::l=>match gv a with
    | some v=>match Wi l with
      |some r=>some (⟨k,v,n⟩::r)
      |none=>none
    |none=>none
def E4{I:In}:∀{l:List (Value×AV×Nat)} {r:List MapEntry},Wi l=some r->∀{ms},MR I l ms->ms=r
  | [],r,h,ms,m=>by cases h;cases m;rfl
  | (k,a,n)::l,r,h,ms,m=>by
    simp only[Wi]at h;split at h;case h_2=>cases h
    rename_i v hv;split at h;case h_2=>cases h
    rename_i r' hr;cases h;cases m with
    |cons h1 h2=>rw[Vf hv h1,E4 hr h2]
def eO(ρ:Nat->Nat) (nx':Nat) (a b:AO) (K:Prop):Prop:=match a,b with
  | .cells e fz g l, .cells e' fz' g' l'=>tB (Nat.beq e e'&&(tL fz fz'&&yx g g')) (KC ρ nx' l l' K)
  | .row e fz vs, .row e' fz' vs'=>tB (Nat.beq e e'&&Nat.ble fz' fz) (Ob (vs=vs')/\K)
  | .row e fz vs, .cells e' fz' g' l'=>tB (Nat.beq e e'&&pF fz 0 fz') (match ua.concs l' with
    |some us=>Ob (vs=us)/\K
    |none=>False)
  | .map es c, .map es' c'=>tB (Nat.beq c c') (eM ρ nx' es es' K)
  | .mrow es c, .mrow es' c'=>Ob (es=es')/\Ob (c=c')/\K
  | .iter m s l c, .iter m' s' l' c'=>tB (Nat.beq (ρ m) m'&&Nat.blt m nx') (Ob (s=s')/\Ob (l=l')/\Ob (c=c')/\K)
  | .mrow es c, .map es' c'=>match Wi es' with
    |some r=>Ob (es=r)/\Ob (c=c')/\K
    |none=>False
  |_,_=>False
def tp (z:I 0=some (0,0,0)) {nx':Nat} {a b:AO} {K:Prop} (h:eO ρ nx' a b K):(∀t ob,OR I t b ob->OR (q9 nx' ρ I) t a ob)/\(a.rw=true->b.rw=true)/\(a.rw=false->b.rw=false)/\K:=by
  unfold eO at h;split at h
  · obtain⟨h1,hq⟩:=qP h;clear h;simp only[Bool.and_eq_true]at h1;obtain⟨e1,e2,e3⟩:=h1;have e1:=Nat.eq_of_beq_eq_true e1;have e2:=qfi e2;rw[qf2]at e3;have e3:=eq_of_beq e3;subst e1 e2 e3;obtain⟨h2,h3⟩:=Fz (I:=I) z hq;exact⟨λt ob r=>by cases r with|cells r1 r2 r3 r4 r5 r6=>exact .cells (h2 _ r1) r2 r3 r4 r5 r6,λh=>(rQ _ _ _ _).trans h,λh=>(rQ _ _ _ _).trans h,h3⟩
  · obtain⟨h1,h2,h3⟩:=qP h;simp only[Bool.and_eq_true]at h1;have e1:=Nat.eq_of_beq_eq_true h1.1;have e2:=Nat.le_of_ble_eq_true h1.2;subst e1;rw[h2];exact⟨λt ob r=>by cases r with|row r1 r2 r3=>exact .row r1 r2 λo ho=>r3 o (by omega),λ_=>rfl,(λh=>by cases h),h3⟩
  · obtain ⟨h1,hq⟩:=qP h;clear h;simp only[Bool.and_eq_true]at h1;have e1:=Nat.eq_of_beq_eq_true h1.1;have h1:=h1.2;split at hq
    · rename_i us hus;obtain⟨z,hz,e2⟩:=qhh h1;subst hz;subst e1;obtain⟨h6,h7⟩:=hq;rw[h6];exact ⟨λt ob r=>by
          cases r with
          | cells r1 r2 r3 r4 r5 r6=>
            rw[YW hus r1]at r4⊢;rcases r6 with rfl|⟨r6,_⟩
            · exact .row r3 r4 λo ho=>r5 z rfl o (by omega)
            · exact absurd r6 (by simp),λ_=>rfl,(λh=>by cases h),h7⟩
    · exact hq.elim
  · obtain⟨h1,hq⟩:=qP h;clear h;have e1:=Nat.eq_of_beq_eq_true h1;subst e1;obtain⟨h2,h3⟩:=tn (I:=I) z hq;exact⟨λt ob r=>by cases r with|map r=>exact .map (h2 _ r),λh=>h,λh=>h,h3⟩
  · obtain⟨h1,h2,h3⟩:=h;rw[h1,h2];exact⟨λt ob r=>by cases r;exact .mrow,λh=>h,λh=>h,h3⟩
  · obtain⟨h0,h1,h2,h3,h4⟩:=qP h;simp only[Bool.and_eq_true]at h0;have e1:=Nat.eq_of_beq_eq_true h0.1;have e2:=h0.2;subst e1;rw[h1,h2,h3];exact⟨λt ob r=>by
      cases r with
      |iter hI hp=>exact .iter (by unfold q9;rw[e2];exact hI) hp,λh=>h,λh=>h,h4⟩
  · split at h;case h_2=>exact h.elim
    rename_i r hr;obtain⟨h1,h2,h3⟩:=h;rw[h1,h2];exact⟨λt ob m=>by
      cases m with
      |map m=>rw[E4 hr m];exact .mrow,λ_=>rfl,(λh=>by cases h),h3⟩
  · exact h.elim
end
section
def q0p{α:Type}:List (Nat×α)->T α->Option (T α)
  | [],t=>some t
  | (k,a)::l,t=>match T.put 64 k (some a) t with
    |some t'=>q0p l t'
    |none=>none
def assoc(i:Nat):List (Nat×Nat)->Option Nat
  | []=>none
  | (a,b)::l=>match Nat.beq a i with
    |true=>some b
    |false=>assoc i l
def y6(nx0:Nat) (l:List (Nat×Nat)) (i:Nat):Nat:=match Nat.blt i nx0 with
  |true=>i
  | false=>match assoc i l with
    |some j=>j
    |none=>Nat.add 1000000000 i
def y9(nx0 i j:Nat) (l:List (Nat×Nat)):List (Nat×Nat):=match Nat.blt i nx0 with
  |true=>l
  | false=>match assoc i l with
    |some _=>l
    |none=>(i,j)::l
def Sm(nx0:Nat) (a b:AV) (l:List (Nat×Nat)):List (Nat×Nat):=match a,b with
 | .ptr i _, .ptr j _=>y9 nx0 i j l
 | .sptr i _, .sptr j _=>y9 nx0 i j l
 | .sptr i _, .ptr j _=>y9 nx0 i j l
 | .ssl i _ _ _ k, .ssl j _ _ _ k'=>y9 nx0 k k' (y9 nx0 i j l)
 | .ssl _ _ _ _ k, .nsl=>y9 nx0 k 0 l
 | .msl i _ _, .msl j _ _=>y9 nx0 i j l
 | .usl i _ _ _, .usl j _ _ _=>y9 nx0 i j l
 | .usl i _ _ _, .ssl j _ _ _ _=>y9 nx0 i j l
 | .sl i _ _ _, .sl j _ _ _=>y9 nx0 i j l
 | .gsl i _ _ _, .gsl j _ _ _=>y9 nx0 i j l
 | .map i, .map j=>y9 nx0 i j l
 |_,_=>l
def FP(nx0:Nat):List AV->List AV->List (Nat×Nat)->List (Nat×Nat)
 |a::x,b::y,l=>FP nx0 x y (Sm nx0 a b l)
 |_,_,l=>l
def Sn(nx0:Nat) (a b:AV) (l:List (Nat×Nat)):List (Nat×Nat):=match a,b with
 | .agg x, .agg y=>FP nx0 x y l
 | .ifc _ a, .ifc _ b=>Sm nx0 a b l
 | .fn _ x, .fn _ y=>FP nx0 x y l
 |a,b=>Sm nx0 a b l
def Vl(nx0:Nat):List AV->List AV->List (Nat×Nat)->List (Nat×Nat)
 |a::x,b::y,l=>Vl nx0 x y (Sn nx0 a b l)
 |_,_,l=>l
def SK(nx0:Nat) (a b:AV) (l:List (Nat×Nat)):List (Nat×Nat):=match a,b with
 | .tup x, .tup y=>Vl nx0 x y l
 |a,b=>Sn nx0 a b l
def F9(nx0:Nat) (t:T AV):List (Nat×AV)->List (Nat×Nat)->List (Nat×Nat)
  | [],l=>l
  | (k,a)::r,l=>match t.get k with
    |some b=>F9 nx0 t r (SK nx0 a b l)
    |none=>F9 nx0 t r l
def tK(nx0:Nat):List (Value×AV×Nat)->List (Value×AV×Nat)->List (Nat×Nat)->List (Nat×Nat)
 | (_,a,_)::x,(_,b,_)::y,l=>tK nx0 x y (Sn nx0 a b l)
 |_,_,l=>l
def wa(nx0:Nat) (h:T AO):List (Nat×AO)->List (Nat×Nat)->List (Nat×Nat)
  | [],l=>l
  | (i,o)::r,l=>match h.get (y6 nx0 l i)with
    | some o2=>match o,o2 with
      | .cells _ _ _ x, .cells _ _ _ y=>wa nx0 h r (FP nx0 x y l)
      | .map x _, .map y _=>wa nx0 h r (tK nx0 x y l)
      |_,_=>wa nx0 h r l
    |none=>wa nx0 h r l
def eT(ρ:Nat->Nat) (nx':Nat) (t:T AV):List (Nat×AV)->Prop->Prop
  | [],K=>K
  | (k,a)::l,K=>match t.get k with
    |some b=>eA ρ nx' a b (eT ρ nx' t l K)
    |none=>False
def tq{ρ:Nat->Nat} {I:In} (z:I 0=some (0,0,0)) {nx':Nat} {t:T AV}:∀{l:List (Nat×AV)} {K:Prop},eT ρ nx' t l K->(∀k a,(k,a)∈l->∃b,t.get k=some b/\∀v,VR I b v->VR (q9 nx' ρ I) a v)/\K
  | [],K,h=>⟨λk a h=>(by cases h),h⟩
  | (k, a)::l,K,h=>by
    simp only[eT]at h;split at h
    · rename_i b hb;obtain⟨h1,h2⟩:=tj (I:=I) z h;obtain⟨h3,h4⟩:=tq (I:=I) z h2;exact⟨λk' a' hm=>by
        cases hm with
        |head=>exact⟨b,hb,h1⟩
        |tail _ hm=>exact h3 k' a' hm,h4⟩
    · exact h.elim
def eH(ρ:Nat->Nat) (nx nx':Nat) (h:T AO):List (Nat×AO)->Prop->Prop
  | [],K=>K
  | (i,o)::l,K=>match h.get (ρ i)with
    |some b=>eO ρ nx' o b (eH ρ nx nx' h l K)
    |none=>tB (Nat.ble nx (ρ i)) (eH ρ nx nx' h l K)
def FS{ρ:Nat->Nat} {I:In} (z:I 0=some (0,0,0)) {nx nx':Nat} {h:T AO} (fr:∀i,nx<=i->I i=none):∀{l:List (Nat×AO)} {K:Prop},eH ρ nx nx' h l K->(∀i o,(i,o)∈l->I (ρ i)=none\/∃b,h.get (ρ i)=some b/\(∀t ob,OR I t b ob->OR (q9 nx' ρ I) t o ob)/\(o.rw=false->b.rw=false)/\(o.rw=true->b.rw=true))/\K
  | [],K,e=>⟨λk a h=>(by cases h),e⟩
  | (i, o)::l,K,e=>by
    simp only[eH]at e;split at e
    · rename_i b hb;obtain⟨h1,h1a,h1b,h2⟩:=tp (I:=I) z e;obtain⟨h3,h4⟩:=FS z fr h2;exact⟨λk' a' hm=>by
        cases hm with
        |head=>exact .inr ⟨b,hb,h1,h1b,h1a⟩
        |tail _ hm=>exact h3 k' a' hm,h4⟩
    · obtain⟨h1,h2⟩:=qP e;obtain⟨h3,h4⟩:=FS z fr h2;exact⟨λk' a' hm=>by
        cases hm with
        |head=>exact .inl (fr _ (Nat.le_of_ble_eq_true h1))
        |tail _ hm=>exact h3 k' a' hm,h4⟩
def Jd(ρ:Nat->Nat):List (Nat×AO)->List Nat->Bool
  | [],_=>true
  | (i,_)::l,acc=>match je (ρ i) acc with
    |true=>false
    |false=>Jd ρ l (ρ i::acc)
def Fg{k:Nat}:∀{l:List Nat},je k l=false->k∉l
  | [],_=>λh=>by cases h
  | a ::l,h=>by
    simp only[je]at h;split at h
    · cases h
    · rename_i hb;intro hm;cases hm with
      |head=>simp at hb
      |tail _ hm=>exact Fg h hm
def Y6{ρ:Nat->Nat}:∀{l:List (Nat×AO)} {acc:List Nat},Jd ρ l acc=true->(∀i o,(i,o)∈l->ρ i∉acc)/\∀i o i' o',(i,o)∈l->(i',o')∈l->ρ i=ρ i'->i=i'
  | [],acc,_=>⟨λi o h=>(by cases h),λi o i' o' h=>(by cases h)⟩
  | (i, o)::l,acc,h=>by
    simp only[Jd]at h;split at h
    · cases h
    · rename_i hn;obtain⟨h1,h2⟩:=Y6 h;refine⟨λj q hm=> ?_,λj q j' q' hm hm' he=> ?_⟩
      · cases hm with
        |head=>exact Fg hn
        |tail _ hm=>exactλhh=>h1 j q hm (List.mem_cons_of_mem _ hh)
      · cases hm with
        | head=>
          cases hm' with
          |head=>rfl
          |tail _ hm'=>exact absurd (by rw[he];exact List.mem_cons_self) (h1 j' q' hm')
        | tail _ hm=>
          cases hm' with
          |head=>exact absurd (by rw[←he];exact List.mem_cons_self) (h1 j q hm)
          |tail _ hm'=>exact h2 j q j' q' hm hm' he
def EB (nx0:Nat) (gl:GL) (t:T AV) (h:T AO) (nx:Nat) (gl0:GL) (mf:PF) (t':T AV) (h':T AO) (nx':Nat) (K:Prop):Prop:=
  match z6 t' with
  | lt => match z6 h' with
    | lh=>match wa nx0 h lh (F9 nx0 t lt [])with
      | r =>match Nat.ble nx0 nx'&&Jd (y6 nx0 r) lh []with
        | true=>eT (y6 nx0 r) nx' t lt (eH (y6 nx0 r) nx nx' h lh (match gl0.triv with
          |true=>x6 gl mf K
          |false=>Ob (∀p,gl.pf p->gl0.pf p)/\x6 gl mf K))
        |false=>False
section
variable {F0:Bool->Nat->Prop} {I0:In} {nx0:Nat} {w0:World} {n:Nat}
def ru{l:List (Nat×Nat)} {i:Nat} (h:i<nx0):y6 nx0 l i=i:=by unfold y6;rw[show Nat.blt i nx0=true by simpa[Nat.blt_eq]using h]
def qhq{gl gl0:GL} {mf:PF} {t t':T AV} {h h':T AO} {nx nx':Nat} {K:Prop} (e:EB nx0 gl t h nx gl0 mf t' h' nx' K) {F:Bool->Nat->Prop} {I:In} {a:Act} {w:World} (st:St gl F I t h n a w) (at0:At F0 I0 nx0 w0 F I nx w) (hg0:GK gl0.tab I0) (h00:∀i,nx0<=i->I0 i=none):
  K/\(∃p,gl0.pf p/\mf.ok p)/\∃I',St (gl0.withP mf) F I' t' h' n a w/\At F0 I0 nx0 w0 F I' nx' w:=by
 unfold EB at e;simp only at e;split at e;case h_2=>exact e.elim
 rename_i hb;rw[Bool.and_eq_true]at hb;obtain⟨hb1,hb2⟩:=hb;have hle:=Nat.le_of_ble_eq_true hb1;generalize hρ:y6 nx0 (wa nx0 h (z6 h') (F9 nx0 t (z6 t') []))=ρ at e hb2;have hlow:∀i,i<nx0->ρ i=i:=λi hi=>by rw[←hρ];exact ru hi
 obtain⟨e1,e⟩:=tq (I:=I) st.gok.z e;obtain⟨e2,e7⟩:=FS st.gok.z at0.fresh e;obtain⟨e3,e5⟩:(∀p,gl.pf p->gl0.pf p)/\x6 gl mf K:=by
  split at e7
  ·rename_i htr;exact⟨λp _=>gl0.all htr p,e7⟩
  ·exact e7
 obtain⟨e6,e4⟩:=Y8 e5;obtain⟨_,inj⟩:=Y6 hb2;refine⟨e4,⟨_,e3 _ st.pf,e6 _ st.pf⟩,q9 nx' ρ I,⟨?_,st.size,st.defers,⟨?_,?_,?_⟩,st.low,?_,st.zf,?_⟩,⟨?_,hle,?_,at0.sup,at0.sub,at0.frm,at0.siz,at0.sam⟩⟩
 ·intro k av hk;obtain⟨b,h1,h2⟩:=e1 k av (jd hk);exact h2 _ (st.tr k b h1)
 ·intro id o b tt h1 h2;obtain⟨h3,h4⟩:=jJ h2;rcases e2 id o (jd h1)with h5|⟨o2,h5,h6,_⟩
  ·rw[h5]at h4;cases h4
  ·obtain⟨ob,h7,h8⟩:=st.sim.obj _ _ _ _ h5 h4;exact⟨ob,h7,h6 _ _ h8⟩
 ·intro id id' o o' b tt tt' h1 h1' h2 h2';obtain⟨h3,h4⟩:=jJ h2;obtain⟨h3',h4'⟩:=jJ h2';rcases e2 id o (jd h1)with h5|⟨o2,h5,h6,_⟩
  ·rw[h5]at h4;cases h4
  rcases e2 id' o' (jd h1')with h5'|⟨o2',h5',h6',_⟩
  ·rw[h5']at h4';cases h4'
  exact inj _ _ _ _ (jd h1) (jd h1') (st.sim.inj _ _ _ _ _ _ _ h5 h5' h4 h4')
 ·intro id o b tt h1 h2 hf;obtain⟨h3,h4⟩:=jJ h2;rcases e2 id o (jd h1)with h5|⟨o2,h5,h6,_,h7⟩
  ·rw[h5]at h4;cases h4
  ·obtain⟨g1,g2⟩:=st.sim.fr _ _ _ _ h5 h4 hf;refine⟨?_,g2⟩;cases hrw:o.rw with
   |false=>rfl
   |true=>rw[h7 hrw]at g1;cases g1
 ·have:I0.le (q9 nx' ρ I):=λi x hi=>by
   have hi0:i<nx0:=by
    rcases Nat.lt_or_ge i nx0 with h|h
    ·exact h
    ·rw[h00 i h]at hi;cases hi
   unfold q9;rw[show Nat.blt i nx'=true by simp[Nat.blt_eq];omega];simp only;rw[hlow i hi0,at0.le i hi0];exact hi
  rw[GL.withP_tab];exact hg0.mono this
 ·exact GL.withP_of (e3 _ st.pf) (e6 _ st.pf)
 ·intro id hid;unfold q9;rw[show Nat.blt id nx'=true by simp[Nat.blt_eq];omega];simp only;rw[hlow id hid,at0.le id hid]
 ·intro i hi;cases hr:q9 nx' ρ I i with
  |none=>rfl
  |some y=>have:=(jJ hr).1;omega
end
end
section
structure LT where
 σ:Type
 pre:σ->Prop:=λ_=>True
 mem:σ->PF:=λ_=>{}
 find:Option (T AV->T AO->Option σ):=none
 t:σ->List (Nat×AV)
 h:σ->List (Nat×AO)
 more:Nat
 μ:σ->Nat
 keep:List Nat:=[]
 del:List Nat:=[]
structure VE where
 unr:Nat:=0
 hs:jF
 hx:jv:=pI
 hr:jl
 n:Nat
 nx0:Nat
 ann:Nat->T AV->T AO->Option LT
 cut:Nat->T AV->T AO->Option LT:=λ_ _ _=>none
 pub:Nat->Nat->List Nat:=λ_ _=>[]
 pubE:List Nat:=[]
 spl:Nat->Option Nat:=λ_=>none
 flo:Nat->Option (Nat×List Nat):=λ_=>none
 flu:Nat->List (Nat×List Nat):=λ_=>[]
def So:List Nat->T AO->Option (T AO)
  | [],h=>some h
  | i::l,h=>match T.put 64 i none h with
    |some h'=>So l h'
    |none=>none
def Z7:Code->Option Nat
  | .region i _ _=>some i
  | .seq a b=>match Z7 a with
    |some i=>some i
    |none=>Z7 b
  | .block _ c=>Z7 c
  | .loop c=>Z7 c
  | .cond _ a b=>match Z7 a with
    |some i=>some i
    |none=>Z7 b
  |_=>none
def cutAt(cut:Nat->T AV->T AO->Option LT) (c:Code) (t:T AV) (h:T AO):Option LT:=match Z7 c with
 |some i=>cut i t h
 |none=>none
def LT.gl(L:LT) (gl:GL) (s:L.σ):GL:=gl.withP (L.mem s)
def LT.mt(L:LT) (nx0:Nat) (t0:T AV) (h0:T AO) (nxh:Nat) (gl0:GL) (gl:GL) (t:T AV) (h:T AO) (nx:Nat) (s:L.σ) (K:Prop):Prop:=match q0p (L.t s) t0 with
  | some t'=>match q0p (L.h s) h0 with
    |some h'=>EB nx0 gl t h nx gl0 (L.mem s) t' h' nxh (Ob (L.pre s)/\K)
    |none=>False
  |none=>False
def LT.mtE(L:LT) (nx0:Nat) (t0:T AV) (h0:T AO) (nxh:Nat) (gl0:GL) (gl:GL) (t:T AV) (h:T AO) (nx:Nat) (K:L.σ->Prop):Prop:=match L.find with
  |none=>∃s,L.mt nx0 t0 h0 nxh gl0 gl t h nx s (K s)
  | some f=>match f t h with
    |some s=>L.mt nx0 t0 h0 nxh gl0 gl t h nx s (K s)
    |none=>False
def LT.mtE_ok{L:LT} {nx0:Nat} {t0:T AV} {h0:T AO} {nxh:Nat} {gl0 gl:GL} {t:T AV} {h:T AO} {nx:Nat} {K:L.σ->Prop} (e:L.mtE nx0 t0 h0 nxh gl0 gl t h nx K):∃s,L.mt nx0 t0 h0 nxh gl0 gl t h nx s (K s):=by
 unfold LT.mtE at e;split at e
 ·exact e
 ·split at e
  ·exact⟨_,e⟩
  ·exact e.elim
def Gk(B:GL->T AV->T AO->Nat->(AX->KS)->Prop) (K:AX->KS):Nat->GL->T AV->T AO->Nat->Prop
  |0,_,_,_,_=>False
  | m+1,gl,t,h,nx=>B gl t h nx λx gl t h nx=>match x with
    | .nrm=>Gk B K m gl t h nx
    | .ex j=>K (.ex j) gl t h nx
    | .rt=>K .rt gl t h nx
def vc (E : VE) (P:IW):Nat->Nat->Code->GL->T AV->T AO->Nat->(AX->KS)->Prop
  |0,_,_,_,_,_,_,_=>False
  | f + 1, bid, c,gl,t,h,nx,K=>match c with
    | .skip=>K .nrm gl t h nx
    | .label _=>K .nrm gl t h nx
    | .exit id=>K (.ex id) gl t h nx
    | .ret=>K .rt gl t h nx
    | .region i ops draw=>match draw with
      |false=>xf E.hs E.hx E.n ops (E.pub i) 0 ops.toList gl t h nx (K .nrm)
      | true=>match E.spl i with
        |none=>Q0 P E.hs E.hr E.n ops (E.pub i 0) gl t h nx (K .nrm)
        | some q=>match E.flo i with
          |none=>Sq P E.hs E.hx E.hr E.n ops (E.pub i) q gl t h nx (K .nrm)
          |some (f,cs)=>ti P E.hs E.hx E.hr E.n ops (E.pub i) q f cs (E.flu i) gl t h nx (K .nrm)
    | .seq a b=>match cutAt E.cut b t h with
      | none=>vc E P f bid a gl t h nx λx gl t h nx=>match x with
        | .nrm=>vc E P f bid b gl t h nx K
        | .ex i=>K (.ex i) gl t h nx
        | .rt=>K .rt gl t h nx
      | some L=>match So L.del h with
        | some hb=>match x0 t L.keep .e with
          | some t0=>(vc E P f bid a gl t h nx λx gl2 t2 h2 nx2=>match x with
              | .nrm=>L.mtE E.nx0 t0 hb (nx+L.more) gl gl2 t2 h2 nx2 λs=>True
              | .ex i=>K (.ex i) gl2 t2 h2 nx2
              | .rt=>K .rt gl2 t2 h2 nx2)/\
            ∀ s :L.σ,Ob (L.pre s)->wb gl (L.mem s) λgl1=>match q0p (L.t s) t0 with
              | some t'=>match q0p (L.h s) hb with
                |some h'=>vc E P f bid b gl1 t' h' (nx+L.more) K
                |none=>False
              |none=>False
          |none=>False
        |none=>False
    | .cond x a b=>match ev t x with
      |some (.bool true)=>vc E P f bid a gl t h nx K
      |some (.bool false)=>vc E P f bid b gl t h nx K
      |some (.sv (.bool c))=>(Ob (c=true)->vc E P f bid a gl t h nx K)/\(Ob (c=false)->vc E P f bid b gl t h nx K)
      |_=>False
    | .block id c=>vc E P f id c gl t h nx λx gl t h nx=>match x with
      | .nrm=>K .nrm gl t h nx
      | .ex j=>match Nat.beq j id with
        |true=>K .nrm gl t h nx
        |false=>K (.ex j) gl t h nx
      | .rt=>K .rt gl t h nx
    | .loop c =>match E.ann bid t h with
      | some L => match So L.del h with
        | some hb =>match x0 t L.keep .e with
          | some t0=>(L.mtE E.nx0 t0 hb (nx+L.more) gl gl t h nx λs=>True)/\
            ∀ s : L.σ,Ob (L.pre s)->wb gl (L.mem s) λgl1=>match q0p (L.t s) t0 with
              | some t'=>match q0p (L.h s) hb with
                | some h'=>vc E P f bid c gl1 t' h' (nx+L.more) λx gl2 t2 h2 nx2=>match x with
                  | .nrm=>L.mtE E.nx0 t0 hb (nx+L.more) gl gl2 t2 h2 nx2 λs'=>Ob (L.μ s'<L.μ s)/\True
                  | .ex j=>K (.ex j) gl2 t2 h2 nx2
                  | .rt=>K .rt gl2 t2 h2 nx2
                |none=>False
              |none=>False
          |none=>False
        |none=>False
      |none=>Gk (vc E P f bid c) K E.unr gl t h nx
    |_=>False
section
variable {P:IW} {E:VE} {F0:Bool->Nat->Prop} {I0:In} {w0:World}
def Sv{L:LT} {t0:T AV} {h0:T AO} {nxh:Nat} {gl0 gl:GL} {t:T AV} {h:T AO} {nx:Nat} {s:L.σ} {K:Prop} (e:L.mt E.nx0 t0 h0 nxh gl0 gl t h nx s K) (hg0:GK gl0.tab I0) (h00:∀i,E.nx0<=i->I0 i=none) {F:Bool->Nat->Prop} {I:In} {a:Act} {w:World} (st:St gl F I t h E.n a w) (at0:At F0 I0 E.nx0 w0 F I nx w):
  L.pre s/\K/\(∃p,gl0.pf p/\(L.mem s).ok p)/\∃t' h' I',q0p (L.t s) t0=some t'/\q0p (L.h s) h0=some h'/\St (L.gl gl0 s) F I' t' h' E.n a w/\At F0 I0 E.nx0 w0 F I' nxh w:=by
 unfold LT.mt at e;split at e
 ·rename_i t' ht;split at e
  ·rename_i h' hh;obtain⟨h1,h2,I',h3,h4⟩:=qhq e st at0 hg0 h00;exact⟨h1.1,h1.2,h2,t',h',I',ht,hh,h3,h4⟩
  ·exact e.elim
 ·exact e.elim
def tI (hm :P.follows .mixedOrders=true) (ho:vJ P E.hs) (hX:j9 P E.hx) (hr:ka P E.hr) (h00:∀i,E.nx0<=i->I0 i=none):∀(f bid:Nat) (c:Code) {gl:GL} {t:T AV} {h:T AO} {nx:Nat} {K:AX->KS},vc E P f bid c gl t h nx K->
    ∀ {F:Bool->Nat->Prop} {I:In} {a:Act} {w:World},GK gl.tab I0->St gl F I t h E.n a w->At F0 I0 E.nx0 w0 F I nx w->∀(Q:Exit->Act->World->Prop),
      (∀x e a' w',x.is e->y8 F0 I0 E.nx0 w0 E.n (K x) a' w'->Q e a' w')->c.wp P Q a w:=by
  intro f;induction f with
  |zero=>intro bid c gl t h nx K e;exact e.elim
  | succ f ih =>
    intro bid c gl t h nx K e F I a w hg st at0 Q hQ;have here:∀x ex,x.is ex->K x gl t h nx->Q ex a w:=λx ex hx hk=>hQ x ex a w hx ⟨gl,t,h,nx,F,I,hk,hg,st,at0⟩;cases c with
    |skip=>exact wp_skip (here .nrm _ trivial e)
    |label l=>exact wp_label (here .nrm _ trivial e)
    |exit id=>exact wp_exit (here (.ex id) _ rfl e)
    |ret=>exact wp_ret (here .rt _ trivial e)
    | region id ops draw=>
      cases draw with
      | false=>
        simp only[vc]at e;refine wp_region (K5 ho hX ops.toList (List.range ops.size) 0 ?_ e hg st at0 Q λa' w' hp=>hQ .nrm .normal a' w' trivial hp);apply List.ext_getElem?;intro i;simp only[List.getElem?_map];by_cases hi:i<ops.size
        · simp[hi]
        · simp[hi]
      | true=>
        simp only[vc]at e;split at e
        · exact qcp hm ho hr e hg st at0 Q (λa' w' hp=>hQ .nrm .normal a' w' trivial hp) id
        · split at e
          · exact qcs hm ho hX hr e hg st at0 Q (λa' w' hp=>hQ .nrm .normal a' w' trivial hp) id
          · exact qcr hm ho hX hr e hg st at0 Q (λa' w' hp=>hQ .nrm .normal a' w' trivial hp) id
    | seq p q=>
      simp only[vc]at e;split at e;case h_2 L hL=>
        split at e;case h_2=>exact e.elim
        rename_i hb hhb;split at e;case h_2=>exact e.elim
        rename_i t0 ht0;obtain⟨e1,eb⟩:=e;refine wp_seq (ih bid p e1 hg st at0 _ λx ex a' w' hx hp=> ?_);obtain⟨gl2,t2,h2,nx2,F2,I2,e2,hg2,st2,at2⟩:=hp;cases x with
        | nrm=>
          cases ex<;>simp only[AX.is]at hx;obtain⟨s,e2⟩:=LT.mtE_ok e2;obtain⟨hpre,_,⟨pp,hp1,hp2⟩,t3,h3,I3,r1,r2,st3,at3⟩:=Sv e2 hg h00 st2 at2;have es:=Z4 (eb s hpre) hp1 hp2;rw[r1]at es;simp only at es;rw[r2]at es;exact ih bid q es (by rw[GL.withP_tab];exact hg) st3 at3 Q hQ
        | ex i=>
          cases ex<;>simp only[AX.is]at hx;exact hQ (.ex i) _ a' w' hx ⟨gl2,t2,h2,nx2,F2,I2,e2,hg2,st2,at2⟩
        | rt=>
          cases ex<;>simp only[AX.is]at hx;exact hQ .rt _ a' w' trivial ⟨gl2,t2,h2,nx2,F2,I2,e2,hg2,st2,at2⟩
      refine wp_seq (ih bid p e hg st at0 _ λx ex a' w' hx hp=> ?_);obtain⟨gl2,t2,h2,nx2,F2,I2,e2,hg2,st2,at2⟩:=hp;cases x with
      | nrm=>
        cases ex<;>simp only[AX.is]at hx;exact ih bid q e2 hg2 st2 at2 Q hQ
      | ex i=>
        cases ex<;>simp only[AX.is]at hx;exact hQ (.ex i) _ a' w' hx ⟨gl2,t2,h2,nx2,F2,I2,e2,hg2,st2,at2⟩
      | rt=>
        cases ex<;>simp only[AX.is]at hx;exact hQ .rt _ a' w' trivial ⟨gl2,t2,h2,nx2,F2,I2,e2,hg2,st2,at2⟩
    | cond x p q=>
      simp only[vc]at e;split at e
      · rename_i hx;refine wp_cond_true ?_ (ih bid p e hg st at0 Q hQ);have:=qj st.tr hx;generalize a.eval x=v at this;cases this;rfl
      · rename_i hx;refine wp_cond_false ?_ (ih bid q e hg st at0 Q hQ);have:=qj st.tr hx;generalize a.eval x=v at this;cases this;rfl
      · rename_i c hx;have:=qj st.tr hx;cases c with
        | true=>
          refine wp_cond_true ?_ (ih bid p (e.1 rfl) hg st at0 Q hQ);generalize a.eval x=v at this;cases this;rfl
        | false=>
          refine wp_cond_false ?_ (ih bid q (e.2 rfl) hg st at0 Q hQ);generalize a.eval x=v at this;cases this;rfl
      · exact e.elim
    | block id c=>
      simp only[vc]at e;refine wp_block (ih id c e hg st at0 _ λx ex a' w' hx hp=> ?_);obtain⟨gl2,t2,h2,nx2,F2,I2,e2,hg2,st2,at2⟩:=hp;cases x with
      | nrm=>
        cases ex<;>simp only[AX.is]at hx;exact hQ .nrm _ a' w' trivial ⟨gl2,t2,h2,nx2,F2,I2,e2,hg2,st2,at2⟩
      | ex i=>
        cases ex<;>simp only[AX.is]at hx;subst hx;simp only at e2;split at e2
        · rename_i hb;have:=Nat.eq_of_beq_eq_true hb;subst this;simp only[Exit.inBlock,if_true];exact hQ .nrm .normal a' w' trivial ⟨gl2,t2,h2,nx2,F2,I2,e2,hg2,st2,at2⟩
        · rename_i hb;have hne:¬i=id:=λh=>(by subst h;simp at hb);simp only[Exit.inBlock,if_neg hne];exact hQ (.ex i) _ a' w' rfl ⟨gl2,t2,h2,nx2,F2,I2,e2,hg2,st2,at2⟩
      | rt=>
        cases ex<;>simp only[AX.is]at hx;exact hQ .rt _ a' w' trivial ⟨gl2,t2,h2,nx2,F2,I2,e2,hg2,st2,at2⟩
    | loop c=>
      simp only[vc]at e;split at e;case h_2=>
        have key:∀m (gl:GL) t h nx F I a w,Gk (vc E P f bid c) K m gl t h nx->GK gl.tab I0->St gl F I t h E.n a w->At F0 I0 E.nx0 w0 F I nx w->Code.rounds P c Q m a w:=by
          intro m;induction m with
          |zero=>intro gl t h nx F I a w e;exact e.elim
          | succ m ihm=>
            intro gl t h nx F I a w e hg st at0;simp only[Gk]at e;rw[rounds_succ];refine ih bid c e hg st at0 _ λx ex a' w' hx hp=> ?_;obtain⟨gl2,t2,h2,nx2,F2,I2,e2,hg2,st2,at2⟩:=hp;cases x with
            | nrm=>
              cases ex<;>simp only[AX.is]at hx;exact ihm gl2 t2 h2 nx2 F2 I2 a' w' e2 hg2 st2 at2
            | ex i=>
              cases ex<;>simp only[AX.is]at hx;exact hQ (.ex i) _ a' w' hx ⟨gl2,t2,h2,nx2,F2,I2,e2,hg2,st2,at2⟩
            | rt=>
              cases ex<;>simp only[AX.is]at hx;exact hQ .rt _ a' w' trivial ⟨gl2,t2,h2,nx2,F2,I2,e2,hg2,st2,at2⟩
        exact wp_loop_rounds _ (key E.unr gl t h nx F I a w e hg st at0)
      rename_i L hL;split at e;case h_2=>exact e.elim
      rename_i hb hhb;split at e;case h_2=>exact e.elim
      rename_i t0 ht0;obtain⟨e0,eb⟩:=e;obtain⟨s0,e0⟩:=LT.mtE_ok e0;obtain⟨hpre0,_,hpp0,t1,h1,I1,q1,q2,st1,at1⟩:=Sv e0 hg h00 st at0;have key:∀m (s:L.σ) t1 h1 F1 I1 a1 w1,L.μ s<m->L.pre s->(∃p,gl.pf p/\(L.mem s).ok p)->q0p (L.t s) t0=some t1->q0p (L.h s) hb=some h1->St (L.gl gl s) F1 I1 t1 h1 E.n a1 w1->At F0 I0 E.nx0 w0 F1 I1 (nx+L.more) w1->Code.rounds P c Q m a1 w1:=by
        intro m;induction m with
        |zero=>intro s t1 h1 F1 I1 a1 w1 hlt;omega
        | succ m ihm=>
          intro s t1 h1 F1 I1 a1 w1 hlt hpre hpp q1 q2 st1 at1;obtain⟨pp,hp1,hp2⟩:=hpp;have es:=Z4 (eb s hpre) hp1 hp2;rw[q1]at es;simp only at es;rw[q2]at es;simp only at es;rw[rounds_succ];refine ih bid c es (by rw[GL.withP_tab];exact hg) st1 at1 _ λx ex a' w' hx hp=> ?_;obtain⟨gl2,t2,h2,nx2,F2,I2,e2,hg2,st2,at2⟩:=hp;cases x with
          | nrm=>
            cases ex<;>simp only[AX.is]at hx;obtain⟨s',e2⟩:=LT.mtE_ok e2;obtain⟨hpre',hmu,hpp',t3,h3,I3,r1,r2,st3,at3⟩:=Sv e2 hg h00 st2 at2;exact ihm s' t3 h3 F2 I3 a' w' (by have:L.μ s'<L.μ s:=hmu.1;omega) hpre' hpp' r1 r2 st3 at3
          | ex i=>
            cases ex<;>simp only[AX.is]at hx;exact hQ (.ex i) _ a' w' hx ⟨gl2,t2,h2,nx2,F2,I2,e2,hg2,st2,at2⟩
          | rt=>
            cases ex<;>simp only[AX.is]at hx;exact hQ .rt _ a' w' trivial ⟨gl2,t2,h2,nx2,F2,I2,e2,hg2,st2,at2⟩
      exact wp_loop_rounds _ (key (L.μ s0+1) s0 t1 h1 F I1 a w (Nat.lt_succ_self _) hpre0 hpp0 q1 q2 st1 at1)
    |_=>simp[vc]at e
end
end
section
structure Sel(σ:Type)where
 β:Type
 f:β->σ
structure Ct where
 σ:Type
 args:σ->List AV
 h:σ->List (Nat×AO)
 m:Nat
 pre:σ->Prop:=λ_=>True
 mem:σ->PF:=λ_=>{}
 find:Option (List AV->T AO->Option σ):=none
 sel:Option (List AV->T AO->Option (Sel σ)):=none
 r:σ->AV
 h':σ->List (Nat×AO)
 m':Nat
 g:σ->GS
def Enters(P:IW) (f:Nat):Prop:=∀args w,(callFunc f args).run P w= .ok (.enter f args) w
def q4p(P:IW) (f:Nat) (C:Ct):Prop:=C.m<=C.m'/\1<=C.m/\Enters P f/\∀s,∃h0 h1,q0p (C.h s) .e=some h0/\q0p (C.h' s) .e=some h1/\
 ∀ (F:Bool->Nat->Prop) (I:In) (w:World) (vs:List Value),VRs I (C.args s) vs->Sim F I h0 w->(∀b,F true b->b<w.heap.size)->(∀b,F false b->F true b)->C.pre s->(C.mem s).ok (q11 F w)->(∀i,C.m<=i->I i=none)->I 0=some (0,0,0)->
  Calls P f ⟨vs⟩ w λe w'=>∃z I',e= .returned z/\VR I' (C.r s) z/\Grow F I C.m w I' C.m' h1 w'/\(C.g s).Φ I' (jK F w I' h1 w')
def Aj(v:SV) (h:Pl v.1):∃y,zp y=v:=by
 obtain⟨a,n,c⟩:=v;cases a with
 |none=>exact q9b n c
 |some x=>obtain⟨b,o,p⟩:=x;exact q9c b o p n c
def IX(k:Nat):List (Nat×SV)->Option SV
  | []=>none
  | (a,b)::l=>match Nat.beq a k with
    |true=>some b
    |false=>IX k l
def Gw(l:List (Nat×SV)) (k:Nat):SV:=match IX k l with
 |some v=>v
 |none=>(none,0,0)
def th(a b:AV) (l:List (Nat×SV)):List (Nat×SV):=match a,b with
 | .tsl k, .sv (.slice a n c)=>(k,(a,n,c))::l
 | .tpt k, .sv (.pointer a)=>(k,(a,0,0))::l
 | .tmap k, .sv (.map m)=>(k,(m.map λb=>⟨b,0,none⟩,0,0))::l
 |_,_=>l
mutual
def SL(a b:AV) (l:List (Nat×SV)):List (Nat×SV):=match a,b with
 | .agg x, .agg y=>colRL x y l
 | .tup x, .tup y=>colRL x y l
 | .ifc _ a, .ifc _ b=>th a b l
 |a,b=>th a b l
def colRL:List AV->List AV->List (Nat×SV)->List (Nat×SV)
 |a::x,b::y,l=>colRL x y (SL a b l)
 |_,_,l=>l
end
mutual
def zF(x:Nat->SV) (ks:List Nat):AV->AV
  | .tsl k=>match je k ks with
    |true=> .sv (.slice (x k).1 (x k).2.1 (x k).2.2)
    |false=> .tsl k
  | .tpt k=>match je k ks with
    |true=> .sv (.pointer (x k).1)
    |false=> .tpt k
  | .tmap k=>match je k ks with
    |true=> .sv (.map (pG (x k).1))
    |false=> .tmap k
  | .ifc t a=> .ifc t (zF x ks a)
  | .agg l=> .agg (openRL x ks l)
  | .tup l=> .tup (openRL x ks l)
  | .fn f l=> .fn f (openRL x ks l)
  | .bfn f l m=> .bfn f (openRL x ks l) (openRL x ks m)
  | .bool b=> .bool b
  | .int k n=> .int k n
  | .str s=> .str s
  | .nilp=> .nilp
  | .ptr a b=> .ptr a b
  | .nsl=> .nsl
  | .sl a b c d=> .sl a b c d
  | .gsl a b c d=> .gsl a b c d
  | .nmap=> .nmap
  | .map a=> .map a
  | .nilf=> .nilf
  | .nili=> .nili
  | .ifo=> .ifo
  | .anyi k=> .anyi k
  | .lin k c l=> .lin k c l
  | .sv v=> .sv v
  | .ssl a b c d k=> .ssl a b c d k
  | .msl a b c=> .msl a b c
  | .usl a b c d=> .usl a b c d
  | .sptr a b=> .sptr a b
def openRL(x:Nat->SV) (ks:List Nat):List AV->List AV
 | []=>[]
 |a::l=>zF x ks a::openRL x ks l
end
section
variable {I J:In} {x:Nat->SV} {ks:List Nat}
mutual
def AM(hk:∀k,k∈ks->∃y,I k=some y/\zp y=x k) (hJ:J.le I):∀(a:AV) (v:Value),VR J (zF x ks a) v->VR I a v
  | .tsl k,v,h=>by
    unfold zF at h;split at h
    · rename_i hm;obtain⟨y,h1,h2⟩:=hk k (y3 hm);cases h;have:=VR.tsl h1;rw[h2]at this;exact this
    · exact h.mono hJ
  | .tpt k,v,h=>by
    unfold zF at h;split at h
    · rename_i hm;obtain⟨y,h1,h2⟩:=hk k (y3 hm);cases h;have:=VR.tpt h1;rw[h2]at this;exact this
    · exact h.mono hJ
  | .tmap k,v,h=>by
    unfold zF at h;split at h
    · rename_i hm;obtain⟨y,h1,h2⟩:=hk k (y3 hm);cases h;have:=VR.tmap h1;rw[h2]at this;exact this
    · exact h.mono hJ
  | .ifc t a,v,h=>by unfold zF at h;cases h with|ifc h=>exact .ifc (AM hk hJ a _ h)
  | .agg l,v,h=>by unfold zF at h;cases h with|agg h=>exact .agg (closeL hk hJ l _ h)
  | .tup l,v,h=>by unfold zF at h;cases h with|tup h=>exact .tup (closeL hk hJ l _ h)
  | .fn f l,v,h=>by unfold zF at h;cases h with|fn h=>exact .fn (closeL hk hJ l _ h)
  | .bfn f l m,v,h=>by unfold zF at h;cases h with|bfn h1 h=>exact .bfn (closeL hk hJ l _ h1) (closeL hk hJ m _ h)
  | .bool b,v,h=>by unfold zF at h;exact h.mono hJ
  | .int k n,v,h=>by unfold zF at h;exact h.mono hJ
  | .str s,v,h=>by unfold zF at h;exact h.mono hJ
  | .nilp,v,h=>by unfold zF at h;exact h.mono hJ
  | .ptr a b,v,h=>by unfold zF at h;exact h.mono hJ
  | .nsl,v,h=>by unfold zF at h;exact h.mono hJ
  | .sl a b c d,v,h=>by unfold zF at h;exact h.mono hJ
  | .gsl a b c d,v,h=>by unfold zF at h;exact h.mono hJ
  | .nmap,v,h=>by unfold zF at h;exact h.mono hJ
  | .map a,v,h=>by unfold zF at h;exact h.mono hJ
  | .nilf,v,h=>by unfold zF at h;exact h.mono hJ
  | .nili,v,h=>by unfold zF at h;exact h.mono hJ
  | .ifo,v,h=>by unfold zF at h;exact h.mono hJ
  | .anyi k,v,h=>by unfold zF at h;exact h.mono hJ
  | .lin k c l,v,h=>by unfold zF at h;exact h.mono hJ
  | .sv u,v,h=>by unfold zF at h;exact h.mono hJ
  | .ssl a b c d k,v,h=>by unfold zF at h;exact h.mono hJ
  | .msl a b c,v,h=>by unfold zF at h;exact h.mono hJ
  | .usl a b c d,v,h=>by unfold zF at h;exact h.mono hJ
  | .sptr a b,v,h=>by unfold zF at h;exact h.mono hJ
def closeL(hk:∀k,k∈ks->∃y,I k=some y/\zp y=x k) (hJ:J.le I):∀(l:List AV) (vs:List Value),VRs J (openRL x ks l) vs->VRs I l vs
  | [],vs,h=>by unfold openRL at h;cases h;exact .nil
  | a::l,vs,h=>by unfold openRL at h;cases h with|cons h1 h2=>exact .cons (AM hk hJ a _ h1) (closeL hk hJ l _ h2)
end
end
def EE(x:Nat->SV):List Nat->Prop->Prop
 | [],K=>K
 |k::l,K=>Ob (Pl (x k).1)/\EE x l K
def s_{x:Nat->SV}:∀{l:List Nat} {K:Prop},EE x l K->(∀k∈l,Pl (x k).1)/\K
  | [],K,h=>⟨λk hk=>(by cases hk),h⟩
  | k ::l,K,h=>by
    obtain⟨h1,h2⟩:=h;obtain⟨h3,h4⟩:=s_ h2;exact⟨λj hj=>by
      cases hj with
      |head=>exact h1
      |tail _ hj=>exact h3 j hj,h4⟩
def S2(nx:Nat):List Nat->List (Nat×Nat)
 | []=>[]
 |k::l=>(k,nx+k)::S2 nx l
def F7(p:Nat->Bool):List Nat->Bool
  | []=>true
  | a::l=>match p a with
    |true=>F7 p l
    |false=>false
def rY{p:Nat->Bool}:∀{l:List Nat},F7 p l=true->∀a∈l,p a=true
  | [],_,a,h=>by cases h
  | b ::l,h,a,hm=>by
    simp only[F7]at h;split at h
    · rename_i hb;cases hm with
      |head=>exact hb
      |tail _ hm=>exact rY h a hm
    · cases h
def FW(ks:List Nat):List (Nat×AO)->Bool
  | []=>true
  | (i,_)::l=>match je i ks with
    |true=>false
    |false=>FW ks l
def rK{ks:List Nat}:∀{l:List (Nat×AO)},FW ks l=true->∀i o,(i,o)∈l->i∉ks
  | [],_,i,o,h=>by cases h
  | (j,q)::l,h,i,o,hm=>by
    simp only[FW]at h;split at h
    · cases h
    · rename_i hn;cases hm with
      |head=>exact Fg hn
      |tail _ hm=>exact rK h i o hm
def Wr(m:Nat) (gl:GL) (r:AV) (h:T AO) (nx:Nat) (r':AV) (lh:List (Nat×AO)) (m':Nat) (ks:List Nat) (x:Nat->SV) (K:Prop):Prop:=
  match wa m h lh (SK m r' r (S2 nx ks))with
  | l=>match Nat.ble m m'&&(Jd (y6 m l) lh []&&(FW ks lh&&F7 (λk=>Nat.ble m k&&(Nat.blt k m'&&Nat.ble nx (y6 m l k))) ks))with
    |true=>eA (y6 m l) m' (zF x ks r') r (eH (y6 m l) nx m' h lh (EE x ks K))
    |false=>False
def Gj(m:Nat) (gl:GL) (r:AV) (h:T AO) (nx:Nat) (r':AV) (lh:List (Nat×AO)) (m':Nat) (g:GS):Prop:=match g with
  |none=>Wr m gl r h nx r' lh m' [] (Gw []) True
  | some d=>match SL r' r []with
    |tk=>∃b:d.β,Wr m gl r h nx r' lh m' d.ks (Gw tk) (Ob (d.pre b)/\x6 gl (d.mem b (d.ks.map (Gw tk))) True)
end
section
variable {t:T AV}
def Ay{m m' nx n:Nat} {gl:GL} {r r' z} {h h1:T AO} {ks:List Nat} {x:Nat->SV} {K:Prop} {F0 F:Bool->Nat->Prop} {I0 I:In} {w0 w:World} {a:Act}
    (e:Wr m gl r h nx r' (z6 h1) m' ks x K) (st:St gl F I t h n a w) (at0:At F0 I0 m w0 F I nx w) (hz:VR I r z) (low:∀b,F0 true b->b<w0.heap.size) (h00:∀i,m<=i->I0 i=none):
    K/\∃I',VR I' r' z/\Grow F0 I0 m w0 I' m' h1 w/\(∀k∈ks,∃y,I' k=some y/\zp y=x k)/\Pub.le (q11 F w) (jK F0 w0 I' h1 w):=by
  unfold Wr at e;simp only at e;split at e;case h_2=>exact e.elim
  rename_i hb;simp only[Bool.and_eq_true]at hb;obtain⟨hb1,hb2,hb4,hb3⟩:=hb;have hle:=Nat.le_of_ble_eq_true hb1;generalize hρ:y6 m (wa m h (z6 h1) (SK m r' r (S2 nx ks)))=ρ at e hb2 hb3;have hlow:∀i,i<m->ρ i=i:=λi hi=>by rw[←hρ];exact ru hi
  obtain⟨e1,e⟩:=tj (I:=I) st.gok.z e;obtain⟨e2,e⟩:=FS st.gok.z at0.fresh e;obtain⟨e3,e4⟩:=s_ e;obtain⟨_,inj⟩:=Y6 hb2;have hks:∀k∈ks,m<=k/\k<m'/\nx<=ρ k:=λk hk=>by have:=rY hb3 k hk;simp only[Bool.and_eq_true]at this;exact⟨Nat.le_of_ble_eq_true this.1,by simpa[Nat.blt_eq]using this.2.1,Nat.le_of_ble_eq_true this.2.2⟩
  have hy:∀k,∃y,k∈ks->zp y=x k:=λk=>by
    by_cases hk:k∈ks
    · obtain⟨y,h⟩:=Aj (x k) (e3 k hk);exact⟨y,λ_=>h⟩
    · exact⟨(0,0,0),λh=>absurd h hk⟩
  obtain⟨yf,hyf⟩:=Classical.axiomOfChoice hy;have hkn:∀k∈ks,q9 m' ρ I k=none:=λk hk=>by
    cases hr:q9 m' ρ I k with
    |none=>rfl
    | some y=>
      have:=(jJ hr).2;rw[at0.fresh _ (hks k hk).2.2]at this;cases this
  let I':In:=λi=>match je i ks with
    |true=>some (yf i)
    |false=>q9 m' ρ I i
  have hI'k:∀k∈ks,I' k=some (yf k):=λk hk=>by
    simp only[I'];cases hm:je k ks with
    |true=>rfl
    |false=>exact absurd hk (Fg hm)
  have hI'n:∀k,k∉ks->I' k=q9 m' ρ I k:=λk hk=>by
    simp only[I'];cases hm:je k ks with
    |true=>exact absurd (y3 hm) hk
    |false=>rfl
  have hJ:(q9 m' ρ I).le I':=λi y hi=>by
    by_cases hk:i∈ks
    · rw[hkn i hk]at hi;cases hi
    · rw[hI'n i hk];exact hi
  have hkk:∀k∈ks,∃y,I' k=some y/\zp y=x k:=λk hk=>⟨_,hI'k k hk,hyf k hk⟩;have blk:∀id o b tt,h1.get id=some o->I' id=some (b,tt)->∃o2,h.get (ρ id)=some o2/\I (ρ id)=some (b,tt)/\(∀t ob,OR I t o2 ob->OR (q9 m' ρ I) t o ob)/\(o.rw=true->o2.rw=true):=λid o b tt hg hi=>by
    have hk:=rK hb4 id o (jd hg);rw[hI'n id hk]at hi;obtain⟨g1,g2⟩:=jJ hi;rcases e2 id o (jd hg)with g3|⟨o2,g3,g4,_,g5⟩
    · rw[g3]at g2;cases g2
    · exact⟨o2,g3,g2,g4,g5⟩
  have sub0:∀b,F false b->F0 true b->F0 false b:=λb hf h0=>by
    rcases at0.sub b hf with h|h
    · exact h
    · exact absurd h0 h
  refine⟨e4,I',AM hkk hJ _ _ (e1 z hz),⟨?_,?_,⟨?_,?_,?_⟩,at0.frm,at0.siz,at0.sam⟩,hkk,?_⟩
  · intro id y hi;have hid:id<m:=by
      rcases Nat.lt_or_ge id m with h|h
      · exact h
      · rw[h00 id h]at hi;cases hi
    have hk:id∉ks:=λhk=>by have:=(hks id hk).1;omega
    rw[hI'n id hk];unfold q9;rw[show Nat.blt id m'=true by simp[Nat.blt_eq];omega];simp only;rw[hlow id hid,at0.le id hid];exact hi
  · intro i y hi;by_cases hk:i∈ks
    · exact .inr ⟨(hks i hk).1,(hks i hk).2.1⟩
    · rw[hI'n i hk]at hi;obtain⟨g1,g2⟩:=jJ hi;rcases Nat.lt_or_ge i m with h|h
      · rw[hlow i h,at0.le i h]at g2;exact .inl g2
      · exact .inr ⟨h,g1⟩
  · intro id o b tt hg hi;obtain⟨o2,g1,g2,g3,_⟩:=blk id o b tt hg hi;obtain⟨ob,k1,k2⟩:=st.sim.obj _ _ _ _ g1 g2;exact⟨ob,k1,(g3 _ _ k2).mono hJ⟩
  · intro id id' o o' b tt tt' hg hg' hi hi';obtain⟨o2,g1,g2,_,_⟩:=blk id o b tt hg hi;obtain⟨o2',g1',g2',_,_⟩:=blk id' o' b tt' hg' hi';exact inj _ _ _ _ (jd hg) (jd hg') (st.sim.inj _ _ _ _ _ _ _ g1 g1' g2 g2')
  · intro id o b tt hg hi hf;obtain⟨o2,g1,g2,_,g5⟩:=blk id o b tt hg hi;obtain⟨k1,k2⟩:=st.sim.fr _ _ _ _ g1 g2 (at0.sup true b hf);refine⟨?_,sub0 b k2 hf⟩;cases hrw:o.rw with
    |false=>rfl
    |true=>rw[g5 hrw]at k1;cases k1
  · intro b ob hb;rw[q03]at hb;rw[yr];refine⟨?_,hb.2⟩;rcases at0.sub b hb.1 with hf|hf
    · exact .inl hf
    · refine .inr ⟨hf,λ⟨id,o,tt,q1,q2,q3⟩=> ?_⟩;obtain⟨o2,g1,g2,_,g5⟩:=blk id o b tt q1 q3;have:=(st.sim.fr _ _ _ _ g1 g2 (st.zf b hb.1)).1;rw[g5 q2]at this;cases this
def qgb{m m' nx n:Nat} {gl:GL} {r r' z} {h h1:T AO} {g:GS} {F0 F:Bool->Nat->Prop} {I0 I:In} {w0 w:World} {a:Act}
  (e:Gj m gl r h nx r' (z6 h1) m' g) (st:St gl F I t h n a w) (at0:At F0 I0 m w0 F I nx w) (hz:VR I r z) (low:∀b,F0 true b->b<w0.heap.size) (h00:∀i,m<=i->I0 i=none):
  ∃I',VR I' r' z/\Grow F0 I0 m w0 I' m' h1 w/\g.Φ I' (jK F0 w0 I' h1 w):=by
 unfold Gj at e;split at e
 ·obtain⟨_,I',h1,h2,_,_⟩:=Ay e st at0 hz low h00;exact⟨I',h1,h2,trivial⟩
 ·rename_i d;simp only at e;obtain⟨b,e⟩:=e;obtain⟨h0,I',h1,h2,h3,h4⟩:=Ay e st at0 hz low h00;refine⟨I',h1,h2,λk hk=>(h3 k hk).imp λy hy=>hy.1,b,h0.1,λx hx=> ?_⟩;have hm:d.ks.map x=d.ks.map (Gw (SL r' r [])):=List.map_congr_left λk hk=>by obtain⟨y,y1,y2⟩:=h3 k hk;rw[hx k y hk y1,y2]
  rw[hm];exact PF.ok_mono h4 ((Y8 h0.2).1 _ st.pf)
end
end
end Go.Proofs.YtniogjgfomaicaaGreat.Sen
