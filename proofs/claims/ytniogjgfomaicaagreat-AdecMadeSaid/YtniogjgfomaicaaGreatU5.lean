/-
  The machine with unknown values: questions reckoned out of the code. No condition but what its theorems ask.
-/
import Derived.Test.YtniogjgfomaicaaGreatU4
namespace Go.Proofs.YtniogjgfomaicaaGreat.Sen
open Go.Proofs.YtniogjgfomaicaaGreat.Eng Go.RowKit
set_option linter.defProp false
set_option linter.unusedVariables false
set_option linter.unusedSimpArgs false
noncomputable section
open AX renaming is->Μ
open In renaming le_refl->Κ,le_trans->Ψ
open _root_.Array renaming getD_eq_getD_getElem?->ε,getElem?_eq_getElem->χ,getElem?_setIfInBounds_ne->Τ,getElem?_setIfInBounds_self_of_lt->Ξ,getElem?_toList->Ν,replicate->κ
open _root_.Bool renaming and_eq_true->η,false->θ,false_eq_true->Θ,not_eq_true'->ω,or_eq_false_iff->qqc,or_eq_true->Ζ,true->ζ
open _root_.Go.Code renaming region->qqd,rounds->qqo
open _root_.Go.Exit renaming inBlock->qql,normal->qqn
open _root_.Go.Region renaming binds->Α,ready->qqk,wanted->Δ
open _root_.List renaming ext_getElem?->qqh,getElem?_append_left->Λ,getElem?_append_right->Ι,getElem?_drop->qqf,getElem?_eq_getElem->qqa,getElem?_eq_none->qqb,getElem?_map->qqi,getElem?_take->qqe,getElem?_toArray->Ο,mem_cons_of_mem->π,mem_cons_self->φ,range'->qqm,range->Ω
open _root_.Nat renaming beq->ι,ble->Ρ,blt->ς,blt_eq->ψ,eq_of_beq_eq_true->γ,le_of_ble_eq_true->υ,le_refl->ν,le_trans->Γ,lt_of_lt_of_le->Ε,lt_or_ge->Η,lt_succ_self->Β,lt_trans->Υ,mod->qqj,zero_le->Χ
open _root_.Option renaming bind_some->qqg,none->ξ,some->δ
section
abbrev Pub:=Nat->Option Obj
def Pub.le(p q:Pub):Prop:=∀b o,p b=δ o->q b=δ o
open Classical in
def W7(F:Bool->Nat->Prop) (w0:World) (own:Nat->Prop) (w:World):Pub:=λb=>if F θ b\/(¬F ζ b/\¬own b)then w.heap[b]? else ξ
def yW{F w0 own w b o}:W7 F w0 own w b=δ o↔(F θ b\/(¬F ζ b/\¬own b))/\w.heap[b]? =δ o:=by
 unfold W7;split
 ·rename_i h;exact⟨λe=>⟨h,e⟩,λe=>e.2⟩
 ·rename_i h;exact⟨λe=>(by cases e),λe=>absurd e.1 h⟩
open Classical in
def q11(F:Bool->Nat->Prop) (w:World):Pub:=λb=>if F θ b then w.heap[b]? else ξ
def q03{F w b o}:q11 F w b=δ o↔F θ b/\w.heap[b]? =δ o:=by
 unfold q11;split
 ·rename_i h;exact⟨λe=>⟨h,e⟩,λe=>e.2⟩
 ·rename_i h;exact⟨λe=>(by cases e),λe=>absurd e.1 h⟩
def Own(h:T AO) (I:In) (b:Nat):Prop:=∃id o t,h.get id=δ o/\o.rw=ζ/\I id=δ (b,t)
abbrev jU(F:Bool->Nat->Prop) (w:World) (h:In) (h':T AO) (u:World):Pub:=W7 F w (Own h' h) u
structure GK(tab:T AV) (I:In):Prop where
 g:Jc tab I
 z:I 0=δ (0,0,0)
def GK.mono{tab:T AV} {I J:In} (u:I.le J) (h:GK tab I):GK tab J:=⟨h.g.mono u,u _ _ h.z⟩
structure PF where
 on:Bool:=θ
 pf:Pub->Prop:=λ_=>True
 mono:∀p q,Pub.le p q->pf p->pf q:=by exactλ_ _ _ h=>h
def PF.ok(f:PF) (p:Pub):Prop:=match f.on with
 |true=>f.pf p
 |false=>True
def PF.ok_mono{f:PF} {p q:Pub} (h:Pub.le p q) (e:f.ok p):f.ok q:=by
 unfold PF.ok at e⊢;split
 ·rename_i u;rw[u]at e;exact f.mono p q h e
 ·trivial
structure GD where
 β:Type
 ks:List Nat
 pre:β->Prop
 mem:β->List SV->PF
def GS:=Option GD
def GS.nil:GS:=ξ
def GS.Φ(g:GS) (I:In) (p:Pub):Prop:=match g with
 |none=>True
 |some d=>(∀k,k∈d.ks->∃y,I k=δ y)/\∃b:d.β,d.pre b/\∀x:Nat->SV,(∀k y,k∈d.ks->I k=δ y->x k=zx y)->(d.mem b (d.ks.map x)).ok p
def GS.mono(g:GS):∀(I J:In) (p q:Pub),I.le J->Pub.le p q->g.Φ I p->g.Φ J q:=λI J p q B hp h=>by
  cases g with
  |none=>trivial
  | some d=>
    refine⟨λk u=> ?_,h.2.imp λb C=>⟨C.1,λx hx=>PF.ok_mono hp (C.2 x λk y u A=>hx k y u (B k y A))⟩⟩;obtain⟨y,A⟩:=h.1 k u;exact⟨y,B k y A⟩
def GS.Triv(g:GS):Prop:=∀I p,g.Φ I p
def GS.triv_nil:GS.nil.Triv:=λ_ _=>trivial
structure GL where
 tab:T AV
 pf:Pub->Prop
 mono:∀p q,Pub.le p q->pf p->pf q
 triv:Bool
 all:triv=ζ->∀p,pf p
variable {gl:GL}
structure St(gl:GL) (F:Bool->Nat->Prop) (I:In) (t:T AV) (h:T AO) (n:Nat) (a:Act) (w:World):Prop where
 tr:TR I t a.tmps
 size:a.tmps.size=n
 defers:a.defers=[]
 sim:Sim F I h w
 low:∀b,F ζ b->b<w.heap.size
 gok:GK gl.tab I
 zf:∀b,F θ b->F ζ b
 pf:gl.pf (q11 F w)
def WD{F w u} (h:∀b,F θ b->u.heap[b]? =w.heap[b]?):q11 F u=q11 F w:=by
 funext b;unfold q11;split
 ·rename_i A;exact h b A
 ·rfl
def wL(gl:GL) (P:Cl) (t:T AV) (h:T AO) (nx:Nat) (o:Oper) (g:GS) (r:AV) (h':T AO) (u:Nat):Prop:=
 nx<=u/\∀(F:Bool->Nat->Prop) (I:In) (n:Nat) (a:Act) (w:World),St gl F I t h n a w->vJ I nx u->∀(K:Act->World->Prop) (Q:Exit->Act->World->Prop),
  (∀z A B,VR A r z->Grow F I nx w A u h' B->g.Φ A (jU F w A h' B)->K (a.put o.dst z) B)->o.wp P a w K Q
def QP(P:Cl) (t:T AV) (o:Oper) (v:AV):Prop:=∀(I:In) (a:Act),TR I t a.tmps->GN P (execOp a.eval o) I v
def RP(gl:GL) (P:Cl) (t:T AV) (h:T AO) (o:Oper) (v:AV):Prop:=∀(F:Bool->Nat->Prop) (I:In) (a:Act) (w:World),TR I t a.tmps->Sim F I h w->gl.pf (q11 F w)->
 ∃z,(execOp a.eval o).run P w= .ok (.value z) w/\VR I v z
def AP(P:Cl) (t:T AV) (nx:Nat) (o:Oper) (v:AV) (ob:AO):Prop:=∀(I:In) (a:Act),TR I t a.tmps->WZ P I (execOp a.eval o) nx v ob
variable {t:T AV} {h:T AO} {nx:Nat} {o:Oper} {v:AV} {g:GS}
def QP.act{P:Cl} (e:QP P t o v) (B:g.Triv):wL gl P t h nx o g v h nx:=by refine⟨ν _,λF I n a w st fr K Q C=> ?_⟩;obtain⟨z,u,A⟩:=e I a st.tr;unfold Oper.wp;rw[u w];exact C z I w A (st.sim.grow nx) (B _ _)
def RP.act{P:Cl} (e:RP gl P t h o v) (B:g.Triv):wL gl P t h nx o g v h nx:=by refine⟨ν _,λF I n a w st fr K Q C=> ?_⟩;obtain⟨z,u,A⟩:=e F I a w st.tr st.sim st.pf;unfold Oper.wp;rw[u];exact C z I w A (st.sim.grow nx) (B _ _)
def AP.act{P:Cl} {h h':T AO} {ob:AO} (e:AP P t nx o v ob) (hp:T.put 64 nx (δ ob) h=δ h') (B:g.Triv):wL gl P t h nx o g v h' (nx+1):=by refine⟨Nat.le_succ _,λF I n a w st fr K Q C=> ?_⟩;obtain⟨z,obj,u,J,g1,g2,g3,g4⟩:=e I a st.tr w;have A:=fr nx (ν _) (Β _);obtain⟨G,H⟩:=g4 (ext I nx (w.heap.size,u)) (Zp _ A) (z6 _ _ _);unfold Oper.wp;rw[g1];exact C z _ J G (st.sim.push A st.low hp g2 H g3) (B _ _)
def KP(gl:GL) (P:Cl) (t:T AV) (h:T AO) (nx:Nat) (o:Oper):Kd->AV->Option AO->GS->T AO->Nat->Prop
 | .q,v,_,g,h',u=>h'=h/\u=nx/\QP P t o v/\g.Triv
 | .r,v,_,g,h',u=>h'=h/\u=nx/\RP gl P t h o v/\g.Triv
 | .a,v,ob,g,h',u=>∃x,ob=δ x/\AP P t nx o v x/\T.put 64 nx (δ x) h=δ h'/\u=nx+1/\ve P o=ζ/\qI o=θ/\g.Triv
 | .s,v,_,g,h',u=>wL gl P t h nx o g v h' u/\qI o=ζ
def KP.act{P:Cl} {t h nx o k v ob g h' B} (C:KP gl P t h nx o k v ob g h' B):wL gl P t h nx o g v h' B:=by
 cases k with
 |q=>obtain⟨rfl,rfl,u,A⟩:=C;exact u.act A
 |r=>obtain⟨rfl,rfl,u,A⟩:=C;exact u.act A
 |a=>obtain⟨x,_,u,A,rfl,_,_,G⟩:=C;exact u.act A G
 |s=>exact C.1
structure Rc where
 o:Oper
 w:Bool
 k:Kd
 t:T AV
 v:AV
 ob:Option AO
 nx:Nat
 h:T AO
 g:GS
def Iq(ops:Array Oper) (o:Oper) (t:T AV) (b:Bool):Prop:=∀(I:In) (a:Act),TR I t a.tmps->Δ o (yielded ops a.tmps)=b
def W0(gl:GL) (P:Cl) (n:Nat) (ops:Array Oper) (c:Rc) (t:T AV) (h:T AO) (nx:Nat) (A:T AV) (h':T AO) (u:Nat):Prop:=
 c.h=h/\c.nx=nx/\Qw t (slotsOf ops c.o) .e=δ c.t/\y4 n c.o.dst c.v t=δ A/\Iq ops c.o c.t c.w/\
  (c.w=ζ->KP gl P c.t h nx c.o c.k c.v c.ob c.g h' u)/\(c.w=θ->c.v=vp/\h'=h/\u=nx/\c.g.Triv)
structure Text(gl:GL) (P:Cl) (n:Nat) (ops:Array Oper) (A:List Nat) (pr:yp) (rs:List Rc) (Tt:Nat->T AV) (H:Nat->T AO) (X:Nat->Nat):Prop where
 hA:yq ops.toList 0 []=δ A
 st:VW P ops A pr=ζ
 len:rs.length=ops.size
 step:∀i o c,ops[i]? =δ o->rs[i]? =δ c->c.o=o/\W0 gl P n ops c (Tt i) (H i) (X i) (Tt (i+1)) (H (i+1)) (X (i+1))
 free:∀i c e,rs[i]? =δ c->c.w=ζ->c.k= .a->e<=i->V5 ops.toList e=ζ->(H e).get c.nx=ξ
 again:∀i c e,rs[i]? =δ c->c.w=ζ->c.k= .r->e<=ops.size->other ops.toList A i e=ζ->RP gl P c.t (H e) c.o c.v
section
variable {P:Cl} {n:Nat} {ops:Array Oper} {A:List Nat} {pr:yp} {rs:List Rc} {Tt:Nat->T AV} {H:Nat->T AO} {X:Nat->Nat}
def Text.rc(x:Text gl P n ops A pr rs Tt H X) {i:Nat} (hi:i<ops.size):∃o c,ops[i]? =δ o/\rs[i]? =δ c/\c.o=o/\W0 gl P n ops c (Tt i) (H i) (X i) (Tt (i+1)) (H (i+1)) (X (i+1)):=by have h:ops[i]? =δ ops[i]:=χ hi;have u:rs[i]? =δ (rs[i]'(by rw[x.len];exact hi)):=qqa _;exact⟨_,_,h,u,x.step i _ _ h u⟩
def Text.xle1(x:Text gl P n ops A pr rs Tt H X) {i:Nat} (hi:i<ops.size):X i<=X (i+1):=by
  obtain⟨o,c,C,G,J,u⟩:=x.rc hi;obtain⟨_,_,_,_,O,hw,hu⟩:=u;cases h:c.w with
  |false=>rw[(hu h).2.2.1];exact ν _
  | true=>
    have:=hw h;cases B:c.k<;>rw[B]at this
    · rw[this.2.1];exact ν _
    · rw[this.2.1];exact ν _
    · obtain⟨y,_,_,_,e,_⟩:=this;rw[e];exact Nat.le_succ _
    · exact this.1.1
def Text.xle(x:Text gl P n ops A pr rs Tt H X) {i j:Nat} (h:i<=j) (B:j<=ops.size):X i<=X j:=by
  induction j with
  | zero => have:i=0:=by omega
            subst this;exact ν _
  | succ j u=>
    by_cases e:i=j+1
    · subst e;exact ν _
    · exact Γ (u (by omega) (by omega)) (x.xle1 (by omega))
def Text.slot(x:Text gl P n ops A pr rs Tt H X):∀i,i<=ops.size->∀τ,(∃j c,j<i/\rs[j]? =δ c/\c.o.dst=δ τ/\(Tt i).get τ=δ c.v)\/((∀j c,j<i->rs[j]? =δ c->c.o.dst≠δ τ)/\(Tt i).get τ=(Tt 0).get τ)
  |0,_,τ=> .inr ⟨λj c h=>by omega,rfl⟩
  | i + 1,hi,τ=>by
    obtain⟨o,c,T,G,U,J⟩:=x.rc (i:=i) (by omega);obtain⟨_,_,_,hp,_⟩:=J;have O:=Text.slot x i (by omega) τ;have other:c.o.dst≠δ τ->(Tt (i+1)).get τ=(Tt i).get τ:=λB=>by
      cases hd:c.o.dst with
      |none=>rw[hd]at hp;simp[y4]at hp;rw[hp]
      | some d=>
        rw[hd]at hp;rw[(Gk hp).2.2 τ,if_neg (λe=>B (by rw[hd,e]))]
    by_cases hd:c.o.dst=δ τ
    · rw[hd]at hp;exact .inl ⟨i,c,Β _,G,hd,by rw[(Gk hp).2.2 τ,if_pos rfl]⟩
    · rcases O with⟨j,cj,C,a2,a3,a4⟩|⟨C,a2⟩
      · exact .inl ⟨j,cj,by omega,a2,a3,by rw[other hd];exact a4⟩
      · refine .inr ⟨λj cj V u=> ?_,by rw[other hd];exact a2⟩;by_cases e:j=i
        · subst e;rw[G]at u;cases u;exact hd
        · exact C j cj (by omega) u
def Text.look(x:Text gl P n ops A pr rs Tt H X) {i:Nat} {o:Oper} {c:Rc} (V:ops[i]? =δ o) (hc:rs[i]? =δ c):
  (∀j cj d,rs[j]? =δ cj->o.dst=δ d->cj.o.dst=δ d->j=i)/\
  (∀j cj τ,τ∈slotsOf ops o->rs[j]? =δ cj->cj.o.dst=δ τ->j=i\/kg A i j=ζ\/kg A j i=ζ)/\
  (qI o=ζ->∀j,j<i->flag qI ops.toList j=ζ\/flag (ve P) ops.toList j=ζ->kg A i j=ζ\/pr=δ (j,i)):=by
 have O:i<ops.toList.length:=by have:=(Array.getElem?_eq_some_iff.1 V).1;simpa using this
 have h:=yk x.st i O;have hn:nth ops.toList i=δ o:=by rw[ke];simpa using V
 simp only[hn,η]at h;obtain⟨⟨U,Z⟩,J⟩:=h;have dst:∀j cj τ,rs[j]? =δ cj->cj.o.dst=δ τ->j<ops.toList.length/\GU ops.toList j=δ τ:=λj cj τ C hd=>by
  have G:j<ops.size:=by have:=(List.getElem?_eq_some_iff.1 C).1;rw[x.len]at this;exact this
  obtain⟨oj,Y,g1,g2,g3,_⟩:=x.rc G;rw[C]at g2;cases g2;refine⟨by simpa using G,?_⟩;unfold GU;have:nth ops.toList j=δ oj:=by rw[ke];simpa using g1
  rw[this];simp only;rw[←g3];exact hd
 refine⟨λj cj d C hd B=> ?_,λj cj τ hτ C B=> ?_,λhs j T u=> ?_⟩
 ·rw[hd]at U;obtain⟨g1,g2⟩:=dst j cj d C B;have:=yk U j g1;rw[g2]at this;simp only[Y8,Ζ,ω]at this;rcases this with h|h
  ·exact(γ h).symm
  ·simp at h
 ·obtain⟨g1,g2⟩:=dst j cj τ C B;have:=yk (List.all_eq_true.1 Z τ hτ) j g1;rw[g2]at this;simp only[Y8,Ζ,ω]at this;rcases this with((h|h)|h)|h
  ·exact .inl (γ h).symm
  ·simp at h
  ·exact .inr (.inl h)
  ·exact .inr (.inr h)
 ·rw[hs]at J;simp only[Bool.not_true,Bool.false_or]at J;have:=yk J j T;simp only[Ζ,ω,qqc]at this;rcases this with(h|h)|h
  ·rcases u with u|u
   ·rw[h.1]at u;cases u
   ·rw[h.2]at u;cases u
  ·exact .inl h
  ·exact .inr (qfe h)
def Qs{f:Oper->Bool} {i:Nat} {o:Oper} (h:ops[i]? =δ o):flag f ops.toList i=f o:=by
 have:nth ops.toList i=δ o:=by rw[ke];simpa using h
 unfold flag;rw[this]
def Text.reach(x:Text gl P n ops A pr rs Tt H X) {e:Nat}:∀m,e<=m->m<=ops.size->(∀s,e<=s->s<m->flag qI ops.toList s=θ)->∀id o,(H m).get id=δ o->
    (∃j c,rs[j]? =δ c/\e<=j/\j<m/\c.w=ζ/\c.k= .a/\c.nx=id/\c.ob=δ o)\/(H e).get id=δ o:=by
  intro m;induction m with
  | zero => intro Y _ _ id o h;have:e=0:=by omega
            subst this;exact .inr h
  | succ m O=>
    intro Y h2 U id o h;by_cases G:e=m+1
    · subst G;exact .inr h
    · obtain⟨op,c,g1,g2,g3,g4⟩:=x.rc (i:=m) (by omega);have O:=O (by omega) (by omega) λs a b=>U s a (by omega);have lift:(H m).get id=δ o->(∃j c,rs[j]? =δ c/\e<=j/\j<m+1/\c.w=ζ/\c.k= .a/\c.nx=id/\c.ob=δ o)\/(H e).get id=δ o:=λh=>by
        rcases O id o h with⟨j,cj,V,a2,a3,a4⟩|a
        · exact .inl ⟨j,cj,V,a2,by omega,a4⟩
        · exact .inr a
      obtain⟨_,J,_,_,_,hw,hu⟩:=g4;cases u:c.w with
      |false=>rw[(hu u).2.1]at h;exact lift h
      | true=>
        have C:=hw u;cases B:c.k<;>rw[B]at C
        · rw[C.1]at h;exact lift h
        · rw[C.1]at h;exact lift h
        · obtain⟨y,Z,_,k3,_,_,_,_⟩:=C;rw[T.get_put _ _ _ _ _ k3]at h;split at h
          · rename_i hid;cases h;exact .inl ⟨m,c,g2,by omega,Β _,u,B,by rw[J,hid],Z⟩
          · exact lift h
        · have hS:=C.2;have:=U m (by omega) (Β _);rw[Qs g1,←g3,hS]at this;cases this
end
end
section
variable {gl:GL}
def RR(rs:List Rc) (H:Nat->T AO) (e:Nat) (L:Nat->Prop) (id:Nat) (o:AO):Prop:=
 (∃j c,rs[j]? =δ c/\e<=j/\L j/\c.w=ζ/\c.k= .a/\c.nx=id/\c.ob=δ o)\/(H e).get id=δ o
def JW(rs:List Rc) (H:Nat->T AO) (e:Nat) (L:Nat->Prop) (I:In) (b:Nat):Prop:=
 (∃id o t,RR rs H e L id o/\o.rw=ζ/\I id=δ (b,t))\/∃j c t,rs[j]? =δ c/\e<=j/\L j/\c.w=ζ/\c.k= .a/\I c.nx=δ (b,t)
structure Inv(gl:GL) (P:Cl) (F:Bool->Nat->Prop) (n:Nat) (ops:Array Oper) (rs:List Rc) (T0:T AV) (H:Nat->T AO) (X:Nat->Nat) (I0:In) (w0:World) (e:Nat) (L:Nat->Prop) (I:In) (a:Act) (w:World):Prop where
 eN:e<=ops.size
 ep:V5 ops.toList e=ζ
 e1:∀s,s<e->flag qI ops.toList s=ζ->L s
 e2:∀s,e<=s->flag qI ops.toList s=ζ->¬L s
 e3:∀j,j<e->flag (ve P) ops.toList j=ζ->L j
 cl:VK ops L
 lN:∀i,L i->i<ops.size
 sz:a.tmps.size=n
 df:a.defers=[]
 s1:∀i c τ,rs[i]? =δ c->L i->c.o.dst=δ τ->VR I c.v (slot a.tmps τ)
 s2:∀τ b,(∀i c,rs[i]? =δ c->c.o.dst=δ τ->¬L i)->T0.get τ=δ b->VR I b (slot a.tmps τ)
 obj:∀id o b t,RR rs H e L id o->I id=δ (b,t)->∃ob,w.heap[b]? =δ ob/\OR I t o ob
 inj:∀id id' o o' b t t',RR rs H e L id o->RR rs H e L id' o'->I id=δ (b,t)->I id'=δ (b,t')->id=id'
 fr:∀id o b t,RR rs H e L id o->I id=δ (b,t)->F ζ b->o.rw=θ/\F θ b
 ex:∀j c,rs[j]? =δ c->L j->c.w=ζ->c.k= .a->∃x,I c.nx=δ x
 exf:∀j c b t,rs[j]? =δ c->e<=j->L j->c.w=ζ->c.k= .a->I c.nx=δ (b,t)->¬F ζ b
 dom:∀id x,I id=δ x->I0 id=δ x\/∃j,L j/\X j<=id/\id<X (j+1)
 le:I0.le I
 frm:∀b,F ζ b->w.heap[b]? =w0.heap[b]?
 siz:w0.heap.size<=w.heap.size
 sam:Same w0 w
 gh:∀j c,rs[j]? =δ c->L j->c.g.Φ I (W7 F w0 (JW rs H e L I) w)
structure SInv(n:Nat) (ops:Array Oper) (rs:List Rc) (T0:T AV) (L:Nat->Prop) (I:In) (a:Act):Prop where
 cl:VK ops L
 lN:∀i,L i->i<ops.size
 sz:a.tmps.size=n
 df:a.defers=[]
 s1:∀i c τ,rs[i]? =δ c->L i->c.o.dst=δ τ->VR I c.v (slot a.tmps τ)
 s2:∀τ b,(∀i c,rs[i]? =δ c->c.o.dst=δ τ->¬L i)->T0.get τ=δ b->VR I b (slot a.tmps τ)
def Inv.slots{P:Cl} {F n ops rs T0 H X I0 w0 e L I a w} (v:Inv gl P F n ops rs T0 H X I0 w0 e L I a w):SInv n ops rs T0 L I a:=⟨v.cl,v.lN,v.sz,v.df,v.s1,v.s2⟩
section
variable {P:Cl} {n:Nat} {ops:Array Oper} {A:List Nat} {pr:yp} {rs:List Rc} {Tt:Nat->T AV} {H:Nat->T AO} {X:Nat->Nat} {F:Bool->Nat->Prop} {I0:In} {w0:World} {e:Nat} {L:Nat->Prop} {I:In} {a:Act} {w:World}
def Inv.doneX(v:Inv gl P F n ops rs (Tt 0) H X I0 w0 e L I a w) (x:Text gl P n ops A pr rs Tt H X) (B:vJ I0 (X 0) (X ops.size)) {i id:Nat} {y:Nat×Nat×Nat} (hi:i<ops.size) (J:X i<=id) (O:id<X (i+1)) (h:I id=δ y):L i:=by
 rcases v.dom id y h with C|⟨j,G,C,U⟩
 ·have:=B id (Γ (x.xle (Χ _) (by omega)) J) (Ε O (x.xle (by omega) (ν _)));rw[this]at C;cases C
 ·have T:=v.lN j G;rcases Nat.lt_trichotomy i j with u|u|u
  ·have:=x.xle (i:=i+1) (j:=j) (by omega) (by omega);omega
  ·subst u;exact G
  ·have:=x.xle (i:=j+1) (j:=i) (by omega) (by omega);omega
def Inv.simAt(v:Inv gl P F n ops rs (Tt 0) H X I0 w0 e L I a w) (x:Text gl P n ops A pr rs Tt H X) (u:vJ I0 (X 0) (X ops.size)) {m:Nat} (G:e<=m) (J:m<=ops.size) (O:∀s,e<=s->s<m->flag qI ops.toList s=θ) {id:Nat} {o:AO} {y} (h:(H m).get id=δ o) (T:I id=δ y):RR rs H e L id o:=by
 rcases x.reach m G J O id o h with⟨j,c,g1,g2,g3,g4,g5,g6,g7⟩|g
 ·refine .inl ⟨j,c,g1,g2,?_,g4,g5,g6,g7⟩;obtain⟨oj,cj,Z,C,k3,V⟩:=x.rc (i:=j) (by omega);rw[g1]at C;cases C;obtain⟨_,U,_,_,_,hw,_⟩:=V;have B:=hw g4;rw[g5]at B;obtain⟨_,_,_,_,Y,_⟩:=B;exact v.doneX x u (by omega) (by omega) (by omega) T
 ·exact .inr g
def Inv.sim(v:Inv gl P F n ops rs (Tt 0) H X I0 w0 e L I a w) (x:Text gl P n ops A pr rs Tt H X) (h:vJ I0 (X 0) (X ops.size)) {m:Nat} (C:e<=m) (G:m<=ops.size) (J:∀s,e<=s->s<m->flag qI ops.toList s=θ):Sim F I (H m) w:=
  ⟨λid o b t g u=>v.obj id o b t (v.simAt x h C G J g u) u,
   λid O o U b t V g T u B=>v.inj id O o U b t V (v.simAt x h C G J g u) (v.simAt x h C G J T B) u B,
   λid o b t g u=>v.fr id o b t (v.simAt x h C G J g u) u⟩
def SInv.tr(v:SInv n ops rs (Tt 0) L I a) (x:Text gl P n ops A pr rs Tt H X) {i:Nat} {o:Oper} {c:Rc} (G:ops[i]? =δ o) (hc:rs[i]? =δ c) (hL:¬L i) (hr:∀e∈o.after,Α .any e=ζ->L e.on):TR I c.t a.tmps:=by
 obtain⟨V,Y⟩:=x.step i o c G hc;obtain⟨_,_,B,_⟩:=Y;obtain⟨_,l2,_⟩:=x.look G hc;have hi:i<ops.size:=(Array.getElem?_eq_some_iff.1 G).1;intro τ b U;rcases Ij B τ b U with h|⟨J,O⟩
 ·rw[T.get_e]at h;cases h
 ·rw [V]at J;have later:∀j cj,rs[j]? =δ cj->cj.o.dst=δ τ->L j->j<i:=λj cj C hd u=>by
   rcases l2 j cj τ J C hd with h|h|h
   ·subst h;exact absurd u hL
   ·exact IN x.hA h
   ·obtain⟨oj,_,k1,_⟩:=x.rc (v.lN j u);exact absurd (Vz x.hA v.cl k1 (λe he U=>v.cl j oj k1 u e he U) h) hL
  rcases x.slot i (by omega) τ with⟨j,cj,Z,a2,a3,a4⟩|⟨Z,a2⟩
  ·rw[O]at a4;cases a4;rcases l2 j cj τ J a2 a3 with h|h|h
   ·omega
   ·exact v.s1 j cj τ a2 (Vz x.hA v.cl G hr h) a3
   ·have:=IN x.hA h;omega
  ·rw[a2]at O;exact v.s2 τ b (λj cj C hd u=>Z j cj (later j cj C hd u) C hd) O
def SInv.put(v:SInv n ops rs (Tt 0) L I a) (x:Text gl P n ops A pr rs Tt H X) {i:Nat} {o:Oper} {c:Rc} (ho:ops[i]? =δ o) (J:rs[i]? =δ c) (hL:¬L i) {V:In} (hle:I.le V) {z:Value} (hz:VR V c.v z):
    (a.put o.dst z).tmps.size=n/\(a.put o.dst z).defers=[]/\
    (∀j cj τ,rs[j]? =δ cj->L j\/j=i->cj.o.dst=δ τ->VR V cj.v (slot (a.put o.dst z).tmps τ))/\
    (∀τ b,(∀j cj,rs[j]? =δ cj->cj.o.dst=δ τ->¬(L j\/j=i))->(Tt 0).get τ=δ b->VR V b (slot (a.put o.dst z).tmps τ)):=by
  obtain⟨G,Y⟩:=x.step i o c ho J;obtain⟨_,_,_,hp,_⟩:=Y;obtain⟨l1,_,_⟩:=x.look ho J;rw[G]at hp;refine⟨by rw[Act.put_size];exact v.sz,by cases o.dst<;>exact v.df,λj cj τ C u hd=> ?_,fun τ b O hb=> ?_⟩
  · cases B:o.dst with
    | none=>
      rcases u with u|rfl
      · exact(v.s1 j cj τ C u hd).mono hle
      · rw[J]at C;cases C;rw[G,B]at hd;cases hd
    | some d=>
      rw[B]at hp;obtain⟨Z,p2,_⟩:=Gk hp;rw[q8j v.sz Z p2];by_cases T:τ=d
      · subst T;rw[if_pos rfl];have:=l1 j cj τ C B hd;subst this;rw[J]at C;cases C;exact hz
      · rw[if_neg T];rcases u with u|rfl
        · exact(v.s1 j cj τ C u hd).mono hle
        · rw[J]at C;cases C;rw[G,B]at hd;cases hd;exact absurd rfl T
  · have U:VR I b (Eng.slot a.tmps τ):=v.s2 τ b (λj cj C hd u=>O j cj C hd (.inl u)) hb;cases B:o.dst with
    |none=>exact U.mono hle
    | some d=>
      rw[B]at hp;obtain⟨Z,p2,_⟩:=Gk hp;rw[q8j v.sz Z p2];have T:τ≠d:=λh=>O i c J (by rw[G,B,h]) (.inr rfl);rw[if_neg T];exact U.mono hle
def VA(h:VK ops L) {i:Nat} {o:Oper} (B:ops[i]? =δ o) (hr:∀e∈o.after,Α .any e=ζ->L e.on):VK ops λj=>L j\/j=i:=λj C u hL e he A=>by
 rcases hL with hL|rfl
 ·exact .inl (h j C u hL e he A)
 ·rw[B]at u;cases u;exact .inl (hr e he A)
end
end
section
variable {gl:GL}
def q6j(l:List Oper):∀i,JR l i<=i/\∀s,JR l i<=s->s<i->flag qI l s=θ
  |0=>⟨ν _,λs _ h=>by omega⟩
  | i +1=>by
    simp only[JR];split
    · exact⟨ν _,λs A u=>by omega⟩
    · rename_i C;obtain⟨A,u⟩:=q6j l i;refine⟨by omega,λs B G=> ?_⟩;by_cases e:s=i
      · subst e;exact C
      · exact u s B (by omega)
section
variable {P:Cl} {n:Nat} {ops:Array Oper} {A:List Nat} {pr:yp} {rs:List Rc} {Tt:Nat->T AV} {H:Nat->T AO} {X:Nat->Nat} {F:Bool->Nat->Prop} {I0:In} {w0:World} {e:Nat} {L:Nat->Prop} {I:In} {a:Act} {w:World}
def Inv.stay(v:Inv gl P F n ops rs (Tt 0) H X I0 w0 e L I a w) (x:Text gl P n ops A pr rs Tt H X) {i:Nat} {o:Oper} {c:Rc} (ho:ops[i]? =δ o) (J:rs[i]? =δ c) (hL:¬L i) (hr:∀e∈o.after,Α .any e=ζ->L e.on) (hS:flag qI ops.toList i=θ) (V:¬(c.w=ζ/\c.k= .a)) (hg:c.g.Triv) {z:Value} (hz:VR I c.v z):
  Inv gl P F n ops rs (Tt 0) H X I0 w0 e (λj=>L j\/j=i) I (a.put o.dst z) w:=by
 obtain⟨p1,p2,p3,p4⟩:=v.slots.put x ho J hL (Κ I) hz;have sub:∀id o,RR rs H e (λj=>L j\/j=i) id o->RR rs H e L id o:=λid o h=>by
  rcases h with⟨j,cj,Y,a2,a3,a4,a5,a6⟩|h
  ·rcases a3 with a3|rfl
   ·exact .inl ⟨j,cj,Y,a2,a3,a4,a5,a6⟩
   ·rw[J]at Y;cases Y;exact absurd ⟨a4,a5⟩ V
  ·exact .inr h
 exact {
  eN:=v.eN,ep:=v.ep,e1:=λs u B=> .inl (v.e1 s u B)
  e2:=λs u B C=>by
   rcases C with C|rfl
   ·exact v.e2 s u B C
   ·rw[hS]at B;cases B
  e3:=λj u B=> .inl (v.e3 j u B)
  cl:=VA v.cl ho hr
  lN:=λj h=>h.elim (v.lN j) λh=>by subst h;exact(Array.getElem?_eq_some_iff.1 ho).1
  sz:=p1,df:=p2,s1:=λj cj τ u B C=>p3 j cj τ u B C,s2:=p4
  obj:=λid o b t h=>v.obj id o b t (sub _ _ h)
  inj:=λid id' o o' b t t' h h'=>v.inj id id' o o' b t t' (sub _ _ h) (sub _ _ h')
  fr:=λid o b t h=>v.fr id o b t (sub _ _ h)
  ex:=λj cj u B C G=>by
   rcases B with B|rfl
   ·exact v.ex j cj u B C G
   ·rw[J]at u;cases u;exact absurd ⟨C,G⟩ V
  exf:=λj cj b t u B C G U h6=>by
   rcases C with C|rfl
   ·exact v.exf j cj b t u B C G U h6
   ·rw[J]at u;cases u;exact absurd ⟨G,U⟩ V
  dom:=λid y h=>(v.dom id y h).imp (λh=>h) λ⟨j,u,B⟩=>⟨j, .inl u,B⟩
  le:=v.le,frm:=v.frm,siz:=v.siz,sam:=v.sam
  gh := λj cj u B=>by
   rcases B with B|rfl
   ·refine cj.g.mono _ _ _ _ (Κ I) (λb ob Z=> ?_) (v.gh j cj u B);rw[yW]at Z⊢;refine⟨Z.1.imp (λh=>h) λ⟨C,G⟩=>⟨C,λU=>G ?_⟩,Z.2⟩;rcases U with⟨id,o',t,O,q2,T⟩|⟨k,ck,t,O,q2,T,q4,q5,q6⟩
    ·exact .inl ⟨id,o',t,sub _ _ O,q2,T⟩
    ·rcases T with T|rfl
     ·exact .inr ⟨k,ck,t,O,q2,T,q4,q5,q6⟩
     ·rw[J]at O;cases O;exact absurd ⟨q4,q5⟩ V
   ·rw[J]at u;cases u;exact hg _ _}
def Inv.make(v:Inv gl P F n ops rs (Tt 0) H X I0 w0 e L I a w) (x:Text gl P n ops A pr rs Tt H X) (fr0:vJ I0 (X 0) (X ops.size)) (low:∀b,F ζ b->b<w0.heap.size) {i:Nat} {o:Oper} {c:Rc} (ho:ops[i]? =δ o) (hc:rs[i]? =δ c) (hL:¬L i) (hr:∀e∈o.after,Α .any e=ζ->L e.on) (hS:flag qI ops.toList i=θ) (hw:c.w=ζ) (hk:c.k= .a) {ob:AO} (hob:c.ob=δ ob) (hg:c.g.Triv) (hA:ve P o=ζ) (hX:X (i+1)=X i+1) (Y:c.nx=X i)
  {z:Value} {obj:Obj} {U:Nat×Nat} {w':World} (O:w'.heap=w.heap.push obj) (hsame:Same w w') (hz:VR (ext I (X i) (w.heap.size,U)) c.v z) (hor:OR (ext I (X i) (w.heap.size,U)) U ob obj) (V:I (X i)=ξ):
  Inv gl P F n ops rs (Tt 0) H X I0 w0 e (λj=>L j\/j=i) (ext I (X i) (w.heap.size,U)) (a.put o.dst z) w':=by
 have hle:=Zp (w.heap.size,U) V;obtain⟨p1,p2,p3,p4⟩:=v.slots.put x ho hc hL hle hz;have hei:e<=i:=by
  rcases Η i e with h|h
  ·exact absurd (v.e3 i h (by rw[Qs ho];exact hA)) hL
  ·exact h
 have old:∀b,b<w.heap.size->w'.heap[b]? =w.heap[b]? :=λb hb=>by rw[O,Array.getElem?_push,if_neg (by omega)]
 have C:∀id y,id≠X i->ext I (X i) (w.heap.size,U) id=δ y->I id=δ y:=λid y hne h=>by simpa[ext,hne]using h
 have part:∀id J,RR rs H e (λj=>L j\/j=i) id J->(id≠X i/\RR rs H e L id J)\/(id=X i/\J=ob):=λid J h=>by
  rcases h with⟨j,cj,a1,a2,a3,a4,a5,a6,a7⟩|h
  ·rcases a3 with a3|rfl
   ·refine .inl ⟨λhe=> ?_, .inl ⟨j,cj,a1,a2,a3,a4,a5,a6,a7⟩⟩;obtain⟨y,hy⟩:=v.ex j cj a1 a3 a4 a5;rw[a6,he,V]at hy;cases hy
   ·rw[hc]at a1;cases a1;rw[hob]at a7;cases a7;exact .inr ⟨by rw[←a6,Y],rfl⟩
  ·refine .inl ⟨λhe=> ?_, .inr h⟩;have:=x.free i c e hc hw hk hei v.ep;rw[Y,←he,h]at this;cases this
 have Z:∀id J b t,RR rs H e L id J->I id=δ (b,t)->b<w.heap.size:=λid J b t h G=>by obtain⟨ob',u,_⟩:=v.obj id J b t h G;exact(Array.getElem?_eq_some_iff.1 u).1
 exact {
  eN:=v.eN,ep:=v.ep,e1:=λs u B=> .inl (v.e1 s u B)
  e2:=λs u B T=>by
   rcases T with T|rfl
   ·exact v.e2 s u B T
   ·rw[hS]at B;cases B
  e3:=λj u B=> .inl (v.e3 j u B)
  cl:=VA v.cl ho hr
  lN:=λj h=>h.elim (v.lN j) λh=>by subst h;exact(Array.getElem?_eq_some_iff.1 ho).1
  sz:=p1,df:=p2,s1:=λj cj τ u B T=>p3 j cj τ u B T,s2:=p4
  obj :=λid J b t h G=>by
   rcases part id J h with⟨u,B⟩|⟨rfl,rfl⟩
   ·have G:=C id _ u G;obtain⟨ob',g1,g2⟩:=v.obj id J b t B G;exact⟨ob',(old b (Z _ _ _ _ B G)).trans g1,g2.mono hle⟩
   ·rw[z6]at G;cases G;exact⟨obj,by rw[O];simp,hor⟩
  inj :=λid id' o1 o2 b t t' h h' G hI'=>by
   rcases part id o1 h with⟨u,B⟩|⟨rfl,rfl⟩<;>rcases part id' o2 h' with⟨h1',h2'⟩|⟨e2,e3⟩
   ·exact v.inj id id' o1 o2 b t t' B h2' (C _ _ u G) (C _ _ h1' hI')
   ·subst e2;rw[z6]at hI';cases hI';have:=Z _ _ _ _ B (C _ _ u G);omega
   ·rw[z6]at G;cases G;have:=Z _ _ _ _ h2' (C _ _ h1' hI');omega
   ·exact e2.symm
  fr:=λid J b t h G hf=>by
   rcases part id J h with⟨u,B⟩|⟨rfl,rfl⟩
   ·exact v.fr id J b t B (C _ _ u G) hf
   ·rw[z6]at G;cases G;have:=low _ hf;have:=v.siz;omega
  ex:=λj cj u B T h4=>by
   rcases B with B|rfl
   ·obtain⟨y,hy⟩:=v.ex j cj u B T h4;exact⟨y,hle _ _ hy⟩
   ·rw[hc]at u;cases u;exact⟨_,by rw[Y];exact z6 _ _ _⟩
  exf :=λj cj b t u B T h4 h5 h6 hf=>by
   rcases T with T|rfl
   ·obtain⟨y,hy⟩:=v.ex j cj u T h4 h5;have:=hle _ _ hy;rw[h6]at this;cases this;exact v.exf j cj b t u B T h4 h5 hy hf
   ·rw[hc]at u;cases u;rw[Y,z6]at h6;cases h6;have:=low _ hf;have:=v.siz;omega
  dom:=λid y h=>by
   by_cases hid:id=X i
   ·exact .inr ⟨i, .inr rfl,by omega,by omega⟩
   ·exact(v.dom id y (C id y hid h)).imp (λh=>h) λ⟨j,u,B⟩=>⟨j, .inl u,B⟩
  le:=Ψ v.le hle
  frm:=λb hb=>(old b (by have:=low b hb;have:=v.siz;omega)).trans (v.frm b hb)
  siz:=by rw[O];have:=v.siz;simp;omega
  sam:=v.sam.trans hsame
  gh := λj cj u B=>by
   rcases B with B|rfl
   ·refine cj.g.mono _ _ _ _ hle (λb ob' hb=> ?_) (v.gh j cj u B);rw[yW]at hb⊢;have hbl:=(Array.getElem?_eq_some_iff.1 hb.2).1;refine⟨hb.1.imp (λh=>h) λ⟨T,h4⟩=>⟨T,λh5=>h4 ?_⟩,by rw[old b hbl];exact hb.2⟩;rcases h5 with⟨id,J,t,q1,q2,q3⟩|⟨k,ck,t,q1,q2,q3,q4,q5,q6⟩
    ·rcases part id J q1 with⟨r1,r2⟩|⟨rfl,rfl⟩
     ·exact .inl ⟨id,J,t,r2,q2,C id _ r1 q3⟩
     ·rw[z6]at q3;cases q3;omega
    ·rcases q3 with q3|rfl
     ·obtain⟨y,hy⟩:=v.ex k ck q1 q3 q4 q5;have:=hle _ _ hy;rw[q6]at this;cases this;exact .inr ⟨k,ck,t,q1,q2,q3,q4,q5,hy⟩
     ·rw[hc]at q1;cases q1;rw[Y,z6]at q6;cases q6;omega
   ·rw[hc]at u;cases u;exact hg _ _}
end
end
section
variable {gl:GL}
section
variable {P:Cl} {n:Nat} {ops:Array Oper} {A:List Nat} {pr:yp} {rs:List Rc} {Tt:Nat->T AV} {H:Nat->T AO} {X:Nat->Nat} {F:Bool->Nat->Prop} {I0:In} {w0:World} {e:Nat} {L:Nat->Prop} {I:In} {a:Act} {w:World}
def NP(F:Bool->Nat->Prop) (rs:List Rc) (H:Nat->T AO) (e:Nat) (L:Nat->Prop) (I:In) (w0 w:World) (b:Nat):Prop:=¬F ζ b/\b<w.heap.size/\¬JW rs H e L I b
def WY(F:Bool->Nat->Prop) (rs:List Rc) (H:Nat->T AO) (e i:Nat) (L:Nat->Prop) (I:In) (w0 w:World):Bool->Nat->Prop
 |true,b=>F ζ b\/(∃j c t,rs[j]? =δ c/\i<j/\L j/\c.w=ζ/\c.k= .a/\I c.nx=δ (b,t))\/NP F rs H e L I w0 w b
 |false,b=>F θ b\/NP F rs H e L I w0 w b
def Inv.turn (v:Inv gl P F n ops rs (Tt 0) H X I0 w0 e L I a w) (x:Text gl P n ops A pr rs Tt H X) (fr0:vJ I0 (X 0) (X ops.size)) (low:∀b,F ζ b->b<w0.heap.size) (zf:∀b,F θ b->F ζ b) {i:Nat} {o:Oper} {c:Rc} (ho:ops[i]? =δ o) (hc:rs[i]? =δ c) (hL:¬L i) (hr:∀e∈o.after,Α .any e=ζ->L e.on) (hS:flag qI ops.toList i=ζ) (hpr:∀p,pr=δ (p,i)->L p):
  e<=i/\Sim (WY F rs H e i L I w0 w) I (H i) w/\(∀b,WY F rs H e i L I w0 w ζ b->b<w.heap.size)/\vJ I (X i) (X (i+1))/\
  ∀z I' w',VR I' c.v z->Grow (WY F rs H e i L I w0 w) I (X i) w I' (X (i+1)) (H (i+1)) w'->c.g.Φ I' (jU (WY F rs H e i L I w0 w) w I' (H (i+1)) w')->Inv gl P F n ops rs (Tt 0) H X I0 w0 (i+1) (λj=>L j\/j=i) I' (a.put o.dst z) w':=by
 obtain⟨hco,hst⟩:=x.step i o c ho hc;obtain⟨_,hnx,_,_,_,hkw,_⟩:=hst;obtain⟨_,_,l3⟩:=x.look ho hc;have hi:i<ops.size:=(Array.getElem?_eq_some_iff.1 ho).1;have hso:qI o=true:=by rw[Qs ho]at hS;exact hS
 have ahead:∀j,j<i->flag qI ops.toList j=ζ\/flag (ve P) ops.toList j=ζ->L j:=λj u B=>(l3 hso j u B).elim (Vz x.hA v.cl ho hr) (hpr j);have hei:e<=i:=by
  rcases Η i e with h|h
  ·exact absurd (v.e1 i h hS) hL
  ·exact h
 have Y:∀s,e<=s->s<i->flag qI ops.toList s=false:=λs u B=>by
  cases hf:flag qI ops.toList s with
  |false=>rfl
  |true=>exact absurd (ahead s B (.inl hf)) (v.e2 s u hf)
 have apart:∀j cj t b id T y,rs[j]? =δ cj->i<j->L j->cj.w=ζ->cj.k= .a->I cj.nx=δ (b,t)->(H i).get id=δ T->I id=δ (b,y)->False:=by
  intro j cj t b id T y u B C V Z h6 h7 h8;obtain⟨oj,cj',g1,g2,g3,g4⟩:=x.rc (v.lN j C);rw[u]at g2;cases g2;obtain⟨_,gnx,_,_,_,gw,_⟩:=g4;have gk:=gw V;rw[Z]at gk;obtain⟨xx,gob,_,_,gX,_⟩:=gk;have hid:id=cj.nx:=v.inj id cj.nx T xx b y t (v.simAt x fr0 hei (by omega) Y h7 h8) (.inl ⟨j,cj,u,by omega,C,V,Z,rfl,gob⟩) h8 h6;subst hid;rcases x.reach i hei (by omega) Y _ _ h7 with⟨j',c',G,O,U,q4,q5,q6,q7⟩|h9
  ·obtain⟨oj',cj2,r1,r2,r3,r4⟩:=x.rc (i:=j') (by omega);rw[G]at r2;cases r2;obtain⟨_,rnx,_,_,_,rw',_⟩:=r4;have rk:=rw' q4;rw[q5]at rk;obtain⟨_,_,_,_,rX,_⟩:=rk;have:=x.xle (i:=j'+1) (j:=j) (by omega) (by have:=v.lN j C;omega);omega
  ·have:=x.free j cj e u V Z (by omega:e<=j) v.ep;rw[this]at h9;cases h9
 refine⟨hei,?_,?_,?_,?_⟩
 ·have s:=v.sim x fr0 hei (by omega) Y;refine⟨s.obj,s.inj,λid T b t u B hf=> ?_⟩;rcases hf with hf|⟨j,cj,t',G,O,U,q4,q5,q6⟩|hf
  ·exact(s.fr id T b t u B hf).imp (λh=>h) .inl
  ·exact(apart j cj t' b id T t G O U q4 q5 q6 u B).elim
  ·refine⟨?_, .inr hf⟩;cases hrw:T.rw with
   |false=>rfl
   |true=>exact absurd (.inl ⟨id,T,t,v.simAt x fr0 hei (by omega) Y u B,hrw,B⟩) hf.2.2
 ·intro b J;rcases J with J|⟨j,cj,t',G,O,U,q4,q5,q6⟩|J
  ·have:=low b J;have:=v.siz;omega
  rotate_left
  ·exact J.2.1
  ·obtain⟨oj,cj',g1,g2,g3,g4⟩:=x.rc (v.lN j U);rw[G]at g2;cases g2;obtain⟨_,gnx,_,_,_,gw,_⟩:=g4;have gk:=gw q4;rw[q5]at gk;obtain⟨xx,gob,_⟩:=gk;obtain⟨ob',k1,_⟩:=v.obj _ _ _ _ (.inl ⟨j,cj,G,by omega,U,q4,q5,rfl,gob⟩) q6;exact(Array.getElem?_eq_some_iff.1 k1).1
 ·intro id u B;cases hI:I id with
  |none=>rfl
  |some y=>exact absurd (v.doneX x fr0 hi u B hI) hL
 ·intro z I' w' hz g hgi;obtain⟨p1,p2,p3,p4⟩:=v.slots.put x ho hc hL g.le hz;have stays:∀j cj b t,rs[j]? =δ cj->i+1<=j->L j\/j=i->cj.w=ζ->cj.k= .a->I' cj.nx=δ (b,t)->L j/\I cj.nx=δ (b,t)/\WY F rs H e i L I w0 w ζ b:=by
   intro j cj b t u B C V Z h6;have C:L j:=by
    rcases C with C|C
    ·exact C
    ·omega
   obtain⟨y,hy⟩:=v.ex j cj u C V Z;have:=g.le _ _ hy;rw[h6]at this;cases this;exact⟨C,hy, .inr (.inl ⟨j,cj,t,u,by omega,C,V,Z,hy⟩)⟩
  have ahd:∀j cj T,rs[j]? =δ cj->i+1<=j->L j->cj.w=ζ->cj.k= .a->cj.ob=δ T->RR rs H e L cj.nx T:=λj cj T u B C V Z h6=> .inl ⟨j,cj,u,by omega,C,V,Z,rfl,h6⟩;have noF:∀j cj b t,rs[j]? =δ cj->i+1<=j->L j->cj.w=ζ->cj.k= .a->I cj.nx=δ (b,t)->¬F ζ b:=λj cj b t u B C V Z h6=>v.exf j cj b t u (by omega) C V Z h6;exact {
   eN:=by omega
   ep:=by simp only[V5];exact hS
   e1:=λs u B=>by
    by_cases es:s=i
    ·exact .inr es
    ·exact .inl (ahead s (by omega) (.inl B))
   e2:=λs u B C=>by
    rcases C with C|C
    ·exact v.e2 s (by omega) B C
    ·omega
   e3:=λj u B=>by
    by_cases es:j=i
    ·exact .inr es
    ·exact .inl (ahead j (by omega) (.inr B))
   cl:=VA v.cl ho hr
   lN:=λj h=>h.elim (v.lN j) λh=>by subst h;exact hi
   sz:=p1,df:=p2,s1:=λj cj τ u B C=>p3 j cj τ u B C,s2:=p4
   obj :=λid T b t h hI=>by
    rcases h with⟨j,cj,a1,a2,a3,a4,a5,a6,a7⟩|h
    ·subst a6;obtain⟨G,O,U⟩:=stays j cj b t a1 a2 a3 a4 a5 hI;obtain⟨ob',k1,k2⟩:=v.obj _ _ _ _ (ahd j cj T a1 a2 G a4 a5 a7) O;exact⟨ob',(g.fr b U).trans k1,k2.mono g.le⟩
    ·exact g.sim.obj id T b t h hI
   inj :=λid id' o1 o2 b t t' h h' hI hI'=>by
    rcases h with⟨j,cj,a1,a2,a3,a4,a5,a6,a7⟩|h<;>rcases h' with⟨j',cj',b1,b2,b3,b4,b5,b6,b7⟩|h'
    ·subst a6 b6;obtain⟨G,O,_⟩:=stays j cj b t a1 a2 a3 a4 a5 hI;obtain⟨q1',q2',_⟩:=stays j' cj' b t' b1 b2 b3 b4 b5 hI';exact v.inj _ _ o1 o2 b t t' (ahd j cj o1 a1 a2 G a4 a5 a7) (ahd j' cj' o2 b1 b2 q1' b4 b5 b7) O q2'
    ·subst a6;obtain⟨G,O,U⟩:=stays j cj b t a1 a2 a3 a4 a5 hI;rcases(g.sim.fr id' o2 b t' h' hI' U).2 with this|this
     ·exact absurd (zf b this) (noF j cj b t a1 a2 G a4 a5 O)
     ·exact absurd (.inr ⟨j,cj,t,a1,by omega,G,a4,a5,O⟩) this.2.2
    ·subst b6;obtain⟨q1',q2',q3'⟩:=stays j' cj' b t' b1 b2 b3 b4 b5 hI';rcases(g.sim.fr id o1 b t h hI q3').2 with this|this
     ·exact absurd (zf b this) (noF j' cj' b t' b1 b2 q1' b4 b5 q2')
     ·exact absurd (.inr ⟨j',cj',t',b1,by omega,q1',b4,b5,q2'⟩) this.2.2
    ·exact g.sim.inj id id' o1 o2 b t t' h h' hI hI'
   fr:=λid T b t h hI hf=>by
    rcases h with⟨j,cj,a1,a2,a3,a4,a5,a6,a7⟩|h
    ·subst a6;obtain⟨G,O,U⟩:=stays j cj b t a1 a2 a3 a4 a5 hI;exact absurd hf (noF j cj b t a1 a2 G a4 a5 O)
    ·obtain⟨u,B⟩:=g.sim.fr id T b t h hI (.inl hf);refine⟨u,B.elim (λh=>h) λh=> ?_⟩;exact absurd hf h.1
   ex:=λj cj u B C V=>by
    rcases B with B|rfl
    ·obtain⟨y,hy⟩:=v.ex j cj u B C V;exact⟨y,g.le _ _ hy⟩
    ·rw[hc]at u;cases u;have:=hkw C;rw[V]at this;obtain⟨_,_,_,_,_,_,hns,_⟩:=this;rw[hco,hso]at hns;cases hns
   exf:=λj cj b t u B C V Z h6=>by obtain⟨G,O,U⟩:=stays j cj b t u B C V Z h6;exact noF j cj b t u B G V Z O
   dom:=λid y h=>by
    rcases g.new id y h with h|h
    ·exact(v.dom id y h).imp (λh=>h) λ⟨j,u,B⟩=>⟨j, .inl u,B⟩
    ·exact .inr ⟨i, .inr rfl,h⟩
   le:=Ψ v.le g.le
   frm:=λb J=>(g.fr b (.inl J)).trans (v.frm b J)
   siz:=Γ v.siz g.size
   sam:=v.sam.trans g.same
   gh := by
    have pubs:∀b,NP F rs H e L I w0 w b->¬JW rs H (i+1) (λj=>L j\/j=i) I' b:=λb J Z=>by
     rcases Z with⟨id,T,t,G,O,U⟩|⟨k,ck,t,G,O,U,q4,q5,q6⟩
     ·rcases G with⟨j,cj,a1,a2,a3,a4,a5,a6,a7⟩|h
      ·subst a6;obtain⟨r1,r2,r3⟩:=stays j cj b t a1 a2 a3 a4 a5 U;exact J.2.2 (.inr ⟨j,cj,t,a1,by omega,r1,a4,a5,r2⟩)
      ·have:=(g.sim.fr id T b t h U (.inr (.inr J))).1;rw[O]at this;cases this
     ·obtain⟨r1,r2,r3⟩:=stays k ck b t G O U q4 q5 q6;exact J.2.2 (.inr ⟨k,ck,t,G,by omega,r1,q4,q5,r2⟩)
    intro j cj u B;by_cases hj:j=i
    ·rw [hj,hc]at u;cases u;refine c.g.mono _ _ _ _ (Κ I') (λb ob J=> ?_) hgi;rw[yW]at J⊢;refine⟨?_,J.2⟩;rcases J.1 with(h|h)|⟨C,V⟩
     ·exact .inl h
     ·exact .inr ⟨h.1,pubs b h⟩
     ·refine .inr ⟨λhf=>C (.inl hf),λZ=> ?_⟩;rcases Z with⟨id,T,t,G,O,U⟩|⟨k,ck,t,G,O,U,q4,q5,q6⟩
      ·rcases G with⟨k,ck,a1,a2,a3,a4,a5,a6,a7⟩|h
       ·subst a6;exact C (stays k ck b t a1 a2 a3 a4 a5 U).2.2
       ·exact V ⟨id,T,t,h,O,U⟩
      ·exact C (stays k ck b t G O U q4 q5 q6).2.2
    ·have B:L j:=B.elim (λh=>h) λh=>absurd h hj;refine cj.g.mono _ _ _ _ g.le (λb ob J=> ?_) (v.gh j cj u B);rw[yW]at J⊢;have hbl:=(Array.getElem?_eq_some_iff.1 J.2).1;rcases J.1 with h|⟨C,V⟩
     ·exact⟨.inl h,by rw[g.fr b (.inl (zf b h))];exact J.2⟩
     ·have hnp:NP F rs H e L I w0 w b:=⟨C,hbl,V⟩;exact⟨.inr ⟨C,pubs b hnp⟩,by rw[g.fr b (.inr (.inr hnp))];exact J.2⟩}
end
end
section
variable {gl:GL}
structure PairOK(gl:GL) (P:Cl) (ops:Array Oper) (A:List Nat) (pr:yp) (rs:List Rc) (H:Nat->T AO) (X:Nat->Nat) (p q:Nat) (ci cj:Rc) (B:T AO):Prop where
 pr:pr=δ (p,q)
 lt:p<q
 hq:q<ops.size
 ei:rs[p]? =δ ci
 ej:rs[q]? =δ cj
 wi:ci.w=ζ
 wj:cj.w=ζ
 gi:ci.g=ξ
 gj:cj.g=ξ
 Si:flag qI ops.toList p=ζ
 Sj:flag qI ops.toList q=ζ
 aq:wL gl P cj.t (H p) (X q) cj.o ξ cj.v B (X q)
 ap:wL gl P ci.t B (X p) ci.o ξ ci.v (H (q+1)) (X p)
 anc:∀k,k<ops.size->k≠p->k≠q->(flag qI ops.toList k=ζ\/flag (ve P) ops.toList k=ζ\/flag Qn ops.toList k=ζ)->kg A p k=ζ/\kg A q k=ζ
 red:∀(k:Nat) (c:Rc),rs[k]? =δ c->c.w=ζ->c.k= .r->Qn c.o=ζ
structure Inv2(gl:GL) (P:Cl) (F:Bool->Nat->Prop) (n:Nat) (ops:Array Oper) (rs:List Rc) (T0:T AV) (X:Nat->Nat) (I0:In) (w0:World) (p:Nat) (B:T AO) (L:Nat->Prop) (I:In) (a:Act) (w:World):Prop where
 np:¬L p
 all:∀k,k<ops.size->k≠p->(flag qI ops.toList k=ζ\/flag (ve P) ops.toList k=ζ\/flag Qn ops.toList k=ζ)->L k
 sl:SInv n ops rs T0 L I a
 sim:Sim F I B w
 ex:∀j c,rs[j]? =δ c->L j->c.w=ζ->c.k= .a->∃x,I c.nx=δ x
 dom:∀id x,I id=δ x->I0 id=δ x\/∃j,L j/\X j<=id/\id<X (j+1)
 le:I0.le I
 frm:∀b,F ζ b->w.heap[b]? =w0.heap[b]?
 siz:w0.heap.size<=w.heap.size
 sam:Same w0 w
 gh:∀j c,rs[j]? =δ c->L j->c.g.Φ I (W7 F w0 (Own B I) w)
def R6(F:Bool->Nat->Prop) (O:Nat->Prop) (w:World) (b:Nat):Prop:=¬F ζ b/\b<w.heap.size/\¬O b
def Zc(F:Bool->Nat->Prop) (O:Nat->Prop) (w:World):Bool->Nat->Prop:=λs b=>F s b\/R6 F O w b
section
variable {P:Cl} {n:Nat} {ops:Array Oper} {A:List Nat} {pr:yp} {rs:List Rc} {Tt:Nat->T AV} {H:Nat->T AO} {X:Nat->Nat} {F:Bool->Nat->Prop} {I0:In} {w0:World} {e:Nat} {L:Nat->Prop} {I:In} {a:Act} {w:World} {p q:Nat} {ci cj:Rc} {B:T AO}
def I7(x:Text gl P n ops A pr rs Tt H X) {j:Nat} {c:Rc} (u:rs[j]? =δ c) (hw:c.w=ζ) (C:c.k= .a):j<ops.size/\flag (ve P) ops.toList j=true:=by
 have B:j<ops.size:=by have:=(List.getElem?_eq_some_iff.1 u).1;rw[x.len]at this;exact this
 obtain⟨o,G,g1,g2,g3,g4⟩:=x.rc B;rw[u]at g2;cases g2;obtain⟨_,_,_,_,_,h,_⟩:=g4;have:=h hw;rw[C]at this;obtain⟨_,_,_,_,_,hA,_⟩:=this;exact⟨B,by rw[Qs g1,←g3];exact hA⟩
def PairOK.notA(k:PairOK gl P ops A pr rs H X p q ci cj B) (x:Text gl P n ops A pr rs Tt H X) {j:Nat} {c:Rc} (G:rs[j]? =δ c) (hw:c.w=ζ) (J:c.k= .a):j≠p/\j≠q:=by
 obtain⟨O,hA⟩:=I7 x G hw J;obtain⟨o,T,g1,g2,g3,g4⟩:=x.rc O;rw[G]at g2;cases g2;obtain⟨_,_,_,_,_,C,_⟩:=g4;have:=C hw;rw[J]at this;obtain⟨_,_,_,_,_,_,hS,_⟩:=this;have u:flag qI ops.toList j=false:=by rw[Qs g1,←g3];exact hS
 exact⟨λh=>(by rw[h,k.Si]at u;cases u),λh=>(by rw[h,k.Sj]at u;cases u)⟩
def Inv.later(v:Inv gl P F n ops rs (Tt 0) H X I0 w0 e L I a w) (k:PairOK gl P ops A pr rs H X p q ci cj B) (x:Text gl P n ops A pr rs Tt H X) (fr0:vJ I0 (X 0) (X ops.size)) (low:∀b,F ζ b->b<w0.heap.size) (zf:∀b,F θ b->F ζ b) (hnp:¬L p) {o:Oper} (ho:ops[q]? =δ o) (hL:¬L q) (hr:∀e∈o.after,Α .any e=ζ->L e.on):
  Sim (Zc F (JW rs H e L I) w) I (H p) w/\(∀b,Zc F (JW rs H e L I) w ζ b->b<w.heap.size)/\
  ∀z I' w',VR I' cj.v z->Grow (Zc F (JW rs H e L I) w) I (X q) w I' (X q) B w'->Inv2 gl P F n ops rs (Tt 0) X I0 w0 p B (λj=>L j\/j=q) I' (a.put o.dst z) w':=by
 have done:∀j,j<ops.size->j≠p->j≠q->(flag qI ops.toList j=ζ\/flag (ve P) ops.toList j=ζ\/flag Qn ops.toList j=ζ)->L j:=λj u C J U=>Vz x.hA v.cl ho hr (k.anc j u C J U).2;have hep:e<=p:=by
  rcases Η p e with h|h
  ·exact absurd (v.e1 p h k.Si) hnp
  ·exact h
 have hpn:p<ops.size:=Υ k.lt k.hq;have T:∀s,e<=s->s<p->flag qI ops.toList s=false:=λs u C=>by
  cases O:flag qI ops.toList s with
  |false=>rfl
  |true=>exact absurd (done s (by omega) (by omega) (by have:=k.lt;omega) (.inl O)) (v.e2 s u O)
 have s:=v.sim x fr0 hep (by omega) T;refine⟨⟨s.obj,s.inj,λid Z b t u C O=> ?_⟩,λb G=> ?_,λz I' w' hz g=> ?_⟩
 ·rcases O with O|O
  ·exact(s.fr id Z b t u C O).imp (λh=>h) .inl
  ·refine⟨?_, .inr O⟩;cases hrw:Z.rw with
   |false=>rfl
   |true=>exact absurd (.inl ⟨id,Z,t,v.simAt x fr0 hep (by omega) T u C,hrw,C⟩) O.2.2
 ·rcases G with G|G
  ·have:=low b G;have:=v.siz;omega
  ·exact G.2.1
 ·obtain ⟨p1,p2,p3,p4⟩:=v.slots.put x ho k.ej hL g.le hz;have hI:∀id y,I' id=δ y->I id=δ y:=λid y h=>(g.new id y h).elim (λh=>h) λh=>by omega
  exact {
   np:=λh=>h.elim hnp λh=>by have:=k.lt;omega
   all:=λj u C J=>by
    by_cases Y:j=q
    ·exact .inr Y
    ·exact .inl (done j u C Y J)
   sl:=⟨VA v.cl ho hr,λj h=>h.elim (v.lN j) λh=>by rw[h];exact k.hq,p1,p2,λj cj' τ u C J=>p3 j cj' τ u C J,p4⟩
   sim:=⟨g.sim.obj,g.sim.inj,λid Z b t u C O=>by obtain⟨J,U⟩:=g.sim.fr id Z b t u C (.inl O);exact⟨J,U.elim (λh=>h) λh=>absurd O h.1⟩⟩
   ex:=λj c u C J U=>by have Y:=(k.notA x u J U).2;obtain⟨y,hy⟩:=v.ex j c u (C.elim (λh=>h) λh=>absurd h Y) J U;exact⟨y,g.le _ _ hy⟩
   dom:=λid y h=>(v.dom id y (hI id y h)).imp (λh=>h) λ⟨j,u,C⟩=>⟨j, .inl u,C⟩
   le:=Ψ v.le g.le
   frm:=λb G=>(g.fr b (.inl G)).trans (v.frm b G)
   siz:=Γ v.siz g.size
   sam:=v.sam.trans g.same
   gh := λj c u C=>by
    by_cases Y:j=q
    ·rw[Y,k.ej]at u;cases u;rw[k.gj];trivial
    ·have C:L j:=C.elim (λh=>h) λh=>absurd h Y;refine c.g.mono _ _ _ _ g.le (λb ob G=> ?_) (v.gh j c u C);rw[yW]at G⊢;have hbl:=(Array.getElem?_eq_some_iff.1 G.2).1;rcases G.1 with h|⟨J,U⟩
     ·exact⟨.inl h,by rw[g.fr b (.inl (zf b h))];exact G.2⟩
     ·have V:R6 F (JW rs H e L I) w b:=⟨J,hbl,U⟩;refine⟨.inr ⟨J,λ⟨id,Z,t,q1,q2,q3⟩=> ?_⟩,by rw[g.fr b (.inr V)];exact G.2⟩;have:=(g.sim.fr id Z b t q1 q3 (.inr V)).1;rw[q2]at this;cases this}
def Inv2.stay(v:Inv2 gl P F n ops rs (Tt 0) X I0 w0 p B L I a w) (x:Text gl P n ops A pr rs Tt H X) {i:Nat} {o:Oper} {c:Rc} (U:ops[i]? =δ o) (O:rs[i]? =δ c) (hL:¬L i) (hr:∀e∈o.after,Α .any e=ζ->L e.on) (T:i≠p) (Z:¬(c.w=ζ/\c.k= .a)) (Y:c.g.Triv) {z:Value} (hz:VR I c.v z):
  Inv2 gl P F n ops rs (Tt 0) X I0 w0 p B (λj=>L j\/j=i) I (a.put o.dst z) w:=by
 obtain⟨p1,p2,p3,p4⟩:=v.sl.put x U O hL (Κ I) hz;exact{
  np:=λh=>h.elim v.np λh=>T h.symm
  all:=λj u C G=> .inl (v.all j u C G)
  sl:=⟨VA v.sl.cl U hr,λj h=>h.elim (v.sl.lN j) λh=>by subst h;exact(Array.getElem?_eq_some_iff.1 U).1,p1,p2,λj J τ u C G=>p3 j J τ u C G,p4⟩
  sim:=v.sim
  ex:=λj cj u C G V=>by
   rcases C with C|rfl
   ·exact v.ex j cj u C G V
   ·rw[O]at u;cases u;exact absurd ⟨G,V⟩ Z
  dom:=λid y h=>(v.dom id y h).imp (λh=>h) λ⟨j,u,C⟩=>⟨j, .inl u,C⟩
  le:=v.le,frm:=v.frm,siz:=v.siz,sam:=v.sam
  gh:=λj cj u C=>by
   rcases C with C|rfl
   ·exact v.gh j cj u C
   ·rw[O]at u;cases u;exact Y _ _}
def Inv2.earlier(v:Inv2 gl P F n ops rs (Tt 0) X I0 w0 p B L I a w) (k:PairOK gl P ops A pr rs H X p q ci cj B) (x:Text gl P n ops A pr rs Tt H X) (low:∀b,F ζ b->b<w0.heap.size) (zf:∀b,F θ b->F ζ b) {o:Oper} (ho:ops[p]? =δ o) (hr:∀e∈o.after,Α .any e=ζ->L e.on):
  Sim (Zc F (Own B I) w) I B w/\(∀b,Zc F (Own B I) w ζ b->b<w.heap.size)/\
  ∀z I' w',VR I' ci.v z->Grow (Zc F (Own B I) w) I (X p) w I' (X p) (H (q+1)) w'->Inv gl P F n ops rs (Tt 0) H X I0 w0 (q+1) (λj=>L j\/j=p) I' (a.put o.dst z) w':=by
 have hpn:p<ops.size:=Υ k.lt k.hq;have behind:∀j,q+1<=j->j<ops.size->(flag qI ops.toList j=ζ\/flag (ve P) ops.toList j=ζ\/flag Qn ops.toList j=ζ)->False:=λj C u G=>by have:=IN x.hA (k.anc j u (by have:=k.lt;omega) (by omega) G).1;have:=k.lt;omega
 have noA:∀j c,rs[j]? =δ c->q+1<=j->c.w=ζ->c.k= .a->False:=λj c C u G T=>by obtain⟨Z,hA⟩:=I7 x C G T;exact behind j u Z (.inr (.inl hA))
 refine⟨⟨v.sim.obj,v.sim.inj,λid O b t C u U=> ?_⟩,λb J=> ?_,λz I' w' hz g=> ?_⟩
 ·rcases U with U|U
  ·exact(v.sim.fr id O b t C u U).imp (λh=>h) .inl
  ·refine⟨?_, .inr U⟩;cases hrw:O.rw with
   |false=>rfl
   |true=>exact absurd ⟨id,O,t,C,hrw,u⟩ U.2.2
 ·rcases J with J|J
  ·have:=low b J;have:=v.siz;omega
  ·exact J.2.1
 ·obtain ⟨p1,p2,p3,p4⟩:=v.sl.put x ho k.ei v.np g.le hz;have Y:∀id y,I' id=δ y->I id=δ y:=λid y h=>(g.new id y h).elim (λh=>h) λh=>by omega
  have only:∀L' id O,RR rs H (q+1) L' id O->(H (q+1)).get id=δ O:=λL' id O h=>by
   rcases h with⟨j,c,a1,a2,a3,a4,a5,_⟩|h
   ·exact(noA j c a1 a2 a4 a5).elim
   ·exact h
  exact {
   eN:=by have:=k.hq;omega
   ep:=by simp only[V5];exact k.Sj
   e1:=λs C u=>by
    by_cases hs:s=p
    ·exact .inr hs
    ·exact .inl (v.all s (by have:=k.hq;omega) hs (.inl u))
   e2:=λs C u G=>by have hs:s<ops.size:=G.elim (v.sl.lN s) λh=>(by omega);exact behind s C hs (.inl u)
   e3:=λj C u=>by
    by_cases hs:j=p
    ·exact .inr hs
    ·exact .inl (v.all j (by have:=k.hq;omega) hs (.inr (.inl u)))
   cl:=VA v.sl.cl ho hr
   lN:=λj h=>h.elim (v.sl.lN j) λh=>by rw[h];exact hpn
   sz:=p1,df:=p2,s1:=λj cj' τ C u G=>p3 j cj' τ C u G,s2:=p4
   obj:=λid O b t h Y=>g.sim.obj id O b t (only _ _ _ h) Y
   inj:=λid id' o1 o2 b t t' h h' Y hI'=>g.sim.inj id id' o1 o2 b t t' (only _ _ _ h) (only _ _ _ h') Y hI'
   fr:=λid O b t h Y U=>by obtain⟨G,T⟩:=g.sim.fr id O b t (only _ _ _ h) Y (.inl U);exact⟨G,T.elim (λh=>h) λh=>absurd U h.1⟩
   ex:=λj c C u G T=>by have Z:=(k.notA x C G T).1;obtain⟨y,hy⟩:=v.ex j c C (u.elim (λh=>h) λh=>absurd h Z) G T;exact⟨y,g.le _ _ hy⟩
   exf:=λj c b t C u G T h5 h6=>(noA j c C u T h5).elim
   dom:=λid y h=>(v.dom id y (Y id y h)).imp (λh=>h) λ⟨j,C,u⟩=>⟨j, .inl C,u⟩
   le:=Ψ v.le g.le
   frm:=λb J=>(g.fr b (.inl J)).trans (v.frm b J)
   siz:=Γ v.siz g.size
   sam:=v.sam.trans g.same
   gh := λj c C u=>by
    by_cases Z:j=p
    ·rw[Z,k.ei]at C;cases C;rw[k.gi];trivial
    ·have u:L j:=u.elim (λh=>h) λh=>absurd h Z;refine c.g.mono _ _ _ _ g.le (λb ob J=> ?_) (v.gh j c C u);rw[yW]at J⊢;have hbl:=(Array.getElem?_eq_some_iff.1 J.2).1;rcases J.1 with h|⟨G,T⟩
     ·exact⟨.inl h,by rw[g.fr b (.inl (zf b h))];exact J.2⟩
     ·have V:R6 F (Own B I) w b:=⟨G,hbl,T⟩;refine⟨.inr ⟨G,λh5=> ?_⟩,by rw[g.fr b (.inr V)];exact J.2⟩;rcases h5 with⟨id,O,t,q1,q2,q3⟩|⟨j',c',t,q1,q2,q3,q4,q5,_⟩
      ·have:=(g.sim.fr id O b t (only _ _ _ q1) q3 (.inr V)).1;rw[q2]at this;cases this
      ·exact noA j' c' q1 q2 q4 q5}
end
end
section
variable {gl:GL}
def q98 {P : Cl} {n:Nat} {ops:Array Oper} {A:List Nat} {pr:yp} {rs:List Rc} {Tt:Nat->T AV} {H:Nat->T AO} {X:Nat->Nat} (x:Text gl P n ops A pr rs Tt H X) (hpo:∀p q,pr=δ (p,q)->∃ci cj B,PairOK gl P ops A pr rs H X p q ci cj B) {F:Bool->Nat->Prop} {I0:In} {w0:World} (fr0:vJ I0 (X 0) (X ops.size)) (low:∀b,F ζ b->b<w0.heap.size) (zf:∀b,F θ b->F ζ b) (hG:GK gl.tab I0) (hpf:gl.pf (q11 F w0)) {Q:Exit->Act->World->Prop}
    (hQ:∀a' I' w',St gl F I' (Tt ops.size) (H ops.size) n a' w'->Grow F I0 (X 0) w0 I' (X ops.size) (H ops.size) w'->(∀(j:Nat) (c:Rc),rs[j]? =δ c->c.g.Φ I' (jU F w0 I' (H ops.size) w'))->Q .normal a' w'):
    ∀(fuel:Nat) (u:Array Bool) (I:In) (a:Act) (w:World),u.size=ops.size->cnt ops.size (λi=>u.getD i θ)+fuel=ops.size->((∃e,Inv gl P F n ops rs (Tt 0) H X I0 w0 e (λi=>u.getD i θ=ζ) I a w)\/∃p q ci cj B,PairOK gl P ops A pr rs H X p q ci cj B/\Inv2 gl P F n ops rs (Tt 0) X I0 w0 p B (λi=>u.getD i θ=ζ) I a w)->wpAny P .any ops Q fuel u a w:=by
  intro fuel;have pfw:∀{e:Nat} {L:Nat->Prop} {I:In} {a:Act} {w:World},Inv gl P F n ops rs (Tt 0) H X I0 w0 e L I a w->gl.pf (q11 F w):=λv=>by rw[WD (w:=w0) λb C=>v.frm b (zf b C)];exact hpf
  have fin:∀(u:Array Bool) (e:Nat) (I:In) (a:Act) (w:World),(∀i,i<ops.size->u.getD i θ=ζ)->Inv gl P F n ops rs (Tt 0) H X I0 w0 e (λi=>u.getD i θ=ζ) I a w->Q .normal a w:=by
    intro u e I a w V v;have noS:∀s,e<=s->s<ops.size->flag qI ops.toList s=false:=λs h1 h2=>by
      cases hf:flag qI ops.toList s with
      |false=>rfl
      |true=>exact absurd (V s h2) (v.e2 s h1 hf)
    refine hQ a I w ⟨fun τ b C=> ?_,v.sz,v.df,v.sim x fr0 v.eN (ν _) noS,λb C=>Ε (low b C) v.siz,hG.mono v.le,zf,pfw v⟩ ⟨v.le,λid y h=> ?_,v.sim x fr0 v.eN (ν _) noS,v.frm,v.siz,v.sam⟩ ?_
    · rcases x.slot ops.size (ν _) τ with⟨j,cj,a1,a2,a3,a4⟩|⟨a1,a2⟩
      · rw[C]at a4;cases a4;exact v.s1 j cj τ a2 (V j a1) a3
      · rw[a2]at C;refine v.s2 τ b (λj cj hj hd _=> ?_) C;have:j<ops.size:=by have:=(List.getElem?_eq_some_iff.1 hj).1;rw[x.len]at this;exact this
        exact a1 j cj this hj hd
    · rcases v.dom id y h with h|⟨j,h1,h2,h3⟩
      · exact .inl h
      · have hj:=v.lN j h1;exact .inr ⟨Γ (x.xle (Χ _) (by omega)) h2,Ε h3 (x.xle (by omega) (ν _))⟩
    · intro j cj hj;have hjN:j<ops.size:=by have:=(List.getElem?_eq_some_iff.1 hj).1;rw[x.len]at this;exact this
      refine cj.g.mono _ _ _ _ (Κ I) (λb ob C=> ?_) (v.gh j cj hj (V j hjN));rw[yW]at C⊢;refine⟨C.1.imp (λh=>h) λ⟨h3,h4⟩=>⟨h3,λ⟨id,o',t,q1,q2,q3⟩=>h4 (.inl ⟨id,o',t,v.simAt x fr0 v.eN (ν _) noS q1 q3,q2,q3⟩)⟩,C.2⟩
  have stuck:∀(u:Array Bool),u.size=ops.size->qqk .any ops u=[]->∀i,i<ops.size->u.getD i θ=true:=by
    intro u hsz hr i;induction i using Nat.strongRecOn with
    | _ i ih=>
      intro hi;cases hl:u.getD i θ with
      |true=>rfl
      | false =>
        exfalso;obtain⟨o,c,h1,h2,h3,h4⟩:=x.rc hi;have hrd:i∈qqk .any ops u:=by
          rw[mem_ready];refine⟨?_,o,h1,λe' he C=> ?_⟩
          · rw[ε]at hl⊢;rw[χ (by omega)]at hl⊢;exact hl
          · obtain⟨m,g1,g2⟩:=(VD ops.toList 0 [] A rfl x.hA).2.2 i o (by simpa using h1);have:e'.on<i:=by have hanc:=x.hA;exact qfb hanc h1 he C
            exact ih e'.on this (by omega)
        rw[hr]at hrd;cases hrd
  induction fuel with
  | zero=>
    intro u I a w hsz hc v;have V:=qaj ops.size _ (by omega);rcases v with v|⟨p,q,ci,cj,B,k,v⟩;case inr=>exact absurd (V p (Υ k.lt k.hq)) v.np
    obtain⟨e,v⟩:=v;refine⟨?_,fin u e I a w V v⟩;rw[List.eq_nil_iff_forall_not_mem];intro i hi;obtain⟨g1,o,g2,_⟩:=mem_ready.1 hi;have hlt:i<ops.size:=(Array.getElem?_eq_some_iff.1 g2).1;have:=V i hlt;rw[ε,χ (by omega)]at g1 this;simp only[Option.getD_some]at g1 this;rw[g1]at this;cases this
  | succ fuel ih=>
    intro u I a w hsz hc v;refine⟨λhr=> ?_,λi hi=> ?_⟩
    · rcases v with⟨e,v⟩|⟨p,q,ci,cj,B,k,v⟩
      · exact fin u e I a w (stuck u hsz hr) v
      · exact absurd (stuck u hsz hr p (Υ k.lt k.hq)) v.np
    obtain⟨g1,o,ho,hr⟩:=mem_ready.1 hi;have hlt:i<ops.size:=(Array.getElem?_eq_some_iff.1 ho).1;obtain⟨o',c,h1,h2,h3,h4⟩:=x.rc hlt;rw[ho]at h1;cases h1;have hLf:u.getD i θ=false:=(by rw[ε,χ (by omega)]at g1⊢;exact g1);have hL:¬u.getD i θ=true:=(by rw[hLf];simp);have hL':(λj=>(u.setIfInBounds i ζ).getD j θ=ζ)=λj=>u.getD j θ=ζ\/j=i:=by
      funext j;apply propext;by_cases hji:j=i
      · subst hji;rw[ε,Ξ (by omega)];simp
      · rw[ε,Τ (by omega),←ε];simp[hji]
    have hcnt:cnt ops.size (λj=>(u.setIfInBounds i ζ).getD j θ)+fuel=ops.size:=by have:=qak ops.size (λj=>u.getD j θ) (λj=>(u.setIfInBounds i ζ).getD j θ) i hlt hLf (by simp only[ε];rw[Ξ (by omega)];rfl) (λj hj=>by simp only[ε];rw[Τ (by omega)]);omega
    have go:∀e' I' a' w',Inv gl P F n ops rs (Tt 0) H X I0 w0 e' (λj=>u.getD j θ=ζ\/j=i) I' a' w'->wpAny P .any ops Q fuel (u.setIfInBounds i ζ) a' w':=λe' I' a' w' v'=>
      ih (u.setIfInBounds i ζ) I' a' w' (by simp[hsz]) hcnt (.inl ⟨e',by rw[hL'];exact v'⟩)
    have go2:∀p q ci cj B I' a' w',PairOK gl P ops A pr rs H X p q ci cj B->Inv2 gl P F n ops rs (Tt 0) X I0 w0 p B (λj=>u.getD j θ=ζ\/j=i) I' a' w'->wpAny P .any ops Q fuel (u.setIfInBounds i ζ) a' w':=λp q ci cj B I' a' w' k v'=>
      ih (u.setIfInBounds i ζ) I' a' w' (by simp[hsz]) hcnt (.inr ⟨p,q,ci,cj,B,k,by rw[hL'];exact v'⟩)
    obtain⟨_,hnx,_,_,hgd,hkw,hun⟩:=h4;have fm:∀{O:Nat->Prop} {w:World},(∀b,Zc F O w θ b->Zc F O w ζ b):=λb h=>h.imp (zf b) λh=>h;rcases v with⟨e,v⟩|⟨p,q,ci,cj,B,k,v⟩;case inr=>
      have Y:=v.sl.tr x ho h2 hL hr;have Z:=hgd I a Y;rw[h3]at Z;unfold wpOp;simp only[ho,Z];have pf2:gl.pf (q11 F w):=(by rw[WD (w:=w0) λb C=>v.frm b (zf b C)];exact hpf);by_cases hip:i=p
      · subst hip;rw[k.ei]at h2;cases h2;simp only[k.wi,if_true];refine .inl ?_;obtain⟨t1,t2,t3⟩:=v.earlier k x low zf ho hr;have U:=k.ap;rw[h3]at U;exact U.2 _ I n a w ⟨Y,v.sl.sz,v.sl.df,t1,t2,hG.mono v.le,fm,gl.mono _ _ (λb ob C=>by rw[q03]at C⊢;exact⟨.inl C.1,C.2⟩) pf2⟩ (λ_ h1 h2=>by omega) _ Q λz I' w' hz hgr _=>go _ _ _ _ (t3 z I' w' hz hgr)
      · have noS:¬(flag qI ops.toList i=ζ\/flag (ve P) ops.toList i=ζ\/flag Qn ops.toList i=ζ):=λh=>hL (v.all i hlt hip h);cases J:c.w with
        | false=>
          simp only[Θ,if_false];obtain⟨u1,u2,u3,u4⟩:=hun J;exact go2 _ _ _ _ _ _ _ _ k (v.stay x ho h2 hL hr hip (λhh=>by rw[J]at hh;cases hh.1) u4 (by rw[u1];exact xw I))
        | true=>
          simp only[if_true];refine .inl ?_;have hk:=hkw J;cases G:c.k with
          | q=>
            rw[G]at hk;obtain⟨k1,k2,k3,k4⟩:=hk;rw[h3]at k3;obtain⟨z,q1,q2⟩:=k3 I a Y;unfold Oper.wp;rw[q1 w];exact go2 _ _ _ _ _ _ _ _ k (v.stay x ho h2 hL hr hip (λhh=>by rw[G]at hh;cases hh.2) k4 q2)
          | r=>
            refine absurd (.inr (.inr ?_)) noS;rw[Qs ho,←h3];exact k.red i c h2 J G
          | a=>
            exact absurd (.inr (.inl (I7 x h2 J G).2)) noS
          | s=>
            rw[G]at hk;refine absurd (.inl ?_) noS;rw[Qs ho,←h3];exact hk.2
    have Y:=v.slots.tr x ho h2 hL hr;have Z:=hgd I a Y;rw[h3]at Z;unfold wpOp;simp only[ho,Z];cases hS:flag qI ops.toList i with
    | true=>
      by_cases hlater:∃p,pr=δ (p,i)/\¬u.getD p θ=ζ
      · obtain⟨p,hpr,hnp⟩:=hlater;obtain⟨ci,cj,B,k⟩:=hpo p i hpr;have h2':=h2;rw[k.ej]at h2';cases h2';simp only[k.wj,if_true];refine .inl ?_;obtain⟨t1,t2,t3⟩:=v.later k x fr0 low zf hnp ho hL hr;have U:=k.aq;rw[h3]at U;exact U.2 _ I n a w ⟨Y,v.sz,v.df,t1,t2,hG.mono v.le,fm,gl.mono _ _ (λb ob C=>by rw[q03]at C⊢;exact⟨.inl C.1,C.2⟩) (pfw v)⟩ (λ_ h1 h2=>by omega) _ Q λz I' w' hz hgr _=>go2 _ _ _ _ _ _ _ _ k (t3 z I' w' hz hgr)
      have hpr:∀p,pr=δ (p,i)->u.getD p θ=true:=λp hp=>by
        cases C:u.getD p θ with
        |true=>rfl
        |false=>exact absurd ⟨p,hp,by rw[C];simp⟩ hlater
      obtain⟨t1,t2,t3,t4,t5⟩:=v.turn x fr0 low zf ho h2 hL hr hS hpr;cases J:c.w with
      | false=>
        simp only[Θ,if_false];obtain⟨u1,u2,u3,u4⟩:=hun J;refine go _ _ _ _ (t5 undef I w (by rw[u1];exact xw I) ?_ (u4 _ _));rw[u2,u3];exact t2.grow (X i)
      | true=>
        simp only[if_true];refine .inl ?_;have U:=(hkw J).act;rw[h3]at U;exact U.2 _ I n a w ⟨Y,v.sz,v.df,t2,t3,hG.mono v.le,λb C=>C.elim (λh=> .inl (zf b h)) λh=> .inr (.inr h),gl.mono _ _ (λb ob C=>by rw[q03]at C⊢;exact⟨.inl C.1,C.2⟩) (pfw v)⟩ t4 _ Q λz I' w' hz hgr hgi=>go _ _ _ _ (t5 z I' w' hz hgr hgi)
    | false =>
      cases J:c.w with
      | false=>
        simp only[Θ,if_false];obtain⟨u1,u2,u3,u4⟩:=hun J;exact go _ _ _ _ (v.stay x ho h2 hL hr hS (λhh=>by rw[J]at hh;cases hh.1) u4 (by rw[u1];exact xw I))
      | true=>
        simp only[if_true];refine .inl ?_;have hk:=hkw J;cases G:c.k with
        | q=>
          rw[G]at hk;obtain⟨k1,k2,k3,k4⟩:=hk;rw[h3]at k3;obtain⟨z,q1,q2⟩:=k3 I a Y;unfold Oper.wp;rw[q1 w];exact go _ _ _ _ (v.stay x ho h2 hL hr hS (λhh=>by rw[G]at hh;cases hh.2) k4 q2)
        | r =>
          rw[G]at hk;obtain⟨k1,k2,k3,k4⟩:=hk;have hrun : ∃z,(execOp a.eval o).run P w= .ok (.value z) w/\VR I c.v z:=by
            obtain⟨le1,le2⟩:=q6j ops.toList i;by_cases hep:e=JR ops.toList i
            · rw[h3]at k3;exact k3 F I a w Y (v.sim x fr0 (m:=i) (by rw[hep];exact le1) (by omega) (λs a1 a2=>le2 s (by rw[←hep];exact a1) a2)) (pfw v)
            · have hother:other ops.toList A i e=true:=by
                unfold other;simp only[η,ω];refine⟨⟨⟨v.ep,?_⟩,?_⟩,?_⟩
                · cases C:ι e (JR ops.toList i)with
                  |false=>rfl
                  |true=>exact absurd (γ C) hep
                · cases e with
                  |zero=>rfl
                  | succ e'=>
                    simp only;cases C:kg A e' i with
                    |false=>rfl
                    | true=>
                      have hf:flag qI ops.toList e'=true:=v.ep;have hLe:=v.e1 e' (Β _) hf;obtain⟨oe,_,q1,_⟩:=x.rc (v.lN e' hLe);exact absurd (Vz x.hA v.cl q1 (λe'' he C=>v.cl e' oe q1 hLe e'' he C) C) hL
                · apply q7w;intro s hs;simp only[Ζ,ω];by_cases hse:s<e
                  · exact .inl (.inl (by rw[blt_eq];exact decide_eq_true hse))
                  · cases hf:flag qI ops.toList s with
                    |false=>exact .inl (.inr rfl)
                    | true=>
                      refine .inr ?_;cases C:kg A i s with
                      |false=>rfl
                      |true=>exact absurd (Vz x.hA v.cl ho hr C) (v.e2 s (by omega) hf)
              have hag:=x.again i c e h2 J G v.eN hother;rw[h3]at hag;exact hag F I a w Y (v.sim x fr0 (m:=e) (ν _) v.eN (λs a1 a2=>by omega)) (pfw v)
          obtain⟨z,q1,q2⟩:=hrun;unfold Oper.wp;rw[q1];exact go _ _ _ _ (v.stay x ho h2 hL hr hS (λhh=>by rw[G]at hh;cases hh.2) k4 q2)
        | a =>
          rw[G]at hk;obtain⟨ob,k1,k2,k3,k4,k5,k6,k7⟩:=hk;rw[h3]at k2 k5;obtain⟨z,obj,tot,w',q1,q2,q3,q4⟩:=k2 I a Y w;have hfree:I (X i)=none:=by
            cases hI:I (X i)with
            |none=>rfl
            |some y=>exact absurd (v.doneX x fr0 hlt (ν _) (by omega) hI) hL
          obtain⟨r1,r2⟩:=q4 (ext I (X i) (w.heap.size,tot)) (Zp _ hfree) (z6 _ _ _);unfold Oper.wp;rw[q1];exact go _ _ _ _ (v.make x fr0 low ho h2 hL hr hS J G k1 k7 k5 k4 hnx q2 q3 r1 r2 hfree)
        | s=>
          rw[G]at hk;have:=hk.2;rw[h3,←Qs (f:=qI) ho,hS]at this;cases this
def q5y{P:Cl} {n:Nat} {ops:Array Oper} {A:List Nat} {pr:yp} {rs:List Rc} {Tt:Nat->T AV} {H:Nat->T AO} {X:Nat->Nat} (x:Text gl P n ops A pr rs Tt H X) (V:∀p q,pr=δ (p,q)->∃ci cj B,PairOK gl P ops A pr rs H X p q ci cj B) {F:Bool->Nat->Prop} {I:In} {a:Act} {w:World} (st:St gl F I (Tt 0) (H 0) n a w) (fr:vJ I (X 0) (X ops.size)) {Q:Exit->Act->World->Prop}
  (hQ:∀Y J O,St gl F J (Tt ops.size) (H ops.size) n Y O->Grow F I (X 0) w J (X ops.size) (H ops.size) O->(∀(j:Nat) (c:Rc),rs[j]? =δ c->c.g.Φ J (jU F w J (H ops.size) O))->Q .normal Y O) (d:Nat):wpAny P .any ops Q ops.size (κ ops.size θ) a {w with drawn:=d}:=by
 refine(q98 x V (F:=F) (I0:=I) (w0:=w) fr st.low st.zf st.gok st.pf hQ ops.size (κ ops.size θ) I a _ (by simp) ?_ (.inl ⟨0,?_⟩))
 ·have:cnt ops.size (λi=>(κ ops.size θ).getD i θ)=0:=by
   have h0:∀m,cnt m (λ_=>θ)=0:=by
    intro m;induction m with
    |zero=>rfl
    |succ m ih=>simp[cnt,ih]
   rw[←h0 ops.size];refine Ib _ _ _ λj hj=> ?_;simp[ε,hj]
  omega
 ·have u:∀i,¬(κ ops.size θ).getD i θ=true:=λi=>by
   rw[ε];by_cases hi:i<ops.size
   ·simp[hi]
   ·simp[hi]
  have init:∀id o,RR rs H 0 (λi=>(κ ops.size θ).getD i θ=ζ) id o->(H 0).get id=δ o:=λid o C=>by
   rcases C with⟨j,c,_,_,hL,_⟩|C
   ·exact absurd hL (u j)
   ·exact C
  exact{
   eN:=Χ _,ep:=rfl,e1:=λs h=>by omega,e2:=λs _ _ hL=>u s hL,e3:=λj h=>by omega
   cl:=λi o _ hL=>absurd hL (u i),lN:=λi hL=>absurd hL (u i)
   sz:=st.size,df:=st.defers,s1:=λi c τ _ hL=>absurd hL (u i)
   s2:=fun τ b _ hb=>st.tr τ b hb
   obj:=λid o b t C hI=>st.sim.obj id o b t (init id o C) hI
   inj:=λid G o Z b t t' C U=>st.sim.inj id G o Z b t t' (init id o C) (init G Z U)
   fr:=λid o b t C=>st.sim.fr id o b t (init id o C)
   ex:=λj c _ hL=>absurd hL (u j),exf:=λj c b t _ _ hL=>absurd hL (u j)
   dom:=λid y h=> .inl h,le:=Κ I,frm:=λ_ _=>rfl,siz:=ν _,sam:=⟨rfl,rfl,rfl⟩
   gh:=λj c _ hL=>absurd hL (u j)}
end
section
@[reducible] def Ob (p:Prop):Prop:=p
def mpV(a:Option Addr):Option Nat:=a.map (·.block)
def jh(k:Nat):List Nat->Bool
  | []=>θ
  | a::l=>match ι k a with
    |true=>ζ
    |false=>jh k l
def wH{k:Nat}:∀{l:List Nat},jh k l=ζ->k∈l
  | [],h=>by cases h
  | a::l,h=>by
    simp only[jh]at h;split at h
    · rename_i u;rw[γ u];exact φ
    · exact π _ (wH h)
mutual
def zq(x:Nat->SV) (ks:List Nat):AV->AV
  | .tsl k=>match jh k ks with
    |true=> .sv (.slice (x k).1 (x k).2.1 (x k).2.2)
    |false=> .tsl k
  | .tpt k=>match jh k ks with
    |true=> .sv (.pointer (x k).1)
    |false=> .tpt k
  | .tmap k=>match jh k ks with
    |true=> .sv (.map (mpV (x k).1))
    |false=> .tmap k
  | .ifc t a=> .ifc t (zq x ks a)
  | .agg l=> .agg (openL x ks l)
  | .tup l=> .tup (openL x ks l)
  | .fn f l=> .fn f (openL x ks l)
  | .bfn f l m=> .bfn f (openL x ks l) (openL x ks m)
  | .bool b=> .bool b
  | .int k n=> .int k n
  | .str s=> .str s
  | .nilp=> .nilp
  | .ptr a b=> .ptr a b
  | .nsl=> .nsl
  | .sl a b c d=> .sl a b c d
  | .gsl a b c d=> .gsl a b c d
  | .nmap=> .nmap
  | .map a=> .map a
  | .nilf=> .nilf
  | .nili=> .nili
  | .ifo=> .ifo
  | .anyi k=> .anyi k
  | .lin k c l=> .lin k c l
  | .sv v=> .sv v
  | .ssl a b c d k=>match jh k ks with
    |true=> .sv (.slice (x k).1 c (x k).2.2)
    |false=> .ssl a b c d k
  | .msl a b c=> .msl a b c
  | .usl a b c d=> .usl a b c d
  | .sptr a b=> .sptr a b
def openL(x:Nat->SV) (ks:List Nat):List AV->List AV
 | []=>[]
 |a::l=>zq x ks a::openL x ks l
end
section
variable {I:In} {x:Nat->SV} {ks:List Nat} (hx:∀k y,k∈ks->I k=δ y->x k=zx y)
mutual
def Gh(hx:∀k y,k∈ks->I k=δ y->x k=zx y):∀{a v},VR I a v->VR I (zq x ks a) v
  | _,_, .tsl (k:=k) h=>by
    unfold zq;split
    · rename_i hm;rw[hx _ _ (wH hm) h];exact .sv _
    · exact .tsl h
  | _,_, .tpt (k:=k) h=>by
    unfold zq;split
    · rename_i hm;rw[hx _ _ (wH hm) h];exact .sv _
    · exact .tpt h
  | _,_, .tmap (k:=k) h=>by
    unfold zq;split
    · rename_i hm;rw[hx _ _ (wH hm) h];exact .sv _
    · exact .tmap h
  |_,_, .ifc h=>by unfold zq;exact .ifc (Gh hx h)
  |_,_, .agg h=>by unfold zq;exact .agg (openL_ok hx h)
  |_,_, .tup h=>by unfold zq;exact .tup (openL_ok hx h)
  |_,_, .fn h=>by unfold zq;exact .fn (openL_ok hx h)
  |_,_, .bfn u h=>by unfold zq;exact .bfn (openL_ok hx u) (openL_ok hx h)
  |_,_, .bool b=>by unfold zq;exact .bool b
  |_,_, .int k n=>by unfold zq;exact .int k n
  |_,_, .str l=>by unfold zq;exact .str l
  |_,_, .nilp=>by unfold zq;exact .nilp
  |_,_, .ptr h=>by unfold zq;exact .ptr h
  |_,_, .nsl=>by unfold zq;exact .nsl
  |_,_, .sl h=>by unfold zq;exact .sl h
  |_,_, .gsl h u A B=>by unfold zq;exact .gsl h u A B
  |_,_, .nmap=>by unfold zq;exact .nmap
  |_,_, .map h=>by unfold zq;exact .map h
  |_,_, .nilf=>by unfold zq;exact .nilf
  |_,_, .nili=>by unfold zq;exact .nili
  |_,_, .ifo=>by unfold zq;exact .ifo
  |_,_, .anyi=>by unfold zq;exact .anyi
  |_,_, .lin h=>by unfold zq;exact .lin h
  |_,_, .sv v=>by unfold zq;exact .sv v
  | _,_, .ssl (k:=k) h u A B C hd=>by
    unfold zq;split
    · rename_i hm;rw[hx _ _ (wH hm) C,hd];exact .sv _
    · exact .ssl h u A B C hd
  |_,_, .msl h A B=>by unfold zq;exact .msl h A B
  |_,_, .usl h u A B=>by unfold zq;exact .usl h u A B
  |_,_, .usl0 h=>by unfold zq;exact .usl0 h
  | _,_, .ssl0 (k:=k) h C hd=>by
    unfold zq;split
    · rename_i hm;rw[hx _ _ (wH hm) C,hd,h];exact .sv _
    · exact .ssl0 h C hd
  |_,_, .sptr h=>by unfold zq;exact .sptr h
def openL_ok(hx:∀k y,k∈ks->I k=δ y->x k=zx y):∀{l vs},VRs I l vs->VRs I (openL x ks l) vs
 |_,_, .nil=>by unfold openL;exact .nil
 |_,_, .cons h t=>by unfold openL;exact .cons (Gh hx h) (openL_ok hx t)
end
end
def Ou(x:Nat->SV) (ks:List Nat):List (Value×AV×Nat)->List (Value×AV×Nat)
 | []=>[]
 | (k,a,n)::l=>(k,zq x ks a,n)::Ou x ks l
def V4(x:Nat->SV) (ks:List Nat):AO->AO
 | .cells e fz g l=> .cells e fz g (openL x ks l)
 | .map es c=> .map (Ou x ks es) c
 | .row e fz vs=> .row e fz vs
 | .mrow es c=> .mrow es c
 | .iter m s l c=> .iter m s l c
def q8b{I:In} {x:Nat->SV} {ks:List Nat} (hx:∀k y,k∈ks->I k=δ y->x k=zx y):∀{l ms},MR I l ms->MR I (Ou x ks l) ms
 |_,_, .nil=> .nil
 |_,_, .cons h t=> .cons (Gh hx h) (q8b hx t)
def qd6{I:In} {x:Nat->SV} {ks:List Nat} (hx:∀k y,k∈ks->I k=δ y->x k=zx y) {t o ob} (h:OR I t o ob):OR I t (V4 x ks o) ob:=by
 cases h with
 |cells h C hp A u B=>exact .cells (openL_ok hx h) C hp A u B
 |map h=>exact .map (q8b hx h)
 |row hp A u=>exact .row hp A u
 |mrow=>exact .mrow
 |iter h hp=>exact .iter h hp
def qd7{x:Nat->SV} {ks:List Nat}:∀o:AO,(V4 x ks o).rw=o.rw
 | .cells _ ξ _ _=>rfl
 | .cells _ (δ _) _ _=>rfl
 | .map .. =>rfl
 | .row .. =>rfl
 | .mrow .. =>rfl
 | .iter .. =>rfl
def jx{α β:Type} (f:α->β):T α->T β
 | .e=> .e
 | .n l v r=> .n (jx f l) (match v with|some a=>δ (f a)|none=>ξ) (jx f r)
def NY{α β:Type} (f:α->β):∀(t:T α) (k:Nat),(jx f t).getS k=(t.getS k).map f
  | .e,k=>rfl
  | .n l v r,0=>by simp only[jx,T.getS];cases v<;>rfl
  | .n l v r,k+1=>by
    simp only[jx,T.getS];split
    · exact NY f l _
    · exact NY f r _
def Ge{α β:Type} (f:α->β) (t:T α) (k:Nat):(jx f t).get k=(t.get k).map f:=by rw[T.get_eq,T.get_eq,NY]
def qfs{I:In} {x:Nat->SV} {ks:List Nat} (hx:∀k y,k∈ks->I k=δ y->x k=zx y) {t:T AV} {A:Array Value} (h:TR I t A):TR I (jx (zq x ks) t) A:=λn a e=>by
 rw[Ge]at e;cases u:t.get n with
 |none=>rw[u]at e;cases e
 |some b=>rw[u]at e;cases e;exact Gh hx (h n b u)
def qd8{I:In} {x:Nat->SV} {ks:List Nat} (hx:∀k y,k∈ks->I k=δ y->x k=zx y) {F:Bool->Nat->Prop} {h:T AO} {w:World} (s:Sim F I h w):Sim F I (jx (V4 x ks) h) w:=by
 have back:∀id o,(jx (V4 x ks) h).get id=δ o->∃A,h.get id=δ A/\o=V4 x ks A:=λid o e=>by
  rw[Ge]at e;cases G:h.get id with
  |none=>rw[G]at e;cases e
  |some b=>rw[G]at e;cases e;exact⟨b,rfl,rfl⟩
 refine⟨λid o b t g hi=> ?_,λid U o A b t V g H hi C=> ?_,λid o b t g hi O=> ?_⟩
 ·obtain⟨A,u,rfl⟩:=back _ _ g;obtain⟨ob,B,J⟩:=s.obj _ _ _ _ u hi;exact⟨ob,B,qd6 hx J⟩
 ·obtain⟨_,u,_⟩:=back _ _ g;obtain⟨_,B,_⟩:=back _ _ H;exact s.inj _ _ _ _ _ _ _ u B hi C
 ·obtain⟨A,u,rfl⟩:=back _ _ g;rw[qd7];exact s.fr _ _ _ _ u hi O
structure At(F0:Bool->Nat->Prop) (I0:In) (nx0:Nat) (w0:World) (F:Bool->Nat->Prop) (I:In) (nx:Nat) (w:World):Prop where
 le:∀id,id<nx0->I id=I0 id
 nxl:nx0<=nx
 fresh:∀i,nx<=i->I i=ξ
 sup:∀s b,F0 s b->F s b
 sub:∀b,F θ b->F0 θ b\/¬F0 ζ b
 frm:∀b,F0 ζ b->w.heap[b]? =w0.heap[b]?
 siz:w0.heap.size<=w.heap.size
 sam:Same w0 w
section
variable {F0:Bool->Nat->Prop} {I0:In} {nx0:Nat} {w0:World}
def At.grow{F I nx w A u h' H} (v:At F0 I0 nx0 w0 F I nx w) (g:Grow F I nx w A u h' H) (hle:nx<=u):At F0 I0 nx0 w0 F A u H:={
  le := λid hid=>by
    rw[←v.le id hid];cases C:I id with
    |some x=>exact g.le _ _ C
    | none=>
      cases B:A id with
      |none=>rfl
      | some y=>
        rcases g.new id y B with h|h
        · rw[C]at h;cases h
        · have:=v.nxl;omega
  nxl:=Γ v.nxl hle
  fresh:=λi hi=>by
    cases B:A i with
    |none=>rfl
    | some y=>
      rcases g.new i y B with h|h
      · rw[v.fresh i (by omega)]at h;cases h
      · omega
  sup:=v.sup,sub:=v.sub
  frm:=λb G=>(g.fr b (v.sup ζ b G)).trans (v.frm b G)
  siz:=Γ v.siz g.size,sam:=v.sam.trans g.same}
def At.freshR{F I nx w} (v:At F0 I0 nx0 w0 F I nx w) (u:Nat):vJ I nx u:=λi h _=>v.fresh i h
end
def GL.and(gl:GL) (f:Pub->Prop) (m:∀p q,Pub.le p q->f p->f q):GL:=⟨gl.tab,λp=>gl.pf p/\f p,λp q hp h=>⟨gl.mono p q hp h.1,m p q hp h.2⟩,θ,λh=>by cases h⟩
def GL.withP(gl:GL) (f:PF):GL:=match f.on with
 |true=>gl.and f.pf f.mono
 |false=>gl
def GL.withP_tab(gl:GL) (f:PF):(gl.withP f).tab=gl.tab:=by unfold GL.withP;split<;>rfl
variable {gl:GL} {f:PF}
def GL.withP_of{p:Pub} (h:gl.pf p) (u:f.ok p):(gl.withP f).pf p:=by
 unfold GL.withP PF.ok at*;split
 ·rename_i A;rw[A]at u;exact⟨h,u⟩
 ·exact h
def QA(gl:GL) (f:PF) (K:Prop):Prop:=match f.on with
 |true=>Ob (∀p,gl.pf p->f.pf p)/\K
 |false=>K
def WU{K:Prop} (h:QA gl f K):(∀p,gl.pf p->f.ok p)/\K:=by
 unfold QA PF.ok at*;split
 ·rename_i u;rw[u]at h;exact h
 ·rename_i u;rw[u]at h;exact⟨λ_ _=>trivial,h⟩
def wP(gl:GL) (f:PF) (K:GL->Prop):Prop:=match f.on with
 |true=>Ob (∃p,(gl.and f.pf f.mono).pf p)->K (gl.and f.pf f.mono)
 |false=>K gl
def JN{K:GL->Prop} (h:wP gl f K) {p:Pub} (B:gl.pf p) (A:f.ok p):K (gl.withP f):=by
 unfold wP GL.withP PF.ok at*;split
 ·rename_i u;rw[u]at h A;exact h ⟨p,B,A⟩
 ·rename_i u;rw[u]at h;exact h
def Zr:List Nat->(Nat->SV)->((Nat->SV)->Prop)->Prop
 | [],x,K=>K x
 |k::l,x,K=>∀(a:Option Addr) (n c:Nat),Zr l (λj=>match ι j k with|true=>(a,n,c)|false=>x j) K
def Ii{K:(Nat->SV)->Prop} (y:Nat->SV):∀(l:List Nat) (x:Nat->SV),Zr l x K->∃z,K z/\(∀k∈l,z k=y k)/\∀k,k∉l->z k=x k
  | [],x,h=>⟨x,h,λk J=>(by cases J),λ_ _=>rfl⟩
  | k ::l,x,h=>by
    obtain⟨z,C,G,B⟩:=Ii y l _ (h (y k).1 (y k).2.1 (y k).2.2);refine⟨z,C,λj u=> ?_,λj u=> ?_⟩
    · by_cases A:j∈l
      · exact G j A
      · have:j=k:=by
          cases u with
          |head=>rfl
          |tail _ u=>exact absurd u A
        subst this;rw[B j A];simp
    · rw[B j λA=>u (π _ A)];have:ι j k=false:=by
        cases H:ι j k with
        |false=>rfl
        |true=>exact absurd (by rw[γ H];exact φ) u
      rw[this]
def QD:Nat->SV:=λ_=>(ξ,0,0)
abbrev KS:=GL->T AV->T AO->Nat->Prop
def xE:List GD->GL->T AV->T AO->Nat->KS->Prop
 | [],gl,t,h,nx,K=>K gl t h nx
 |d::l,gl,t,h,nx,K=>∀b:d.β,Ob (d.pre b)->Zr d.ks QD λx=>wP gl (d.mem b (d.ks.map x)) λgl=>xE l gl (jx (zq x d.ks) t) (jx (V4 x d.ks) h) nx K
section
variable {F0:Bool->Nat->Prop} {I0:In} {nx0:Nat} {w0:World} {n:Nat}
def yZ(F0:Bool->Nat->Prop) (I0:In) (nx0:Nat) (w0:World) (n:Nat) (K:KS) (a:Act) (w:World):Prop:=∃gl t h nx F I,K gl t h nx/\GK gl.tab I0/\St gl F I t h n a w/\At F0 I0 nx0 w0 F I nx w
def q6m{F:Bool->Nat->Prop} {I:In} {a:Act} {w:World} {nx:Nat} (B:At F0 I0 nx0 w0 F I nx w) {K:KS}:∀{l:List GD} {gl:GL} {t:T AV} {h:T AO},xE l gl t h nx K->St gl F I t h n a w->GK gl.tab I0->(∀d∈l,GS.Φ (δ d) I (q11 F w))->yZ F0 I0 nx0 w0 n K a w
  | [],gl,t,h,e,st,u,J=>⟨gl,t,h,nx,F,I,e,u,st,B⟩
  | d::l,gl,t,h,e,st,u,J=>by simp only[xE]at e;obtain⟨_,b,H,O⟩:=J d (by simp);obtain⟨x,e,hx,_⟩:=Ii (λk=>match I k with|some y=>zx y|none=>(ξ,0,0)) _ _ (e b H);have A:∀k y,k∈d.ks->I k=δ y->x k=zx y:=λk y V X=>(by rw[hx k V];simp only[X]);have G:=O x A;have C:=GL.withP_of st.pf G;exact q6m B (JN e st.pf G) ⟨qfs A st.tr,st.size,st.defers,qd8 A st.sim,st.low,by rw[GL.withP_tab];exact st.gok,st.zf,C⟩ (by rw[GL.withP_tab];exact u) λc U=>J c (by simp[U])
def q8c{l:List GD} {gl:GL} {t:T AV} {h:T AO} {nx B:Nat} {K:KS} (e:xE l gl t h nx K) {F:Bool->Nat->Prop} {I Y:In} {a:Act} {w w1:World} (st:St gl F I t h n a w) (g:Grow F Y B w1 I nx h w) (hle:B<=nx) (J:At F0 I0 nx0 w0 F Y B w1) (U:GK gl.tab I0) (hl:∀d∈l,GS.Φ (δ d) I (jU F w1 I h w)):yZ F0 I0 nx0 w0 n K a w:=by
 have A:=J.grow g hle
 let H:Bool->Nat->Prop:=λs b=>F s b\/(¬F ζ b/\b<w.heap.size/\¬Own h I b)
 have G:Pub.le (jU F w1 I h w) (q11 H w):=λb o u=>by rw[yW]at u;rw[q03];exact⟨u.1.imp (λh=>h) λh=>⟨h.1,(Array.getElem?_eq_some_iff.1 u.2).1,h.2⟩,u.2⟩
 have V:Pub.le (q11 F w) (q11 H w):=λb o u=>by rw[q03]at u⊢;exact⟨.inl u.1,u.2⟩
 have O:At F0 I0 nx0 w0 H I nx w:={A with sup:=λs b u=> .inl (A.sup s b u),sub:=λb u=>u.elim (A.sub b) λh=> .inr λh0=>h.1 (A.sup ζ b h0),frm:=A.frm};refine q6m O e ⟨st.tr,st.size,st.defers,⟨st.sim.obj,st.sim.inj,λid o b tt Z h2 C=> ?_⟩,λb u=>u.elim (st.low b) λh=>h.2.1,st.gok,λb u=>u.imp (st.zf b) λh=>h,gl.mono _ _ V st.pf⟩ U λd hd=>GS.mono _ _ _ _ _ (Κ I) G (hl d hd);rcases C with C|C
 ·exact(st.sim.fr id o b tt Z h2 C).imp (λh=>h) .inl
 ·refine⟨?_, .inr C⟩;cases X:o.rw with
  |false=>rfl
  |true=>exact absurd ⟨id,o,tt,Z,X,h2⟩ C.2.2
def qg4{f:PF} {gl:GL} {t:T AV} {h:T AO} {nx C:Nat} {K:KS} (e:wP gl f λgl=>K gl t h nx) {F:Bool->Nat->Prop} {I I1:In} {a:Act} {w w1:World} (st:St gl F I t h n a w) (g:Grow F I1 C w1 I nx h w) (hle:C<=nx) (U:At F0 I0 nx0 w0 F I1 C w1) (X:GK gl.tab I0) (hl:f.ok (jU F w1 I h w)):yZ F0 I0 nx0 w0 n K a w:=by
 have B:=U.grow g hle
 let G:Bool->Nat->Prop:=λs b=>F s b\/(¬F ζ b/\b<w.heap.size/\¬Own h I b)
 have O:Pub.le (jU F w1 I h w) (q11 G w):=λb o A=>by rw[yW]at A;rw[q03];exact⟨A.1.imp (λh=>h) λh=>⟨h.1,(Array.getElem?_eq_some_iff.1 A.2).1,h.2⟩,A.2⟩
 have Y:Pub.le (q11 F w) (q11 G w):=λb o A=>by rw[q03]at A⊢;exact⟨.inl A.1,A.2⟩
 have V:At F0 I0 nx0 w0 G I nx w:={B with sup:=λs b A=> .inl (B.sup s b A),sub:=λb A=>A.elim (B.sub b) λh=> .inr λh0=>h.1 (B.sup ζ b h0),frm:=B.frm};have u:St gl G I t h n a w:=⟨st.tr,st.size,st.defers,⟨st.sim.obj,st.sim.inj,λid o b tt h1 h2 H=> ?_⟩,λb A=>A.elim (st.low b) λh=>h.2.1,st.gok,λb A=>A.imp (st.zf b) λh=>h,gl.mono _ _ Y st.pf⟩
 ·have J:f.ok (q11 G w):=PF.ok_mono O hl;exact⟨gl.withP f,t,h,nx,G,I,JN e u.pf J,by rw[GL.withP_tab];exact X,⟨u.tr,u.size,u.defers,u.sim,u.low,by rw[GL.withP_tab];exact u.gok,u.zf,GL.withP_of u.pf J⟩,V⟩
 rcases H with H|H
 ·exact(st.sim.fr id o b tt h1 h2 H).imp (λh=>h) .inl
 ·refine⟨?_, .inr H⟩;cases Z:o.rw with
  |false=>rfl
  |true=>exact absurd ⟨id,o,tt,h1,Z,h2⟩ H.2.2
end
end
section
def vq{α:Type}:T α->(Nat->Nat)->List (Nat×α)->List (Nat×α)
  | .e,_,acc=>acc
  | .n l v r,f,acc=>match v with
    |some a=>(f 0,a)::vq l (λm=>f (2*m+1)) (vq r (λm=>f (2*m+2)) acc)
    |none=>vq l (λm=>f (2*m+1)) (vq r (λm=>f (2*m+2)) acc)
def Ic{α:Type}:∀(t:T α) (f:Nat->Nat) (acc:List (Nat×α)) (x:Nat×α),x∈acc->x∈vq t f acc
  | .e,_,_,_,h=>h
  | .n l v r,f,acc,x,h=>by
    have:=Ic l (λm=>f (2*m+1)) _ x (Ic r (λm=>f (2*m+2)) acc x h);simp only[vq];split
    · exact π _ this
    · exact this
def If{α:Type}:∀(t:T α) (f:Nat->Nat) (acc:List (Nat×α)) (k:Nat) (a:α),t.getS k=δ a->(f k,a)∈vq t f acc
  | .e,f,acc,k,a,h=>by cases h
  | .n l v r,f,acc,0,a,h=>by simp only[T.getS]at h;subst h;simp[vq]
  | .n l v r,f,acc,k+1,a,h=>by
    simp only[T.getS]at h;have:(f (k+1),a)∈vq l (λm=>f (2*m+1)) (vq r (λm=>f (2*m+2)) acc):=by
      split at h
      · rename_i u;have A:=(T.parity k).1 u;have:=If l (λm=>f (2*m+1)) (vq r (λm=>f (2*m+2)) acc) _ a h;simp only[T.div2]at this;rwa [show 2*(k / 2)+1=k+1 by omega]at this
      · rename_i u;have A:=(T.parity k).2 u;have:=If r (λm=>f (2*m+2)) acc _ a h;simp only[T.div2]at this;rw[show 2*(k / 2)+2=k+1 by omega]at this;exact Ic l _ _ _ this
    simp only[vq];split
    · exact π _ this
    · exact this
def z7{α:Type} (t:T α):List (Nat×α):=vq t (λm=>m) []
variable {α:Type}
def jg{t:T α} {k:Nat} {a:α} (h:t.get k=δ a):(k,a)∈z7 t:=by rw[T.get_eq]at h;exact If t (λm=>m) [] k a h
def Ie{α:Type}:∀(t:T α) (f:Nat->Nat) (acc:List (Nat×α)) (k:Nat) (a:α),(k,a)∈vq t f acc->(k,a)∈acc\/∃j,t.getS j=δ a/\k=f j
  | .e,f,acc,k,a,h=> .inl h
  | .n l v r,f,acc,k,a,h=>by
    have rest:(k,a)∈vq l (λm=>f (2*m+1)) (vq r (λm=>f (2*m+2)) acc)->(k,a)∈acc\/∃j,(T.n l v r).getS j=δ a/\k=f j:=λh=>by
      rcases Ie l _ _ k a h with h|⟨j,u,A⟩
      · rcases Ie r _ _ k a h with h|⟨j,u,A⟩
        · exact .inl h
        · refine .inr ⟨2*j+2,?_,A⟩;simp only[T.getS];have:ι (qqj (2*j+1) 2) 0=false:=by have:qqj (2*j+1) 2=1:=(by show(2*j+1) % 2=1;omega);rw[this];rfl
          rw[this];simp only[T.div2];rw[show(2*j+1) / 2=j by omega];exact u
      · refine .inr ⟨2*j+1,?_,A⟩;simp only[T.getS];have:ι (qqj (2*j) 2) 0=true:=by have:qqj (2*j) 2=0:=(by show(2*j) % 2=0;omega);rw[this];rfl
        rw[this];simp only[T.div2];rw[show(2*j) / 2=j by omega];exact u
    simp only[vq]at h;split at h
    · rcases List.mem_cons.1 h with h|h
      · cases h;exact .inr ⟨0,rfl,rfl⟩
      · exact rest h
    · exact rest h
def F9{t:T α} {k:Nat} {a:α} (h:(k,a)∈z7 t):t.get k=δ a:=by
 rcases Ie t _ _ k a h with h|⟨j,u,A⟩
 ·cases h
 ·rw[A,T.get_eq];exact u
end
section
def gv:AV->Option Value
 | .sv v=>δ v
 |a=>xG a
def VT{I:In} {a:AV} {v u:Value} (h:gv a=δ v) (r:VR I a u):u=v:=by
 unfold gv at h;split at h
 ·cases h;cases r;rfl
 ·exact WM h r
def jS:List AV->Option (List Value)
  | []=>δ []
  | a ::l=>match gv a with
    | some v=>match jS l with
      |some r=>δ (v::r)
      |none=>ξ
    |none=>ξ
def xy{I:In}:∀{l:List AV} {x:List Value},jS l=δ x->∀{u},VRs I l u->u=x
  | [],x,h,u,r=>by simp[jS]at h;subst h;cases r;rfl
  | a ::l,x,h,u,r=>by
    simp only[jS]at h;split at h
    · rename_i v C;split at h
      · rename_i y G;cases h;cases r with|cons A B=>rw[VT C A,xy G B]
      · cases h
    · cases h
def qah(o:Obj) (a:Addr):Option Value:=match o with
  | .cells c _ _=>match a.spot with
    |none=>c[a.off]?
    |some _=>ξ
  |_=>ξ
def q5n(p:Pub) (a:Addr):Option Value:=match p a.block with
 |some o=>qah o a
 |none=>ξ
def q8x{p q:Pub} (h:Pub.le p q) {a:Addr} {v:Value} (e:q5n p a=δ v):q5n q a=δ v:=by
 unfold q5n at e⊢;cases hp:p a.block with
 |none=>rw[hp]at e;cases e
 |some o=>rw[hp]at e;rw[h _ _ hp];exact e
def FY{F:Bool->Nat->Prop} {w:World} {a:Addr} {v:Value} (e:q5n (q11 F w) a=δ v):w.cell? a=δ v:=by
  unfold q5n at e;cases hp:q11 F w a.block with
  |none=>rw[hp]at e;cases e
  | some o=>
    rw[hp]at e;rw[q03]at hp;unfold World.cell?;rw[hp.2];simp only[qah]at e;cases o<;>simp only at e⊢<;>first|exact(by cases e)|skip
    split at e
    · rename_i hs;rw[hs];simpa using e
    · cases e
def q37(p:Pub) (a:Addr) (vs:List Value):Prop:=∀(j:Nat) v,vs[j]? =δ v->q5n p (a.add j)=δ v
def q3y{p q:Pub} (h:Pub.le p q) {a:Addr} {vs:List Value} (e:q37 p a vs):q37 q a vs:=λj v u=>q8x h (e j v u)
def Pl(a:Option Addr):Prop:=True
def qgm(p:Pub) (a:Option Addr) (vs:List Value):Prop:=(vs=[]/\Pl a)\/∃x,a=δ x/\x.spot=ξ/\q37 p x vs
def qbq{p q:Pub} (h:Pub.le p q) {a:Option Addr} {vs:List Value} (e:qgm p a vs):qgm q a vs:=e.imp (λh=>h) λ⟨x,u,A,B⟩=>⟨x,u,A,q3y h B⟩
variable {vs:List Value}
def rowP_Pl{p:Pub} {a:Option Addr} (h:qgm p a vs):Pl a:=trivial
def qgn(p:Pub) (a:Option Addr) (n c:Nat) (vs:List Value):Prop:=n<=c/\qgm p a vs
def q4n{p q:Pub} (h:Pub.le p q) {a:Option Addr} {n c:Nat} {vs:List Value} (e:qgn p a n c vs):qgn q a n c vs:=⟨e.1,qbq h e.2⟩
abbrev jI:=Nat×Nat×Nat×Nat
def qk8(k:Nat):List jI->Bool
  | []=>θ
  | (_,_,_,j)::l=>match ι k j with
    |true=>ζ
    |false=>qk8 k l
def addOcc(q:jI) (acc:List jI):List jI:=match qk8 q.2.2.2 acc with
 |true=>acc
 |false=>q::acc
mutual
def zN(id:Nat):AV->List jI->List jI
  | .ssl i off len esz k,acc=>match ι i id with
    |true=>addOcc (off,len,esz,k) acc
    |false=>acc
  | .agg l,acc=>occL id l acc
  | .tup l,acc=>occL id l acc
  |_,acc=>acc
def occL(id:Nat):List AV->List jI->List jI
 | [],acc=>acc
 |a::l,acc=>occL id l (zN id a acc)
end
def Hg(id:Nat):List (Nat×AV)->List jI->List jI
 | [],acc=>acc
 | (_,a)::l,acc=>Hg id l (zN id a acc)
section
variable {I:In} {id:Nat}
abbrev xD(I:In) (id:Nat) (q:jI):Prop:=∃u,VR I (.ssl id q.1 q.2.1 q.2.2.1 q.2.2.2) u
def q9w{q:jI} {acc:List jI} (h:∀r∈acc,xD I id r) (hq:xD I id q):∀r∈addOcc q acc,xD I id r:=λr hr=>by
 unfold addOcc at hr;split at hr
 ·exact h r hr
 ·cases hr with
  |head=>exact hq
  |tail _ hr=>exact h r hr
mutual
def qbc:∀{a:AV} {v:Value},VR I a v->∀{acc:List jI},(∀r∈acc,xD I id r)->∀r∈zN id a acc,xD I id r
  | .ssl i off len esz k,v,u,acc,h=>by
    unfold zN;split
    · rename_i B;have e:=γ B;subst e;exact q9w h ⟨v,u⟩
    · exact h
  | .agg l,v,u,acc,h=>by unfold zN;cases u with|agg A=>exact occL_ok A h
  | .tup l,v,u,acc,h=>by unfold zN;cases u with|tup A=>exact occL_ok A h
  | .bool _,_,_,_,h=>by unfold zN;exact h
  | .int _ _,_,_,_,h=>by unfold zN;exact h
  | .str _,_,_,_,h=>by unfold zN;exact h
  | .nilp,_,_,_,h=>by unfold zN;exact h
  | .ptr _ _,_,_,_,h=>by unfold zN;exact h
  | .nsl,_,_,_,h=>by unfold zN;exact h
  | .sl _ _ _ _,_,_,_,h=>by unfold zN;exact h
  | .gsl _ _ _ _,_,_,_,h=>by unfold zN;exact h
  | .nmap,_,_,_,h=>by unfold zN;exact h
  | .map _,_,_,_,h=>by unfold zN;exact h
  | .fn _ _,_,_,_,h=>by unfold zN;exact h
  | .nilf,_,_,_,h=>by unfold zN;exact h
  | .nili,_,_,_,h=>by unfold zN;exact h
  | .ifc _ _,_,_,_,h=>by unfold zN;exact h
  | .ifo,_,_,_,h=>by unfold zN;exact h
  | .anyi _,_,_,_,h=>by unfold zN;exact h
  | .lin _ _ _,_,_,_,h=>by unfold zN;exact h
  | .bfn _ _ _,_,_,_,h=>by unfold zN;exact h
  | .sv _,_,_,_,h=>by unfold zN;exact h
  | .tsl _,_,_,_,h=>by unfold zN;exact h
  | .msl _ _ _,_,_,_,h=>by unfold zN;exact h
  | .usl _ _ _ _,_,_,_,h=>by unfold zN;exact h
  | .sptr _ _,_,_,_,h=>by unfold zN;exact h
  | .tpt _,_,_,_,h=>by unfold zN;exact h
  | .tmap _,_,_,_,h=>by unfold zN;exact h
def occL_ok:∀{l:List AV} {vs:List Value},VRs I l vs->∀{acc:List jI},(∀r∈acc,xD I id r)->∀r∈occL id l acc,xD I id r
 | [],_,_,acc,h=>by unfold occL;exact h
 |a::l,_,B,acc,h=>by unfold occL;cases B with|cons u A=>exact occL_ok A (qbc u h)
end
def qbe{t:T AV} {B:Array Value} (A:TR I t B):∀{l:List (Nat×AV)},(∀k a,(k,a)∈l->t.get k=δ a)->∀{acc:List jI},(∀r∈acc,xD I id r)->∀r∈Hg id l acc,xD I id r
 | [],_,acc,h=>h
 | (k,a)::l,u,acc,h=>qbe A (λk b hm=>u k b (π _ hm)) (qbc (A k a (u k a φ)) h)
end
mutual
def q_(id b s u:Nat) (x:Nat->SV) (ks:List Nat):AV->AV
  | .ptr i off=>match ι i id with
    |true=> .sv (.pointer (δ ⟨b,s+off,ξ⟩))
    |false=> .ptr i off
  | .sptr i off=>match ι i id with
    |true=> .sv (.pointer (δ ⟨b,s+off,ξ⟩))
    |false=> .sptr i off
  | .sl i off len cap=>match ι i id with
    |true=> .sv (.slice (δ ⟨b,s+off,ξ⟩) len cap)
    |false=> .sl i off len cap
  | .msl i len esz=>match ι i id with
    |true=> .sv (.slice (δ ⟨b,s,ξ⟩) len (u / esz))
    |false=> .msl i len esz
  | .usl i off len esz=> .usl i off len esz
  | .map i=>match ι i id with
    |true=> .sv (.map (δ b))
    |false=> .map i
  | .ssl i off len esz k=>match jh k ks with
    |true=> .sv (.slice (x k).1 len (x k).2.2)
    |false=> .ssl i off len esz k
  | .ifc t a=> .ifc t (q_ id b s u x ks a)
  | .agg l=> .agg (pubL id b s u x ks l)
  | .tup l=> .tup (pubL id b s u x ks l)
  | .fn f l=> .fn f (pubL id b s u x ks l)
  | .bfn f l m=> .bfn f (pubL id b s u x ks l) (pubL id b s u x ks m)
  | .bool b=> .bool b
  | .int k n=> .int k n
  | .str s=> .str s
  | .nilp=> .nilp
  | .nsl=> .nsl
  | .gsl a b c d=> .gsl a b c d
  | .nmap=> .nmap
  | .nilf=> .nilf
  | .nili=> .nili
  | .ifo=> .ifo
  | .anyi k=> .anyi k
  | .lin k c l=> .lin k c l
  | .sv v=> .sv v
  | .tsl k=> .tsl k
  | .tpt k=> .tpt k
  | .tmap k=> .tmap k
def pubL(id b s u:Nat) (x:Nat->SV) (ks:List Nat):List AV->List AV
 | []=>[]
 |a::l=>q_ id b s u x ks a::pubL id b s u x ks l
end
section
variable {I:In} {id b s u:Nat} {x:Nat->SV} {ks:List Nat}
mutual
def Gt(hid:∀J O t,I id=δ (J,O,t)->J=b/\O=s/\t=u) (hx:∀k y,k∈ks->I k=δ y->x k=zx y):∀{a v},VR I a v->VR I (q_ id b s u x ks a) v
  | _,_, .ptr h=>by
    unfold q_;split
    · rename_i A;have e:=γ A;subst e;obtain⟨rfl,rfl,rfl⟩:=hid _ _ _ h;exact .sv _
    · exact .ptr h
  | _,_, .sptr h=>by
    unfold q_;split
    · rename_i A;have e:=γ A;subst e;obtain⟨rfl,rfl,rfl⟩:=hid _ _ _ h;exact .sv _
    · exact .sptr h
  | _,_, .sl h=>by
    unfold q_;split
    · rename_i A;have e:=γ A;subst e;obtain⟨rfl,rfl,rfl⟩:=hid _ _ _ h;exact .sv _
    · exact .sl h
  | _,_, .msl h C G=>by
    unfold q_;split
    · rename_i A;have e:=γ A;subst e;obtain⟨rfl,rfl,rfl⟩:=hid _ _ _ h;exact .sv _
    · exact .msl h C G
  |_,_, .usl h B C G=>by unfold q_;exact .usl h B C G
  |_,_, .usl0 h=>by unfold q_;exact .usl0 h
  | _,_, .map (t:=t) h=>by
    unfold q_;split
    · rename_i A;have e:=γ A;subst e;obtain⟨rfl,_⟩:=hid _ _ _ h;exact .sv _
    · exact .map h
  | _,_, .ssl (k:=k) h B C G H hd=>by
    unfold q_;split
    · rename_i hm;rw[hx _ _ (wH hm) H,hd];exact .sv _
    · exact .ssl h B C G H hd
  | _,_, .ssl0 (k:=k) h H hd=>by
    unfold q_;split
    · rename_i hm;rw[hx _ _ (wH hm) H,hd,h];exact .sv _
    · exact .ssl0 h H hd
  |_,_, .tsl h=>by unfold q_;exact .tsl h
  |_,_, .tpt h=>by unfold q_;exact .tpt h
  |_,_, .tmap h=>by unfold q_;exact .tmap h
  |_,_, .ifc h=>by unfold q_;exact .ifc (Gt hid hx h)
  |_,_, .agg h=>by unfold q_;exact .agg (pubL_ok hid hx h)
  |_,_, .tup h=>by unfold q_;exact .tup (pubL_ok hid hx h)
  |_,_, .fn h=>by unfold q_;exact .fn (pubL_ok hid hx h)
  |_,_, .bfn B h=>by unfold q_;exact .bfn (pubL_ok hid hx B) (pubL_ok hid hx h)
  |_,_, .bool b=>by unfold q_;exact .bool b
  |_,_, .int k n=>by unfold q_;exact .int k n
  |_,_, .str l=>by unfold q_;exact .str l
  |_,_, .nilp=>by unfold q_;exact .nilp
  |_,_, .nsl=>by unfold q_;exact .nsl
  |_,_, .gsl h B C G=>by unfold q_;exact .gsl h B C G
  |_,_, .nmap=>by unfold q_;exact .nmap
  |_,_, .nilf=>by unfold q_;exact .nilf
  |_,_, .nili=>by unfold q_;exact .nili
  |_,_, .ifo=>by unfold q_;exact .ifo
  |_,_, .anyi=>by unfold q_;exact .anyi
  |_,_, .lin h=>by unfold q_;exact .lin h
  |_,_, .sv v=>by unfold q_;exact .sv v
def pubL_ok(hid:∀A B t,I id=δ (A,B,t)->A=b/\B=s/\t=u) (hx:∀k y,k∈ks->I k=δ y->x k=zx y):∀{l vs},VRs I l vs->VRs I (pubL id b s u x ks l) vs
 |_,_, .nil=>by unfold pubL;exact .nil
 |_,_, .cons h t=>by unfold pubL;exact .cons (Gt hid hx h) (pubL_ok hid hx t)
end
end
def pubE(id b s u:Nat) (x:Nat->SV) (ks:List Nat):List (Value×AV×Nat)->List (Value×AV×Nat)
 | []=>[]
 | (k,a,n)::l=>(k,q_ id b s u x ks a,n)::pubE id b s u x ks l
def xI(id b s u:Nat) (x:Nat->SV) (ks:List Nat):AO->AO
 | .cells e fz g l=> .cells e fz g (pubL id b s u x ks l)
 | .map es c=> .map (pubE id b s u x ks es) c
 | .row e fz vs=> .row e fz vs
 | .mrow es c=> .mrow es c
 | .iter m s l c=> .iter m s l c
section
variable {I:In} {id b s u:Nat} {x:Nat->SV} {ks:List Nat}
def qbj(hid:∀A B t,I id=δ (A,B,t)->A=b/\B=s/\t=u) (hx:∀k y,k∈ks->I k=δ y->x k=zx y):∀{l ms},MR I l ms->MR I (pubE id b s u x ks l) ms
 |_,_, .nil=> .nil
 |_,_, .cons h t=> .cons (Gt hid hx h) (qbj hid hx t)
def qfz(hid:∀C G t,I id=δ (C,G,t)->C=b/\G=s/\t=u) (hx:∀k y,k∈ks->I k=δ y->x k=zx y) {t o ob} (h:OR I t o ob):OR I t (xI id b s u x ks o) ob:=by
 cases h with
 |cells h J hp B A H=>exact .cells (pubL_ok hid hx h) J hp B A H
 |map h=>exact .map (qbj hid hx h)
 |row hp B A=>exact .row hp B A
 |mrow=>exact .mrow
 |iter h hp=>exact .iter h hp
def qg0:∀o:AO,(xI id b s u x ks o).rw=o.rw
 | .cells _ ξ _ _=>rfl
 | .cells _ (δ _) _ _=>rfl
 | .map .. =>rfl
 | .row .. =>rfl
 | .mrow .. =>rfl
 | .iter .. =>rfl
end
mutual
def zM(id:Nat):AV->List (Nat×Nat)->List (Nat×Nat)
  | .msl i len esz,acc=>match ι i id with
    |true=>(len,esz)::acc
    |false=>acc
  | .agg l,acc=>mocL id l acc
  | .tup l,acc=>mocL id l acc
  |_,acc=>acc
def mocL(id:Nat):List AV->List (Nat×Nat)->List (Nat×Nat)
 | [],acc=>acc
 |a::l,acc=>mocL id l (zM id a acc)
end
def V6(id:Nat):List (Nat×AV)->List (Nat×Nat)
  | []=>[]
  | (_,a)::l=>match zM id a []with
    | []=>V6 id l
    |q::_=>[q]
section
variable {I:In} {id:Nat}
abbrev VY(I:In) (id:Nat) (q:Nat×Nat):Prop:=∃u,VR I (.msl id q.1 q.2) u
mutual
def qb6:∀{a:AV} {v:Value},VR I a v->∀{acc:List (Nat×Nat)},(∀r∈acc,VY I id r)->∀r∈zM id a acc,VY I id r
  | .msl i len esz,v,u,acc,h=>by
    unfold zM;split
    · rename_i B;have e:=γ B;subst e;intro r hr;cases hr with
      |head=>exact⟨v,u⟩
      |tail _ hr=>exact h r hr
    · exact h
  | .agg l,v,u,acc,h=>by unfold zM;cases u with|agg A=>exact mocL_ok A h
  | .tup l,v,u,acc,h=>by unfold zM;cases u with|tup A=>exact mocL_ok A h
  | .bool _,_,_,_,h=>by unfold zM;exact h
  | .int _ _,_,_,_,h=>by unfold zM;exact h
  | .str _,_,_,_,h=>by unfold zM;exact h
  | .nilp,_,_,_,h=>by unfold zM;exact h
  | .ptr _ _,_,_,_,h=>by unfold zM;exact h
  | .nsl,_,_,_,h=>by unfold zM;exact h
  | .sl _ _ _ _,_,_,_,h=>by unfold zM;exact h
  | .gsl _ _ _ _,_,_,_,h=>by unfold zM;exact h
  | .nmap,_,_,_,h=>by unfold zM;exact h
  | .map _,_,_,_,h=>by unfold zM;exact h
  | .fn _ _,_,_,_,h=>by unfold zM;exact h
  | .nilf,_,_,_,h=>by unfold zM;exact h
  | .nili,_,_,_,h=>by unfold zM;exact h
  | .ifc _ _,_,_,_,h=>by unfold zM;exact h
  | .ifo,_,_,_,h=>by unfold zM;exact h
  | .anyi _,_,_,_,h=>by unfold zM;exact h
  | .lin _ _ _,_,_,_,h=>by unfold zM;exact h
  | .bfn _ _ _,_,_,_,h=>by unfold zM;exact h
  | .sv _,_,_,_,h=>by unfold zM;exact h
  | .tsl _,_,_,_,h=>by unfold zM;exact h
  | .ssl _ _ _ _ _,_,_,_,h=>by unfold zM;exact h
  | .usl _ _ _ _,_,_,_,h=>by unfold zM;exact h
  | .sptr _ _,_,_,_,h=>by unfold zM;exact h
  | .tpt _,_,_,_,h=>by unfold zM;exact h
  | .tmap _,_,_,_,h=>by unfold zM;exact h
def mocL_ok:∀{l:List AV} {vs:List Value},VRs I l vs->∀{acc:List (Nat×Nat)},(∀r∈acc,VY I id r)->∀r∈mocL id l acc,VY I id r
 | [],_,_,acc,h=>by unfold mocL;exact h
 |a::l,_,B,acc,h=>by unfold mocL;cases B with|cons u A=>exact mocL_ok A (qb6 u h)
end
def qb8{t:T AV} {A:Array Value} (u:TR I t A):∀{l:List (Nat×AV)},(∀k a,(k,a)∈l->t.get k=δ a)->∀r∈V6 id l,VY I id r
  | [],_,r,hr=>by cases hr
  | (k,a)::l,h,r,hr=>by
    unfold V6 at hr;split at hr
    · exact qb8 u (λk b hm=>h k b (π _ hm)) r hr
    · rename_i q B hq;have:=qb6 (id:=id) (u k a (h k a φ)) (acc:=[]) (λr hr=>by cases hr) q (by rw[hq];simp);cases hr with
      |head=>exact this
      |tail _ hr=>cases hr
end
def JZ(vs:List Value) (b s u:Nat) (p:Pub):List (Nat×Nat)->Prop
 | []=>True
 |q::_=>qgn p (δ ⟨b,s,ξ⟩) q.1 (u / q.2) (vs.take (q.1*q.2))
def qb7{b s u:Nat} {p q:Pub} (hp:Pub.le p q):∀{l:List (Nat×Nat)},JZ vs b s u p l->JZ vs b s u q l
 | [],_=>trivial
 |r::l,h=>q4n hp h
def yY:List jI->List Nat
 | []=>[]
 |q::l=>q.2.2.2::yY l
def wQ(vs:List Value) (x:Nat->SV) (p:Pub):List jI->Prop
 | []=>True
 | [q]=>qgn p (x q.2.2.2).1 q.2.1 (x q.2.2.2).2.2 (match q.1 with|0=>vs.take (q.2.1*q.2.2.1)|off=>(vs.drop off).take (q.2.1*q.2.2.1))
 |q::l=>qgn p (x q.2.2.2).1 q.2.1 (x q.2.2.2).2.2 (match q.1 with|0=>vs.take (q.2.1*q.2.2.1)|off=>(vs.drop off).take (q.2.1*q.2.2.1))/\wQ vs x p l
def qbd{vs:List Value} {x:Nat->SV} {p:Pub}:∀{l:List jI},(∀q∈l,qgn p (x q.2.2.2).1 q.2.1 (x q.2.2.2).2.2 ((vs.drop q.1).take (q.2.1*q.2.2.1)))->wQ vs x p l
  | [],_=>trivial
  | [q],h=>by
    have:=h q (by simp);simp only[wQ];split
    · rename_i u;rw[u]at this;exact this
    · exact this
  | q::r::l,h=>by
    have:=h q (by simp);refine⟨?_,qbd λc A=>h c (by simp at A⊢;exact .inr A)⟩;split
    · rename_i u;rw[u]at this;exact this
    · exact this
def N5{vs:List Value} {x:Nat->SV} {p q:Pub} (hp:Pub.le p q):∀{l:List jI},wQ vs x p l->wQ vs x q l
 | [],_=>trivial
 | [r],h=>q4n hp h
 |r::s::l,h=>⟨q4n hp h.1,N5 hp h.2⟩
def I5(id:Nat) (vs:List Value) (gl:GL) (t:T AV) (B:T AO) (K:GL->T AV->T AO->Prop) (A:List jI):List (Nat×Nat)->Prop
 | []=>∀b s u:Nat,Zr (yY A) QD λx=>Ob (∃p,gl.pf p/\wQ vs x p A)->K (gl.and (λp=>wQ vs x p A) (λ_ _ hp h=>N5 hp h)) (jx (q_ id b s u x (yY A)) t) (jx (xI id b s u x (yY A)) B)
 |q::l=>∀b s u:Nat,Zr (yY A) QD λx=>Ob (∃p,gl.pf p/\wQ vs x p A/\JZ vs b s u p (q::l))->K (gl.and (λp=>wQ vs x p A/\JZ vs b s u p (q::l)) (λ_ _ hp h=>⟨N5 hp h.1,qb7 hp h.2⟩)) (jx (q_ id b s u x (yY A)) t) (jx (xI id b s u x (yY A)) B)
def OS(id:Nat) (gl:GL) (t:T AV) (h:T AO) (K:GL->T AV->T AO->Prop):Prop:=match h.get id with
  | some (.row e fz vs)=>match T.put 64 id ξ h with
    |some A=>I5 id vs gl t A K (Hg id (z7 t) []) (V6 id (z7 t))
    |none=>False
  | some (.cells e fz g l)=>match jS l with
    | some vs=>match T.put 64 id ξ h with
      |some A=>∀b s u:Nat,Ob (∃p,gl.pf p/\q37 p ⟨b,s,ξ⟩ vs)->K (gl.and (λp=>q37 p ⟨b,s,ξ⟩ vs) (λ_ _ hp h=>q3y hp h)) (jx (q_ id b s u QD []) t) (jx (xI id b s u QD []) A)
      |none=>False
    |none=>False
  | some (.mrow es c)=>match T.put 64 id ξ h with
    |some A=>∀b s u:Nat,Ob (∃p,gl.pf p/\p b=δ (.map ⟨es⟩ c))->K (gl.and (λp=>p b=δ (.map ⟨es⟩ c)) (λ_ _ hp h=>hp _ _ h)) (jx (q_ id b s u QD []) t) (jx (xI id b s u QD []) A)
    |none=>False
  |_=>False
section
variable {F0:Bool->Nat->Prop} {I0:In} {nx0:Nat} {w0:World} {n:Nat}
def kM(F0:Bool->Nat->Prop) (I0:In) (nx0:Nat) (w0:World) (n:Nat) (I:In) (nx:Nat) (a:Act) (w:World) (tab:T AV) (K:GL->T AV->T AO->Prop):Prop:=∃gl t h F,gl.tab=tab/\K gl t h/\St gl F I t h n a w/\At F0 I0 nx0 w0 F I nx w
def qd1{I:In} {id b s u:Nat} {x:Nat->SV} {ks:List Nat} (hid:∀B C t,I id=δ (B,C,t)->B=b/\C=s/\t=u) (hx:∀k y,k∈ks->I k=δ y->x k=zx y) {t:T AV} {G:Array Value} (h:TR I t G):TR I (jx (q_ id b s u x ks) t) G:=λn a e=>by
 rw[Ge]at e;cases A:t.get n with
 |none=>rw[A]at e;cases e
 |some c=>rw[A]at e;cases e;exact Gt hid hx (h n c A)
variable {gl:GL} {F:Bool->Nat->Prop} {t:T AV} {nx:Nat} {a:Act} {w:World}
def N7{u:Nat} {I:In} {h V:T AO} (st:St gl F I t h n a w) (B:At F0 I0 nx0 w0 F I nx w) {id:Nat} {o:AO} (hg:h.get id=δ o) (hp:T.put 64 id ξ h=δ V) {b s:Nat} {x:Nat->SV} {ks:List Nat} (hid:∀b' s' t,I id=δ (b',s',t)->b'=b/\s'=s/\t=u) (hx:∀k y,k∈ks->I k=δ y->x k=zx y)
  {f:Pub->Prop} {m:∀p q,Pub.le p q->f p->f q} (hrw:o.rw=ζ) {K:GL->T AV->T AO->Prop} (hf:f (q11 (λs c=>F s c\/(c=b/\∃y,I id=δ y)) w)) (e:K (gl.and f m) (jx (q_ id b s u x ks) t) (jx (xI id b s u x ks) V)):kM F0 I0 nx0 w0 n I nx a w gl.tab K:=by
 let F2:Bool->Nat->Prop:=λs c=>F s c\/(c=b/\∃y,I id=δ y)
 have hpf:Pub.le (q11 F w) (q11 F2 w):=λc ob hb=>by rw[q03]at hb⊢;exact⟨.inl hb.1,hb.2⟩
 have X:∀k q,V.get k=δ q->h.get k=δ q/\k≠id:=λk q A=>by
  rw[T.get_put _ _ _ _ _ hp]at A;split at A
  ·cases A
  ·rename_i hne;exact⟨A,hne⟩
 have back:∀k q,(jx (xI id b s u x ks) V).get k=δ q->∃H,h.get k=δ H/\k≠id/\q=xI id b s u x ks H:=λk q A=>by
  rw[Ge]at A;cases J:V.get k with
  |none=>rw[J]at A;cases A
  |some H=>rw[J]at A;cases A;exact⟨H,(X k H J).1,(X k H J).2,rfl⟩
 have O:∀y,I id=δ y->y.1=b:=λy G=>(hid y.1 y.2.1 y.2.2 G).1;refine⟨gl.and f m,_,_,F2,rfl,e,⟨qd1 hid hx st.tr,st.size,st.defers,⟨λk q c tt A U=> ?_,λk k' q H c tt tt' A hk' U Z=> ?_,λk q c tt A U Y=> ?_⟩,λc C=> ?_,st.gok,λc C=>C.imp (st.zf c) λh=>h,⟨gl.mono _ _ hpf st.pf,hf⟩⟩,{B with sup:=λs c C=> .inl (B.sup s c C),sub:=λc C=>C.elim (B.sub c) λC=> .inr λh0=> ?_,frm:=B.frm}⟩
 ·obtain⟨H,g1,g2,rfl⟩:=back k q A;obtain⟨ob,g3,g4⟩:=st.sim.obj _ _ _ _ g1 U;exact⟨ob,g3,qfz hid hx g4⟩
 ·obtain⟨q1,g1,_,_⟩:=back k q A;obtain⟨q2,g2,_,_⟩:=back k' H hk';exact st.sim.inj _ _ _ _ _ _ _ g1 g2 U Z
 ·obtain⟨H,g1,g2,rfl⟩:=back k q A;rw[qg0];rcases Y with Y|⟨rfl,y,G⟩
  ·exact(st.sim.fr _ _ _ _ g1 U Y).imp (λh=>h) .inl
  ·have:=O y G;obtain⟨y1,y2⟩:=y;simp only at this;subst this;exact absurd (st.sim.inj _ _ _ _ _ _ _ g1 hg U G) g2
 ·rcases C with C|⟨rfl,y,G⟩
  ·exact st.low c C
  ·have:=O y G;obtain⟨y1,y2⟩:=y;simp only at this;subst this;obtain⟨ob,g3,_⟩:=st.sim.obj _ _ _ _ hg G;exact(Array.getElem?_eq_some_iff.1 g3).1
 ·obtain⟨rfl,y,G⟩:=C;have:=O y G;obtain⟨y1,y2⟩:=y;simp only at this;subst this;have:=(st.sim.fr _ _ _ _ hg G (B.sup ζ _ h0)).1;rw[hrw]at this;cases this
def NZ{q:jI}:∀{l:List jI},q∈l->q.2.2.2∈yY l
  | r::l,h=>by
    simp only[yY];cases h with
    |head=>exact φ
    |tail _ h=>exact π _ (NZ h)
def NN{K L:(Nat->SV)->Prop} (h:∀x,K x->L x):∀(l:List Nat) (x:Nat->SV),Zr l x K->Zr l x L
 | [],x,e=>h x e
 |k::l,x,e=>λa n c=>NN h l _ (e a n c)
variable {h:T AO} {K:GL->T AV->T AO->Prop}
def qfx {I:In} {id:Nat} (e:OS id gl t h K) (st:St gl F I t h n a w) (at0:At F0 I0 nx0 w0 F I nx w) (hid:(∃o,h.get id=δ o/\o.rw=ζ)/\((∃e fz vs,h.get id=δ (.row e fz vs))\/∃y,I id=δ y)):kM F0 I0 nx0 w0 n I nx a w gl.tab K:=by
  obtain⟨⟨o,T,hrw⟩,hor⟩:=hid;unfold OS at e;rw[T]at e;have all:∀y,I id=δ y->∃ob,w.heap[y.1]? =δ ob/\OR I y.2 o ob:=λy H=>by obtain⟨b,t⟩:=y;exact st.sim.obj _ _ _ _ T H
  cases o with
  | row el fz vs=>
    simp only at e;split at e;case h_2=>exact e.elim
    rename_i h1 hp;generalize hoc:Hg id (z7 t) []=Z at e;have hocc:∀q∈Z,xD I id q:=(by rw[←hoc];exact qbe st.tr (λk a hm=>F9 hm) λr hr=>by cases hr);have X:∀q∈V6 id (z7 t),VY I id q:=qb8 st.tr λk a hm=>F9 hm;generalize hmc:V6 id (z7 t)=mc at e X;obtain⟨A,B⟩:∃A:Nat×Nat×Nat,∀U s' t,I id=δ (U,s',t)->U=A.1/\s'=A.2.1/\t=A.2.2:=by
      cases V:I id with
      |none=>exact⟨(0,0,0),λ_ _ _ h=>by cases h⟩
      |some y=>exact⟨y,λ_ _ _ h=>by cases h;exact⟨rfl,rfl,rfl⟩⟩
    have e:Zr (yY Z) QD λx=>Ob (∃p,gl.pf p/\wQ vs x p Z/\JZ vs A.1 A.2.1 A.2.2 p mc)->∃f m,(∀p,wQ vs x p Z/\JZ vs A.1 A.2.1 A.2.2 p mc->f p)/\K (gl.and f m) (jx (q_ id A.1 A.2.1 A.2.2 x (yY Z)) t) (jx (xI id A.1 A.2.1 A.2.2 x (yY Z)) h1):=by
      cases mc with
      | nil=>
        simp only[I5]at e;refine NN (λx hx hp=> ?_) _ _ (e A.1 A.2.1 A.2.2);obtain⟨p,h1,h2,_⟩:=hp;exact⟨_,_,λp h=>h.1,hx ⟨p,h1,h2⟩⟩
      | cons q l=>
        simp only[I5]at e;exact NN (λx hx hp=>⟨_,_,λp h=>h,hx hp⟩) _ _ (e A.1 A.2.1 A.2.2)
    obtain⟨x,e,hx,_⟩:=Ii (λk=>match I k with|some y=>zx y|none=>(ξ,0,0)) _ _ e;have hx':∀k y,k∈yY Z->I k=δ y->x k=zx y:=λk y O H=>by rw[hx k O];simp only[H]
    let F2:Bool->Nat->Prop:=λs c=>F s c\/(c=A.1/\∃y,I id=δ y)
    have hfm:JZ vs A.1 A.2.1 A.2.2 (q11 F2 w) mc:=by
      cases mc with
      |nil=>trivial
      | cons q l=>
        obtain⟨u,hu⟩:=X q (by simp);cases hu with
        | @msl _ _ _ b s tt V g2 g3=>
          obtain⟨ob,Y,k2⟩:=all _ V;obtain⟨rfl,rfl,rfl⟩:=B _ _ _ V;refine⟨(Nat.le_div_iff_mul_le g3).2 g2, .inr ⟨_,rfl,rfl,λj v C=> ?_⟩⟩;cases k2 with
          | @row _ _ pre _ rest fr p1 p2 p3=>
            rw[ku];unfold q5n;have:q11 F2 w A.1=δ (.cells ⟨pre++(vs++rest)⟩ el fr):=q03.2 ⟨.inr ⟨rfl,_,V⟩,Y⟩;simp only[this,qah,Ο];rw[qqe]at C;split at C
            · simp only at p1;rw[Ι (by omega),Λ (by have:=(List.getElem?_eq_some_iff.1 C).1;omega),←C];congr 1;omega
            · cases C
    have J : wQ vs x (q11 F2 w) Z:=by
      refine qbd λq hq=> ?_;obtain⟨u,hu⟩:=hocc q hq;cases hu with
      | @ssl _ _ _ _ _ b s tt c o y V g1 g2 g3 O hd=>
        rw[hx' _ _ (NZ hq) O,hd];obtain⟨ob,Y,k2⟩:=all _ V;obtain⟨rfl,rfl,rfl⟩:=B _ _ _ V;refine⟨g1,?_⟩;cases k2 with
        | @row _ _ pre _ rest fr p1 p2 p3=>
          by_cases hl:q.2.1*q.2.2.1=0
          · rw[hl];exact .inl ⟨by simp,trivial⟩
          · have hlen:0<q.2.1:=Nat.pos_of_ne_zero λh0=>hl (by rw[h0];simp);have T:o=A.2.1+q.1:=by
              rcases g3 with g3|g3
              · exact g3
              · omega
            refine .inr ⟨_,rfl,rfl,λj v C=> ?_⟩;rw[ku];unfold q5n;have:q11 F2 w A.1=δ (.cells ⟨pre++(vs++rest)⟩ el fr):=q03.2 ⟨.inr ⟨rfl,_,V⟩,Y⟩;simp only[this,qah,Ο];rw[qqe]at C;split at C
            · rw[qqf]at C;simp only at p1;rw[T,Ι (by omega),Λ (by have:=(List.getElem?_eq_some_iff.1 C).1;omega),←C];congr 1;omega
            · cases C
      | @ssl0 _ _ _ _ _ y h0 O hd=>
        rw[hx' _ _ (NZ hq) O,hd];refine⟨by omega, .inl ⟨by rw[h0];simp,?_⟩⟩;exact trivial
    obtain⟨f,m,hff,e⟩:=e ⟨_,gl.mono _ _ (λc ob G=>by rw[q03]at G⊢;exact⟨.inl G.1,G.2⟩) st.pf,J,hfm⟩;exact N7 st at0 T hp B hx' hrw (hff _ ⟨J,hfm⟩) e
  | cells el fz g l=>
    simp only at e;split at e;case h_2=>exact e.elim
    rename_i vs hvs;split at e;case h_2=>exact e.elim
    rename_i h1 hp;obtain⟨y,H⟩:∃y,I id=δ y:=by
      rcases hor with⟨_,_,_,h⟩|h
      · rw[T]at h;cases h
      · exact h
    obtain⟨b,s,tt⟩:=y;have B:∀U s' t,I id=δ (U,s',t)->U=b/\s'=s/\t=tt:=λ_ _ _ h=>(by rw[H]at h;cases h;exact⟨rfl,rfl,rfl⟩);obtain⟨ob,Y,k2⟩:=all _ H;have J:q37 (q11 (λs c=>F s c\/(c=b/\∃y,I id=δ y)) w) ⟨b,s,ξ⟩ vs:=λj v C=>by
      cases k2 with
      | @cells _ el' _ _ _ pre us rest fr h hg hp' ht J hE=>
        rw[xy hvs h]at Y ht;rw[ku];unfold q5n;have:q11 (λs c=>F s c\/(c=b/\∃y,I id=δ y)) w b=δ (.cells ⟨pre++(vs++rest)⟩ el' fr):=q03.2 ⟨.inr ⟨rfl,_,H⟩,Y⟩;simp only[this,qah,Ο];simp only at hp';rw[Ι (by omega),Λ (by have:=(List.getElem?_eq_some_iff.1 C).1;omega),←C];congr 1;omega
    exact N7 st at0 T hp B (λk y O=>by cases O) hrw J (e b s tt ⟨_,gl.mono _ _ (λc ob G=>by rw[q03]at G⊢;exact⟨.inl G.1,G.2⟩) st.pf,J⟩)
  | mrow es c=>
    simp only at e;split at e;case h_2=>exact e.elim
    rename_i h1 hp;obtain⟨y,H⟩:∃y,I id=δ y:=by
      rcases hor with⟨_,_,_,h⟩|h
      · rw[T]at h;cases h
      · exact h
    obtain⟨b,s,tt⟩:=y;have B:∀U s' t,I id=δ (U,s',t)->U=b/\s'=s/\t=tt:=λ_ _ _ h=>(by rw[H]at h;cases h;exact⟨rfl,rfl,rfl⟩);obtain⟨ob,Y,k2⟩:=all _ H;have J:(q11 (λs c=>F s c\/(c=b/\∃y,I id=δ y)) w) b=δ (.map ⟨es⟩ c):=(by cases k2;exact q03.2 ⟨.inr ⟨rfl,_,H⟩,Y⟩);exact N7 st at0 T hp B (λk y O=>by cases O) hrw J (e b s tt ⟨_,gl.mono _ _ (λc ob G=>by rw[q03]at G⊢;exact⟨.inl G.1,G.2⟩) st.pf,J⟩)
  |map es c=>exact e.elim
  |iter m s l c=>exact e.elim
def QB(id:Nat) (gl:GL) (t:T AV) (h:T AO) (K:GL->T AV->T AO->Prop):Prop:=match h.get id with
  | some o=>match o.rw with
    |true=>OS id gl t h K
    |false=>K gl t h
  |none=>K gl t h
def qi7(id:Nat) (h:T AO) (u:Prop) (K:T AO->Prop):Prop:=match h.get id with
  | some (.cells e (δ fz) ζ l)=>match jS l with
    | some vs=>match T.put 64 id (δ (.row e fz vs)) h with
      |some h'=>K h'
      |none=>u
    |none=>u
  |_=>u
def qdi{I:In} {h h':T AO} (s:Sim F I h w) {id:Nat} {e:TypeId} {fz:Nat} {l:List AV} {vs:List Value} (O:h.get id=δ (.cells e (δ fz) ζ l)) (hv:jS l=δ vs) (hp:T.put 64 id (δ (.row e fz vs)) h=δ h'):Sim F I h' w:=by
  have u:=T.get_put _ _ _ _ _ hp;refine⟨λG o b t A B=> ?_,λG id2 o1 o2 b t1 t2 A B i1 i2=> ?_,λG o b t A B X=> ?_⟩
  · rw [u]at A;split at A
    · rename_i e1;subst e1;cases A;obtain⟨ob,k1,k2⟩:=s.obj _ _ _ _ O B;cases k2 with
      | cells Y _ V Z J C=>
        have:=xy hv Y;subst this;rcases C with C|C
        · subst C;exact⟨_,k1, .row V Z (J fz rfl)⟩
        · cases C.1
    · exact s.obj _ _ _ _ A B
  · have H:∀k o,h'.get k=δ o->∃o',h.get k=δ o':=λk o U=>by
      rw[u]at U;split at U
      · rename_i e1;subst e1;exact⟨_,O⟩
      · exact⟨_,U⟩
    obtain⟨_,g1⟩:=H _ _ A;obtain⟨_,g2⟩:=H _ _ B;exact s.inj _ _ _ _ _ _ _ g1 g2 i1 i2
  · rw[u]at A;split at A
    · rename_i e1;subst e1;have:=(s.fr _ _ _ _ O B X).1;cases this
    · exact s.fr _ _ _ _ A B X
mutual
def wS:Nat->AV->GL->T AV->T AO->(GL->T AV->T AO->Prop)->Prop
  |0,_,gl,t,h,K=>K gl t h
  | f + 1,a,gl,t,h,K=>match a with
    | .ptr id _=>match h.get id with
      |some (.cells _ _ _ l)=>pubVs f l gl t h λgl t h=>QB id gl t h K
      |_=>K gl t h
    | .sl id _ _ _=>match h.get id with
      |some (.cells _ _ _ l)=>pubVs f l gl t h λgl t h=>QB id gl t h K
      |_=>K gl t h
    | .map id=>match h.get id with
      |some (.mrow _ _)=>QB id gl t h K
      |_=>K gl t h
    | .ssl id _ len _ _=>match h.get id with
      |some (.row _ _ _)=>QB id gl t h K
      | some (.cells _ _ _ l)=>match ς 0 len with
        |true=>pubVs f l gl t h λgl t h=>qi7 id h (K gl t h) λh=>QB id gl t h K
        |false=>K gl t h
      |_=>K gl t h
    | .msl id _ _=>match h.get id with
      |some (.row _ _ _)=>QB id gl t h K
      |_=>K gl t h
    | .agg l=>pubVs f l gl t h K
    | .tup l=>pubVs f l gl t h K
    |_=>K gl t h
def pubVs:Nat->List AV->GL->T AV->T AO->(GL->T AV->T AO->Prop)->Prop
 |_,[],gl,t,h,K=>K gl t h
 |0,_,gl,t,h,K=>K gl t h
 |f+1,a::l,gl,t,h,K=>wS f a gl t h λgl t h=>pubVs f l gl t h K
end
def kM.bind{I:In} {tab:T AV} {K L:GL->T AV->T AO->Prop} (p:kM F0 I0 nx0 w0 n I nx a w tab K) (G:∀gl t h F,gl.tab=tab->K gl t h->St gl F I t h n a w->At F0 I0 nx0 w0 F I nx w->kM F0 I0 nx0 w0 n I nx a w tab L):kM F0 I0 nx0 w0 n I nx a w tab L:=by obtain⟨gl,t,h,F,u,A,B,C⟩:=p;exact G gl t h F u A B C
def WV{I:In} {id:Nat} (e:QB id gl t h K) (st:St gl F I t h n a w) (u:At F0 I0 nx0 w0 F I nx w) (hid:(∃e fz vs,h.get id=δ (.row e fz vs))\/∃y,I id=δ y):kM F0 I0 nx0 w0 n I nx a w gl.tab K:=by
 unfold QB at e;split at e
 ·rename_i o B;split at e
  ·rename_i A;exact qfx e st u ⟨⟨o,B,A⟩,hid⟩
  ·exact⟨_,_,_,_,rfl,e,st,u⟩
 ·exact⟨_,_,_,_,rfl,e,st,u⟩
mutual
def qbl {I:In} {nx:Nat} {a:Act} {w:World}:∀(f:Nat) (v:AV) {gl:GL} {F:Bool->Nat->Prop} {t:T AV} {h:T AO} {K:GL->T AV->T AO->Prop},wS f v gl t h K->St gl F I t h n a w->At F0 I0 nx0 w0 F I nx w->(∃u,VR I v u)->kM F0 I0 nx0 w0 n I nx a w gl.tab K
  |0,v,gl,F,t,h,K,e,st,A,J=>⟨_,_,_,_,rfl,by simpa[wS]using e,st,A⟩
  | f + 1, v, gl, F,t,h,K,e,st,A,⟨u,J⟩=>by
    have triv:K gl t h->kM F0 I0 nx0 w0 n I nx a w gl.tab K:=λe=>⟨_,_,_,_,rfl,e,st,A⟩;have B:∀id y,I id=δ y->(match h.get id with
      |some (.cells _ _ _ l)=>pubVs f l gl t h λgl t h=>QB id gl t h K
      |_=>K gl t h)->kM F0 I0 nx0 w0 n I nx a w gl.tab K:=λid y hy e=>by
      split at e
      · rename_i el fz g l G;obtain⟨b,tt⟩:=y;obtain⟨ob,k1,Y⟩:=st.sim.obj _ _ _ _ G hy;cases Y with
        | cells H _ _ _ _ _=>
          refine kM.bind (pubVs_ok f l e st A ⟨_,H⟩) λO t2 h2 F2 g1 g2 g3 g4=> ?_;have:=WV g2 g3 g4 (.inr ⟨_,hy⟩);rw[g1]at this;exact this
      · exact triv e
    cases v with
    | ptr id off=>
      simp only[wS]at e;cases J with|ptr C=>exact B id _ C e
    | sl id off len cap=>
      simp only[wS]at e;cases J with|sl C=>exact B id _ C e
    | map id=>
      simp only[wS]at e;cases J with
      | map C=>
        split at e
        · exact WV e st A (.inr ⟨_,C⟩)
        · exact triv e
    | ssl id off len esz k=>
      simp only[wS]at e;split at e
      · rename_i el fz vs G;exact WV e st A (.inl ⟨_,_,_,G⟩)
      · rename_i el fz g l G;split at e
        · rename_i hb;have h0:0<len:=(by simpa[ψ]using hb);cases J with
          | ssl C _ _ _ _ _=>
            obtain⟨ob,k1,Y⟩:=st.sim.obj _ _ _ _ G C;cases Y with
            | cells H _ _ _ _ _=>
              refine kM.bind (pubVs_ok f l e st A ⟨_,H⟩) λO t2 h2 F2 g1 g2 g3 g4=> ?_;unfold qi7 at g2;split at g2
              · rename_i e2 fz2 l2 V;split at g2
                · rename_i vs2 U;split at g2
                  · rename_i h3 X;have Z:St O F2 I t2 h3 n a w:={g3 with sim:=qdi g3.sim V U X};have:=WV g2 Z g4 (.inr ⟨_,C⟩);rw[g1]at this;exact this
                  · exact⟨_,_,_,_,g1,g2,g3,g4⟩
                · exact⟨_,_,_,_,g1,g2,g3,g4⟩
              · exact⟨_,_,_,_,g1,g2,g3,g4⟩
          |ssl0 hz _ _=>omega
        · exact triv e
      · exact triv e
    | msl id len esz=>
      simp only[wS]at e;split at e
      · rename_i el fz vs G;exact WV e st A (.inl ⟨_,_,_,G⟩)
      · exact triv e
    | agg l=>
      simp only[wS]at e;cases J with|agg H=>exact pubVs_ok f l e st A ⟨_,H⟩
    | tup l=>
      simp only[wS]at e;cases J with|tup H=>exact pubVs_ok f l e st A ⟨_,H⟩
    |_=>simp only[wS]at e;exact triv e
def pubVs_ok{I:In} {nx:Nat} {a:Act} {w:World}:∀(f:Nat) (l:List AV) {gl:GL} {F:Bool->Nat->Prop} {t:T AV} {h:T AO} {K:GL->T AV->T AO->Prop},pubVs f l gl t h K->St gl F I t h n a w->At F0 I0 nx0 w0 F I nx w->(∃vs,VRs I l vs)->kM F0 I0 nx0 w0 n I nx a w gl.tab K
  |f,[],gl,F,t,h,K,e,st,u,A=>⟨_,_,_,_,rfl,by cases f<;>simpa[pubVs]using e,st,u⟩
  |0,b::l,gl,F,t,h,K,e,st,u,A=>⟨_,_,_,_,rfl,by simpa[pubVs]using e,st,u⟩
  | f +1,b::l,gl,F,t,h,K,e,st,u,⟨vs,A⟩=>by
    simp only[pubVs]at e;cases A with
    | cons C G=>
      refine kM.bind (qbl f b e st u ⟨_,C⟩) λB t2 J H g1 g2 g3 g4=> ?_;have:=pubVs_ok f l g2 g3 g4 ⟨_,G⟩;rw[g1]at this;exact this
end
def OT(a:AV) (gl:GL) (t:T AV) (h:T AO) (K:GL->T AV->T AO->Prop):Prop:=match a with
  | .ptr id _=>match h.get id with
    |some (.cells _ _ _ l)=>pubVs 200 l gl t h K
    |_=>K gl t h
  |_=>K gl t h
def qfy{I:In} {v:AV} (e:OT v gl t h K) (st:St gl F I t h n a w) (A:At F0 I0 nx0 w0 F I nx w) (B:∃u,VR I v u):kM F0 I0 nx0 w0 n I nx a w gl.tab K:=by
  obtain⟨u,B⟩:=B;unfold OT at e;split at e
  · rename_i id off;cases B with
    | ptr C=>
      split at e
      · rename_i el fz g l G;obtain⟨ob,O,J⟩:=st.sim.obj _ _ _ _ G C;cases J with
        |cells H _ _ _ _ _=>exact pubVs_ok 200 l e st A ⟨_,H⟩
      · exact⟨_,_,_,_,rfl,e,st,A⟩
  · exact⟨_,_,_,_,rfl,e,st,A⟩
def wR:List Nat->GL->T AV->T AO->(GL->T AV->T AO->Prop)->Prop
  | [],gl,t,h,K=>K gl t h
  | k ::l,gl,t,h,K=>match Ρ 1000000 k with
    | true=>match t.get (Nat.sub k 1000000)with
      |some a=>OT a gl t h λgl t h=>wR l gl t h K
      |none=>wR l gl t h K
    | false=>match t.get k with
      |some a=>wS 200 a gl t h λgl t h=>wR l gl t h K
      |none=>wR l gl t h K
def Zn{I:In} {nx:Nat} {a:Act} {w:World}:∀(l:List Nat) {gl:GL} {F:Bool->Nat->Prop} {t:T AV} {h:T AO} {K:GL->T AV->T AO->Prop},wR l gl t h K->St gl F I t h n a w->At F0 I0 nx0 w0 F I nx w->kM F0 I0 nx0 w0 n I nx a w gl.tab K
  | [],gl,F,t,h,K,e,st,u=>⟨_,_,_,_,rfl,e,st,u⟩
  | k ::l,gl,F,t,h,K,e,st,u=>by
    simp only[wR]at e;split at e
    · split at e
      · rename_i b B;refine kM.bind (qfy e st u ⟨_,st.tr _ b B⟩) λA t2 G C g1 g2 g3 g4=> ?_;have:=Zn l g2 g3 g4;rw[g1]at this;exact this
      · exact Zn l e st u
    · split at e
      · rename_i b B;refine kM.bind (qbl 200 b e st u ⟨_,st.tr k b B⟩) λA t2 G C g1 g2 g3 g4=> ?_;have:=Zn l g2 g3 g4;rw[g1]at this;exact this
      · exact Zn l e st u
end
end
section
abbrev KK:=Kd->AV->Option AO->T AO->Nat->GS->Prop
abbrev jB:=GL->T AV->T AO->Nat->Oper->KK->Prop
def vL(P:Cl) (hs:jB):Prop:=∀gl t h nx o K,hs gl t h nx o K->∃k v ob h' u g,KP gl P t h nx o k v ob g h' u/\K k v ob h' u g
abbrev jo:=GL->T AV->T AO->Oper->(AV->Prop)->Prop
def kz(P:Cl) (hr:jo):Prop:=∀gl t h o K,hr gl t h o K->∃v,RP gl P t h o v/\K v
def y0:Bool->Bool->Bool
 |true,ζ=>ζ
 |false,θ=>ζ
 |_,_=>θ
def qex(a b:Bool):y0 a b=(a==b):=by cases a<;>cases b<;>rfl
def hG (ops:Array Oper) (o:Oper) (t:T AV) (K:Bool->Prop):Prop:=match o.guard with
  |none=>K ζ
  | some (j,want)=>match nth ops.toList j with
    | some h=>match h.dst with
      | some d=>match ς d jM with
        | true=>match t.get d with
          |some (.bool b)=>K (y0 b want)
          |some (.sv (.bool b))=>(Ob (b=ζ)->K (y0 ζ want))/\(Ob (b=θ)->K (y0 θ want))
          |some (.sv _)=>False
          |some _=>K θ
          |none=>False
        |false=>False
      |none=>False
    |none=>False
variable {I:In} {t:T AV} {ops:Array Oper}
def guard_of{o A:Oper} {a:Act} {j d:Nat} {want b:Bool} (H:o.guard=δ (j,want)) (C:nth ops.toList j=δ A) (hd:A.dst=δ d) (h:ς d jM=ζ) (J:TR I t a.tmps) {av:AV} (O:t.get d=δ av) (B:∀v,VR I av v->(match v with| .bool b=>δ b|_=>ξ)=δ b):
    Δ o (yielded ops a.tmps)=y0 b want:=by
  unfold Δ;rw[H];have u:ops[j]? =δ A:=by rw[ke]at C;simpa using C
  have T:yielded ops a.tmps j=match a.tmps[d]? with|some (.bool b)=>δ b|_=>none:=by unfold yielded;rw[u];simp only[qqg,hd];rfl
  simp only;rw[T];have hr:=J d av O;rw[Zm (by simpa[ψ]using h),ε]at hr;cases hx:a.tmps[d]? with
  |none=>rw[hx]at hr;have:=B _ hr;simp[undef]at this
  | some v=>
    rw[hx]at hr;have:=B v hr;cases v with
    |bool G=>simp at this;subst this;cases G<;>cases want<;>rfl
    |_=>simp at this
def q85{o A:Oper} {a:Act} {j d:Nat} {want:Bool} (G:o.guard=δ (j,want)) (B:nth ops.toList j=δ A) (hd:A.dst=δ d) (h:ς d jM=ζ) (H:TR I t a.tmps) {av:AV} (J:t.get d=δ av) (C:∀b,av≠ .bool b) (hs:∀v,av≠ .sv v):
    Δ o (yielded ops a.tmps)=false:=by
  unfold Δ;rw[G];have u:ops[j]? =δ A:=by rw[ke]at B;simpa using B
  have O:yielded ops a.tmps j=match a.tmps[d]? with|some (.bool b)=>δ b|_=>none:=by unfold yielded;rw[u];simp only[qqg,hd];rfl
  simp only;rw[O];have hr:=H d av J;rw[Zm (by simpa[ψ]using h),ε]at hr;cases hx:a.tmps[d]? with
  |none=>rfl
  | some v=>
    rw[hx]at hr;cases v with
    | bool T=>cases hr with
      |bool=>exact absurd rfl (C _)
      |sv=>exact absurd rfl (hs _)
    |_=>rfl
def Te (ops:Array Oper) (o:Oper) (t:T AV) (K:Bool->T AV->Prop):Prop:=match o.guard with
  |none=>K ζ t
  | some (j,want)=>match nth ops.toList j with
    | some h =>match h.dst with
      | some d=>match ς d jM with
        | true=>match t.get d with
          |some (.bool b)=>K (y0 b want) t
          | some (.sv (.bool b))=>match T.put 64 d (δ (.bool ζ)) t with
            | some t1=>match T.put 64 d (δ (.bool θ)) t with
              |some t2=>(Ob (b=ζ)->K (y0 ζ want) t1)/\(Ob (b=θ)->K (y0 θ want) t2)
              |none=>False
            |none=>False
          |some (.sv _)=>False
          |some _=>K θ t
          |none=>False
        |false=>False
      |none=>False
    |none=>False
def qbw{t A:T AV} {h:Array Value} {d:Nat} {b:Bool} (u:TR I t h) (C:t.get d=δ (.sv (.bool b))) (hp:T.put 64 d (δ (.bool b)) t=δ A):TR I A h:=λn a e=>by
 rw[T.get_put _ _ _ _ _ hp]at e;split at e
 ·rename_i B;subst B;cases e;have:=u _ _ C;generalize slot h n=v at this⊢;cases this;exact .bool b
 ·exact u n a e
variable {o:Oper}
def qha {K:Bool->T AV->Prop} (h:Te ops o t K):∃b U,Iq ops o t b/\K b U/\∀I H,TR I t H->TR I U H:=by
 unfold Te at h;split at h
 ·rename_i C;exact⟨ζ,t,λI a u=>by unfold Δ;rw[C],h,λ_ _ h=>h⟩
 ·rename_i j want C;split at h
  ·rename_i Y G;split at h
   ·rename_i d hd;split at h
    ·rename_i A;split at h
     ·rename_i b B;exact⟨_,t,λI a u=>guard_of (b:=b) C G hd A u B λv r=>by cases r;rfl,h,λ_ _ h=>h⟩
     ·rename_i b B;split at h;case h_2=>exact h.elim
      rename_i t1 J;split at h;case h_2=>exact h.elim
      rename_i t2 O;cases b with
      |true=>exact⟨_,t1,λI a u=>guard_of (b:=ζ) C G hd A u B λv r=>by cases r;rfl,h.1 rfl,λI H u=>qbw u B J⟩
      |false=>exact⟨_,t2,λI a u=>guard_of (b:=θ) C G hd A u B λv r=>by cases r;rfl,h.2 rfl,λI H u=>qbw u B O⟩
     ·exact h.elim
     ·rename_i av V _ X B;exact⟨_,t,λI a u=>q85 C G hd A u B (λb e=>V b e) (λv e=>X v e),h,λ_ _ h=>h⟩
     ·exact h.elim
    ·exact h.elim
   ·exact h.elim
  ·exact h.elim
def Ha(g:GS):List GD:=match g with
 |none=>[]
 |some d=>[d]
def qcx{g:GS} {d:GD} (h:d∈Ha g):g=δ d:=by
 cases g with
 |none=>simp[Ha]at h
 |some e=>simp[Ha]at h;rw[h]
abbrev jC:=GL->T AV->T AO->Nat->Oper->Option ((GL->AV->T AO->Nat->Prop)->Prop)
def noX:jC:=λ_ _ _ _ _=>ξ
def kN(P:Cl) (hx:jC):Prop:=∀gl t h nx o q (K:GL->AV->T AO->Nat->Prop),hx gl t h nx o=δ q->q K->∃(B:Type) (r:B->AV) (h':B->T AO) (u:Nat) (pm:B->PF),(∀b,wP gl (pm b) λgl=>K gl (r b) (h' b) u)/\nx<=u/\
 ∀ (F:Bool->Nat->Prop) (I:In) (n:Nat) (a:Act) (w:World),St gl F I t h n a w->vJ I nx u->∀(G:Act->World->Prop) (Q:Exit->Act->World->Prop),
  (∀b z A C,VR A (r b) z->Grow F I nx w A u (h' b) C->(pm b).ok (jU F w A (h' b) C)->G (a.put o.dst z) C)->o.wp P a w G Q
def qhp{P:Cl}:kN P noX:=λgl t h nx o q K e=>by cases e
def xJ(hs:jB) (hx:jC) (n:Nat) (ops:Array Oper) (B:Nat->List Nat):Nat->List Oper->GL->T AV->T AO->Nat->KS->Prop
  |_,[],gl,t,h,nx,K=>K gl t h nx
  | i,o::l,gl,t,h,nx,K=>wR (B i) gl t h λgl t h=>Te ops o t λw t=>match w with
    | true=>match hx gl t h nx o with
      | some q=>q λgl v h' u=>match y4 n o.dst v t with
        |some A=>xJ hs hx n ops B (i+1) l gl A h' u K
        |none=>False
      | none=>hs gl t h nx o λk v ob h' u g=>match y4 n o.dst v t with
        |some A=>xE (Ha g) gl A h' u λgl t h nx=>xJ hs hx n ops B (i+1) l gl t h nx K
        |none=>False
    | false=>match y4 n o.dst vp t with
      |some A=>xJ hs hx n ops B (i+1) l gl A h nx K
      |none=>False
section
variable {P:Cl} {F0:Bool->Nat->Prop} {I0:In} {nx0:Nat} {w0:World} {n:Nat}
def VG {hs :jB} {hx:jC} (ho:vL P hs) (hX:kN P hx) {ops:Array Oper} {pb:Nat->List Nat}:∀(l:List Oper) (is:List Nat) (m:Nat),is.map (λi=>ops[i]?)=l.map δ->∀{gl:GL} {t:T AV} {h:T AO} {nx:Nat} {K:KS},xJ hs hx n ops pb m l gl t h nx K->∀{F:Bool->Nat->Prop} {I:In} {a:Act} {w:World},GK gl.tab I0->St gl F I t h n a w->At F0 I0 nx0 w0 F I nx w->∀(Q:Exit->Act->World->Prop),
    (∀a' U,yZ F0 I0 nx0 w0 n K a' U->Q .normal a' U)->wpOps P ops Q is a w
  | [],is,m,C,gl,t,h,nx,K,e,F,I,a,w,H,st,A,Q,hQ=>by have:is=[]:=(by simpa using C);subst this;exact hQ a w ⟨gl,t,h,nx,F,I,e,H,st,A⟩
  | o :: l, is, m,C,gl,t,h,nx,K,e,F,I,a,w,H,st,A,Q,hQ=>by
    cases is with
    |nil=>simp at C
    | cons i is =>
      simp only[List.map_cons,List.cons.injEq]at C;obtain⟨hoi,C⟩:=C;rw[wpOps_cons];simp only[xJ]at e;obtain⟨J,t0,h0,O,V,e,st,A⟩:=Zn _ e st A;have H:GK J.tab I0:=(by rw[V];exact H);clear V;obtain⟨b,t1,hg,e,htr⟩:=qha e;unfold wpOp;simp only[hoi,hg I a st.tr];have st:St J O I t1 h0 n a w:={st with tr:=htr I _ st.tr};cases b with
      | true=>
        simp only at e;split at e
        · rename_i q hq;obtain⟨B,r,h',nx',pm,eb,hle,hact⟩:=hX _ _ _ _ _ _ _ hq e;simp only[if_true];refine .inl (hact O I n a w st (A.freshR _) _ Q λb z I' U hz u hpm=> ?_);have e:=eb b;obtain⟨X,hp⟩:∃X,y4 n o.dst (r b) t1=δ X:=by
            cases hp:y4 n o.dst (r b) t1 with
            |some X=>exact⟨X,rfl⟩
            | none=>
              have hpf:(pm b).ok (q11 (λs x=>O s x\/(¬O ζ x/\x<U.heap.size/\¬Own (h' b) I' x)) U):=PF.ok_mono (λx o G=>by rw[yW]at G;rw[q03];exact⟨G.1.imp (λh=>h) λh=>⟨h.1,(Array.getElem?_eq_some_iff.1 G.2).1,h.2⟩,G.2⟩) hpm;have hgp:J.pf (q11 (λs x=>O s x\/(¬O ζ x/\x<U.heap.size/\¬Own (h' b) I' x)) U):=by have:q11 O U=q11 O w:=WD (w:=w) λb G=>u.fr b (st.zf b G);refine J.mono _ _ (λx o G=> ?_) st.pf;rw[←this,q03]at G;rw[q03];exact⟨.inl G.1,G.2⟩
              have:=JN e hgp hpf;rw[hp]at this;exact this.elim
          simp only[hp]at e;obtain⟨p1,p2,p3⟩:=Iy (z:=z) hp (st.tr.mono u.le) st.size hz;have st':St J O I' X (h' b) n (a.put o.dst z) U:=⟨p1,p2,p3.trans st.defers,u.sim,λb G=>Ε (st.low b G) u.size,st.gok.mono u.le,st.zf,by rw[WD (w:=w) λb G=>u.fr b (st.zf b G)];exact st.pf⟩;obtain⟨gl2,t2,h2,nx2,F2,I2,e2,Z,st2,Y⟩:=qg4 (K:=λgl t h nx=>xJ hs hx n ops pb (m+1) l gl t h nx K) e st' u hle A H hpm;exact VG ho hX l is (m+1) C e2 Z st2 Y Q hQ
        obtain⟨k,v,ob,h',nx',g,hk,e⟩:=ho _ _ _ _ _ _ e;split at e
        · rename_i X hp;simp only[if_true];refine .inl (hk.act.2 O I n a w st (A.freshR _) _ Q λz I' U hz u hgi=> ?_);obtain⟨p1,p2,p3⟩:=Iy (z:=z) hp (st.tr.mono u.le) st.size hz;have st':St J O I' X h' n (a.put o.dst z) U:=⟨p1,p2,p3.trans st.defers,u.sim,λb G=>Ε (st.low b G) u.size,st.gok.mono u.le,st.zf,by rw[WD (w:=w) λb G=>u.fr b (st.zf b G)];exact st.pf⟩;obtain⟨gl2,t2,h2,nx2,F2,I2,e2,Z,st2,Y⟩:=q8c e st' u hk.act.1 A H λd hd=>(by rw[←qcx hd];exact hgi);exact VG ho hX l is (m+1) C e2 Z st2 Y Q hQ
        · exact e.elim
      | false=>
        simp only at e;split at e
        · rename_i X hp;simp only[Θ,if_false];obtain⟨p1,p2,p3⟩:=Iy (z:=undef) hp st.tr st.size (xw I);exact VG ho hX l is (m+1) C e H ⟨p1,p2,p3.trans st.defers,st.sim,st.low,st.gok,st.zf,st.pf⟩ A Q hQ
        · exact e.elim
end
structure GT where
 b:Bool
 v:Bool
 h:b=v
def qhi(d:Nat):List (Nat×GT)->Option GT
  | []=>ξ
  | (e,g)::l=>match ι d e with
    |true=>δ g
    |false=>qhi d l
def Td (ops:Array Oper) (o:Oper) (t:T AV) (D:List (Nat×GT)) (K:Bool->List (Nat×GT)->Prop):Prop:=match o.guard with
  |none=>K ζ D
  | some (j,want)=>match nth ops.toList j with
    | some u=>match u.dst with
      | some d=>match ς d jM with
        | true=>match t.get d with
          |some (.bool b)=>K (y0 b want) D
          | some (.sv (.bool b))=>match qhi d D with
            |some g=>Ob (b=g.b)/\K (y0 g.v want) D
            |none=>(∀h:Ob (b=ζ),K (y0 ζ want) ((d,⟨b,ζ,h⟩)::D))/\(∀h:Ob (b=θ),K (y0 θ want) ((d,⟨b,θ,h⟩)::D))
          |some (.sv _)=>False
          |some _=>K θ D
          |none=>False
        |false=>False
      |none=>False
    |none=>False
def qh9 {D :List (Nat×GT)} {K:Bool->List (Nat×GT)->Prop} (h:Td ops o t D K):∃b H,Iq ops o t b/\K b H:=by
 unfold Td at h;split at h
 ·rename_i B;exact⟨ζ,D,λI a A=>by unfold Δ;rw[B],h⟩
 ·rename_i j want B;split at h
  ·rename_i U G;split at h
   ·rename_i d hd;split at h
    ·rename_i u;split at h
     ·rename_i b C;exact⟨_,D,λI a A=>guard_of (b:=b) B G hd u A C λv r=>by cases r;rfl,h⟩
     ·rename_i b C;split at h
      ·rename_i g T;obtain⟨e,h⟩:=h;have e:b=g.v:=Eq.trans e g.h;exact⟨_,D,λI a A=>guard_of (b:=g.v) B G hd u A C λv r=>by cases r;rw[e],h⟩
      ·cases b with
       |true=>exact⟨_,_,λI a A=>guard_of (b:=ζ) B G hd u A C λv r=>by cases r;rfl,h.1 rfl⟩
       |false=>exact⟨_,_,λI a A=>guard_of (b:=θ) B G hd u A C λv r=>by cases r;rfl,h.2 rfl⟩
     ·exact h.elim
     ·rename_i av J _ O C;exact⟨_,D,λI a A=>q85 B G hd u A C (λb e=>J b e) (λv e=>O v e),h⟩
     ·exact h.elim
    ·exact h.elim
   ·exact h.elim
  ·exact h.elim
def Zx(hs:jB) (n:Nat) (ops:Array Oper) (gl:GL):List Oper->List (Nat×GT)->T AV->T AO->Nat->(List Rc->T AV->T AO->Nat->Prop)->Prop
  | [],D,t,h,nx,K=>K [] t h nx
  | o ::l,D,t,h,nx,K=>match Qw t (slotsOf ops o) .e with
    | some tr=>Td ops o tr D λw D=>match w with
      | true=>hs gl tr h nx o λk v ob h' B g=>match y4 n o.dst v t with
        |some C=>Zx hs n ops gl l D C h' B λrs t2 A u=>K (⟨o,ζ,k,tr,v,ob,nx,h,g⟩::rs) t2 A u
        |none=>False
      | false=>match y4 n o.dst vp t with
        |some C=>Zx hs n ops gl l D C h nx λrs t2 A u=>K (⟨o,θ, .q,tr,vp,ξ,nx,h,ξ⟩::rs) t2 A u
        |none=>False
    |none=>False
def qbr{P:Cl} {hs:jB} (ho:vL P hs) {n:Nat} {ops:Array Oper} {gl:GL}:∀(l:List Oper) {D:List (Nat×GT)} {t:T AV} {h:T AO} {nx:Nat} {K:List Rc->T AV->T AO->Nat->Prop},Zx hs n ops gl l D t h nx K->
    ∃ rs C h' u,K rs C h' u/\∃(Tt:Nat->T AV) (H:Nat->T AO) (X:Nat->Nat),Tt 0=t/\H 0=h/\X 0=nx/\Tt l.length=C/\H l.length=h'/\X l.length=u/\rs.length=l.length/\
      ∀i o c,l[i]? =δ o->rs[i]? =δ c->c.o=o/\W0 gl P n ops c (Tt i) (H i) (X i) (Tt (i+1)) (H (i+1)) (X (i+1))
  | [],D,t,h,nx,K,e=>⟨[],t,h,nx,e,λ_=>t,λ_=>h,λ_=>nx,rfl,rfl,rfl,rfl,rfl,rfl,rfl,λi o c B=>by simp at B⟩
  | o ::l,D,t,h,nx,K,e=>by
    have fin:∀(c:Rc) G t1 B A (V:List Rc->T AV->T AO->Nat->Prop),c.o=o->W0 gl P n ops c t h nx t1 B A->Zx hs n ops gl l G t1 B A V->(∀rs t h nx,V rs t h nx->K (c::rs) t h nx)->∃rs C h' u,K rs C h' u/\∃(Tt:Nat->T AV) (H:Nat->T AO) (X:Nat->Nat),Tt 0=t/\H 0=h/\X 0=nx/\Tt (o::l).length=C/\H (o::l).length=h'/\X (o::l).length=u/\rs.length=(o::l).length/\
      ∀i U c,(o::l)[i]? =δ U->rs[i]? =δ c->c.o=U/\W0 gl P n ops c (Tt i) (H i) (X i) (Tt (i+1)) (H (i+1)) (X (i+1)):=by
      intro c G t1 B A V hco hst J hK;obtain⟨rs,C,h',u,hk',Tt,H,X,a1,a2,a3,a4,a5,a6,a7,a8⟩:=qbr ho l J;refine⟨c::rs,C,h',u,hK _ _ _ _ hk',λi=>match i with|0=>t|i+1=>Tt i,λi=>match i with|0=>h|i+1=>H i,λi=>match i with|0=>nx|i+1=>X i,rfl,rfl,rfl,a4,a5,a6,by simp[a7],?_⟩;intro i U c' Y Z;cases i with
      | zero=>
        simp at Y Z;subst Y Z;simp only[a1,a2,a3];exact⟨hco,hst⟩
      |succ i=>exact a8 i U c' (by simpa using Y) (by simpa using Z)
    simp only[Zx]at e;split at e
    · rename_i tr O;obtain⟨b,G,hg,e⟩:=qh9 e;cases b with
      | true=>
        simp only at e;obtain⟨k,v,ob,B,A,g,hk,e⟩:=ho _ _ _ _ _ _ e;split at e
        · rename_i t1 hp;exact fin _ G t1 B A _ rfl ⟨rfl,rfl,O,hp,hg,λ_=>hk,λhw=>by cases hw⟩ e λ_ _ _ _ h=>h
        · exact e.elim
      | false=>
        simp only at e;split at e
        · rename_i t1 hp;exact fin _ G t1 h nx _ rfl ⟨rfl,rfl,O,hp,hg,(λhw=>by cases hw),λ_=>⟨rfl,rfl,rfl,GS.triv_nil⟩⟩ e λ_ _ _ _ h=>h
        · exact e.elim
    · exact e.elim
end
section
def yr:List Rc->Nat->Option Rc
 | [],_=>ξ
 |a::_,0=>δ a
 |_::l,n+1=>yr l n
def VF:∀(l:List Rc) (n:Nat),yr l n=l[n]?
 | [],n=>by simp[yr]
 |a::l,0=>by simp[yr]
 |a::l,n+1=>by simp[yr,VF l n]
def xB(rs:List Rc) (u:T AO) (e:Nat):T AO:=match yr rs e with
 |some c=>c.h
 |none=>u
def Y2(a b:AV) (K:Prop):Prop:=match OK a b with
 |true=>K
 |false=>Ob (a=b)/\K
variable {K:Prop}
def IL{a b:AV} (h:Y2 a b K):a=b/\K:=by
 unfold Y2 at h;split at h
 ·rename_i e;exact⟨qfc e,h⟩
 ·exact h
def Gv(hr:jo) (gl:GL) (c:Rc) (rs:List Rc) (h:T AO):List Nat->Prop->Prop
 | [],K=>K
 |e::es,K=>hr gl c.t (xB rs h e) c.o λv=>Y2 v c.v (Gv hr gl c rs h es K)
def Qt(hr:jo) (gl:GL) (l:List Oper) (A:List Nat) (rs:List Rc) (h:T AO):List Nat->Prop->Prop
  | [],K=>K
  | i ::is,K=>match yr rs i with
    | some c=>match c.w with
      | true=>match c.k with
        | .r=>Gv hr gl c rs h (others l A i) (Qt hr gl l A rs h is K)
        |_=>Qt hr gl l A rs h is K
      |false=>Qt hr gl l A rs h is K
    |none=>False
def Oo (l:List Oper) (rs:List Rc) (h:T AO):Bool:=kf l.length λi=>match yr rs i with
  |none=>θ
  | some c=>match c.w with
    | true=>match c.k with
      | .a=>kf (i+1) λe=>match V5 l e with
        | true=>match(xB rs h e).get c.nx with
          |none=>ζ
          |some _=>θ
        |false=>ζ
      |_=>ζ
    |false=>ζ
def q68{P:Cl} {hr:jo} (ok:kz P hr) {gl:GL} {c:Rc} {rs:List Rc} {u:T AO}:∀{es:List Nat} {K:Prop},Gv hr gl c rs u es K->(∀e∈es,RP gl P c.t (xB rs u e) c.o c.v)/\K
  | [],K,h=>⟨λe he=>(by cases he),h⟩
  | e ::es,K,h=>by
    simp only[Gv]at h;obtain⟨v,A,B⟩:=ok _ _ _ _ _ h;obtain⟨rfl,C⟩:=IL B;obtain⟨G,H⟩:=q68 ok C;exact⟨λe' he=>by
      cases he with
      |head=>exact A
      |tail _ he=>exact G e' he,H⟩
def q69{P:Cl} {hr:jo} (ok:kz P hr) {gl:GL} {l:List Oper} {A:List Nat} {rs:List Rc} {C:T AO}:∀{is:List Nat} {K:Prop},Qt hr gl l A rs C is K->(∀i∈is,∀c,yr rs i=δ c->c.w=ζ->c.k= .r->∀e∈others l A i,RP gl P c.t (xB rs C e) c.o c.v)/\K
  | [],K,h=>⟨λe he=>(by cases he),h⟩
  | i ::is,K,h=>by
    simp only[Qt]at h;split at h
    · rename_i c J;have rest:(∀B,yr rs i=δ B->B.w=ζ->B.k= .r->∀e∈others l A i,RP gl P B.t (xB rs C e) B.o B.v)->Qt hr gl l A rs C is K->(∀j∈i::is,∀c,yr rs j=δ c->c.w=ζ->c.k= .r->∀e∈others l A j,RP gl P c.t (xB rs C e) c.o c.v)/\K:=λV H=>by
        obtain⟨Y,Z⟩:=q69 ok H;exact⟨λj O=>by
          cases O with
          |head=>exact V
          |tail _ O=>exact Y j O,Z⟩
      split at h
      · split at h
        · obtain⟨H,X⟩:=q68 ok h;exact rest (λB u _ _=>by rw[J]at u;cases u;exact H) X
        · rename_i hw U;exact rest (λB u _ hk=>by rw[J]at u;cases u;exact absurd hk U) h
      · rename_i hw;exact rest (λB u G _=>by rw[J]at u;cases u;rw[hw]at G;cases G) h
    · exact h.elim
def Qr:List Rc->List GD
  | []=>[]
  | c::l=>match c.g with
    |none=>Qr l
    |some d=>d::Qr l
def ND:∀{l:List Rc} {d:GD},d∈Qr l->∃(j:Nat) (c:Rc),l[j]? =δ c/\c.g=δ d
  | c ::l,d,h=>by
    simp only[Qr]at h;split at h
    · rename_i C;obtain⟨j,u,A,B⟩:=ND h;exact⟨j+1,u,by simpa using A,B⟩
    · rename_i e C;cases h with
      |head=>exact⟨0,c,rfl,C⟩
      | tail _ h=>
        obtain⟨j,u,A,B⟩:=ND h;exact⟨j+1,u,by simpa using A,B⟩
def GA:List Rc->Bool
  | []=>ζ
  | c ::l=>(match c.w with
    | true=>match c.k with
      | .r=>Qn c.o
      |_=>ζ
    |false=>ζ)&&GA l
def qb2{l:List Rc} (h:GA l=ζ):∀(k:Nat) (c:Rc),l[k]? =δ c->c.w=ζ->c.k= .r->Qn c.o=true:=by
  induction l with
  |nil=>intro k c u;simp at u
  | cons a l B=>
    intro k c u hw A;unfold GA at h;rw[η]at h;cases k with
    | zero=>
      have u:a=c:=(by simpa using u);subst u;have:=h.1;rw[hw,A]at this;exact this
    |succ k=>exact B h.2 k c (by simpa using u) hw A
def G4 (hs:jB) (gl:GL) (c:Rc) (h:T AO) (K:T AO->Prop):Prop:=match c.w with
  | true=>match c.g with
    | none=>hs gl c.t h c.nx c.o λk v ob B u g=>match k with
      | .s=>match g with
        | none=>match ι u c.nx with
          |true=>Y2 v c.v (K B)
          |false=>False
        |some _=>False
      |_=>False
    |some _=>False
  |false=>False
def Gm{P:Cl} {hs:jB} (H:vL P hs) {gl:GL} {c:Rc} {h:T AO} {K:T AO->Prop} (e:G4 hs gl c h K):c.w=ζ/\c.g=ξ/\∃B,K B/\wL gl P c.t h c.nx c.o ξ c.v B c.nx:=by
 unfold G4 at e;split at e;case h_2=>exact e.elim
 rename_i hw;split at e;case h_2=>exact e.elim
 rename_i C;obtain⟨k,v,ob,B,O,g,G,e⟩:=H _ _ _ _ _ _ e;split at e;case h_2=>exact e.elim
 split at e;case h_2=>exact e.elim
 split at e;case h_2=>exact e.elim
 rename_i u;obtain⟨J,e2⟩:=IL e;have u:=γ u;subst u;have A:=G.act;rw[J]at A;exact⟨hw,C,B,e2,A⟩
def XR(a b:AV) (K:Prop):Prop:=match a,b with
  | .sv v, .sv u=>Ob (v=u)/\K
  | .ssl i o n e k, .ssl j p m f l=>match ι i j&&(ι o p&&(ι e f&&ι k l))with
    |true=>Ob (n=m)/\K
    |false=>False
  |a,b=>Y2 a b K
def qgw{a b:AV} (h:XR a b K):a=b/\K:=by
 unfold XR at h;split at h
 ·rw[h.1];exact⟨rfl,h.2⟩
 ·split at h;case h_2=>exact h.elim
  rename_i u;simp only[η]at u;have A:=γ u.1;have B:=γ u.2.1;have C:=γ u.2.2.1;have G:=γ u.2.2.2;rw[A,B,C,G,h.1];exact⟨rfl,h.2⟩
 ·exact IL h
def G8:List AV->List AV->Prop->Prop
 | [],[],K=>K
 |a::l,b::m,K=>XR a b (G8 l m K)
 |_,_,_=>False
def qaa:∀{l m:List AV} {K:Prop},G8 l m K->l=m/\K
  | [],[],K,h=>⟨rfl,h⟩
  | a::l,b::m,K,h=>by obtain⟨rfl,u⟩:=qgw (show XR a b (G8 l m K)from h);obtain⟨rfl,A⟩:=qaa u;exact⟨rfl,A⟩
  | [],b::m,K,h=>h.elim
  |a::l,[],K,h=>h.elim
def R8(a b:AO) (K:Prop):Prop:=match a,b with
  | .cells e f g l, .cells e' h u m=>match ι e e'&&(decide (f=h)&&(g==u))with
    |true=>G8 l m K
    |false=>False
  | .row e f l, .row e' h m=>match ι e e'&&ι f h with
    |true=>Ob (l=m)/\K
    |false=>False
  | .map [] c, .map [] d=>match ι c d with
    |true=>K
    |false=>False
  |a,b=>Ob (a=b)/\K
def qgs{a b:AO} (h:R8 a b K):a=b/\K:=by
 unfold R8 at h;split at h
 ·split at h;case h_2=>exact h.elim
  rename_i u;simp only[η,decide_eq_true_eq,beq_iff_eq]at u;obtain⟨A,B,C⟩:=u;have A:=γ A;obtain⟨G,H⟩:=qaa h;rw[A,B,C,G];exact⟨rfl,H⟩
 ·split at h;case h_2=>exact h.elim
  rename_i u;simp only[η]at u;have A:=γ u.1;have B:=γ u.2;rw[A,B,h.1];exact⟨rfl,h.2⟩
 ·split at h;case h_2=>exact h.elim
  rename_i u;rw[γ u];exact⟨rfl,h⟩
 ·exact h
def J3:T AO->T AO->Prop->Prop
  | .e, .e,K=>K
  | .n l v r, .n h A u,K=>match v,A with
    |none,ξ=>J3 l h (J3 r u K)
    |some a,δ b=>R8 a b (J3 l h (J3 r u K))
    |_,_=>False
  |_,_,_=>False
def VX:∀{t u:T AO} {K:Prop},J3 t u K->t=u/\K
  | .e, .e,K,h=>⟨rfl,h⟩
  | .e, .n l v r,K,h=>h.elim
  | .n l v r, .e,K,h=>h.elim
  | .n l v r, .n G J H,K,h=>by
    simp only[J3]at h;split at h
    · obtain⟨rfl,A⟩:=VX h;obtain⟨rfl,B⟩:=VX A;exact⟨rfl,B⟩
    · obtain⟨rfl,C⟩:=qgs h;obtain⟨rfl,A⟩:=VX C;obtain⟨rfl,B⟩:=VX A;exact⟨rfl,B⟩
    · exact h.elim
def G1(hs:jB) (gl:GL) (rs:List Rc) (u:T AO) (p q:Nat) (K:Prop):Prop:=match yr rs p with
  | some ci=>match yr rs q with
    | some cj=>match GA rs with
      |true=>G4 hs gl cj ci.h λB=>G4 hs gl ci B λh=>J3 h (xB rs u (q+1)) K
      |false=>False
    |none=>False
  |none=>False
def GQ (P:Cl) (hs:jB) (hr:jo) (n:Nat) (ops:Array Oper) (C:List Nat) (gl:GL) (t:T AV) (h:T AO) (nx:Nat) (K:KS):Prop:=wR C gl t h λgl t h=>match yq ops.toList 0 []with
  | some A=>match VW P ops A ξ with
    | true=>Zx hs n ops gl ops.toList [] t h nx λrs B h' u=>match Oo ops.toList rs h' with
      |true=>Qt hr gl ops.toList A rs h' (Ω ops.toList.length) (xE (Qr rs) gl B h' u K)
      |false=>False
    | false=>match qe8 P ops A with
      | some (p,q)=>match VW P ops A (δ (p,q))&&Gj P ops A p q with
        | true=>Zx hs n ops gl ops.toList [] t h nx λrs B h' u=>match Oo ops.toList rs h' with
          |true=>Qt hr gl ops.toList A rs h' (Ω ops.toList.length) (G1 hs gl rs h' p q (xE (Qr rs) gl B h' u K))
          |false=>False
        |false=>False
      |none=>False
  |none=>False
section
variable {P:Cl} {F0:Bool->Nat->Prop} {I0:In} {nx0:Nat} {w0:World} {n:Nat}
variable {hs:jB} {hr:jo}
def q6d(ho:vL P hs) (ok:kz P hr) {ops:Array Oper} {pb:List Nat} {gl:GL} {t:T AV} {h:T AO} {nx:Nat} {K:KS} (e:GQ P hs hr n ops pb gl t h nx K) {F:Bool->Nat->Prop} {I:In} {a:Act} {w:World} (hg0:GK gl.tab I0) (st:St gl F I t h n a w) (V:At F0 I0 nx0 w0 F I nx w) (Q:Exit->Act->World->Prop)
    (hQ:∀a' w',yZ F0 I0 nx0 w0 n K a' w'->Q .normal a' w') {w':World} {d:Nat} (hw':w'={w with drawn:=d}):wpAny P .any ops Q ops.size (κ ops.size θ) a w':=by
  subst hw';unfold GQ at e;obtain⟨u,t0,h0,F1,htab,e,st,V⟩:=Zn _ e st V;have hg0:GK u.tab I0:=by rw[htab];exact hg0
  clear htab;split at e;case h_2=>exact e.elim
  rename_i A hA;have fin:∀(pr:yp),VW P ops A pr=ζ->(Zx hs n ops u ops.toList [] t0 h0 nx λrs t' h' Y=>match Oo ops.toList rs h' with
      | true=>Qt hr u ops.toList A rs h' (Ω ops.toList.length) (match pr with
        |some (p,q)=>G1 hs u rs h' p q (xE (Qr rs) u t' h' Y K)
        |none=>xE (Qr rs) u t' h' Y K)
      |false=>False)->(∀p q,pr=δ (p,q)->Gj P ops A p q=ζ)->wpAny P .any ops Q ops.size (κ ops.size θ) a {w with drawn:=d}:=by
    intro pr C e O;obtain⟨rs,t',h',Y,e,Tt,H,X,a1,a2,a3,a4,a5,a6,a7,a8⟩:=qbr ho _ e;split at e;case h_2=>exact e.elim
    rename_i hfree;obtain⟨hag,e⟩:=q69 ok e;have U:ops.toList.length=ops.size:=(by simp);rw[U]at a4 a5 a6 a7;have hat:∀e,e<=ops.size->xB rs h' e=H e:=λe he=>by
      unfold xB;by_cases hlt:e<ops.size
      · have h1:ops.toList[e]? =δ ops[e]:=(by simp[hlt]);have Z:rs[e]? =δ (rs[e]'(by rw[a7];exact hlt)):=qqa _;rw[VF,Z];exact(a8 e _ _ h1 Z).2.1
      · have:e=ops.size:=(by omega);subst this;rw[VF,qqb (by rw[a7];exact ν _)];exact a5.symm
    have x:Text u P n ops A pr rs Tt H X:={
      hA:=hA,st:=C,len:=a7
      step:=λi o c Z G=>a8 i o c (by simpa using Z) G
      free:=λi c e' hc hw J he hep=>by
        have hi:i<ops.size:=by have:=(List.getElem?_eq_some_iff.1 hc).1;rw[a7]at this;exact this
        have hf:=yk hfree i (by rw[U];exact hi);have hn:yr rs i=δ c:=(by rw[VF];exact hc);simp only[hn,hw,J]at hf;have:=yk hf e' (by omega);simp only[hep]at this;rw[hat e' (by omega)]at this;split at this
        · rename_i hg;exact hg
        · cases this
      again:=λi c e' hc hw J he hot=>by
        have hi:i<ops.size:=by have:=(List.getElem?_eq_some_iff.1 hc).1;rw[a7]at this;exact this
        have hn:yr rs i=δ c:=(by rw[VF];exact hc);have hmem:e'∈others ops.toList A i:=List.mem_filter.2 ⟨List.mem_range.2 (by rw[U];omega),hot⟩;have:=hag i (List.mem_range.2 (by rw[U];exact hi)) c hn hw J e' hmem;rw[hat e' he]at this;exact this}
    have hle:=x.xle (Χ _) (ν ops.size);have hpo:∀p q,pr=δ (p,q)->∃ci cj B,PairOK u P ops A pr rs H X p q ci cj B:=λp q hp=>by
      subst hp;simp only at e;have O:=O p q rfl;unfold Gj at O;simp only[η]at O;obtain⟨⟨⟨⟨s1,s2⟩,s3⟩,s4⟩,s5⟩:=O;have hpq:p<q:=(by simpa[ψ]using s3);have hqn:q<ops.size:=(by simpa[ψ]using s4);unfold G1 at e;split at e;case h_2=>exact e.elim
      rename_i ci hci;split at e;case h_2=>exact e.elim
      rename_i cj hcj;split at e;case h_2=>exact e.elim
      rename_i hkb;obtain⟨wj,gj,B,e,aq⟩:=Gm ho e;obtain⟨wi,gi,B2,e,ap⟩:=Gm ho e;rw[VF]at hci hcj;have hoi:ops.toList[p]? =δ ops[p]:=(by simp);have hoj:ops.toList[q]? =δ ops[q]:=(by simp);have di:=(a8 p _ _ hoi hci).2;have dj:=(a8 q _ _ hoj hcj).2;have e1:B2=H (q+1):=(by rw[←hat (q+1) (by omega)];exact(VX e).1);have isSt:∀k,Gs ops.toList k=ζ->flag qI ops.toList k=true:=λk J=>by
        unfold Gs at J;unfold flag;split at J
        · rename_i o ho';split at J
          · rename_i hop;simp only[qI,hop]
          · cases J
        · cases J
      refine⟨ci,cj,B,⟨rfl,hpq,hqn,hci,hcj,wi,wj,gi,gj,isSt p s1,isSt q s2,?_,?_,λk J h1 Z G=> ?_,qb2 hkb⟩⟩
      · rw[←di.1,←dj.2.1];exact aq
      · rw[←e1,←di.2.1];exact ap
      · have:=yk s5 k (by rw[U];exact J);simp only[Ζ,ω,η,qqc]at this;rcases this with((h|h)|h)|h
        · exact absurd (γ h) h1
        · exact absurd (γ h) Z
        · rcases G with G|G|G
          · rw[h.1.1]at G;cases G
          · rw[h.1.2]at G;cases G
          · rw[h.2]at G;cases G
        · exact h
    have e:xE (Qr rs) u t' h' Y K:=by
      cases pr with
      |none=>exact e
      | some pq=>
        obtain⟨p,q⟩:=pq;simp only at e;unfold G1 at e;split at e;case h_2=>exact e.elim
        split at e;case h_2=>exact e.elim
        split at e;case h_2=>exact e.elim
        obtain⟨_,_,B,e,_⟩:=Gm ho e;obtain⟨_,_,B2,e,_⟩:=Gm ho e;exact(VX e).2
    refine q5y x hpo (F:=F1) (I:=I) (d:=d) (by rw[a1,a2];exact st) (by rw[a3,a6];exact V.freshR _) (λa' I' w' s g hgh=>hQ a' w' ?_);rw[a4,a5]at s;rw[a3,a6,a5]at g;rw[a5]at hgh;refine q8c e s g (by rw[←a3,←a6];exact hle) V hg0 λd hd=> ?_;obtain⟨j,c,h1,Z⟩:=ND hd;have:=hgh j c h1;rw[Z]at this;exact this
  split at e
  · rename_i C;exact fin ξ C e λp q h=>by cases h
  · split at e;case h_2=>exact e.elim
    rename_i p q hpq;split at e;case h_2=>exact e.elim
    rename_i C;simp only[η]at C;exact fin (δ (p,q)) C.1 e λp' q' h=>by cases h;exact C.2
def qhq(P:Cl) (ops:Array Oper):Bool:=match yq ops.toList 0 []with
  | some A=>match VW P ops A ξ with
    |true=>ζ
    | false=>match qe8 P ops A with
      |some (p,q)=>VW P ops A (δ (p,q))&&Gj P ops A p q
      |none=>θ
  |none=>θ
def JT(P:Cl) (hs:jB) (hr:jo) (n:Nat) (ops:Array Oper) (B:List Nat) (gl:GL) (t:T AV) (h:T AO) (nx:Nat) (K:KS):Prop:=match qhq P ops with
  |true=>GQ P hs hr n ops B gl t h nx K
  | false=>match yq ops.toList 0 []with
    | some A=>match qhr A ops with
      |some u=>GQ P hs hr n u B gl t h nx K
      |none=>False
    |none=>False
def F8(U:vL P hs) (ok:kz P hr) {ops:Array Oper} {Y:List Nat} {gl:GL} {t:T AV} {h:T AO} {nx:Nat} {K:KS} (e:JT P hs hr n ops Y gl t h nx K) {F:Bool->Nat->Prop} {I:In} {a:Act} {w:World} (B:GK gl.tab I0) (st:St gl F I t h n a w) (u:At F0 I0 nx0 w0 F I nx w) (Q:Exit->Act->World->Prop)
  (hQ:∀H X,yZ F0 I0 nx0 w0 n K H X->Q .normal H X) (d:Nat):wpAny P .any ops Q ops.size (κ ops.size θ) a {w with drawn:=d}:=by
 unfold JT at e;split at e
 ·exact q6d (d:=d) U ok e B st u Q hQ rfl
 ·split at e;case h_2=>exact e.elim
  rename_i A hA;split at e;case h_2=>exact e.elim
  rename_i V hp;unfold qhr at hp;split at hp
  ·rename_i G;split at hp
   ·rename_i x hx;cases hp;have p:=GM G hx;have J:=q6d (d:=d) U ok e B st u Q hQ rfl;have hs:(⟨x⟩:Array Oper).size=ops.size:=p.size;rw[hs]at J;refine q5e p ops.size _ (κ ops.size θ) a _ ⟨by simp,by simp,λj O d=> ?_⟩ J;have C:y3 j (G2 A ops)<ops.size:=p.lt j O;have e1:∀i,i<ops.size->(κ ops.size θ).getD i d=false:=λi hi=>(by simp[ε,hi]);exact(e1 _ C).trans (e1 j O).symm
   ·cases hp
  ·cases hp
def qcn(hm:P.follows .mixedOrders=ζ) {hs:jB} {hr:jo} (G:vL P hs) (ok:kz P hr) {ops:Array Oper} {H:List Nat} {gl:GL} {t:T AV} {h:T AO} {nx:Nat} {K:KS} (e:JT P hs hr n ops H gl t h nx K) {F:Bool->Nat->Prop} {I:In} {a:Act} {w:World} (A:GK gl.tab I0) (st:St gl F I t h n a w) (u:At F0 I0 nx0 w0 F I nx w) (Q:Exit->Act->World->Prop)
  (hQ:∀B C,yZ F0 I0 nx0 w0 n K B C->Q .normal B C) (id:Nat):(qqd id ops ζ).wp P Q a w:=
 wp_region_any hm (F8 G ok e A st u Q hQ _)
def Om(P:Cl) (hs:jB) (hx:jC) (hr:jo) (n:Nat) (ops:Array Oper) (u:Nat->List Nat) (q:Nat) (gl:GL) (t:T AV) (h:T AO) (nx:Nat) (K:KS):Prop:=
 match IB ops.toList q with
 |true=>JT P hs hr n (vm ops q) (u 0) gl t h nx λgl t h nx=>xJ hs hx n ops u q (ops.toList.drop q) gl t h nx K
 |false=>False
def qcr(hm:P.follows .mixedOrders=ζ) {hs:jB} {hx:jC} {hr:jo} (U:vL P hs) (V:kN P hx) (ok:kz P hr) {ops:Array Oper} {Y:Nat->List Nat} {q:Nat} {gl:GL} {t:T AV} {h:T AO} {nx:Nat} {K:KS} (e:Om P hs hx hr n ops Y q gl t h nx K) {F:Bool->Nat->Prop} {I:In} {a:Act} {w:World} (G:GK gl.tab I0) (st:St gl F I t h n a w) (B:At F0 I0 nx0 w0 F I nx w) (Q:Exit->Act->World->Prop)
  (hQ:∀A O,yZ F0 I0 nx0 w0 n K A O->Q .normal A O) (id:Nat):(qqd id ops ζ).wp P Q a w:=by
 unfold Om at e;split at e;case h_2=>exact e.elim
 rename_i J;have s:=qdj J;refine wp_region_any hm ?_;have H:=FZ s.lt;have u:=F8 U ok e G st B (λe a w=>(e= .normal/\wpOps P ops Q (qqm q (ops.size- q)) a w)\/(e≠ .normal/\Q e a w)) λA O hp=>by
  obtain⟨gl,t,h,nx,F,I,e,X,st,C⟩:=hp;refine .inl ⟨rfl,VG U V _ (qqm q (ops.size- q)) q ?_ e X st C Q hQ⟩;apply qqh;intro i;simp only[qqi,qqf];by_cases hi:i<ops.size- q
  ·rw[List.getElem?_range' hi,Ν,χ (by omega)];simp
  ·rw[qqb (by rw[List.length_range'];omega),Ν,Array.getElem?_eq_none (by omega)];rfl
 replace u:=u (w.drawn+1);rw[H]at u;have:=qbu s (Q:=Q) (λa w h=>h.elim (λh=>h.2) λh=>absurd rfl h.1) (λe a w he h=>h.elim (λh=>absurd h.1 he) λh=>h.2) q (κ ops.size θ) (κ q θ) a _ ⟨by simp,λi hi h=>by simp[ε,hi]at h⟩ (λi _ hi d=>by simp[ε,hi]) (by simp) (λi hi d=>by have:=s.lt;simp[ε,hi,show i<ops.size by omega]) u;rw[show q+(ops.size- q)=ops.size by have:=s.lt;omega]at this;exact this
end
end
section
section
variable {P:Cl} {F0:Bool->Nat->Prop} {I0:In} {nx0:Nat} {w0:World} {n:Nat}
def qkc:List Oper->Nat->Nat->Option Nat
  | [],_,_=>ξ
  | o::l,d,i=>match Y8 o.dst d with
    |true=>δ i
    |false=>qkc l d (i+1)
def GR(P:Cl) (hs:jB) (hx:jC) (hr:jo) (n:Nat) (ops:Array Oper) (u:Nat->List Nat) (q:Nat) (gl:GL) (t:T AV) (h:T AO) (nx:Nat) (R:KS):Prop:=
  match I8 ops.toList q with
  | true=>match nth ops.toList q with
    |some o=>JT P hs hr n (vm ops q) (u 0) gl t h nx λgl t h nx=>xJ hs hx n ops u q [o] gl t h nx R
    |none=>False
  |false=>False
def Ol(P:Cl) (hs:jB) (hx:jC) (hr:jo) (n:Nat) (K:KS):List Nat->Array Oper->(Nat->List Nat)->Nat->KS
  | [],ops,u,q,gl,t,h,nx=>GR P hs hx hr n ops u q gl t h nx λgl t h nx=>JT P hs hr n (jV ops (q+1)) (u (q+1)) gl t h nx K
  | d::A,ops,u,q,gl,t,h,nx=>GR P hs hx hr n ops u q gl t h nx λgl t h nx=>match qkc (jV ops (q+1)).toList d 0 with
    |some r=>Ol P hs hx hr n K A (jV ops (q+1)) (λk=>u (q+1+k)) r gl t h nx
    |none=>False
def q6e{hs:jB} {hx:jC} {hr:jo} (ho:vL P hs) (hX:kN P hx) (ok:kz P hr) {ops:Array Oper} {pb:Nat->List Nat} {q:Nat} {gl:GL} {t:T AV} {h:T AO} {nx:Nat} {R:KS} (e:GR P hs hx hr n ops pb q gl t h nx R) {F:Bool->Nat->Prop} {I:In} {a:Act} {w:World} (V:GK gl.tab I0) (st:St gl F I t h n a w) (O:At F0 I0 nx0 w0 F I nx w) (Q:Exit->Act->World->Prop)
  (hR:∀u B,yZ F0 I0 nx0 w0 n R u B->wpAny P .any (jV ops (q+1)) Q (jV ops (q+1)).size (κ (jV ops (q+1)).size θ) u B) (d:Nat):wpAny P .any ops Q ops.size (κ ops.size θ) a {w with drawn:=d}:=by
 unfold GR at e;split at e;case h_2=>exact e.elim
 rename_i Z;split at e;case h_2=>exact e.elim
 rename_i o G;have s:=qbt Z;have Y:=FZ s.lt;have H:ops[q]? =δ o:=by rw[ke,Ν]at G;exact G
 have key:∀u B,yZ F0 I0 nx0 w0 n (λgl t h nx=>xJ hs hx n ops pb q [o] gl t h nx R) u B->wpOp P ops Q q (wpAny P .any (jV ops (q+1)) Q (ops.size- q- 1) (κ (ops.size- q- 1) θ)) u B:=λu B hp=>by
  obtain⟨gl,t,h,nx,F,I,e,hg,st,U⟩:=hp;have A:=VG ho hX [o] [q] q (by simp[H]) e hg st U (λe a w=>(e= .normal/\wpAny P .any (jV ops (q+1)) Q (ops.size- q- 1) (κ (ops.size- q- 1) θ) a w)\/(e≠ .normal/\Q e a w)) λa2 w2 X=>by refine .inl ⟨rfl,?_⟩;have h3:=hR _ _ X;rw[qbv,show ops.size- (q+1)=ops.size- q- 1 by omega]at h3;exact h3
  rw[wpOps_cons]at A;unfold wpOp at A⊢;rw[H]at A⊢;simp only at A⊢;have J:∀(e:Exit) (a:Act) (w:World),e≠ .normal->(e= .normal/\wpAny P .any (jV ops (q+1)) Q (ops.size- q- 1) (κ (ops.size- q- 1) θ) a w)\/(e≠ .normal/\Q e a w)->Q e a w:=λe a w he h=>h.elim (λh=>absurd h.1 he) λh=>h.2;have nrm:∀(a:Act) (w:World),wpOps P ops (λe a w=>(e= .normal/\wpAny P .any (jV ops (q+1)) Q (ops.size- q- 1) (κ (ops.size- q- 1) θ) a w)\/(e≠ .normal/\Q e a w)) [] a w->wpAny P .any (jV ops (q+1)) Q (ops.size- q- 1) (κ (ops.size- q- 1) θ) a w:=λa w h=>by have h:((qqn= .normal)/\wpAny P .any (jV ops (q+1)) Q (ops.size- q- 1) (κ (ops.size- q- 1) θ) a w)\/(qqn≠ .normal/\Q .normal a w):=h;exact h.elim (λh=>h.2) λh=>absurd rfl h.1
  split
  ·rename_i C;rw[if_pos C]at A;exact A.imp (λh=>Io J (Oper.wp_mono nrm h)) λh=>⟨h.1,h.2.elim λa h=>h.elim λw h=>⟨a,w,J _ _ _ (by simp) h⟩⟩
  ·rename_i C;rw[if_neg C]at A;exact nrm _ _ A
 have h1:=F8 ho ok e V st O (λe a w=>(e= .normal/\wpOp P ops Q q (wpAny P .any (jV ops (q+1)) Q (ops.size- q- 1) (κ (ops.size- q- 1) θ)) a w)\/(e≠ .normal/\Q e a w)) (λu B hp=> .inl ⟨rfl,key u B hp⟩) d;rw[Y]at h1;have:=q9c s (Q:=Q) (λa w h=>h.elim (λh=>h.2) λh=>absurd rfl h.1) (λe a w he h=>h.elim (λh=>absurd h.1 he) λh=>h.2) q (κ ops.size θ) (κ q θ) a _ ⟨by simp,λi hi h=>by simp[ε,hi]at h⟩ (λi _ hi d=>by simp[ε,hi]) (by simp) (λi hi d=>by have:=s.lt;simp[ε,hi,show i<ops.size by omega]) h1;rw[show q+(ops.size- q)=ops.size by have:=s.lt;omega]at this;exact this
def q6f{hs:jB} {hx:jC} {hr:jo} (H:vL P hs) (O:kN P hx) (ok:kz P hr) {K:KS} (Q:Exit->Act->World->Prop) (hQ:∀G C,yZ F0 I0 nx0 w0 n K G C->Q .normal G C):∀(J:List Nat) {ops:Array Oper} {U:Nat->List Nat} {q:Nat} {gl:GL} {t:T AV} {h:T AO} {nx:Nat},Ol P hs hx hr n K J ops U q gl t h nx->∀{F:Bool->Nat->Prop} {I:In} {a:Act} {w:World},GK gl.tab I0->St gl F I t h n a w->At F0 I0 nx0 w0 F I nx w->∀d:Nat,wpAny P .any ops Q ops.size (κ ops.size θ) a {w with drawn:=d}
  | [],ops,U,q,gl,t,h,nx,e,F,I,a,w,B,st,u,d=>q6e H O ok e B st u Q (λG C ⟨gl,t,h,nx,F,I,e,B,st,A⟩=>F8 H ok e B st A Q hQ C.drawn) d
  | x::J,ops,U,q,gl,t,h,nx,e,F,I,a,w,B,st,u,d=>q6e H O ok e B st u Q (λG C ⟨gl,t,h,nx,F,I,e,B,st,A⟩=>by
    split at e
    · exact q6f H O ok Q hQ J e B st A C.drawn
    · exact e.elim) d
def OM:List (Nat×List Nat)->Array Oper->(Array Oper->Prop)->Prop
 | [],ops,K=>K ops
 |x::l,ops,K=>W_ x.1 x.2 ops λo=>OM l o K
def qaq{P:Cl} {Q:Exit->Act->World->Prop} {a:Act} {w:World}:∀{l:List (Nat×List Nat)} {ops:Array Oper} {K:Array Oper->Prop},OM l ops K->(∀u,K u->yn P u Q a w)->yn P ops Q a w
 | [],ops,K,e,h=>h _ e
 |x::l,ops,K,e,h=>Iv e λo e=>qaq e h
def qh0(P:Cl) (hs:jB) (hx:jC) (hr:jo) (n:Nat) (ops:Array Oper) (C:Nat->List Nat) (q f:Nat) (cs:List Nat) (A:List (Nat×List Nat)) (u:List Nat) (gl:GL) (t:T AV) (h:T AO) (nx:Nat) (K:KS):Prop:=
 W_ f cs ops λo=>OM A o λo=>match OQ o q f with
  |some (B,G)=>Ol P hs hx hr n K u B C G gl t h nx
  |none=>False
def qcq(hm:P.follows .mixedOrders=ζ) {hs:jB} {hx:jC} {hr:jo} (O:vL P hs) (J:kN P hx) (ok:kz P hr) {ops:Array Oper} {U:Nat->List Nat} {q f:Nat} {cs:List Nat} {H:List (Nat×List Nat)} {C:List Nat} {gl:GL} {t:T AV} {h:T AO} {nx:Nat} {K:KS} (e:qh0 P hs hx hr n ops U q f cs H C gl t h nx K) {F:Bool->Nat->Prop} {I:In} {a:Act} {w:World} (A:GK gl.tab I0) (st:St gl F I t h n a w) (u:At F0 I0 nx0 w0 F I nx w) (Q:Exit->Act->World->Prop)
  (hQ:∀B G,yZ F0 I0 nx0 w0 n K B G->Q .normal B G) (id:Nat):(qqd id ops ζ).wp P Q a w:=by
 refine q66 hm (Iv e λo e=>qaq e λo e=> ?_);split at e
 ·rename_i V X hp;exact qft hp (q6f O J ok Q hQ C e A st u _)
 ·exact e.elim
end
end
section
def tB(b:Bool) (K:Prop):Prop:=match b with
 |true=>K
 |false=>False
variable {K:Prop}
def qT{b:Bool} (h:tB b K):b=ζ/\K:=by cases b<;>first|exact h.elim|exact⟨rfl,h⟩
def eV:Value->Value->Prop->Prop
 | .int k x, .int j y,K=>tB (Zh k j) (Ob (x=y)/\K)
 | .bool x, .bool y,K=>Ob (x=y)/\K
 | .string x, .string y,K=>Ob (x=y)/\K
 | .pointer x, .pointer y,K=>Ob (x=y)/\K
 | .slice a n c, .slice b m d,K=>Ob (a=b)/\Ob (n=m)/\Ob (c=d)/\K
 | .map x, .map y,K=>Ob (x=y)/\K
 |v,u,K=>Ob (v=u)/\K
def GX{v u:Value} (h:eV v u K):v=u/\K:=by
 unfold eV at h;split at h
 ·obtain⟨A,B,C⟩:=qT h;rw[JP A,B];exact⟨rfl,C⟩
 ·rw[h.1];exact⟨rfl,h.2⟩
 ·rw[h.1];exact⟨rfl,h.2⟩
 ·rw[h.1];exact⟨rfl,h.2⟩
 ·rw[h.1,h.2.1,h.2.2.1];exact⟨rfl,h.2.2.2⟩
 ·rw[h.1];exact⟨rfl,h.2⟩
 ·exact h
def Y5(ρ:Nat->Nat) (a b:AV) (K:Prop):Prop:=match a,b with
  | .sv v, .sv u=>eV v u K
  | .sv v,b=>match xG b with
    |some u=>eV v u K
    |none=>False
  | .ptr i o, .ptr j p=>tB (ι (ρ i) j&&ι o p) K
  | .sptr i o, .sptr j p=>tB (ι (ρ i) j) (Ob (o=p)/\K)
  | .sptr i o, .ptr j p=>tB (ι (ρ i) j) (Ob (o=p)/\K)
  | .ssl i o n e k, .ssl j p m f h=>tB (ι (ρ i) j&&(ι o p&&(ι e f&&ι (ρ k) h))) (Ob (n=m)/\K)
  | .ssl i o n e k, .nsl=>tB (ι (ρ k) 0) (Ob (n=0)/\K)
  | .usl i o n e, .usl j p m f=>tB (ι (ρ i) j&&(ι o p&&ι e f)) (Ob (n=m)/\K)
  | .usl i o n e, .ssl j p m f _=>tB (ι (ρ i) j&&(ι o p&&ι e f)) (Ob (n=m)/\K)
  | .usl _ _ n _, .nsl=>Ob (n=0)/\K
  | .msl i n e, .msl j m f=>tB (ι (ρ i) j&&ι e f) (Ob (n=m)/\K)
  | .sl i o n c, .sl j p m d=>tB (ι (ρ i) j&&(ι o p&&(ι n m&&ι c d))) K
  | .gsl i o n e, .gsl j p m f=>tB (ι (ρ i) j&&(ι o p&&(ι n m&&ι e f))) K
  | .map i, .map j=>tB (ι (ρ i) j) K
  | .nsl, .nsl| .nmap, .nmap| .nilf, .nilf| .nili, .nili| .ifo, .ifo=>K
  | a,b=>match xG a with
    | some v=>match b with
      | .sv u=>eV v u K
      |b=>tB (Y7 a b) K
    |none=>False
def za(h:Nat) (ρ:Nat->Nat) (I:In):In:=λi=>match ς i h with
 |true=>I (ρ i)
 |false=>ξ
variable {ρ:Nat->Nat} {I:In}
def jT{u:Nat} {i:Nat} {x} (h:za u ρ I i=δ x):i<u/\I (ρ i)=δ x:=by
 unfold za at h;split at h
 ·rename_i A;exact⟨by simpa[ψ]using A,h⟩
 ·cases h
def VM(h:Nat):AV->Bool
 | .ptr i _=>ς i h
 | .sptr i _=>ς i h
 | .ssl i _ _ _ k=>ς i h&&ς k h
 | .msl i _ _=>ς i h
 | .usl i _ _ _=>ς i h
 | .sl i _ _ _=>ς i h
 | .gsl i _ _ _=>ς i h
 | .map i=>ς i h
 |_=>ζ
def IQ(z:I 0=δ (0,0,0)) {O:Nat} {a b:AV} {K:Prop} (h:Y5 ρ a b K) (H:VM O a=ζ):(∀v,VR I b v->VR (za O ρ I) a v)/\K:=by
 have J:∀{i:Nat} {x},ς i O=ζ->I (ρ i)=δ x->za O ρ I i=δ x:=λA B=>by unfold za;rw[A];exact B
 unfold Y5 at h;split at h
 ·obtain⟨rfl,B⟩:=GX h;exact⟨λv r=>by cases r;exact .sv _,B⟩
 ·split at h
  ·rename_i u hu;obtain⟨rfl,B⟩:=GX h;exact⟨λv r=>by rw[WM hu r];exact .sv _,B⟩
  ·exact h.elim
 ·obtain⟨A,B⟩:=qT h;simp only[η]at A;have e1:=γ A.1;have e2:=γ A.2;subst e1 e2;exact⟨λv r=>by cases r with|ptr C=>exact .ptr (J H C),B⟩
 ·obtain⟨A,B,G⟩:=qT h;have e1:=γ A;subst e1;rw[B];exact⟨λv r=>by cases r with|sptr C=>exact .sptr (J H C),G⟩
 ·obtain⟨A,B,G⟩:=qT h;have e1:=γ A;subst e1;rw[B];exact⟨λv r=>by cases r with|ptr C=>exact .sptr (J H C),G⟩
 ·obtain⟨A,B,G⟩:=qT h;simp only[η]at A;have e1:=γ A.1;have e2:=γ A.2.1;have e3:=γ A.2.2.1;have T:=γ A.2.2.2;simp only[VM,η]at H;subst e1 e2 e3 T;rw[B];exact⟨λv r=>by
   cases r with
   |ssl C g1 g2 g3 V hd=>exact .ssl (J H.1 C) g1 g2 g3 (J H.2 V) hd
   |ssl0 U V hd=>exact .ssl0 U (J H.2 V) hd,G⟩
 ·obtain⟨A,B,G⟩:=qT h;have e1:=γ A;simp only[VM,η]at H;exact⟨λv r=>by cases r;exact .ssl0 B (J H.2 (by rw[e1];exact z)) rfl,G⟩
 ·obtain⟨A,B,G⟩:=qT h;simp only[η]at A;have e1:=γ A.1;have e2:=γ A.2.1;have e3:=γ A.2.2;subst e1 e2 e3;rw[B];exact⟨λv r=>by
   cases r with
   |usl C g1 g2 g3=>exact .usl (J H C) g1 g2 g3
   |usl0 U=>exact .usl0 U,G⟩
 ·obtain⟨A,B,G⟩:=qT h;simp only[η]at A;have e1:=γ A.1;have e2:=γ A.2.1;have e3:=γ A.2.2;subst e1 e2 e3;rw[B];exact⟨λv r=>by
   cases r with
   |ssl C g1 g2 g3 V hd=>exact .usl (J H C) g1 g2 g3
   |ssl0 U V hd=>exact .usl0 U,G⟩
 ·obtain⟨B,G⟩:=h;exact⟨λv r=>by cases r;exact .usl0 B,G⟩
 ·obtain⟨A,B,G⟩:=qT h;simp only[η]at A;have e1:=γ A.1;have e2:=γ A.2;subst e1 e2;rw[B];exact⟨λv r=>by cases r with|msl C g2 g3=>exact .msl (J H C) g2 g3,G⟩
 ·obtain⟨A,B⟩:=qT h;simp only[η]at A;have e1:=γ A.1;have e2:=γ A.2.1;have e3:=γ A.2.2.1;have T:=γ A.2.2.2;subst e1 e2 e3 T;exact⟨λv r=>by cases r with|sl C=>exact .sl (J H C),B⟩
 ·obtain⟨A,B⟩:=qT h;simp only[η]at A;have e1:=γ A.1;have e2:=γ A.2.1;have e3:=γ A.2.2.1;have T:=γ A.2.2.2;subst e1 e2 e3 T;exact⟨λv r=>by cases r with|gsl C g1 g2 g3=>exact .gsl (J H C) g1 g2 g3,B⟩
 ·obtain⟨A,B⟩:=qT h;have e1:=γ A;subst e1;exact⟨λv r=>by cases r with|map C=>exact .map (J H C),B⟩
 ·exact⟨λv r=>by cases r;constructor,h⟩
 ·exact⟨λv r=>by cases r;constructor,h⟩
 ·exact⟨λv r=>by cases r;constructor,h⟩
 ·exact⟨λv r=>by cases r;constructor,h⟩
 ·exact⟨λv r=>by cases r;constructor,h⟩
 ·split at h
  ·rename_i u hu;split at h
   ·obtain⟨rfl,B⟩:=GX h;exact⟨λv r=>by cases r;exact q8h hu,B⟩
   ·obtain⟨A,B⟩:=qT h;have e:=IS A;exact⟨λv r=>by rw[←e]at r;rw[WM hu r];exact q8h hu,B⟩
  ·exact h.elim
def Ve(ρ:Nat->Nat) (h:Nat):List AV->List AV->Prop->Prop
 | [],[],K=>K
 |a::l,b::m,K=>tB (VM h a) (Y5 ρ a b (Ve ρ h l m K))
 |_,_,_=>False
def Gw{ρ:Nat->Nat} {I:In} (z:I 0=δ (0,0,0)) {u:Nat}:∀{l m:List AV} {K:Prop},Ve ρ u l m K->(∀vs,VRs I m vs->VRs (za u ρ I) l vs)/\K
  | [],[],K,h=>⟨λvs r=>by cases r;exact .nil,h⟩
  | a::l,b::m,K,h=>by simp only[Ve]at h;obtain⟨A,B⟩:=qT h;obtain⟨C,G⟩:=IQ (I:=I) z B A;obtain⟨H,J⟩:=Gw (I:=I) z G;exact⟨λvs r=>by cases r with|cons O T=>exact .cons (C _ O) (H _ T),J⟩
  | [],_::_,K,h=>h.elim
  |_::_,[],K,h=>h.elim
def Y6(ρ:Nat->Nat) (h:Nat) (a b:AV) (K:Prop):Prop:=match a,b with
 | .agg l, .agg m=>Ve ρ h l m K
 | .ifc t a, .ifc u b=>tB (ι t u&&VM h a) (Y5 ρ a b K)
 | .fn f l, .fn g m=>tB (ι f g) (Ve ρ h l m K)
 |a,b=>tB (VM h a) (Y5 ρ a b K)
def IR(z:I 0=δ (0,0,0)) {C:Nat} {a b:AV} {K:Prop} (h:Y6 ρ C a b K):(∀v,VR I b v->VR (za C ρ I) a v)/\K:=by
 unfold Y6 at h;split at h
 ·obtain⟨A,B⟩:=Gw (I:=I) z h;exact⟨λv r=>by cases r with|agg r=>exact .agg (A _ r),B⟩
 ·obtain⟨u,hq⟩:=qT h;clear h;simp only[η]at u;have e1:=γ u.1;subst e1;obtain⟨A,B⟩:=IQ (I:=I) z hq u.2;exact⟨λv r=>by cases r with|ifc r=>exact .ifc (A _ r),B⟩
 ·obtain⟨u,hq⟩:=qT h;clear h;have e1:=γ u;subst e1;obtain⟨A,B⟩:=Gw (I:=I) z hq;exact⟨λv r=>by cases r with|fn r=>exact .fn (A _ r),B⟩
 ·obtain⟨u,h⟩:=qT h;exact IQ (I:=I) z h u
def Vf(ρ:Nat->Nat) (h:Nat):List AV->List AV->Prop->Prop
 | [],[],K=>K
 |a::l,b::m,K=>Y6 ρ h a b (Vf ρ h l m K)
 |_,_,_=>False
def VP{ρ:Nat->Nat} {I:In} (z:I 0=δ (0,0,0)) {u:Nat}:∀{l m:List AV} {K:Prop},Vf ρ u l m K->(∀vs,VRs I m vs->VRs (za u ρ I) l vs)/\K
  | [],[],K,h=>⟨λvs r=>by cases r;exact .nil,h⟩
  | a::l,b::m,K,h=>by simp only[Vf]at h;obtain⟨A,B⟩:=IR (I:=I) z h;obtain⟨C,G⟩:=VP (I:=I) z B;exact⟨λvs r=>by cases r with|cons H J=>exact .cons (A _ H) (C _ J),G⟩
  | [],_::_,K,h=>h.elim
  |_::_,[],K,h=>h.elim
def eA(ρ:Nat->Nat) (h:Nat) (a b:AV) (K:Prop):Prop:=match a,b with
 | .tup l, .tup m=>Vf ρ h l m K
 |a,b=>Y6 ρ h a b K
def qh1(z:I 0=δ (0,0,0)) {u:Nat} {a b:AV} {K:Prop} (h:eA ρ u a b K):(∀v,VR I b v->VR (za u ρ I) a v)/\K:=by
 unfold eA at h;split at h
 ·obtain⟨A,B⟩:=VP (I:=I) z h;exact⟨λv r=>by cases r with|tup r=>exact .tup (A _ r),B⟩
 ·exact IR z h
def eM(ρ:Nat->Nat) (h:Nat):List (Value×AV×Nat)->List (Value×AV×Nat)->Prop->Prop
 | [],[],K=>K
 | (k,a,n)::l,(j,b,m)::r,K=>tB (ι n m) (eV k j (Y6 ρ h a b (eM ρ h l r K)))
 |_,_,_=>False
def qh2{ρ:Nat->Nat} {I:In} (z:I 0=δ (0,0,0)) {u:Nat}:∀{l m:List (Value×AV×Nat)} {K:Prop},eM ρ u l m K->(∀vs,MR I m vs->MR (za u ρ I) l vs)/\K
  | [],[],K,h=>⟨λvs r=>by cases r;exact .nil,h⟩
  | (k,a,n)::l,(j,b,m)::r,K,h=>by simp only[eM]at h;obtain⟨A,hq⟩:=qT h;clear h;have e1:=γ A;subst e1;obtain⟨e2,hr⟩:=GX hq;clear hq;subst e2;obtain⟨B,C⟩:=IR (I:=I) z hr;obtain⟨G,H⟩:=qh2 (I:=I) z C;exact⟨λvs r=>by cases r with|cons J O=>exact .cons (B _ J) (G _ O),H⟩
  | [],_::_,K,h=>h.elim
  | (_,_,_)::_,[],K,h=>h.elim
def q8i(e:TypeId) (z:Option Nat) (g:Bool) (l:List AV) {m:List AV}:(AO.cells e z g m).rw=(AO.cells e z g l).rw:=by cases z<;>rfl
def leO(f g:Nat) (z:Option Nat):Bool:=match z with
 |some z=>Ρ z f
 |none=>θ
def qhf{f g:Nat} {z:Option Nat} (h:leO f g z=ζ):∃y,z=δ y/\y<=f:=by
 cases z with
 |none=>cases h
 |some y=>exact⟨y,rfl,υ h⟩
def W3:List (Value×AV×Nat)->Option (List MapEntry)
  | []=>δ []
  | (k,a,n)::l=>match gv a with
    | some v=>match W3 l with
      |some r=>δ (⟨k,v,n⟩::r)
      |none=>ξ
    |none=>ξ
def N4{I:In}:∀{l:List (Value×AV×Nat)} {r:List MapEntry},W3 l=δ r->∀{ms},MR I l ms->ms=r
  | [],r,h,ms,m=>by cases h;cases m;rfl
  | (k,a,n)::l,r,h,ms,m=>by
    simp only[W3]at h;split at h;case h_2=>cases h
    rename_i v B;split at h;case h_2=>cases h
    rename_i C hr;cases h;cases m with
    |cons u A=>rw[VT B u,N4 hr A]
def eO(ρ:Nat->Nat) (B:Nat) (a b:AO) (K:Prop):Prop:=match a,b with
  | .cells e fz g l, .cells e' u H C=>tB (ι e e'&&(qk7 fz u&&y0 g H)) (Ve ρ B l C K)
  | .row e fz vs, .row e' u G=>tB (ι e e'&&Ρ u fz) (Ob (vs=G)/\K)
  | .row e fz vs, .cells e' u H C=>tB (ι e e'&&leO fz 0 u) (match uD.concs C with
    |some us=>Ob (vs=us)/\K
    |none=>False)
  | .map es c, .map h A=>tB (ι c A) (eM ρ B es h K)
  | .mrow es c, .mrow h A=>Ob (es=h)/\Ob (c=A)/\K
  | .iter m s l c, .iter m' J C A=>tB (ι (ρ m) m'&&ς m B) (Ob (s=J)/\Ob (l=C)/\Ob (c=A)/\K)
  | .mrow es c, .map h A=>match W3 h with
    |some r=>Ob (es=r)/\Ob (c=A)/\K
    |none=>False
  |_,_=>False
def qh3 (z:I 0=δ (0,0,0)) {C:Nat} {a b:AO} {K:Prop} (h:eO ρ C a b K):(∀t ob,OR I t b ob->OR (za C ρ I) t a ob)/\(a.rw=ζ->b.rw=ζ)/\(a.rw=θ->b.rw=θ)/\K:=by
  unfold eO at h;split at h
  · obtain⟨u,hq⟩:=qT h;clear h;simp only[η]at u;obtain⟨e1,e2,e3⟩:=u;have e1:=γ e1;have e2:=qfd e2;rw[qex]at e3;have e3:=eq_of_beq e3;subst e1 e2 e3;obtain⟨A,B⟩:=Gw (I:=I) z hq;exact⟨λt ob r=>by cases r with|cells G O H T X J=>exact .cells (A _ G) O H T X J,λh=>(q8i _ _ _ _).trans h,λh=>(q8i _ _ _ _).trans h,B⟩
  · obtain⟨u,A,B⟩:=qT h;simp only[η]at u;have e1:=γ u.1;have e2:=υ u.2;subst e1;rw[A];exact⟨λt ob r=>by cases r with|row G O H=>exact .row G O λo ho=>H o (by omega),λ_=>rfl,(λh=>by cases h),B⟩
  · obtain ⟨u,hq⟩:=qT h;clear h;simp only[η]at u;have e1:=γ u.1;have u:=u.2;split at hq
    · rename_i us V;obtain⟨z,hz,e2⟩:=qhf u;subst hz;subst e1;obtain⟨Z,h7⟩:=hq;rw[Z];exact ⟨λt ob r=>by
          cases r with
          | cells G O H T X J=>
            rw[WE V G]at T⊢;rcases J with rfl|⟨J,_⟩
            · exact .row H T λo ho=>X z rfl o (by omega)
            · exact absurd J (by simp),λ_=>rfl,(λh=>by cases h),h7⟩
    · exact hq.elim
  · obtain⟨u,hq⟩:=qT h;clear h;have e1:=γ u;subst e1;obtain⟨A,B⟩:=qh2 (I:=I) z hq;exact⟨λt ob r=>by cases r with|map r=>exact .map (A _ r),λh=>h,λh=>h,B⟩
  · obtain⟨u,A,B⟩:=h;rw[u,A];exact⟨λt ob r=>by cases r;exact .mrow,λh=>h,λh=>h,B⟩
  · obtain⟨U,u,A,B,Y⟩:=qT h;simp only[η]at U;have e1:=γ U.1;have e2:=U.2;subst e1;rw[u,A,B];exact⟨λt ob r=>by
      cases r with
      |iter hI hp=>exact .iter (by unfold za;rw[e2];exact hI) hp,λh=>h,λh=>h,Y⟩
  · split at h;case h_2=>exact h.elim
    rename_i r hr;obtain⟨u,A,B⟩:=h;rw[u,A];exact⟨λt ob m=>by
      cases m with
      |map m=>rw[N4 hr m];exact .mrow,λ_=>rfl,(λh=>by cases h),B⟩
  · exact h.elim
end
section
def q0o{α:Type}:List (Nat×α)->T α->Option (T α)
  | [],t=>δ t
  | (k,a)::l,t=>match T.put 64 k (δ a) t with
    |some h=>q0o l h
    |none=>ξ
def assoc(i:Nat):List (Nat×Nat)->Option Nat
  | []=>ξ
  | (a,b)::l=>match ι a i with
    |true=>δ b
    |false=>assoc i l
def wK(nx0:Nat) (l:List (Nat×Nat)) (i:Nat):Nat:=match ς i nx0 with
  |true=>i
  | false=>match assoc i l with
    |some j=>j
    |none=>Nat.add 1000000000 i
def wM(nx0 i j:Nat) (l:List (Nat×Nat)):List (Nat×Nat):=match ς i nx0 with
  |true=>l
  | false=>match assoc i l with
    |some _=>l
    |none=>(i,j)::l
def Oh(nx0:Nat) (a b:AV) (l:List (Nat×Nat)):List (Nat×Nat):=match a,b with
 | .ptr i _, .ptr j _=>wM nx0 i j l
 | .sptr i _, .sptr j _=>wM nx0 i j l
 | .sptr i _, .ptr j _=>wM nx0 i j l
 | .ssl i _ _ _ k, .ssl j _ _ _ h=>wM nx0 k h (wM nx0 i j l)
 | .ssl _ _ _ _ k, .nsl=>wM nx0 k 0 l
 | .msl i _ _, .msl j _ _=>wM nx0 i j l
 | .usl i _ _ _, .usl j _ _ _=>wM nx0 i j l
 | .usl i _ _ _, .ssl j _ _ _ _=>wM nx0 i j l
 | .sl i _ _ _, .sl j _ _ _=>wM nx0 i j l
 | .gsl i _ _ _, .gsl j _ _ _=>wM nx0 i j l
 | .map i, .map j=>wM nx0 i j l
 |_,_=>l
def GP(nx0:Nat):List AV->List AV->List (Nat×Nat)->List (Nat×Nat)
 |a::x,b::y,l=>GP nx0 x y (Oh nx0 a b l)
 |_,_,l=>l
def Oi(nx0:Nat) (a b:AV) (l:List (Nat×Nat)):List (Nat×Nat):=match a,b with
 | .agg x, .agg y=>GP nx0 x y l
 | .ifc _ a, .ifc _ b=>Oh nx0 a b l
 | .fn _ x, .fn _ y=>GP nx0 x y l
 |a,b=>Oh nx0 a b l
def VZ(nx0:Nat):List AV->List AV->List (Nat×Nat)->List (Nat×Nat)
 |a::x,b::y,l=>VZ nx0 x y (Oi nx0 a b l)
 |_,_,l=>l
def OH(nx0:Nat) (a b:AV) (l:List (Nat×Nat)):List (Nat×Nat):=match a,b with
 | .tup x, .tup y=>VZ nx0 x y l
 |a,b=>Oi nx0 a b l
def G9(nx0:Nat) (t:T AV):List (Nat×AV)->List (Nat×Nat)->List (Nat×Nat)
  | [],l=>l
  | (k,a)::r,l=>match t.get k with
    |some b=>G9 nx0 t r (OH nx0 a b l)
    |none=>G9 nx0 t r l
def qk6(nx0:Nat):List (Value×AV×Nat)->List (Value×AV×Nat)->List (Nat×Nat)->List (Nat×Nat)
 | (_,a,_)::x,(_,b,_)::y,l=>qk6 nx0 x y (Oi nx0 a b l)
 |_,_,l=>l
def wO(nx0:Nat) (h:T AO):List (Nat×AO)->List (Nat×Nat)->List (Nat×Nat)
  | [],l=>l
  | (i,o)::r,l=>match h.get (wK nx0 l i)with
    | some u=>match o,u with
      | .cells _ _ _ x, .cells _ _ _ y=>wO nx0 h r (GP nx0 x y l)
      | .map x _, .map y _=>wO nx0 h r (qk6 nx0 x y l)
      |_,_=>wO nx0 h r l
    |none=>wO nx0 h r l
def eT(ρ:Nat->Nat) (h:Nat) (t:T AV):List (Nat×AV)->Prop->Prop
  | [],K=>K
  | (k,a)::l,K=>match t.get k with
    |some b=>eA ρ h a b (eT ρ h t l K)
    |none=>False
def qh4{ρ:Nat->Nat} {I:In} (z:I 0=δ (0,0,0)) {u:Nat} {t:T AV}:∀{l:List (Nat×AV)} {K:Prop},eT ρ u t l K->(∀k a,(k,a)∈l->∃b,t.get k=δ b/\∀v,VR I b v->VR (za u ρ I) a v)/\K
  | [],K,h=>⟨λk a h=>(by cases h),h⟩
  | (k, a)::l,K,h=>by
    simp only[eT]at h;split at h
    · rename_i b J;obtain⟨B,C⟩:=qh1 (I:=I) z h;obtain⟨G,H⟩:=qh4 (I:=I) z C;exact⟨λO A hm=>by
        cases hm with
        |head=>exact⟨b,J,B⟩
        |tail _ hm=>exact G O A hm,H⟩
    · exact h.elim
def eH(ρ:Nat->Nat) (nx u:Nat) (h:T AO):List (Nat×AO)->Prop->Prop
  | [],K=>K
  | (i,o)::l,K=>match h.get (ρ i)with
    |some b=>eO ρ u o b (eH ρ nx u h l K)
    |none=>tB (Ρ nx (ρ i)) (eH ρ nx u h l K)
def GW{ρ:Nat->Nat} {I:In} (z:I 0=δ (0,0,0)) {nx u:Nat} {h:T AO} (fr:∀i,nx<=i->I i=ξ):∀{l:List (Nat×AO)} {K:Prop},eH ρ nx u h l K->(∀i o,(i,o)∈l->I (ρ i)=ξ\/∃b,h.get (ρ i)=δ b/\(∀t ob,OR I t b ob->OR (za u ρ I) t o ob)/\(o.rw=θ->b.rw=θ)/\(o.rw=ζ->b.rw=ζ))/\K
  | [],K,e=>⟨λk a h=>(by cases h),e⟩
  | (i, o)::l,K,e=>by
    simp only[eH]at e;split at e
    · rename_i b V;obtain⟨B,C,G,H⟩:=qh3 (I:=I) z e;obtain⟨J,O⟩:=GW z fr H;exact⟨λU A hm=>by
        cases hm with
        |head=>exact .inr ⟨b,V,B,G,C⟩
        |tail _ hm=>exact J U A hm,O⟩
    · obtain⟨B,H⟩:=qT e;obtain⟨J,O⟩:=GW z fr H;exact⟨λU A hm=>by
        cases hm with
        |head=>exact .inl (fr _ (υ B))
        |tail _ hm=>exact J U A hm,O⟩
def JY(ρ:Nat->Nat):List (Nat×AO)->List Nat->Bool
  | [],_=>ζ
  | (i,_)::l,acc=>match jh (ρ i) acc with
    |true=>θ
    |false=>JY ρ l (ρ i::acc)
def Gf{k:Nat}:∀{l:List Nat},jh k l=θ->k∉l
  | [],_=>λh=>by cases h
  | a ::l,h=>by
    simp only[jh]at h;split at h
    · cases h
    · rename_i u;intro hm;cases hm with
      |head=>simp at u
      |tail _ hm=>exact Gf h hm
def WS{ρ:Nat->Nat}:∀{l:List (Nat×AO)} {acc:List Nat},JY ρ l acc=ζ->(∀i o,(i,o)∈l->ρ i∉acc)/\∀i o i' C,(i,o)∈l->(i',C)∈l->ρ i=ρ i'->i=i'
  | [],acc,_=>⟨λi o h=>(by cases h),λi o i' C h=>(by cases h)⟩
  | (i, o)::l,acc,h=>by
    simp only[JY]at h;split at h
    · cases h
    · rename_i O;obtain⟨A,H⟩:=WS h;refine⟨λj q hm=> ?_,λj q B G hm u he=> ?_⟩
      · cases hm with
        |head=>exact Gf O
        |tail _ hm=>exactλJ=>A j q hm (π _ J)
      · cases hm with
        | head=>
          cases u with
          |head=>rfl
          |tail _ u=>exact absurd (by rw[he];exact φ) (A B G u)
        | tail _ hm=>
          cases u with
          |head=>exact absurd (by rw[←he];exact φ) (A j q hm)
          |tail _ u=>exact H j q B G hm u he
def Nv (nx0:Nat) (gl:GL) (t:T AV) (h:T AO) (nx:Nat) (gl0:GL) (B:PF) (C:T AV) (h':T AO) (u:Nat) (K:Prop):Prop:=
  match z7 C with
  | lt => match z7 h' with
    | A=>match wO nx0 h A (G9 nx0 t lt [])with
      | r =>match Ρ nx0 u&&JY (wK nx0 r) A []with
        | true=>eT (wK nx0 r) u t lt (eH (wK nx0 r) nx u h A (match gl0.triv with
          |true=>QA gl B K
          |false=>Ob (∀p,gl.pf p->gl0.pf p)/\QA gl B K))
        |false=>False
section
variable {F0:Bool->Nat->Prop} {I0:In} {nx0:Nat} {w0:World} {n:Nat}
def q6s{l:List (Nat×Nat)} {i:Nat} (h:i<nx0):wK nx0 l i=i:=by unfold wK;rw[show ς i nx0=ζ by simpa[ψ]using h]
def qho{gl gl0:GL} {Z:PF} {t t':T AV} {h h':T AO} {nx A:Nat} {K:Prop} (e:Nv nx0 gl t h nx gl0 Z t' h' A K) {F:Bool->Nat->Prop} {I:In} {a:Act} {w:World} (st:St gl F I t h n a w) (u:At F0 I0 nx0 w0 F I nx w) (hg0:GK gl0.tab I0) (h00:∀i,nx0<=i->I0 i=ξ):
  K/\(∃p,gl0.pf p/\Z.ok p)/\∃I',St (gl0.withP Z) F I' t' h' n a w/\At F0 I0 nx0 w0 F I' A w:=by
 unfold Nv at e;simp only at e;split at e;case h_2=>exact e.elim
 rename_i hb;rw[η]at hb;obtain⟨hb1,X⟩:=hb;have hle:=υ hb1;generalize hρ:wK nx0 (wO nx0 h (z7 h') (G9 nx0 t (z7 t') []))=ρ at e X;have H:∀i,i<nx0->ρ i=i:=λi hi=>by rw[←hρ];exact q6s hi
 obtain⟨e1,e⟩:=qh4 (I:=I) st.gok.z e;obtain⟨e2,e7⟩:=GW st.gok.z u.fresh e;obtain⟨e3,e5⟩:(∀p,gl.pf p->gl0.pf p)/\QA gl Z K:=by
  split at e7
  ·rename_i htr;exact⟨λp _=>gl0.all htr p,e7⟩
  ·exact e7
 obtain⟨e6,e4⟩:=WU e5;obtain⟨_,inj⟩:=WS X;refine⟨e4,⟨_,e3 _ st.pf,e6 _ st.pf⟩,za A ρ I,⟨?_,st.size,st.defers,⟨?_,?_,?_⟩,st.low,?_,st.zf,?_⟩,⟨?_,hle,?_,u.sup,u.sub,u.frm,u.siz,u.sam⟩⟩
 ·intro k av hk;obtain⟨b,G,J⟩:=e1 k av (jg hk);exact J _ (st.tr k b G)
 ·intro id o b tt G J;obtain⟨h3,B⟩:=jT J;rcases e2 id o (jg G)with C|⟨o2,C,h6,_⟩
  ·rw[C]at B;cases B
  ·obtain⟨ob,h7,h8⟩:=st.sim.obj _ _ _ _ C B;exact⟨ob,h7,h6 _ _ h8⟩
 ·intro id id' o o' b tt tt' G V J h2';obtain⟨h3,B⟩:=jT J;obtain⟨h3',O⟩:=jT h2';rcases e2 id o (jg G)with C|⟨o2,C,h6,_⟩
  ·rw[C]at B;cases B
  rcases e2 id' o' (jg V)with U|⟨o2',U,h6',_⟩
  ·rw[U]at O;cases O
  exact inj _ _ _ _ (jg G) (jg V) (st.sim.inj _ _ _ _ _ _ _ C U B O)
 ·intro id o b tt G J hf;obtain⟨h3,B⟩:=jT J;rcases e2 id o (jg G)with C|⟨o2,C,h6,_,h7⟩
  ·rw[C]at B;cases B
  ·obtain⟨g1,g2⟩:=st.sim.fr _ _ _ _ C B hf;refine⟨?_,g2⟩;cases hrw:o.rw with
   |false=>rfl
   |true=>rw[h7 hrw]at g1;cases g1
 ·have:I0.le (za A ρ I):=λi x hi=>by
   have Y:i<nx0:=by
    rcases Η i nx0 with h|h
    ·exact h
    ·rw[h00 i h]at hi;cases hi
   unfold za;rw[show ς i A=ζ by simp[ψ];omega];simp only;rw[H i Y,u.le i Y];exact hi
  rw[GL.withP_tab];exact hg0.mono this
 ·exact GL.withP_of (e3 _ st.pf) (e6 _ st.pf)
 ·intro id hid;unfold za;rw[show ς id A=ζ by simp[ψ];omega];simp only;rw[H id hid,u.le id hid]
 ·intro i hi;cases hr:za A ρ I i with
  |none=>rfl
  |some y=>have:=(jT hr).1;omega
end
end
section
structure LT where
 σ:Type
 pre:σ->Prop:=λ_=>True
 mem:σ->PF:=λ_=>{}
 find:Option (T AV->T AO->Option σ):=ξ
 t:σ->List (Nat×AV)
 h:σ->List (Nat×AO)
 more:Nat
 μ:σ->Nat
 keep:List Nat:=[]
 del:List Nat:=[]
structure VE where
 unr:Nat:=0
 hs:jB
 hx:jC:=noX
 hr:jo
 n:Nat
 nx0:Nat
 ann:Nat->T AV->T AO->Option LT
 cut:Nat->T AV->T AO->Option LT:=λ_ _ _=>ξ
 pub:Nat->Nat->List Nat:=λ_ _=>[]
 pubE:List Nat:=[]
 spl:Nat->Option Nat:=λ_=>ξ
 flo:Nat->Option (Nat×List Nat):=λ_=>ξ
 flu:Nat->List (Nat×List Nat):=λ_=>[]
 spm:Nat->List Nat:=λ_=>[]
def Oj:List Nat->T AO->Option (T AO)
  | [],h=>δ h
  | i::l,h=>match T.put 64 i ξ h with
    |some h'=>Oj l h'
    |none=>ξ
def JQ:Code->Option Nat
  | .region i _ _=>δ i
  | .seq a b=>match JQ a with
    |some i=>δ i
    |none=>JQ b
  | .block _ c=>JQ c
  | .loop c=>JQ c
  | .cond _ a b=>match JQ a with
    |some i=>δ i
    |none=>JQ b
  |_=>ξ
def cutAt(cut:Nat->T AV->T AO->Option LT) (c:Code) (t:T AV) (h:T AO):Option LT:=match JQ c with
 |some i=>cut i t h
 |none=>ξ
def LT.gl(L:LT) (gl:GL) (s:L.σ):GL:=gl.withP (L.mem s)
def LT.mt(L:LT) (nx0:Nat) (t0:T AV) (A:T AO) (u:Nat) (gl0:GL) (gl:GL) (t:T AV) (h:T AO) (nx:Nat) (s:L.σ) (K:Prop):Prop:=match q0o (L.t s) t0 with
  | some B=>match q0o (L.h s) A with
    |some h'=>Nv nx0 gl t h nx gl0 (L.mem s) B h' u (Ob (L.pre s)/\K)
    |none=>False
  |none=>False
def LT.mtE(L:LT) (nx0:Nat) (t0:T AV) (A:T AO) (u:Nat) (gl0:GL) (gl:GL) (t:T AV) (h:T AO) (nx:Nat) (K:L.σ->Prop):Prop:=match L.find with
  |none=>∃s,L.mt nx0 t0 A u gl0 gl t h nx s (K s)
  | some f=>match f t h with
    |some s=>L.mt nx0 t0 A u gl0 gl t h nx s (K s)
    |none=>False
def LT.mtE_ok{L:LT} {nx0:Nat} {t0:T AV} {A:T AO} {u:Nat} {gl0 gl:GL} {t:T AV} {h:T AO} {nx:Nat} {K:L.σ->Prop} (e:L.mtE nx0 t0 A u gl0 gl t h nx K):∃s,L.mt nx0 t0 A u gl0 gl t h nx s (K s):=by
 unfold LT.mtE at e;split at e
 ·exact e
 ·split at e
  ·exact⟨_,e⟩
  ·exact e.elim
def Hk(B:GL->T AV->T AO->Nat->(AX->KS)->Prop) (K:AX->KS):Nat->GL->T AV->T AO->Nat->Prop
  |0,_,_,_,_=>False
  | m+1,gl,t,h,nx=>B gl t h nx λx gl t h nx=>match x with
    | .nrm=>Hk B K m gl t h nx
    | .ex j=>K (.ex j) gl t h nx
    | .rt=>K .rt gl t h nx
def vc (E : VE) (P:Cl):Nat->Nat->Code->GL->T AV->T AO->Nat->(AX->KS)->Prop
  |0,_,_,_,_,_,_,_=>False
  | f + 1, u, c,gl,t,h,nx,K=>match c with
    | .skip=>K .nrm gl t h nx
    | .label _=>K .nrm gl t h nx
    | .exit id=>K (.ex id) gl t h nx
    | .ret=>K .rt gl t h nx
    | .region i ops draw=>match draw with
      |false=>xJ E.hs E.hx E.n ops (E.pub i) 0 ops.toList gl t h nx (K .nrm)
      | true=>match E.spl i with
        |none=>JT P E.hs E.hr E.n ops (E.pub i 0) gl t h nx (K .nrm)
        | some q=>match E.flo i with
          |none=>Om P E.hs E.hx E.hr E.n ops (E.pub i) q gl t h nx (K .nrm)
          |some (f,cs)=>qh0 P E.hs E.hx E.hr E.n ops (E.pub i) q f cs (E.flu i) (E.spm i) gl t h nx (K .nrm)
    | .seq a b=>match cutAt E.cut b t h with
      | none=>vc E P f u a gl t h nx λx gl t h nx=>match x with
        | .nrm=>vc E P f u b gl t h nx K
        | .ex i=>K (.ex i) gl t h nx
        | .rt=>K .rt gl t h nx
      | some L=>match Oj L.del h with
        | some H=>match Qw t L.keep .e with
          | some t0=>(vc E P f u a gl t h nx λx A t2 G B=>match x with
              | .nrm=>L.mtE E.nx0 t0 H (nx+L.more) gl A t2 G B λs=>True
              | .ex i=>K (.ex i) A t2 G B
              | .rt=>K .rt A t2 G B)/\
            ∀ s :L.σ,Ob (L.pre s)->wP gl (L.mem s) λC=>match q0o (L.t s) t0 with
              | some J=>match q0o (L.h s) H with
                |some h'=>vc E P f u b C J h' (nx+L.more) K
                |none=>False
              |none=>False
          |none=>False
        |none=>False
    | .cond x a b=>match ev t x with
      |some (.bool ζ)=>vc E P f u a gl t h nx K
      |some (.bool θ)=>vc E P f u b gl t h nx K
      |some (.sv (.bool c))=>(Ob (c=ζ)->vc E P f u a gl t h nx K)/\(Ob (c=θ)->vc E P f u b gl t h nx K)
      |_=>False
    | .block id c=>vc E P f id c gl t h nx λx gl t h nx=>match x with
      | .nrm=>K .nrm gl t h nx
      | .ex j=>match ι j id with
        |true=>K .nrm gl t h nx
        |false=>K (.ex j) gl t h nx
      | .rt=>K .rt gl t h nx
    | .loop c =>match E.ann u t h with
      | some L => match Oj L.del h with
        | some H =>match Qw t L.keep .e with
          | some t0=>(L.mtE E.nx0 t0 H (nx+L.more) gl gl t h nx λs=>True)/\
            ∀ s : L.σ,Ob (L.pre s)->wP gl (L.mem s) λC=>match q0o (L.t s) t0 with
              | some J=>match q0o (L.h s) H with
                | some h'=>vc E P f u c C J h' (nx+L.more) λx A t2 G B=>match x with
                  | .nrm=>L.mtE E.nx0 t0 H (nx+L.more) gl A t2 G B λO=>Ob (L.μ O<L.μ s)/\True
                  | .ex j=>K (.ex j) A t2 G B
                  | .rt=>K .rt A t2 G B
                |none=>False
              |none=>False
          |none=>False
        |none=>False
      |none=>Hk (vc E P f u c) K E.unr gl t h nx
    |_=>False
section
variable {P:Cl} {E:VE} {F0:Bool->Nat->Prop} {I0:In} {w0:World}
def Ot{L:LT} {t0:T AV} {J:T AO} {u:Nat} {gl0 gl:GL} {t:T AV} {h:T AO} {nx:Nat} {s:L.σ} {K:Prop} (e:L.mt E.nx0 t0 J u gl0 gl t h nx s K) (H:GK gl0.tab I0) (G:∀i,E.nx0<=i->I0 i=ξ) {F:Bool->Nat->Prop} {I:In} {a:Act} {w:World} (st:St gl F I t h E.n a w) (C:At F0 I0 E.nx0 w0 F I nx w):
  L.pre s/\K/\(∃p,gl0.pf p/\(L.mem s).ok p)/\∃B h' A,q0o (L.t s) t0=δ B/\q0o (L.h s) J=δ h'/\St (L.gl gl0 s) F A B h' E.n a w/\At F0 I0 E.nx0 w0 F A u w:=by
 unfold LT.mt at e;split at e
 ·rename_i B Z;split at e
  ·rename_i h' Y;obtain⟨O,U,A,V,X⟩:=qho e st C H G;exact⟨O.1,O.2,U,B,h',A,Z,Y,V,X⟩
  ·exact e.elim
 ·exact e.elim
def qia (hm :P.follows .mixedOrders=ζ) (ho:vL P E.hs) (hX:kN P E.hx) (hr:kz P E.hr) (h00:∀i,E.nx0<=i->I0 i=ξ):∀(f O:Nat) (c:Code) {gl:GL} {t:T AV} {h:T AO} {nx:Nat} {K:AX->KS},vc E P f O c gl t h nx K->
    ∀ {F:Bool->Nat->Prop} {I:In} {a:Act} {w:World},GK gl.tab I0->St gl F I t h E.n a w->At F0 I0 E.nx0 w0 F I nx w->∀(Q:Exit->Act->World->Prop),
      (∀x e J U,x.is e->yZ F0 I0 E.nx0 w0 E.n (K x) J U->Q e J U)->c.wp P Q a w:=by
  intro f;induction f with
  |zero=>intro O c gl t h nx K e;exact e.elim
  | succ f ih =>
    intro O c gl t h nx K e F I a w V st H Q hQ;have here:∀x ex,x.is ex->K x gl t h nx->Q ex a w:=λx ex hx hk=>hQ x ex a w hx ⟨gl,t,h,nx,F,I,hk,V,st,H⟩;cases c with
    |skip=>exact wp_skip (here .nrm _ trivial e)
    |label l=>exact wp_label (here .nrm _ trivial e)
    |exit id=>exact wp_exit (here (.ex id) _ rfl e)
    |ret=>exact wp_ret (here .rt _ trivial e)
    | region id ops draw=>
      cases draw with
      | false=>
        simp only[vc]at e;refine wp_region (VG ho hX ops.toList (Ω ops.size) 0 ?_ e V st H Q λJ U hp=>hQ .nrm .normal J U trivial hp);apply qqh;intro i;simp only[qqi];by_cases hi:i<ops.size
        · simp[hi]
        · simp[hi]
      | true=>
        simp only[vc]at e;split at e
        · exact qcn hm ho hr e V st H Q (λJ U hp=>hQ .nrm .normal J U trivial hp) id
        · split at e
          · exact qcr hm ho hX hr e V st H Q (λJ U hp=>hQ .nrm .normal J U trivial hp) id
          · exact qcq hm ho hX hr e V st H Q (λJ U hp=>hQ .nrm .normal J U trivial hp) id
    | seq p q=>
      simp only[vc]at e;split at e;case h_2 L hL=>
        split at e;case h_2=>exact e.elim
        rename_i hb hhb;split at e;case h_2=>exact e.elim
        rename_i t0 ht0;obtain⟨e1,eb⟩:=e;refine wp_seq (ih O p e1 V st H _ λx ex J U hx hp=> ?_);obtain⟨C,t2,Z,G,X,Y,e2,B,A,u⟩:=hp;cases x with
        | nrm=>
          cases ex<;>simp only[Μ]at hx;obtain⟨s,e2⟩:=LT.mtE_ok e2;obtain⟨hpre,_,⟨pp,hp1,hp2⟩,t3,h3,I3,r1,r2,st3,at3⟩:=Ot e2 V h00 A u;have es:=JN (eb s hpre) hp1 hp2;rw[r1]at es;simp only at es;rw[r2]at es;exact ih O q es (by rw[GL.withP_tab];exact V) st3 at3 Q hQ
        | ex i=>
          cases ex<;>simp only[Μ]at hx;exact hQ (.ex i) _ J U hx ⟨C,t2,Z,G,X,Y,e2,B,A,u⟩
        | rt=>
          cases ex<;>simp only[Μ]at hx;exact hQ .rt _ J U trivial ⟨C,t2,Z,G,X,Y,e2,B,A,u⟩
      refine wp_seq (ih O p e V st H _ λx ex J U hx hp=> ?_);obtain⟨C,t2,Z,G,X,Y,e2,B,A,u⟩:=hp;cases x with
      | nrm=>
        cases ex<;>simp only[Μ]at hx;exact ih O q e2 B A u Q hQ
      | ex i=>
        cases ex<;>simp only[Μ]at hx;exact hQ (.ex i) _ J U hx ⟨C,t2,Z,G,X,Y,e2,B,A,u⟩
      | rt=>
        cases ex<;>simp only[Μ]at hx;exact hQ .rt _ J U trivial ⟨C,t2,Z,G,X,Y,e2,B,A,u⟩
    | cond x p q=>
      simp only[vc]at e;split at e
      · rename_i hx;refine wp_cond_true ?_ (ih O p e V st H Q hQ);have:=ql st.tr hx;generalize a.eval x=v at this;cases this;rfl
      · rename_i hx;refine wp_cond_false ?_ (ih O q e V st H Q hQ);have:=ql st.tr hx;generalize a.eval x=v at this;cases this;rfl
      · rename_i c hx;have:=ql st.tr hx;cases c with
        | true=>
          refine wp_cond_true ?_ (ih O p (e.1 rfl) V st H Q hQ);generalize a.eval x=v at this;cases this;rfl
        | false=>
          refine wp_cond_false ?_ (ih O q (e.2 rfl) V st H Q hQ);generalize a.eval x=v at this;cases this;rfl
      · exact e.elim
    | block id c=>
      simp only[vc]at e;refine wp_block (ih id c e V st H _ λx ex J U hx hp=> ?_);obtain⟨C,t2,Z,G,X,Y,e2,B,A,u⟩:=hp;cases x with
      | nrm=>
        cases ex<;>simp only[Μ]at hx;exact hQ .nrm _ J U trivial ⟨C,t2,Z,G,X,Y,e2,B,A,u⟩
      | ex i=>
        cases ex<;>simp only[Μ]at hx;subst hx;simp only at e2;split at e2
        · rename_i hb;have:=γ hb;subst this;simp only[qql,if_true];exact hQ .nrm .normal J U trivial ⟨C,t2,Z,G,X,Y,e2,B,A,u⟩
        · rename_i hb;have hne:¬i=id:=λh=>(by subst h;simp at hb);simp only[qql,if_neg hne];exact hQ (.ex i) _ J U rfl ⟨C,t2,Z,G,X,Y,e2,B,A,u⟩
      | rt=>
        cases ex<;>simp only[Μ]at hx;exact hQ .rt _ J U trivial ⟨C,t2,Z,G,X,Y,e2,B,A,u⟩
    | loop c=>
      simp only[vc]at e;split at e;case h_2=>
        have key:∀m (gl:GL) t h nx F I a w,Hk (vc E P f O c) K m gl t h nx->GK gl.tab I0->St gl F I t h E.n a w->At F0 I0 E.nx0 w0 F I nx w->qqo P c Q m a w:=by
          intro m;induction m with
          |zero=>intro gl t h nx F I a w e;exact e.elim
          | succ m ihm=>
            intro gl t h nx F I a w e V st H;simp only[Hk]at e;rw[rounds_succ];refine ih O c e V st H _ λx ex J U hx hp=> ?_;obtain⟨C,t2,Z,G,X,Y,e2,B,A,u⟩:=hp;cases x with
            | nrm=>
              cases ex<;>simp only[Μ]at hx;exact ihm C t2 Z G X Y J U e2 B A u
            | ex i=>
              cases ex<;>simp only[Μ]at hx;exact hQ (.ex i) _ J U hx ⟨C,t2,Z,G,X,Y,e2,B,A,u⟩
            | rt=>
              cases ex<;>simp only[Μ]at hx;exact hQ .rt _ J U trivial ⟨C,t2,Z,G,X,Y,e2,B,A,u⟩
        exact wp_loop_rounds _ (key E.unr gl t h nx F I a w e V st H)
      rename_i L hL;split at e;case h_2=>exact e.elim
      rename_i hb hhb;split at e;case h_2=>exact e.elim
      rename_i t0 ht0;obtain⟨e0,eb⟩:=e;obtain⟨s0,e0⟩:=LT.mtE_ok e0;obtain⟨hpre0,_,hpp0,t1,h1,I1,q1,q2,st1,at1⟩:=Ot e0 V h00 st H;have key:∀m (s:L.σ) t1 h1 F1 I1 a1 w1,L.μ s<m->L.pre s->(∃p,gl.pf p/\(L.mem s).ok p)->q0o (L.t s) t0=δ t1->q0o (L.h s) hb=δ h1->St (L.gl gl s) F1 I1 t1 h1 E.n a1 w1->At F0 I0 E.nx0 w0 F1 I1 (nx+L.more) w1->qqo P c Q m a1 w1:=by
        intro m;induction m with
        |zero=>intro s t1 h1 F1 I1 a1 w1 hlt;omega
        | succ m ihm=>
          intro s t1 h1 F1 I1 a1 w1 hlt hpre hpp q1 q2 st1 at1;obtain⟨pp,hp1,hp2⟩:=hpp;have es:=JN (eb s hpre) hp1 hp2;rw[q1]at es;simp only at es;rw[q2]at es;simp only at es;rw[rounds_succ];refine ih O c es (by rw[GL.withP_tab];exact V) st1 at1 _ λx ex J U hx hp=> ?_;obtain⟨C,t2,Z,G,X,Y,e2,B,A,u⟩:=hp;cases x with
          | nrm=>
            cases ex<;>simp only[Μ]at hx;obtain⟨s',e2⟩:=LT.mtE_ok e2;obtain⟨hpre',hmu,hpp',t3,h3,I3,r1,r2,st3,at3⟩:=Ot e2 V h00 A u;exact ihm s' t3 h3 X I3 J U (by have:L.μ s'<L.μ s:=hmu.1;omega) hpre' hpp' r1 r2 st3 at3
          | ex i=>
            cases ex<;>simp only[Μ]at hx;exact hQ (.ex i) _ J U hx ⟨C,t2,Z,G,X,Y,e2,B,A,u⟩
          | rt=>
            cases ex<;>simp only[Μ]at hx;exact hQ .rt _ J U trivial ⟨C,t2,Z,G,X,Y,e2,B,A,u⟩
      exact wp_loop_rounds _ (key (L.μ s0+1) s0 t1 h1 F I1 a w (Β _) hpre0 hpp0 q1 q2 st1 at1)
    |_=>simp[vc]at e
end
end
section
structure Sel(σ:Type)where
 β:Type
 f:β->σ
structure Ct where
 σ:Type
 args:σ->List AV
 h:σ->List (Nat×AO)
 m:Nat
 pre:σ->Prop:=λ_=>True
 mem:σ->PF:=λ_=>{}
 find:Option (List AV->T AO->Option σ):=ξ
 sel:Option (List AV->T AO->Option (Sel σ)):=ξ
 r:σ->AV
 h':σ->List (Nat×AO)
 m':Nat
 g:σ->GS
def Enters(P:Cl) (f:Nat):Prop:=∀args w,(callFunc f args).run P w= .ok (.enter f args) w
def q4p(P:Cl) (f:Nat) (C:Ct):Prop:=C.m<=C.m'/\1<=C.m/\Enters P f/\∀s,∃B A,q0o (C.h s) .e=δ B/\q0o (C.h' s) .e=δ A/\
 ∀ (F:Bool->Nat->Prop) (I:In) (w:World) (vs:List Value),VRs I (C.args s) vs->Sim F I B w->(∀b,F ζ b->b<w.heap.size)->(∀b,F θ b->F ζ b)->C.pre s->(C.mem s).ok (q11 F w)->(∀i,C.m<=i->I i=ξ)->I 0=δ (0,0,0)->
  Calls P f ⟨vs⟩ w λe G=>∃z u,e= .returned z/\VR u (C.r s) z/\Grow F I C.m w u C.m' A G/\(C.g s).Φ u (jU F w u A G)
def Ik(v:SV) (h:Pl v.1):∃y,zx y=v:=by
 obtain⟨a,n,c⟩:=v;cases a with
 |none=>exact q9a n c
 |some x=>obtain⟨b,o,p⟩:=x;exact q9b b o p n c
def Cm(k:Nat):List (Nat×SV)->Option SV
  | []=>ξ
  | (a,b)::l=>match ι a k with
    |true=>δ b
    |false=>Cm k l
def Hv(l:List (Nat×SV)) (k:Nat):SV:=match Cm k l with
 |some v=>v
 |none=>(ξ,0,0)
def qgy(a b:AV) (l:List (Nat×SV)):List (Nat×SV):=match a,b with
 | .tsl k, .sv (.slice a n c)=>(k,(a,n,c))::l
 | .tpt k, .sv (.pointer a)=>(k,(a,0,0))::l
 | .tmap k, .sv (.map m)=>(k,(m.map λb=>⟨b,0,ξ⟩,0,0))::l
 |_,_=>l
mutual
def OI(a b:AV) (l:List (Nat×SV)):List (Nat×SV):=match a,b with
 | .agg x, .agg y=>colRL x y l
 | .tup x, .tup y=>colRL x y l
 | .ifc _ a, .ifc _ b=>qgy a b l
 |a,b=>qgy a b l
def colRL:List AV->List AV->List (Nat×SV)->List (Nat×SV)
 |a::x,b::y,l=>colRL x y (OI a b l)
 |_,_,l=>l
end
mutual
def zL(x:Nat->SV) (ks:List Nat):AV->AV
  | .tsl k=>match jh k ks with
    |true=> .sv (.slice (x k).1 (x k).2.1 (x k).2.2)
    |false=> .tsl k
  | .tpt k=>match jh k ks with
    |true=> .sv (.pointer (x k).1)
    |false=> .tpt k
  | .tmap k=>match jh k ks with
    |true=> .sv (.map (mpV (x k).1))
    |false=> .tmap k
  | .ifc t a=> .ifc t (zL x ks a)
  | .agg l=> .agg (openRL x ks l)
  | .tup l=> .tup (openRL x ks l)
  | .fn f l=> .fn f (openRL x ks l)
  | .bfn f l m=> .bfn f (openRL x ks l) (openRL x ks m)
  | .bool b=> .bool b
  | .int k n=> .int k n
  | .str s=> .str s
  | .nilp=> .nilp
  | .ptr a b=> .ptr a b
  | .nsl=> .nsl
  | .sl a b c d=> .sl a b c d
  | .gsl a b c d=> .gsl a b c d
  | .nmap=> .nmap
  | .map a=> .map a
  | .nilf=> .nilf
  | .nili=> .nili
  | .ifo=> .ifo
  | .anyi k=> .anyi k
  | .lin k c l=> .lin k c l
  | .sv v=> .sv v
  | .ssl a b c d k=> .ssl a b c d k
  | .msl a b c=> .msl a b c
  | .usl a b c d=> .usl a b c d
  | .sptr a b=> .sptr a b
def openRL(x:Nat->SV) (ks:List Nat):List AV->List AV
 | []=>[]
 |a::l=>zL x ks a::openRL x ks l
end
section
variable {I J:In} {x:Nat->SV} {ks:List Nat}
mutual
def IP(B:∀k,k∈ks->∃y,I k=δ y/\zx y=x k) (A:J.le I):∀(a:AV) (v:Value),VR J (zL x ks a) v->VR I a v
  | .tsl k,v,h=>by
    unfold zL at h;split at h
    · rename_i hm;obtain⟨y,C,G⟩:=B k (wH hm);cases h;have:=VR.tsl C;rw[G]at this;exact this
    · exact h.mono A
  | .tpt k,v,h=>by
    unfold zL at h;split at h
    · rename_i hm;obtain⟨y,C,G⟩:=B k (wH hm);cases h;have:=VR.tpt C;rw[G]at this;exact this
    · exact h.mono A
  | .tmap k,v,h=>by
    unfold zL at h;split at h
    · rename_i hm;obtain⟨y,C,G⟩:=B k (wH hm);cases h;have:=VR.tmap C;rw[G]at this;exact this
    · exact h.mono A
  | .ifc t a,v,h=>by unfold zL at h;cases h with|ifc h=>exact .ifc (IP B A a _ h)
  | .agg l,v,h=>by unfold zL at h;cases h with|agg h=>exact .agg (closeL B A l _ h)
  | .tup l,v,h=>by unfold zL at h;cases h with|tup h=>exact .tup (closeL B A l _ h)
  | .fn f l,v,h=>by unfold zL at h;cases h with|fn h=>exact .fn (closeL B A l _ h)
  | .bfn f l m,v,h=>by unfold zL at h;cases h with|bfn C h=>exact .bfn (closeL B A l _ C) (closeL B A m _ h)
  | .bool b,v,h=>by unfold zL at h;exact h.mono A
  | .int k n,v,h=>by unfold zL at h;exact h.mono A
  | .str s,v,h=>by unfold zL at h;exact h.mono A
  | .nilp,v,h=>by unfold zL at h;exact h.mono A
  | .ptr a b,v,h=>by unfold zL at h;exact h.mono A
  | .nsl,v,h=>by unfold zL at h;exact h.mono A
  | .sl a b c d,v,h=>by unfold zL at h;exact h.mono A
  | .gsl a b c d,v,h=>by unfold zL at h;exact h.mono A
  | .nmap,v,h=>by unfold zL at h;exact h.mono A
  | .map a,v,h=>by unfold zL at h;exact h.mono A
  | .nilf,v,h=>by unfold zL at h;exact h.mono A
  | .nili,v,h=>by unfold zL at h;exact h.mono A
  | .ifo,v,h=>by unfold zL at h;exact h.mono A
  | .anyi k,v,h=>by unfold zL at h;exact h.mono A
  | .lin k c l,v,h=>by unfold zL at h;exact h.mono A
  | .sv u,v,h=>by unfold zL at h;exact h.mono A
  | .ssl a b c d k,v,h=>by unfold zL at h;exact h.mono A
  | .msl a b c,v,h=>by unfold zL at h;exact h.mono A
  | .usl a b c d,v,h=>by unfold zL at h;exact h.mono A
  | .sptr a b,v,h=>by unfold zL at h;exact h.mono A
def closeL(A:∀k,k∈ks->∃y,I k=δ y/\zx y=x k) (u:J.le I):∀(l:List AV) (vs:List Value),VRs J (openRL x ks l) vs->VRs I l vs
  | [],vs,h=>by unfold openRL at h;cases h;exact .nil
  | a::l,vs,h=>by unfold openRL at h;cases h with|cons B C=>exact .cons (IP A u a _ B) (closeL A u l _ C)
end
end
def Nz(x:Nat->SV):List Nat->Prop->Prop
 | [],K=>K
 |k::l,K=>Ob (Pl (x k).1)/\Nz x l K
def qe9{x:Nat->SV}:∀{l:List Nat} {K:Prop},Nz x l K->(∀k∈l,Pl (x k).1)/\K
  | [],K,h=>⟨λk H=>(by cases H),h⟩
  | k ::l,K,h=>by
    obtain⟨A,B⟩:=h;obtain⟨C,G⟩:=qe9 B;exact⟨λj u=>by
      cases u with
      |head=>exact A
      |tail _ u=>exact C j u,G⟩
def OX(nx:Nat):List Nat->List (Nat×Nat)
 | []=>[]
 |k::l=>(k,nx+k)::OX nx l
def G7(p:Nat->Bool):List Nat->Bool
  | []=>ζ
  | a::l=>match p a with
    |true=>G7 p l
    |false=>θ
def qa2{p:Nat->Bool}:∀{l:List Nat},G7 p l=ζ->∀a∈l,p a=ζ
  | [],_,a,h=>by cases h
  | b ::l,h,a,hm=>by
    simp only[G7]at h;split at h
    · rename_i u;cases hm with
      |head=>exact u
      |tail _ hm=>exact qa2 h a hm
    · cases h
def G0(ks:List Nat):List (Nat×AO)->Bool
  | []=>ζ
  | (i,_)::l=>match jh i ks with
    |true=>θ
    |false=>G0 ks l
def q8a{ks:List Nat}:∀{l:List (Nat×AO)},G0 ks l=ζ->∀i o,(i,o)∈l->i∉ks
  | [],_,i,o,h=>by cases h
  | (j,q)::l,h,i,o,hm=>by
    simp only[G0]at h;split at h
    · cases h
    · rename_i u;cases hm with
      |head=>exact Gf u
      |tail _ hm=>exact q8a h i o hm
def Ub(m:Nat) (gl:GL) (r:AV) (h:T AO) (nx:Nat) (A:AV) (u:List (Nat×AO)) (m':Nat) (ks:List Nat) (x:Nat->SV) (K:Prop):Prop:=
  match wO m h u (OH m A r (OX nx ks))with
  | l=>match Ρ m m'&&(JY (wK m l) u []&&(G0 ks u&&G7 (λk=>Ρ m k&&(ς k m'&&Ρ nx (wK m l k))) ks))with
    |true=>eA (wK m l) m' (zL x ks A) r (eH (wK m l) nx m' h u (Nz x ks K))
    |false=>False
def Hj(m:Nat) (gl:GL) (r:AV) (h:T AO) (nx:Nat) (u:AV) (A:List (Nat×AO)) (m':Nat) (g:GS):Prop:=match g with
  |none=>Ub m gl r h nx u A m' [] (Hv []) True
  | some d=>match OI u r []with
    |B=>∃b:d.β,Ub m gl r h nx u A m' d.ks (Hv B) (Ob (d.pre b)/\QA gl (d.mem b (d.ks.map (Hv B))) True)
end
section
variable {t:T AV}
def Iz{m m' nx n:Nat} {gl:GL} {r r' z} {h Z:T AO} {ks:List Nat} {x:Nat->SV} {K:Prop} {F0 F:Bool->Nat->Prop} {I0 I:In} {w0 w:World} {a:Act}
    (e:Ub m gl r h nx r' (z7 Z) m' ks x K) (st:St gl F I t h n a w) (A:At F0 I0 m w0 F I nx w) (hz:VR I r z) (low:∀b,F0 ζ b->b<w0.heap.size) (h00:∀i,m<=i->I0 i=ξ):
    K/\∃C,VR C r' z/\Grow F0 I0 m w0 C m' Z w/\(∀k∈ks,∃y,C k=δ y/\zx y=x k)/\Pub.le (q11 F w) (jU F0 w0 C Z w):=by
  unfold Ub at e;simp only at e;split at e;case h_2=>exact e.elim
  rename_i Y;simp only[η]at Y;obtain⟨hb1,hb2,hb4,hb3⟩:=Y;have hle:=υ hb1;generalize hρ:wK m (wO m h (z7 Z) (OH m r' r (OX nx ks)))=ρ at e hb2 hb3;have X:∀i,i<m->ρ i=i:=λi hi=>by rw[←hρ];exact q6s hi
  obtain⟨e1,e⟩:=qh1 (I:=I) st.gok.z e;obtain⟨e2,e⟩:=GW st.gok.z A.fresh e;obtain⟨e3,e4⟩:=qe9 e;obtain⟨_,inj⟩:=WS hb2;have O:∀k∈ks,m<=k/\k<m'/\nx<=ρ k:=λk u=>by have:=qa2 hb3 k u;simp only[η]at this;exact⟨υ this.1,by simpa[ψ]using this.2.1,υ this.2.2⟩
  have hy:∀k,∃y,k∈ks->zx y=x k:=λk=>by
    by_cases u:k∈ks
    · obtain⟨y,h⟩:=Ik (x k) (e3 k u);exact⟨y,λ_=>h⟩
    · exact⟨(0,0,0),λh=>absurd h u⟩
  obtain⟨yf,hyf⟩:=Classical.axiomOfChoice hy;have hkn:∀k∈ks,za m' ρ I k=none:=λk u=>by
    cases hr:za m' ρ I k with
    |none=>rfl
    | some y=>
      have:=(jT hr).2;rw[A.fresh _ (O k u).2.2]at this;cases this
  let C:In:=λi=>match jh i ks with
    |true=>δ (yf i)
    |false=>za m' ρ I i
  have hI'k:∀k∈ks,C k=δ (yf k):=λk u=>by
    simp only[C];cases hm:jh k ks with
    |true=>rfl
    |false=>exact absurd u (Gf hm)
  have B:∀k,k∉ks->C k=za m' ρ I k:=λk u=>by
    simp only[C];cases hm:jh k ks with
    |true=>exact absurd (wH hm) u
    |false=>rfl
  have hJ:(za m' ρ I).le C:=λi y hi=>by
    by_cases u:i∈ks
    · rw[hkn i u]at hi;cases hi
    · rw[B i u];exact hi
  have hkk:∀k∈ks,∃y,C k=δ y/\zx y=x k:=λk u=>⟨_,hI'k k u,hyf k u⟩;have G:∀id o b H,Z.get id=δ o->C id=δ (b,H)->∃U,h.get (ρ id)=δ U/\I (ρ id)=δ (b,H)/\(∀t ob,OR I t U ob->OR (za m' ρ I) t o ob)/\(o.rw=ζ->U.rw=ζ):=λid o b H J hi=>by
    have u:=q8a hb4 id o (jg J);rw[B id u]at hi;obtain⟨g1,g2⟩:=jT hi;rcases e2 id o (jg J)with g3|⟨U,g3,g4,_,g5⟩
    · rw[g3]at g2;cases g2
    · exact⟨U,g3,g2,g4,g5⟩
  have sub0:∀b,F θ b->F0 ζ b->F0 θ b:=λb V h0=>by
    rcases A.sub b V with h|h
    · exact h
    · exact absurd h0 h
  refine⟨e4,C,IP hkk hJ _ _ (e1 z hz),⟨?_,?_,⟨?_,?_,?_⟩,A.frm,A.siz,A.sam⟩,hkk,?_⟩
  · intro id y hi;have hid:id<m:=by
      rcases Η id m with h|h
      · exact h
      · rw[h00 id h]at hi;cases hi
    have u:id∉ks:=λu=>by have:=(O id u).1;omega
    rw[B id u];unfold za;rw[show ς id m'=ζ by simp[ψ];omega];simp only;rw[X id hid,A.le id hid];exact hi
  · intro i y hi;by_cases u:i∈ks
    · exact .inr ⟨(O i u).1,(O i u).2.1⟩
    · rw[B i u]at hi;obtain⟨g1,g2⟩:=jT hi;rcases Η i m with h|h
      · rw[X i h,A.le i h]at g2;exact .inl g2
      · exact .inr ⟨h,g1⟩
  · intro id o b H J hi;obtain⟨U,g1,g2,g3,_⟩:=G id o b H J hi;obtain⟨ob,k1,k2⟩:=st.sim.obj _ _ _ _ g1 g2;exact⟨ob,k1,(g3 _ _ k2).mono hJ⟩
  · intro id id' o o' b H tt' J hg' hi hi';obtain⟨U,g1,g2,_,_⟩:=G id o b H J hi;obtain⟨o2',g1',g2',_,_⟩:=G id' o' b tt' hg' hi';exact inj _ _ _ _ (jg J) (jg hg') (st.sim.inj _ _ _ _ _ _ _ g1 g1' g2 g2')
  · intro id o b H J hi V;obtain⟨U,g1,g2,_,g5⟩:=G id o b H J hi;obtain⟨k1,k2⟩:=st.sim.fr _ _ _ _ g1 g2 (A.sup ζ b V);refine⟨?_,sub0 b k2 V⟩;cases hrw:o.rw with
    |false=>rfl
    |true=>rw[g5 hrw]at k1;cases k1
  · intro b ob Y;rw[q03]at Y;rw[yW];refine⟨?_,Y.2⟩;rcases A.sub b Y.1 with V|V
    · exact .inl V
    · refine .inr ⟨V,λ⟨id,o,H,q1,q2,q3⟩=> ?_⟩;obtain⟨U,g1,g2,_,g5⟩:=G id o b H q1 q3;have:=(st.sim.fr _ _ _ _ g1 g2 (st.zf b Y.1)).1;rw[g5 q2]at this;cases this
def qg6{m m' nx n:Nat} {gl:GL} {r J z} {h A:T AO} {g:GS} {F0 F:Bool->Nat->Prop} {I0 I:In} {w0 w:World} {a:Act}
  (e:Hj m gl r h nx J (z7 A) m' g) (st:St gl F I t h n a w) (B:At F0 I0 m w0 F I nx w) (V:VR I r z) (low:∀b,F0 ζ b->b<w0.heap.size) (C:∀i,m<=i->I0 i=ξ):
  ∃u,VR u J z/\Grow F0 I0 m w0 u m' A w/\g.Φ u (jU F0 w0 u A w):=by
 unfold Hj at e;split at e
 ·obtain⟨_,u,A,H,_,_⟩:=Iz e st B V low C;exact⟨u,A,H,trivial⟩
 ·rename_i d;simp only at e;obtain⟨b,e⟩:=e;obtain⟨O,u,A,H,U,X⟩:=Iz e st B V low C;refine⟨u,A,H,λk G=>(U k G).imp λy Y=>Y.1,b,O.1,λx hx=> ?_⟩;have hm:d.ks.map x=d.ks.map (Hv (OI J r [])):=List.map_congr_left λk G=>by obtain⟨y,Z,y2⟩:=U k G;rw[hx k y G Z,y2]
  rw[hm];exact PF.ok_mono X ((WU O.2).1 _ st.pf)
end
end
end Go.Proofs.YtniogjgfomaicaaGreat.Sen
