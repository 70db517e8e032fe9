/-
  What the functions do: contracts, and their questions answered. No condition but what its theorems ask.
-/
import Derived.Test.YtniogjgfomaicaaGreatT1
namespace Go.Proofs.YtniogjgfomaicaaGreat.Wd
open Go.Proofs.YtniogjgfomaicaaGreat.Eng Go.Proofs.YtniogjgfomaicaaGreat.Sen Go.RowKit
set_option linter.defProp false
set_option linter.unusedVariables false
set_option linter.unusedSimpArgs false
set_option maxRecDepth 1000000
open Go.Value (int string slice bool)
open Go.IntKind (i64 u64 u8 u32 i32)
open _root_.List (length take drop)
open _root_.ByteArray (size)
open _root_.Int (toNat)
noncomputable section
open AT renaming cells->η,ok->qzd,ok_mono->qzq
open CtR renaming below_zero->qq0,of_below->qzk
open GJ renaming cells->qqd,k->χ,n->Ε,ok->υ,ok_eq->qz1,oks->qqe,s->Θ,wf->Ω,wf_eq->qzp,wfs->qqp,x->ζ,y->ε
open GV renaming b->Ψ,cells->Γ,ks->qqm,n->Λ,ok->φ,ok_mono->qqr,oks->qqi,pv->qq5,pvs->qqh,pvs_len->qq7,pvs_map->qq8,s->Μ,x->ξ,y->ρ
open PV renaming fitL->qza,fits->Ν,sames->qql
open _root_.Array renaming toList->qzy
open _root_.Bool renaming and_eq_true->Ρ,false->ι,false_eq_true->qq4,false_or->qq3,not_eq_true'->qq9,or_eq_true->qqo,or_true->qz2,true->π,true_and->qzi
open _root_.ByteArray renaming data->qzn,size->qzm,size_append->qqt,size_extract->qqf
open _root_.Eq renaming trans->Ο
open _root_.Go.Addr renaming add_add->qzz,mk->Ξ
open _root_.Go.BinOp renaming shl->qqs,shr->qzh
open _root_.Go.IntKind renaming bits->qq2,signed->qqw,wrap->ν
open _root_.Go.Op renaming bytesLess->qqq
open _root_.Go.Value renaming string->Ι
open _root_.Int renaming eq_ofNat_of_zero_le->Η,le_refl->qzc,le_trans->qz4,tmod->qq1,tmod_eq_emod_of_nonneg->qqb,toNat_natCast->δ
open _root_.List renaming append_assoc->qqa,append_nil->qqg,cons_append->qqu,drop_eq_getElem_cons->Φ,getD_eq_getElem?_getD->Κ,getElem?_append_left->qzf,getElem?_append_right->qze,getElem?_eq_getElem->τ,getElem_mem->θ,length_append->Τ,length_cons->qqc,length_drop->qqv,length_set->qqn,length_take->qqk,mem_cons_of_mem->Β,mem_cons_self->Υ,mem_of_mem_drop->qqy,mem_of_mem_take->qqx,mem_or_eq_of_mem_set->qzg,nil_append->Ζ,replicate->qzw,set_cons_succ->qzo,set_eq_take_append_cons_drop->qq6,take->qzj,take_append_drop->qqj,take_of_length_le->Δ,take_succ_cons->qzl,take_zero->qzs
open _root_.Nat renaming le_refl->ψ,min_eq_left->qzt,zero_add->Χ,zero_le->ω,zero_mul->qz3
open _root_.Option renaming getD->qzx,isSome->qqz,none->Α,some->ς
open _root_.Prod renaming fst->qzu,snd->qzv
open _root_.UInt8 renaming lt_asymm->qzr,lt_irrefl->qzb,toNat->qz0
section
variable (p:Int×Ck) (m:List AT) (h:List AT×Int×GJ×Ck×Bool) (o:Int) (b:GJ) (C:Ck) (u z:Int) (r:Nat) (t:Option Addr) (g:Nat) (c:List AT×Int×GJ×Ck) (q:Nat) (a:YZ) (G:List AT) (T:Int) (d:List AT×Int×AT) (v:Option Addr) (l:GJ×Ck) (L:Prop) (H:Nat->Option Obj) (M:YY) (D:xi) (N:qW) (U:AF) (O:List AT×Int×GJ×Int) (I:K_)
 abbrev Bk:=χ l.1=χ b/\Ε l.1=Ε b/\Θ l.1=Θ b/\(ε l.1).1=(ε b).1/\(ε l.1).2.1=(ε b).2.1/\(ε l.1).2.2=(ε b).2.2/\(ζ l.1).1=(ζ b).1/\(ζ l.1).2.1=(ζ b).2.1/\(ζ l.1).2.2=(ζ b).2.2/\L
 abbrev z59:=qzx (qm l.2 l.1) zJ
 def U1:= !decide (χ (z59 l)=o)
 abbrev jY:=jW h.2.2.1 h.2.2.2.1 h.2.2.2.2 h.2.1
 def QR:=length m=length G
 def ZP:=χ b=χ b/\Ε b=Ε b/\Θ b=Θ b/\(ε b).1=(ε b).1/\(ε b).2.1=(ε b).2.1/\(ε b).2.2=(ε b).2.2/\(ζ b).1=(ζ b).1/\(ζ b).2.1=(ζ b).2.1/\(ζ b).2.2=(ζ b).2.2/\L
 def Mo:=(∀e,True/\υ b e->True/\υ b e)
 def Bm:=(jY h).1=(jY h).1/\o=o/\u=u/\length m=length h.1/\(jY h).2=(jY h).2/\qa η h.1=qa η h.1/\L
 def bG:=Θ (z59 l)=Θ (z59 l)/\Bm m h o u (ZP b (Mo b/\(((jY h).2=0->z=0)/\(↑(size (Θ (z59 l))):Int)<=1100*u)/\True))
 def bC:=((U1 4 l)=π->∃(e:List AT),(2:Int)=2/\length e=length h.1/\(jY h).2=(jY h).2/\qa η e=qa η h.1/\True/\Θ (z59 l)=Θ (z59 l)/\(jY h).1=(jY h).1/\o=o/\u=u/\QR m e/\qt (jY h).2 (2:Int)=qt (jY h).2 2/\qa η h.1=qa η e/\ZP b (Mo b/\((qt (jY h).2 (2:Int)=0->z=0)/\(↑(size (Θ (z59 l))):Int)<=1100*u)/\True))/\((U1 4 l)=ι->bG m h o b u z l)
 def bH:=C=C/\Bm m h o u (ZP b (Mo b/\(((jY h).2=0->z=0)/\(↑(size C):Int)<=1100*u)/\True))
 def ZQ:=∀(e:AT),e∈N.1->qzd e H
 def Kq:=vT (jY h).1 p.2=vT (jY h).1 p.2
 abbrev vW:=vT (jY h).1 p.2
 def Kp:=(True/\υ b H)/\qc qn (t,r,g) (zl c.2.2.1 c.2.2.2 c.2.1).1 H
 def YD:=kF (vW p h) (size (vW p h))=kF (vW p h) (size (vW p h))
 def U0:=(∀e,Kp b r t g c e->Kp b r t g c e)
 def Mn:=(↑a.1:Int)<=1000/\length a.2.2<=a.1/\(a.2.1=0->o=0)
 def nc:=(0<=(↑a.1:Int)/\(↑a.1:Int)<(↑r:Int))/\t≠noA/\∃e,(∀w,Kp b r t g c w->q37 w (adr t (toNat (↑a.1:Int)*1)) [string e])/\∃(E:List AT),e=e/\YD p h/\QR E m/\a.2.1=a.2.1/\qa η E=qa η c.1/\(size e<10000/\size (kF (vW p h) (size (vW p h)))<50000)/\length (qa qn a.2.2)=length a.2.2*1/\(length a.2.2+nat_lit 1)*16<=140737488355328/\AV.ssl (nat_lit 22) (nat_lit 0) (length a.2.2) (nat_lit 1) (nat_lit 23)=AV.ssl (nat_lit 22) (nat_lit 0) (length a.2.2) (nat_lit 1) (nat_lit 23)/\Jb ((↑a.1:Int)+1)/\∃(F:YZ),YD p h/\t=t/\r=r/\g=g/\(↑F.1:Int)=(↑a.1:Int)+1/\o=o/\u=u/\QR m E/\F.2.1=yF e (kF (vW p h) (size (vW p h))) a.2.1/\o=o/\Kq p h/\length F.2.2=length a.2.2+nat_lit 1/\qa η c.1=qa η E/\ZP b (qa qn F.2.2=qa qn a.2.2++[string (vT e (kF (vW p h) (size (vW p h))))]/\U0 b r t g c/\(Mn z F)/\(1000:Nat)- F.1<1000- a.1/\True)
 def Sq:=YD p h/\o=o/\u=u/\QR m G/\a.2.1=a.2.1/\o=o/\Kq p h/\length a.2.2=length a.2.2/\qa η G=qa η G/\ZP b (qa qn a.2.2=qa qn a.2.2/\U0 b r t g c/\(a.2.1=0->z=0)/\True)
 def mY:=(qqz (findF (vW p h) m 0)=π->∃(e:List AT),(5:Int)=5/\QR e m/\a.2.1=a.2.1/\qa η e=qa η m/\True/\YD p h/\o=o/\u=u/\QR G e/\qt a.2.1 (5:Int)=qt a.2.1 5/\o=o/\Kq p h/\length a.2.2=length a.2.2/\qa η m=qa η e/\ZP b (qa qn a.2.2=qa qn a.2.2/\U0 b r t g c/\(qt a.2.1 (5:Int)=0->z=0)/\True))/\(qqz (findF (vW p h) m 0)=ι->Sq p G h o b u z r t g c a m)
 def z58:=(Kp b r t g c H)/\length a.2.2<=q/\qgm H v (take (length a.2.2*nat_lit 1) (qa qn a.2.2))
 def bK:=(0<=AF.ty U/\AF.ty U<(↑(length (M.1++D.1)):Int))/\Ω (AF.df U)
 def bJ:=M.2.1=0/\(∀(e:AT),e∈D.1->kT (length (M.1++D.1)) e)/\(∀(w:AF),w∈D.2.2.2->bK M D w)/\length D.2.2.2<=7
 def Bn:=(∀(e:AT),e∈D.1->qzd e H)/\qc AF.cells D.2.2.1 D.2.2.2 H/\∀(w:AF),w∈D.2.2.2->AF.ok w H
 def bL:=O.2.1=0/\I.2.2.1≠[]/\length I.2.2.1<=30
 abbrev Bo:=if I.1=0 then Q8 O.1 O.2.2.2 I.2.1 I.2.2.1 I.2.2.2.1 I.2.2.2.2 else O.1
 def UZ:=∃(e:List AT),z=z/\length e=length (qE d.1 d.2.2)/\qK d.1 d.2.1=qK d.1 d.2.1/\qa η e=qa η (qE d.1 d.2.2)/\True/\∃(w:qW),w.2.2=0/\length (m++w.1)=length e/\w.2.1=qt (qK d.1 d.2.1) z/\qa η (m++w.1)=qa η e/\zP (m,o,b,C,u) w/\(∀E,z58 b r t g c q a v E->ZQ E w)/\True
 def Bp:=N.2.2=qw d.1/\length (m++N.1)=length (qE d.1 d.2.2)/\N.2.1=qK d.1 d.2.1/\L
 def bF:=(0<=qw d.1/\qw d.1<(↑(length (qE d.1 d.2.2)):Int))/\nat_lit 0+toNat (qw d.1)*nat_lit 10+7+length [int i64 (Ε (z59 l))]<=length (qa η (qE d.1 d.2.2))/\∃(e:qW),Bp m d (qa η (m++e.1)=spl (qa η (qE d.1 d.2.2)) (nat_lit 0+toNat (qw d.1)*nat_lit 10+7) [int i64 (Ε (z59 l))]/\zP (m,o,b,C,u) e/\(∀w,z58 b r t g c q a v w->ZQ w e)/\True) e
 def bE:=Ji (qK d.1 d.2.1=0) (bF m o b C u r t g c q a d v l) (∃(F:qW),Bp m d (qa η (m++F.1)=qa η (qE d.1 d.2.2)/\zP (m,o,b,C,u) F/\(∀B,z58 b r t g c q a v B->ZQ B F)/\True) F)
 def bD:=Ji (5000<Ε (z59 l)) (UZ m o b C u 6 r t g c q a d v) (bE m o b C u r t g c q a d v l)
 def bB:=Ji (Ε (z59 l)<0) (UZ m o b C u 6 r t g c q a d v) (bD m o b C u r t g c q a d v l)
 def m_:=((U1 3 l)=π->UZ m o b C u 2 r t g c q a d v)/\((U1 3 l)=ι->bB m o b C u r t g c q a d v l)
 def mZ:=Ji (o=10) (∃(e:List AT×Int×GJ×Int),χ e.2.2.1=χ b/\Ε e.2.2.1=Ε b/\Θ e.2.2.1=Θ b/\(ε e.2.2.1).1=(ε b).1/\(ε e.2.2.1).2.1=(ε b).2.1/\(ε e.2.2.1).2.2=(ε b).2.2/\(ζ e.2.2.1).1=(ζ b).1/\(ζ e.2.2.1).2.1=(ζ b).2.1/\(ζ e.2.2.1).2.2=(ζ b).2.2/\e.2.2.2=qw d.1/\length e.1=length (qE d.1 d.2.2)/\e.2.1=qK d.1 d.2.1/\qa η e.1=qa η (qE d.1 d.2.2)/\(length e.1<=60/\Ω e.2.2.1/\0<=e.2.2.2/\(e.2.1=0->e.2.2.2<(↑(length e.1):Int)))/\(∀w,z58 b r t g c q a v w->υ e.2.2.1 w)/\∀(E:K_),(E.1=0->bL e E)->(∃F,(z58 b r t g c q a v F)/\qc qn E.2.1 E.2.2.1 F)->∃(B:qW),B.2.2=qw d.1/\length (m++B.1)=length (Bo e E)/\B.2.1=E.1/\qa η (m++B.1)=qa η (Bo e E)/\zP (m,u,b,C,z) B/\(∀R,(z58 b r t g c q a v R)/\qc qn E.2.1 E.2.2.1 R->ZQ R B)/\True) (∃(K:GJ×Ck),Bk b K (K.2=mkS [115,105,122,101]/\Ω K.1/\(∀i8,z58 b r t g c q a v i8->υ K.1 i8)/\((!Option.isSome (qm K.2 K.1))=π->UZ m u b C z 2 r t g c q a d v)/\((!Option.isSome (qm K.2 K.1))=ι->m_ m u b C z r t g c q a d v K)))
 abbrev mX:=((!decide (o=0))=π->∃(e:qW),e.2.2=0/\length (m++e.1)=length m/\e.2.1=o/\qa η (m++e.1)=qa η G/\zP (m,u,b,C,z) e/\(∀w,Kp b r t g c w->ZQ w e)/\True)/\((!decide (o=0))=ι->∀(F B R:Nat) (S:Option Addr) (K i8:Nat),(∃W,z58 b r t g c i8 a S W)->∃(j:List AT×Int×AT),AT.k j.2.2=T/\AT.nm j.2.2=vT (jY h).1 p.2/\(AT.al j.2.2).1=S/\(AT.al j.2.2).2.1=length a.2.2/\(AT.al j.2.2).2.2=i8/\AT.it j.2.2=0/\(AT.sy j.2.2).1=noA/\(AT.sy j.2.2).2.1=0/\(AT.sy j.2.2).2.2=0/\AT.hd j.2.2=ι/\AT.df j.2.2=mkS []/\AT.sz j.2.2=0/\(AT.f j.2.2).1=noA/\(AT.f j.2.2).2.1=0/\(AT.f j.2.2).2.2=0/\(AT.br j.2.2).1=noA/\(AT.br j.2.2).2.1=0/\(AT.br j.2.2).2.2=0/\length j.1=length m/\j.2.1=o/\qa η j.1=qa η G/\True/\Ji (T=9) (∃(i:YY),χ i.2.2.1=χ b/\Ε i.2.2.1=Ε b/\Θ i.2.2.1=Θ b/\(ε i.2.2.1).1=(ε b).1/\(ε i.2.2.1).2.1=(ε b).2.1/\(ε i.2.2.1).2.2=(ε b).2.2/\(ζ i.2.2.1).1=(ζ b).1/\(ζ i.2.2.1).2.1=(ζ b).2.1/\(ζ i.2.2.1).2.2=(ζ b).2.2/\i.2.2.2.1=qw j.1/\i.2.2.2.2.1=kF (vW p h) (size (vW p h))/\i.2.2.2.2.2=z/\length i.1=length (qE j.1 j.2.2)/\i.2.1=qK j.1 j.2.1/\qa η i.1=qa η (qE j.1 j.2.2)/\(Vk i<q+1/\length i.1<=60/\Ω i.2.2.1/\0<=i.2.2.2.1/\(i.2.1=0->i.2.2.2.1<(↑(length i.1):Int))/\1<=i.2.2.2.2.2/\i.2.2.2.2.2<=20/\(↑(size i.2.2.2.2.1):Int)<=1100*(i.2.2.2.2.2+1))/\(∀V,z58 b r t g c i8 a S V->υ i.2.2.1 V)/\∀(A:xi),length (i.1++A.1)<=60/\(A.2.1=0->bJ i A)->(∃i16,(z58 b r t g c i8 a S i16)/\Bn i16 A)->∃(J:qW),J.2.2=qw j.1/\length (m++J.1)=length ((if A.2.1=0 then yx i.1 i.2.2.2.1 A.2.2.1 A.2.2.2 else i.1)++A.1)/\J.2.1=A.2.1/\qa η (m++J.1)=qa η ((if A.2.1=0 then yx i.1 i.2.2.2.1 A.2.2.1 A.2.2.2 else i.1)++A.1)/\zP (m,u,b,C,z) J/\(∀Q,((z58 b r t g c i8 a S Q)/\Bn Q A)->ZQ Q J)/\True) (mZ m T b C u z r t g c i8 a j S))
 def Bl:=∃(e:List AT),Kq p h/\QR e m/\a.2.1=a.2.1/\qa η e=qa η c.1/\length e<1000/\(Ji (a.2.1=0) (mY p e h o b u z r t g c a m) (Sq p m h o b u z r t g c a e))/\∀(w:Int),(w=0->z=0)->mX p m h w b C z u r t g c q a e o
 def na:=Ji (a.2.1=0) (nc p m h o b u z r t g c a) (Bl p m h o b C u z r t g c q a)
 def mW:=Ji ((↑a.1:Int)<(↑r:Int)) (na p m h o b C u z r t g c q a) (Bl p m h o b C u z r t g c q a)
 def mV:=(∃(e:YZ),YD p h/\t=t/\r=r/\g=g/\(↑e.1:Int)=0/\o=o/\u=u/\length m=length c.1/\e.2.1=(zl c.2.2.1 c.2.2.2 c.2.1).2.2/\o=o/\Kq p h/\length e.2.2=0/\qa η c.1=qa η c.1/\ZP b (U0 b r t g c/\(Mn z e)/\True))/\∀(E:YZ),Mn z E->mW p m h o b C u z r t g c q E
 def mU:=((!decide (p.1=0))=π->∃(e:qW),e.2.2=0/\length (m++e.1)=length m/\e.2.1=p.1/\qa η (m++e.1)=qa η h.1/\zP (m,o,b,C,u) e/\(∀w,True/\υ b w->ZQ w e)/\True)/\((!decide (p.1=0))=ι->∃(F:List AT),(jY h).1=(jY h).1/\p.2=p.2/\QR F m/\p.1=p.1/\qa η F=qa η h.1/\(size (jY h).1<10000/\size p.2<50000)/\Kq p h/\size (vW p h)<1000000/\∃(B:List AT×Int×GJ×Ck),χ B.2.2.1=χ b/\Ε B.2.2.1=Ε b/\Θ B.2.2.1=Θ b/\(ε B.2.2.1).1=(ε b).1/\(ε B.2.2.1).2.1=(ε b).2.1/\(ε B.2.2.1).2.2=(ε b).2.2/\(ζ B.2.2.1).1=(ζ b).1/\(ζ B.2.2.1).2.1=(ζ b).2.1/\(ζ B.2.2.1).2.2=(ζ b).2.2/\B.2.2.2=mkS [97,108,105,97,115,101,115]/\length B.1=length F/\B.2.1=yF (jY h).1 p.2 p.1/\qa η B.1=qa η F/\Ω B.2.2.1/\(∀R,True/\υ b R->υ B.2.2.1 R)/\∀(S:Unit),True->∀(K:Option Addr) (i8 W:Nat),(∃j,Kp b i8 K W B j)->mV p m h z b C u o i8 K W B r)
end
def zfk(n:Nat) (S:List AT) (e:Int) (g:GJ) (k:Int) (sp:Ck) (d:Int):qk3 P (qf5 [(66,xS),(100,Ux),(101,HY),(102,HP),(103,z72),(97,UB),(69,Vh),(63,wY)]) (qg7 [(104,HD.below Vk (n+1)),(105,LF)]) Tryz.f67 (HT.below Vm (n+1)) (zl1) ⟨S,e,g,k,sp,d⟩=(Vm (S,e,g,k,sp,d)<n+1/\we (S,e,g,sp,d)/\d<=20/\(k=9\/k=10\/k=11)->(∃(p:Pub),True/\υ g p)->∃(s:List AT×Int×GJ×Ck×Bool),χ s.2.2.1=χ g/\Ε s.2.2.1=Ε g/\Θ s.2.2.1=Θ g/\(ε s.2.2.1).1=(ε g).1/\(ε s.2.2.1).2.1=(ε g).2.1/\(ε s.2.2.1).2.2=(ε g).2.2/\(ζ s.2.2.1).1=(ζ g).1/\(ζ s.2.2.1).2.1=(ζ g).2.1/\(ζ s.2.2.1).2.2=(ζ g).2.2/\s.2.2.2.1=mkS [110,97,109,101]/\s.2.2.2.2=π/\length s.1=length S/\s.2.1=e/\qa η s.1=qa η S/\Ω s.2.2.1/\(∀(p:Pub),True/\υ g p->υ s.2.2.1 p)/\∃(s_1:GJ×Ck),Bk g s_1 (s_1.2=mkS [110,97,109,101,115,112,97,99,101]/\Ω s_1.1/\(∀(p:Pub),True/\υ g p->υ s_1.1 p)/\((qqz (qm s_1.2 s_1.1)=π->bC S s k g d e s_1)/\(qqz (qm s_1.2 s_1.1)=ι->bH S s k g sp d e))/\∀(s_2:Int×Ck),(s_2.1=0->e=0)/\(↑(size s_2.2):Int)<=1100*d->mU s_2 S s e g sp d k n)):=by kernel_rfl
def zj9:=λn S e g k sp d=>Ο (zfk n S e g k sp d) (by delta Ji Jb Jt Jf Bk z59 U1 jY QR ZP Mo Bm bG bC bH ZQ Kq vW Kp YD U0 Mn nc Sq mY z58 bK bJ Bn bL Bo UZ Bp bF bE bD bB m_ mZ mX Bl na mW mV mU;exact rfl)
def Vn(k:Int) (W:Ck) (al:SV) (als:List Ck):AT:=⟨k,W,al,als,0,(Α,0,0),[],ι,mkS [],0,(Α,0,0),[],(Α,0,0),[]⟩
def zz6{k:Int} {W:Ck} {al:SV} {als:List Ck} {p:Pub} (h:qc qn al als p):(Vn k W al als).ok p:=⟨h,qV,qV,qV,λf u=>(by cases u)⟩
def ze5(S:List AT) (t u:AT):(S++[t]).set S.length u=S++[u]:=by
 induction S with
 |nil=>rfl
 |cons a S h=>rw[qqu,qqc,qzo,h];rfl
def zdh(S:List AT) (t:AT):(S++[t])[S.length]? =ς t:=by rw[qze (ψ _),Nat.sub_self];rfl
def zib(S:List AT) (t:AT) (x:SV) (l:List AF):yx (S++[t]) (S.length:Int) x l=S++[{t with f:=x,fs:=l}]:=by unfold yx;rw[δ,zdh];exact ze5 _ _ _
def zk7(S:List AT) (t:AT) (y:SV) (l:List Ck) (hd:Bool) (df:Ck):Q8 (S++[t]) (S.length:Int) y l hd df=S++[{t with sy:=y,sys:=l,hd:=hd,df:=df}]:=by unfold Q8;rw[δ,zdh];exact ze5 _ _ _
def jac(S:List AT) (t:AT) (r:Int):qa η (S++[{t with sz:=r}])=spl (qa η (S++[t])) (0+S.length*10+7) [.int .i64 r]:=by rw[zu,zu,J6,J6,Χ,←qv y9 S];show _=(qa η S++(t.cells++qa η [])).set ((qa η S).length+7) (.int .i64 r);rw[Yj];rfl
def z98{s:Ck}:∀i,i<=s.size->(kF s i).size<=s.size
  |0,_=>ω _
  | i+1,h=>by
    rw[kF];split
    · rw[qqf];omega
    · exact z98 i (by omega)
def C9{a b:Ck} {e:Int}:yF a b e=0->e=0:=by
 unfold yF;split
 ·exactλh=>(wb (by decide) h).elim
 ·exactλh=>h
def zja (n:Nat) (hf:q1p P 104 (HD.below Vk (n+1))):q1p P 67 (HT.below Vm (n+1)):=by
 refine zh (qcl (qgj J' (qgj Pm (qgj zlc (qgj zhc (qgj Pi (qgj zd5 (qgj HN (qgj xP qjq))))))))) (qdd (qgi hf (qgi j07 qjp))) (W:=zl1) Tryz.func67 λ⟨S,(e:Int),g,(k:Int),sp,(d:Int)⟩=>(zj9 n S e g k sp d).mpr ?_;rintro⟨hmu,⟨hS,hg,hd1,hd2,hsp⟩,hd3,hk⟩ ⟨p,_,hp⟩;have hmu:(25- d).toNat<n+1:=hmu;simp only[qB,exists_const,forall_const,δ];have hnm:=zwq hg (mkS [110,97,109,101]) π e;have hwe:(jW g (mkS [110,97,109,101]) π e).2=0->e=0:=Tn;obtain⟨oww,_⟩:=wW (mkS [110,97,109,101,115,112,97,99,101]) hg;have osz:((qm (mkS [110,97,109,101,115,112,97,99,101]) g).getD zJ).s.size<1000:=by rw[qzp]at oww;exact oww.1
 have bad0:∀k:Int,k≠0->zP (S,e,g,sp,d) ([],k,0):=λk hk=>⟨⟨by rw[qqg];exact hS,λh=>absurd h hk⟩,λh=>absurd h hk⟩;refine⟨⟨S,e,g,mkS [110,97,109,101],π⟩,rfl,rfl,rfl,rfl,rfl,rfl,rfl,rfl,rfl,rfl,rfl,rfl,rfl,rfl,hg,λq hq=>hq,⟨g,mkS [110,97,109,101,115,112,97,99,101]⟩,rfl,rfl,rfl,rfl,rfl,rfl,rfl,rfl,rfl,rfl,hg,λq hq=>hq,?_⟩;simp only;clear oww;generalize (qm (mkS [110,97,109,101,115,112,97,99,101]) g).getD zJ=ow at*;generalize jW g (mkS [110,97,109,101]) π e=W at*;refine⟨⟨λ_=>⟨λ_=>⟨S,rfl,rfl,rfl,rfl,λh=>(wb (by decide) h).elim,by omega⟩,λ_=>⟨trivial,hwe,by omega⟩⟩,λ_=>⟨trivial,hwe,hsp⟩⟩,?_⟩;rintro⟨e2,C⟩ ⟨h2,hsp2⟩;simp only at h2 hsp2⊢;refine⟨λhne=>⟨⟨[],e2,0⟩,rfl,by rw[qqg],rfl,by rw[qqg],bad0 _ hne,λq _ a ha=>(by cases ha)⟩,λhe2=> ?_⟩;have hws:=z6a (a:=W.1) (b:=C);have hbs:=z98 (s:=vT W.1 C) _ (ψ _);refine⟨S,rfl,rfl,⟨by omega,by omega⟩,by omega,⟨S,yF W.1 C e2,g,mkS [97,108,105,97,115,101,115]⟩,rfl,rfl,rfl,rfl,rfl,rfl,rfl,rfl,rfl,rfl,rfl,rfl,rfl,hg,λq hq=>hq,?_⟩;have hsz:∀x∈(zl g (mkS [97,108,105,97,115,101,115]) (yF W.1 C e2)).1,x.size<1000:=Pk hg;have hLl:(zl g (mkS [97,108,105,97,115,101,115]) (yF W.1 C e2)).1.length<1000:=Pj hg;have hE:(zl g (mkS [97,108,105,97,115,101,115]) (yF W.1 C e2)).2.2=0->e=0:=λh=>h2 (C9 (P8 h));simp only;generalize zl g (mkS [97,108,105,97,115,101,115]) (yF W.1 C e2)=F at*;generalize vT W.1 C=N at*;generalize kF N N.size=sp3 at*;rintro a m c ⟨p1,hp1,hl1⟩;have hm:m=F.1.length:=hl1.1;subst hm;have hat2:=λ(k:Nat) (hk:k<F.1.length) (q:Pub) (hq:qc qn (a,F.1.length,c) F.1 q)=>(show a≠noA/\q37 q (adr a (k*1)) [.string F.1[k]]from jX j8 (by decide) hq hk);refine⟨⟨⟨0,F.2.2,[]⟩,rfl,trivial,rfl,rfl,by show((0:Nat):Int)<=1000;omega,ψ _,hE⟩,?_⟩;rintro⟨x,e4,acc⟩ ⟨hx0,hacc,h4⟩;simp only at hx0 hacc h4⊢;refine⟨λhx=>⟨λh0=>⟨⟨by omega,by omega⟩,(hat2 x (by omega) p1 hl1).1,F.1[x]'(by omega),λq hq=>(hat2 x (by omega) q hq.2).2,S,rfl,rfl,⟨by have:=hsz _ (θ (show x<F.1.length by omega));omega,by omega⟩,qv j8 acc,by omega,⟨by omega,by omega⟩,⟨x+1,yF (F.1[x]'(by omega)) sp3 e4,acc++[vT (F.1[x]'(by omega)) sp3]⟩,by show((x+1:Nat):Int)=_;omega,rfl,rfl,by simp,rfl,by rw[zu];rfl,⟨by show((x+1:Nat):Int)<=1000;omega,by show(acc++[_]).length<=x+1;simp;omega,λh=>h4 (C9 h)⟩,by show 1000- (x+1)<1000- x;omega⟩,λh0=> ?xa⟩,λhx=> ?xb⟩;case xa | xb=>
  refine⟨S,rfl,rfl,by omega,⟨⟨λ_=>⟨λ_=>⟨S,rfl,rfl,rfl,rfl,λh=>(wb (by decide) h).elim⟩,λ_=>⟨rfl,h4⟩⟩,λ_=>⟨rfl,h4⟩⟩,?_⟩⟩;intro e5 h5;refine⟨λhne=>⟨⟨[],e5,0⟩,rfl,by rw[qqg],rfl,by rw[qqg],bad0 _ hne,λq _ a ha=>(by cases ha)⟩,λhe5=> ?_⟩;intro V c1 _;have e0:=h5 he5;have G:∀q,(acc.length<=c1/\qgm q V (qzj (acc.length*1) (qa qn acc)))->qc qn (V,acc.length,c1) acc q:=λq hq=>by refine⟨rfl,hq.1,?_⟩;have:=hq.2;rw[Δ (by rw[qv j8];exact ψ _)]at this;exact this
  refine⟨⟨S,e5,Vn k N (V,acc.length,c1) acc⟩,rfl,rfl,rfl,rfl,rfl,rfl,rfl,rfl,rfl,rfl,rfl,rfl,rfl,rfl,rfl,rfl,rfl,rfl,rfl,rfl,rfl,?_⟩;have hto:∀q,qc qn (V,acc.length,c1) acc q->(Vn k N (V,acc.length,c1) acc).ok q:=λq h=>zz6 h;have htk:(Vn k N (V,acc.length,c1) acc).k=k:=rfl;have hte:Vn k N (V,acc.length,c1) acc=⟨k,N,(V,acc.length,c1),acc,0,(Α,0,0),[],ι,mkS [],0,(Α,0,0),[],(Α,0,0),[]⟩:=rfl;simp only;generalize Vn k N (V,acc.length,c1) acc=t at*;have X:=zh5 S t hS;have H:∀q,qc qn (V,acc.length,c1) acc q->∀a∈zT S t,a.ok q:=λq hq a ha=>by
   unfold zT at ha;split at ha
   ·cases ha
   ·simp at ha;subst ha;exact hto q hq
  have hR0:0<=qw S:=by unfold qw;split<;>omega
  have A:qK S e5=0->S.length<60/\qE S t=S++[t]/\qw S=S.length:=λh=>by
   have hl:S.length<60:=by
    by_cases hl:60<=S.length
    ·exact absurd h (PN hl)
    ·omega
   exact⟨hl,by unfold qE;rw[if_neg (by omega)],by unfold qw;rw[if_neg (by omega)]⟩
  have hbad:∀Y:Int,Y≠0->zP (S,e,g,sp,d) (zT S t,Y,0):=λY J=>⟨⟨X,λh=>absurd h J⟩,λh=>absurd h J⟩;refine⟨λh9=> ?_,λh9=>⟨λh10=> ?_,λh10=> ?_⟩⟩
  ·refine ⟨⟨qE S t,qK S e5,g,qw S,sp3,d⟩,rfl,rfl,rfl,rfl,rfl,rfl,rfl,rfl,rfl,rfl,rfl,rfl,rfl,rfl,rfl,⟨hmu,by rw[z12];exact X,hg,hR0,λh=> ?_,hd1,hd3,by show(sp3.size:Int)<=1100*(d+1);omega⟩,λq hq=>hq.1.1,?_⟩
   ·obtain⟨hl,q2,q3⟩:=A h;show qw S<((qE S t).length:Int);rw[q2,q3];simp;omega
   ·rintro⟨T,Y,x,fs⟩ ⟨hT,Z⟩ ⟨p3,_,hTok,hsl,hfok⟩;simp only at hT Z hTok hsl hfok⊢;by_cases J:Y=0
    ·obtain⟨B,hTg,hfg,hf30⟩:=Z J;obtain⟨hl,q2,q3⟩:=A B;rw[q2]at hT hTg hfg;rw[if_pos J,q2,q3,zib,qqa];have hlen:∀u:AT,(S++(u::T)).length=S.length+T.length+1:=λu=>(by simp;omega);have hlen2:(S++[t]++T).length=S.length+T.length+1:=(by simp;omega);refine⟨⟨{t with f:=x,fs:=fs}::T,Y,S.length⟩,rfl,rfl,rfl,rfl,⟨⟨by rw[hlen];omega,λ_=>⟨e0,λy hy=> ?_⟩⟩,λ_=>⟨by show 0<=(S.length:Int);omega,by show(S.length:Int)<((S++_::T).length:Int);rw[hlen];omega⟩⟩,λq hq y hy=> ?_⟩
     ·rw[hlen];rw[hlen2]at hTg hfg;rcases List.mem_cons.1 hy with rfl|hy
      ·subst hte;exact⟨by show 1<=k/\k<=14;omega,λh=>(by have h:k=12\/k=13:=h;omega),λb hb=>(by cases hb),λh=>(by have h:k=14:=h;omega),hfg,λh=>(by have h:k=10:=h;omega),λh=>(by have h:k=11:=h;omega),hf30,ω _,ω _⟩
      ·exact hTg y hy
     ·rcases List.mem_cons.1 hy with rfl|hy
      ·have O:=hto q (G q hq.1.2);exact⟨O.1,O.2.1,hq.2.2.1,O.2.2.2.1,hq.2.2.2⟩
      ·exact hq.2.1 y hy
    ·rw[if_neg J];refine⟨⟨zT S t++T,Y,qw S⟩,rfl,by rw[z12,qqa],rfl,by rw[z12,qqa],⟨⟨by rw[←qqa,←z12];exact hT,λh=>absurd h J⟩,λh=>absurd h J⟩,λq hq y hy=>(List.mem_append.1 hy).elim (H q (G q hq.1.2) y) (hq.2.1 y)⟩
  ·refine⟨⟨qE S t,qK S e5,g,qw S⟩,rfl,rfl,rfl,rfl,rfl,rfl,rfl,rfl,rfl,rfl,rfl,rfl,rfl,⟨by rw[z12];exact X,hg,hR0,λh=> ?_⟩,λq hq=>hq.1.1,?_⟩
   ·obtain⟨hl,q2,q3⟩:=A h;show qw S<((qE S t).length:Int);rw[q2,q3];simp;omega
   ·rintro⟨Y,y,l,hd,df⟩ Z ⟨p3,_,hsl⟩;simp only at Z hsl⊢;by_cases J:Y=0
    ·obtain⟨B,hl0,hl30⟩:=Z J;obtain⟨hl,q2,q3⟩:=A B;rw[if_pos J,q2,q3,zk7];refine⟨⟨[{t with sy:=y,sys:=l,hd:=hd,df:=df}],Y,S.length⟩,rfl,rfl,rfl,rfl,⟨⟨by simp;omega,λ_=>⟨e0,λz hz=> ?_⟩⟩,λ_=>⟨by show 0<=(S.length:Int);omega,by simp;omega⟩⟩,λq hq z hz=> ?_⟩
     ·simp at hz;subst hz;subst hte;exact⟨by show 1<=k/\k<=14;omega,λh=>(by have h:k=12\/k=13:=h;omega),λb hb=>(by cases hb),λh=>(by have h:k=14:=h;omega),λf hf=>(by cases hf),λ_=>hl0,λh=>(by have h:k=11:=h;omega),ω _,ω _,hl30⟩
     ·simp at hz;subst hz;have O:=hto q (G q hq.1.2);exact⟨O.1,hq.2,O.2.2.1,O.2.2.2.1,O.2.2.2.2⟩
    ·rw[if_neg J];refine⟨⟨zT S t,Y,qw S⟩,rfl,by rw[z12],rfl,by rw[z12],⟨⟨X,λh=>absurd h J⟩,λh=>absurd h J⟩,λq hq y hy=>H q (G q hq.1.2) y hy⟩
  ·obtain⟨zw,_⟩:=wW (mkS [115,105,122,101]) hg;refine⟨⟨g,mkS [115,105,122,101]⟩,rfl,rfl,rfl,rfl,rfl,rfl,rfl,rfl,rfl,rfl,hg,λq hq=>hq.1.1,?_⟩;simp only;have hbd:∀k:Int,k≠0->∃b:List AT,b.length=(qE S t).length/\qa η b=qa η (qE S t)/\∃U:qW,U.2.2=0/\(S++U.1).length=b.length/\U.2.1=qt (qK S e5) k/\qa η (S++U.1)=qa η b/\zP (S,e,g,sp,d) U/\∀q,((g.ok q/\qc qn (a,F.1.length,c) F.1 q)/\acc.length<=c1/\qgm q V (qzj (acc.length*1) (qa qn acc)))->∀y∈U.1,y.ok q:=λk hk=>⟨qE S t,rfl,rfl,⟨zT S t,qt (qK S e5) k,0⟩,rfl,by rw[z12],rfl,by rw[z12],hbad _ (jj hk),λq hq=>H q (G q hq.2)⟩;generalize (qm (mkS [115,105,122,101]) g).getD zJ=zs at*;refine⟨λ_=>hbd 2 (by decide),λ_=>⟨λ_=>hbd 2 (by decide),λ_=>⟨λ_=>hbd 6 (by decide),λz0=>⟨λ_=>hbd 6 (by decide),λz1=>⟨λB=> ?_,λB=>⟨⟨zT S t,qK S e5,qw S⟩,rfl,by rw[z12],rfl,by rw[z12],⟨⟨X,λh=>absurd h B⟩,λh=>absurd h B⟩,λq hq=>H q (G q hq.2)⟩⟩⟩⟩⟩⟩;clear hbd;obtain⟨hl,q2,q3⟩:=A B;rw[q2,q3,δ];have hlen:∀u:AT,(S++[u]).length=S.length+1:=λu=>(by simp);refine⟨⟨by omega,by rw[hlen];omega⟩,by rw[qv y9,hlen];show 0+S.length*10+7+1<=_;omega,⟨[{t with sz:=zs.n}],qK S e5,S.length⟩,rfl,by show(S++[_]).length=_;rw[hlen,hlen],rfl,jac S t zs.n,⟨⟨by rw[hlen];omega,λ_=>⟨e0,λz hz=> ?_⟩⟩,λ_=>⟨by show 0<=(S.length:Int);omega,by rw[hlen];show(S.length:Int)<_;omega⟩⟩,λq hq z hz=> ?_⟩
   ·simp at hz;subst hz;subst hte;exact⟨by show 1<=k/\k<=14;omega,λh=>(by have h:k=12\/k=13:=h;omega),λb hb=>(by cases hb),λh=>(by have h:k=14:=h;omega),λf hf=>(by cases hf),λh=>(by have h:k=10:=h;omega),λ_=>⟨by show 0<=zs.n;omega,by show zs.n<=5000;omega⟩,ω _,ω _,ω _⟩
   ·simp at hz;subst hz;have O:=hto q (G q hq.2);exact⟨O.1,O.2.1,O.2.2.1,O.2.2.2.1,O.2.2.2.2⟩
def vM(v:GV):PF:=⟨π,v.ok,λ_ _ h e=>qqr h e⟩
def O3(S:List AT) (x:SV) (v:GV):PF:=⟨π,λp=>qd S x p/\v.ok p,λ_ _ h e=>⟨yG h e.1,qqr h e.2⟩⟩
def k0b(S:List AT) (x:SV) (a:AT) (v:GV):PF:=⟨π,λp=>qd S x p/\a.ok p/\v.ok p,λ_ _ h e=>⟨yG h e.1,qzq h e.2.1,qqr h e.2.2⟩⟩
def vwM(v w:GV):PF:=⟨π,λp=>v.ok p/\w.ok p,λ_ _ h e=>⟨qqr h e.1,qqr h e.2⟩⟩
abbrev kh(x:SV):AV:= .agg [zI x]
def Zg(σ:Type) (args:σ->List AV) (pre:σ->Prop) (mem:σ->PF) (r:σ->AV):Ct where
 σ:=σ
 args:=args
 h:=λ_=>[]
 m:=1
 pre:=pre
 mem:=mem
 r:=r
 h':=λ_=>[]
 m':=1
 g:=λ_=>Α
abbrev R5:=List AT×SV×AT×GV
abbrev yd:=List AT×SV×Int×GV
def xN(f:Int->Bool) (i k:Nat) (keep:List Nat) (t:T AV):Option LT:=match jO t k with
 |some a=>ς {σ:=Unit,t:=λ_=>[(i, .sv (.bool (f a)))],h:=λ_=>[],more:=0,μ:=λ_=>0,keep:=keep}
 |none=>Α
def K5:GV×GV->Nat:=λ⟨v,w⟩=>SizeOf.sizeOf v
section
def zli(n:Int):ν .u64 n=n % 18446744073709551616:=by simp[ν,qq2,qqw]
variable {p:Pub}
def CU{y:SV} {ks:List Ck} (h:qc qn y ks p) {i:Nat} (hi:i<ks.length):y.1≠noA/\q37 p (adr y.1 (i*1)) [.string ks[i]]:=jX j8 (by decide) h hi
def zfu:∀{l m:List PV} {j:Nat} (h:j<l.length) (u:j<m.length),qql (l.drop j) (m.drop j)=(PV.same l[j] m[j]&&qql (l.drop (j+1)) (m.drop (j+1))):=λ{l m j} h u=>by rw[Φ h,Φ u,qql]
def z9s:∀{l m:List PV},l.length≠m.length->qql l m=ι
 | [],[],h=>absurd rfl h
 | [],_::_,h=>by rw[qql]<;>simp
 |_::_,[],h=>by rw[qql]<;>simp
 |v::l,w::m,h=>by rw[qql,z9s (l:=l) (m:=m) (by simpa using h),Bool.and_false]
variable {l:List GV}
def Lt{j:Nat} (h:j<l.length):(qqh l)[j]'(by rw[qq7];exact h)=(l[j]).pv:=by simp[qq8]
def zk2{j:Nat} (h:j<l.length):SizeOf.sizeOf l[j]<SizeOf.sizeOf l:=List.sizeOf_lt_of_mem (θ h)
mutual
def z9r:∀v:PV,PV.same v v=π
 | .mk n s l ks b=>by rw[PV.same,sames_refl l];simp
def sames_refl:∀l:List PV,qql l l=π
 | []=>by rw[qql]
 |v::l=>by rw[qql,z9r v,sames_refl l];rfl
end
def w_{a:AT} (h:a.ok p) {j:Nat} (u:j<a.fs.length):a.f.1≠noA/\q37 p (adr a.f.1 (j*9)) a.fs[j].cells:=jX H8 (by decide) h.2.2.1 u
def uO{a:AT} (h:a.ok p) {j:Nat} (u:j<a.brs.length):a.br.1≠noA/\q37 p (adr a.br.1 (j*1)) [.int .i64 a.brs[j]]:=jX z26 (by decide) h.2.2.2.1 u
def y_{S:List AT} {x:SV} (h:qd S x p) {j:Nat} (u:j<S.length):x.1≠noA/\q37 p (adr x.1 (j*10)) S[j].cells:=jX y9 (by decide) h.1 u
def zz0{s:Ck}:s=mkS []↔s.size=0:=⟨λh=>by rw[h];rfl,λh=>by
 apply ByteArray.ext;apply Array.ext
 ·exact h
 ·intro i A u;exact absurd u (by show¬i<0;omega)⟩
end
def z41:∀n,q1p P 32 (wZ.below z77 n)
 |0=>qq0 (by decide) (by decide) (Sen.enters_of Tryz.func32 (by kernel_rfl)) λs=>rfl
 |n+1=>zr2 n (z41 n) (zkm n (z41 n)) (zja n (zf8 n (z41 n)))
def zkj:q1p P 32 wZ:=qzk z41
def qx(S:List AT):Prop:=S.length<=60/\∀a∈S,kT S.length a
def PW:CtR where
 σ:=GJ
 args:=λg=>[g.av]
 h:=λ_=>[]
 m:=1
 pre:=λg=>g.wf
 mem:=gM
 β:=λ_=>List AT×SV×Int
 post:=λg ⟨S,x,e⟩=>qx S/\(e=0->S≠[])
 pm:=λ_ ⟨S,x,e⟩=>⟨π,qd S x,λ_ _ h e=>yG h e⟩
 r:=λ_ ⟨S,x,e⟩=> .tup [kh x, .sv (.int .i64 e)]
 h':=λ_ _=>[]
 m':=1
def zwd:GJ->WayF:=λg=>{pubE:=[23]}
section
variable (b:qW) (f:GJ) (d:yg) (i:Nat->Option Obj) (l:Nat) (m:Option Addr)
 def nf:=AV.sv (int i64 b.2.1)=AV.sv (int i64 b.2.1)/\∃(c:List AT×(Option Addr×Nat×Nat)×Int),c.2.1.1=noA/\c.2.1.2.1=0/\c.2.1.2.2=0/\c.2.2=b.2.1/\(qx c.1/\(c.2.2=0->c.1≠[]))/\(∀g,((True/\υ f g)/\∀(j:AT),j∈b.1->qzd j g)->qd c.1 c.2.1 g)/\True
 def Sr:=((True/\υ f i)/\∀(c:AT),c∈b.1->qzd c i)/\length (d.1++b.1)<=l/\qgm i m (take (length (d.1++b.1)*nat_lit 10) (qa η (d.1++b.1)))
 def nd:=((!decide (b.2.1=0))=π->nf b f)/\((!decide (b.2.1=0))=ι->∀(n o p:Nat) (h:Option Addr) (q i8:Nat),(∃k,Sr b f d k i8 h)->∃(a:List AT×(Option Addr×Nat×Nat)×Int),a.2.1.1=h/\a.2.1.2.1=length (d.1++b.1)/\a.2.1.2.2=i8/\a.2.2=0/\(qx a.1/\(a.2.2=0->a.1≠[]))/\(∀e,Sr b f d e i8 h->qd a.1 a.2.1 e)/\True)
end
def zid(g:GJ):qk3 P (qf5 []) (qg7 [(32,wZ)]) Tryz.f18 PW (zwd) g=(Ω g->(∃(p:Pub),True/\υ g p)->∃(s:yg),χ s.2.2.1=χ g/\Ε s.2.2.1=Ε g/\Θ s.2.2.1=Θ g/\(ε s.2.2.1).1=(ε g).1/\(ε s.2.2.1).2.1=(ε g).2.1/\(ε s.2.2.1).2.2=(ε g).2.2/\(ζ s.2.2.1).1=(ζ g).1/\(ζ s.2.2.1).2.1=(ζ g).2.1/\(ζ s.2.2.1).2.2=(ζ g).2.2/\s.2.2.2.1=mkS []/\s.2.2.2.2=1/\length s.1=0/\s.2.1=0/\we s/\(∀(p:Pub),True/\υ g p->υ s.2.2.1 p)/\∀(b:qW),zP s b->(∃(p:Pub),(True/\υ g p)/\∀(a:AT),a∈b.1->qzd a p)->nd b g s):=by kernel_rfl
def zp4:=λg=>Ο (zid g) (by delta nf Sr nd;exact rfl)
def zp5:q1p P 18 PW:=by
 refine zh (qcl qjq) (qdd (qgi zkj qjp)) (W:=zwd) Tryz.func18 λg=>(zp4 g).mpr ?_;rintro H ⟨p,_,hp⟩;simp only[qB,exists_const,forall_const,δ];refine⟨⟨[],0,g,mkS [],1⟩,rfl,rfl,rfl,rfl,rfl,rfl,rfl,rfl,rfl,rfl,rfl,rfl,rfl,⟨ω _,H,by decide,by decide,by show((0:Nat):Int)<=_;decide⟩,λq hq=>hq,?_⟩;rintro⟨T,e,r⟩ ⟨⟨A,u⟩,hr⟩ _;simp only at A u hr⊢;rw[Ζ]at A u hr;refine⟨λG=>⟨⟨[],(Α,0,0),e⟩,rfl,rfl,rfl,rfl,⟨⟨ω _,λa B=>(by cases B)⟩,λh=>absurd h G⟩,λq hq=>⟨qV,λa B=>(by cases B)⟩⟩,λhe=> ?_⟩;intro a c _;obtain⟨_,C⟩:=u he;refine⟨⟨T,(a,T.length,c),0⟩,rfl,rfl,rfl,rfl,⟨⟨A,C⟩,λ_ h=> ?_⟩,λq hq=>⟨⟨rfl,hq.2.1,?_⟩,hq.1.2⟩⟩
 ·have h:T=[]:=h;subst h;have:=hr he;simp at this;omega
 ·have:=hq.2.2;rw[Ζ,Δ (by rw[qv y9];exact ψ _)]at this;exact this
def xo(σ:Type) (args:σ->List AV) (pre:σ->Prop) (mem:σ->PF) (β:Type) (post:σ->β->Prop) (pm:σ->β->PF) (r:σ->β->AV):CtR where
 σ:=σ
 args:=args
 h:=λ_=>[]
 m:=1
 pre:=pre
 mem:=mem
 β:=λ_=>β
 post:=post
 pm:=pm
 r:=r
 h':=λ_ _=>[]
 m':=1
def kZ(n:Int):Prop:=0<=n/\n<18446744073709551616
def UD:CtR:=xo (Int×Int×Int) (λ⟨v,f,b⟩=>[.sv (.int .u64 v), .sv (.int .i64 f), .sv (.int .i64 b)]) (λ⟨v,f,b⟩=>kZ v/\1<=f/\f<=62/\0<=b/\b<=2000) (λ_=>{}) Int (λ_ r=>kZ r) (λ_ _=>{}) λ_ r=> .sv (.int .u64 r)
def C2:UD.σ->WayF:=λ⟨v,f,b⟩=>{
 ann:=λ_ _ _=>ς {σ:=Nat,pre:=λe=>e<=63,t:=λe=>[(7, .sv (.int .i64 (e:Int)))],h:=λ_=>[],more:=0,μ:=λe=>e,keep:=[0,1,2,6]}
 cut:=λi _ _=>match i with
  |7=>ς {σ:=Nat,pre:=λe=>e<=63,t:=λe=>[(7, .sv (.int .i64 (e:Int)))],h:=λ_=>[],more:=0,μ:=λ_=>0,keep:=[0,1,2,6,8]}
  |15=>ς {σ:=Int×Int,t:=λ⟨e,m⟩=>[(7, .sv (.int .i64 e)),(8, .sv (.int .u64 m))],pre:=λ⟨e,m⟩=>0<=e/\e<=63,h:=λ_=>[],more:=0,μ:=λ_=>0,keep:=[1,2,6]}
  |_=>Α}
def Vi(n:Int):Prop:= -9223372036854775808<=n/\n<9223372036854775808
def PT:CtR:=xo Int (λv=>[.sv (.int .i64 v)]) Vi (λ_=>{}) Int (λ_ r=>0<=r/\r<4294967296) (λ_ _=>{}) λ_ r=> .sv (.int .u32 r)
def Pp:CtR:=xo Int (λv=>[.sv (.int .i64 v)]) Vi (λ_=>{}) Int (λ_ r=>kZ r) (λ_ _=>{}) λ_ r=> .sv (.int .u64 r)
def X0:CtR:=xo Ck (λs=>[.sv (.string s)]) (λs=>s.size<1000000) (λ_=>{}) (Ck×Bool) (λs ⟨r,b⟩=>r.size<=s.size) (λ_ _=>{}) λ_ ⟨r,b⟩=> .tup [.sv (.string r), .sv (.bool b)]
def fJ:X0.σ->WayF:=λs=>{
 ann:=λ_ _ _=>ς {σ:=Ck×Ck,pre:=λ⟨q,u⟩=>q.size+u.size<=s.size,t:=λ⟨q,u⟩=>[(4, .sv (.string q)),(0, .sv (.string u))],h:=λ_=>[],more:=0,μ:=λ⟨q,u⟩=>u.size,keep:=[]}}
def zU(k:Ck):List Ck->Nat
 | []=>0
 |a::l=>if qdf a k=π then zU k l+1 else 0
def vS(k:Ck) (ks:List Ck):Bool:=decide (ks[zU k ks]? =ς k)
def zC(k:Ck) (ks:List Ck) (l:List PV) (w:PV):List PV:=if vS k ks=π then l.set (zU k ks) w else l.take (zU k ks)++w::l.drop (zU k ks)
def qO(k:Ck) (ks:List Ck):List Ck:=if vS k ks=π then ks else ks.take (zU k ks)++k::ks.drop (zU k ks)
def Q5:CtR:=xo (GV×Ck×GV) (λ⟨v,k,w⟩=>[v.av, .sv (.string k),w.av]) (λ⟨v,k,w⟩=>v.ks.length=v.l.length/\v.l.length<1000000) (λ⟨v,k,w⟩=>⟨π,λp=>v.ok p/\w.ok p,λ_ _ h e=>⟨qqr h e.1,qqr h e.2⟩⟩) GV (λ⟨v,k,w⟩ u=>u.pv= .mk v.n v.s (zC k v.ks (qqh v.l) w.pv) (qO k v.ks) v.b) (λ_ u=>vM u) λ_ u=>u.av
def fI:Q5.σ->WayF:=λ⟨v,k,w⟩=>{
 ann:=λ_ _ _=>ς {σ:=Nat,pre:=λj=>j<=v.ks.length/\j+zU k (v.ks.drop j)=zU k v.ks,t:=λj=>[(7, .sv (.int .i64 (j:Int)))],h:=λ_=>[],more:=0,μ:=λj=>v.ks.length- j,keep:=[1,3,5,6]}
 cut:=λi _ _=>match i with
  |4=>ς {σ:=Nat,pre:=λj=>j=zU k v.ks/\j<=v.ks.length,t:=λj=>[(7, .sv (.int .i64 (j:Int)))],h:=λ_=>[],more:=0,μ:=λ_=>0,keep:=[1,3,5,6]}
  |8=>ς {σ:=Unit,pre:=λj=>vS k v.ks=ι,t:=λj=>[],h:=λ_=>[],more:=0,μ:=λ_=>0,keep:=[1,3,5,6,7]}
  |_=>Α
 pub:=λi k=>match i,k with
  |7,1=>[48]
  |10,1=>[79]
  |_,_=>[]}
def KX:Ct:=Zg (SV×Int) (λ⟨x,t⟩=>[kh x, .sv (.int .i64 t)]) (λ_=>True) (λ_=>{}) λ⟨x,t⟩=> .sv (.bool (decide (0<=t)&&decide (t<(x.2.1:Int))))
def QG(S:List AT):Prop:=∀a∈S,1<=a.k/\a.k<=14
def Nx(a:AT) (n:Nat) (ks:List Ck) (b:Int):Bool:=if a.k=9 then decide (n=a.fs.length)else if a.k=14 then decide (0<=b/\b<a.brs.length/\n=1)else if a.k=13 then decide (n=ks.length)&&yN ks else π
def Wb(S:List AT) (a:AT) (v:GV):Bool:=Nx a v.l.length v.ks v.b&&qza S (qG a v.b) 0 (qqh v.l)
def nB(k:Int):Bool:=decide (k=2\/k=3\/k=4\/k=5\/k=6\/k=10)
def jb(S:List AT) (a:AT) (v:GV):Bool:=if a.k=1 then π else if zo a.k=π then vi a v.n else if q8 a.k=π then yV a v.s else Wb S a v
def zvc:Ct:=Zg yd (λ⟨S,x,t,v⟩=>[kh x, .sv (.int .i64 t),v.av]) (λ⟨S,x,t,v⟩=>small S/\QG S/\v.pv.sm) (λ⟨S,x,t,v⟩=>O3 S x v) λ⟨S,x,t,v⟩=> .sv (.bool (Ν S t v.pv))
def zvd:Ct:=Zg R5 (λ⟨S,x,a,v⟩=>[kh x,a.av,v.av]) (λ⟨S,x,a,v⟩=>small S/\QG S/\a.fs.length<1000000/\v.pv.sm/\qp a.k=π) (λ⟨S,x,a,v⟩=>k0b S x a v) λ⟨S,x,a,v⟩=> .sv (.bool (Wb S a v))
def zhn(h:Prop):Ct:={zvd with pre:=λs=>h/\zvd.pre s}
def zA:AT:=⟨0,mkS [],(Α,0,0),[],0,(Α,0,0),[],ι,mkS [],0,(Α,0,0),[],(Α,0,0),[]⟩
def qe(S:List AT) (t:Int):AT:=(S[t.toNat]?).getD zA
def Np(h:Prop):yd->Prop:=λ⟨S,x,t,v⟩=>qp (qe S t).k=π->h
def H'(h:Prop):Ct:={zvc with pre:=λs=>zvc.pre s/\Np h s}
def Ct.never{P:Cl} {f:Nat} {C:Ct} (A:C.m<=C.m') (B:1<=C.m) (G:Enters P f) (u:∀s,(q0o (C.h s) .e).isSome=π/\(q0o (C.h' s) .e).isSome=π) (O:∀s,¬C.pre s):q4p P f C:=by refine⟨A,B,G,λs=> ?_⟩;obtain⟨a,H⟩:=Option.isSome_iff_exists.1 (u s).1;obtain⟨b,J⟩:=Option.isSome_iff_exists.1 (u s).2;exact⟨a,b,H,J,λF I w vs _ _ _ _ hp=>absurd hp (O s)⟩
def Qg(k:Int):Bool:=decide (k=4)||decide (k=6)
def wq(a:AT) (v:GV):Bool:=(decide (a.k≠13)&&decide (0<v.ks.length))|| (decide (a.k≠14)&&decide (v.b≠0))
def zwc:yd->WayF:=λ⟨S,x,t,v⟩=>{
 cut:=λi _ _=>match i with
  |14=>ς {σ:=Unit,t:=λ_=>[(46, .sv (.bool (decide ((qe S t).k=4))))],h:=λ_=>[],more:=0,μ:=λ_=>0,keep:=[3,5,6,7,8,9,10,11,22]}
  |15=>ς {σ:=Unit,t:=λ_=>[(46, .sv (.bool (Qg (qe S t).k)))],h:=λ_=>[],more:=0,μ:=λ_=>0,keep:=[3,5,6,7,8,9,10,11,22]}
  |26=>ς {σ:=Unit,t:=λ_=>[(8, .sv (.bool (nB (qe S t).k))),(9, .sv (.bool (q8 (qe S t).k))),(10, .sv (.bool (qp (qe S t).k))),(11, .sv (.bool (jb S (qe S t) v)))],h:=λ_=>[],more:=0,μ:=λ_=>0,keep:=[3,5,6,7]}
  |27=>ς {σ:=Unit,t:=λ_=>[(96, .sv (.bool (wq (qe S t) v)))],h:=λ_=>[],more:=0,μ:=λ_=>0,keep:=[3,5,6,7,8,9,10,11]}
  |_=>Α}
def AB:yd->Nat:=λ⟨S,x,t,v⟩=>SizeOf.sizeOf v
def AC:R5->Nat:=λ⟨S,x,a,v⟩=>SizeOf.sizeOf v
section
open Go.Proofs.YtniogjgfomaicaaGreat.Rv
inductive Rs(α:Type)where
 |no (k:Nat)
 |ok (a:α)
def Rs.bind{α β:Type}:Rs α->(α->Rs β)->Rs β
 | .no k,_=> .no k
 | .ok a,f=>f a
def zb{α β:Type} (a:α) (f:α->Rs β):(Rs.ok a).bind f=f a:=rfl
def jl{α β:Type} (k:Nat) (f:α->Rs β):(Rs.no k).bind f= .no k:=rfl
def LP{α β γ:Type} (r:Rs α) (f:α->Rs β) (g:β->Rs γ):(r.bind f).bind g=r.bind λa=>(f a).bind g:=by cases r<;>rfl
def qq(D:Ck) (i:Nat) (k:Int):Ck×Int×Int:=if k<0\/(D.size:Int)- i<k then(mkS [],2,i)else(D.extract i (i+k.toNat),0,i+k)
def qJ(D:Ck) (i:Nat):Ck×Int×Int:=if(qb D i).2.1≠0 then(mkS [],((qb D i).2.1:Nat),((qb D i).2.2:Nat))else if 5000<(qb D i).1 then(mkS [],3,((qb D i).2.2:Nat))else qq D (qb D i).2.2 (qb D i).1
def vP(t:Ck×Int×Int):Int:=if t.2.1=0/\qP t.1=ι then 2 else t.2.1
def vu(t:Ck×Int×Int) (e:Int):Rs (Ck×Nat):=if e=0 then .ok (t.1,t.2.2.toNat)else .no (e- 1).toNat
def uz(D:Ck) (i:Nat):Rs (Int×Nat):=if(qb D i).2.1=0 then .ok ((qb D i).1,(qb D i).2.2)else .no ((qb D i).2.1- 1)
def yA(D:Ck) (i:Nat) (k:Int):Rs (Ck×Nat):=vu (qq D i k) (qq D i k).2.1
def O4(D:Ck) (i:Nat):Rs (Ck×Nat):=vu (qJ D i) (qJ D i).2.1
def Uj(D:Ck) (i:Nat):Rs (Ck×Nat):=vu (qJ D i) (vP (qJ D i))
def xq(D:Ck) (i:Nat) (o:Int):Rs (Int×Nat):=if je D i o=0 then .ok ((qb D i).1,(qb D i).2.2)else .no (je D i o- 1)
def kL(n:Int):PV:= .mk n (mkS []) [] [] 0
def JI(s:Ck):PV:= .mk 0 s [] [] 0
def jL(s:Ck):Int:=(kc s.data.toList:Nat)
def qS(a:AT) (D:Ck) (i:Nat):Rs (PV×Nat):=
 if a.k=1 then .ok (kL 0,i)else
 if a.k=2 then(yA D i 1).bind λr=>if 1<jL r.1 then .no 1 else .ok (kL (jL r.1),r.2)else
 if a.k=3 then(uz D i).bind λr=>if r.1< -2147483648\/2147483648<=r.1 then .no 1 else .ok (kL (r.1 % 18446744073709551616),r.2)else
 if a.k=4 then(uz D i).bind λr=> .ok (kL (r.1 % 18446744073709551616),r.2)else
 if a.k=5 then(yA D i 4).bind λr=> .ok (kL (jL r.1),r.2)else
 if a.k=6 then(yA D i 8).bind λr=> .ok (kL (jL r.1),r.2)else
 if a.k=7 then(O4 D i).bind λr=> .ok (JI r.1,r.2)else
 if a.k=8 then(Uj D i).bind λr=> .ok (JI r.1,r.2)else
 if a.k=10 then(xq D i a.sys.length).bind λr=> .ok (kL r.1,r.2)else
 if a.k=11 then(yA D i a.sz).bind λr=> .ok (JI r.1,r.2)else .no 0
abbrev zG:=Rs (PV×Nat×Nat)
def kY(g:Int->Nat->Nat->zG):List Int->List PV->Nat->Nat->Rs (List PV×Nat×Nat)
 | [],l,n,c=> .ok (l,n,c)
 |t::ts,l,n,c=>(g t n c).bind λr=>kY g ts (l++[r.1]) r.2.1 r.2.2
abbrev zH:=List Ck×List PV
def yi(g:Nat->Nat->zG) (D:Ck) (mp:Bool) (st:zH) (n c:Nat):Rs (zH×Nat×Nat):=
 if mp=π then(Uj D n).bind λk=>(g k.2 c).bind λr=> .ok ((qO k.1 st.1,zC k.1 st.1 st.2 r.1),r.2)
 else(g n c).bind λr=> .ok ((st.1,st.2++[r.1]),r.2)
def jR(g:Nat->Nat->zG) (D:Ck) (mp:Bool):Nat->zH->Nat->Nat->Rs (zH×Nat×Nat)
 |0,st,n,c=> .ok (st,n,c)
 |k+1,st,n,c=>(yi g D mp st n c).bind λr=>jR g D mp k r.1 r.2.1 r.2.2
def Cr(D:Ck) (n:Nat):Rs (Int×Int×Nat):=(uz D n).bind λr=>if 0<=r.1 then .ok (r.1, -1,r.2)else if r.1= -9223372036854775808 then .no 1 else(uz D r.2).bind λq=>if q.1<0 then .no 1 else .ok (-r.1,q.1,q.2)
def Qh(h:Nat) (z:Int) (n2:Nat):Bool:=decide (0<=z)&&decide ((n2:Int)- h≠z)
def vH(g:Nat->Nat->zG) (D:Ck) (mp:Bool):Nat->zH->Nat->Nat->Rs (zH×Nat×Nat)
 |0,_,_,_=> .no 1
 |f+1,st,n,c=>(Cr D n).bind λh=>if h.1=0 then .ok (st,h.2.2,c)else(jR g D mp h.1.toNat st h.2.2 c).bind λr=>if Qh h.2.2 h.2.1 r.2.1=π then .no 1 else vH g D mp f r.1 r.2.1 r.2.2
def V8(g:Int->Nat->Nat->zG) (a:AT) (n c:Nat):zG:=(kY g (a.fs.map AF.ty) [] n c).bind λr=> .ok (.mk 0 (mkS []) r.1 [] 0,r.2)
def y7(g:Int->Nat->Nat->zG) (D:Ck) (a:AT) (n c:Nat):zG:=(xq D n a.brs.length).bind λb=>(g (a.brs.getD b.1.toNat 0) b.2 c).bind λr=> .ok (.mk 0 (mkS []) [r.1] [] b.1,r.2)
def ko(g:Int->Nat->Nat->zG) (D:Ck) (a:AT) (n c:Nat):zG:=(vH (g a.it) D (decide (a.k=13)) (D.size+1- n) ([],[]) n c).bind λr=> .ok (.mk 0 (mkS []) r.1.2 r.1.1 0,r.2)
def kA(g:Int->Nat->Nat->zG) (D:Ck) (a:AT) (n c:Nat):zG:=
 if a.k=9 then V8 g a n c else if a.k=14 then y7 g D a n c else if a.k=12\/a.k=13 then ko g D a n c else(qS a D n).bind λr=> .ok (r.1,r.2,c)
def qM(S:List AT) (D:Ck):Nat->Int->Nat->Nat->zG
  |0,_,_,_=> .no 2
  | f+1,t,n,c=>if 2000<c+1 then .no 2 else match S[t.toNat]? with
    |none=> .no 0
    |some a=>kA (λt n c=>qM S D f t n c) D a n (c+1)
def jJ(R:zG) (v:PV) (n c e:Int):Prop:=match R with
 | .no k=>e=k+1
 | .ok r=>e=0/\v=r.1/\n=r.2.1/\c=r.2.2
def zp(S:List AT):Prop:=small S/\QG S/\∀a∈S,(∀f∈a.fs,0<=f.ty/\f.ty<S.length)/\(∀b∈a.brs,0<=b/\b<S.length)/\(a.k=12\/a.k=13->0<=a.it/\a.it<S.length)/\(a.k=11->0<=a.sz/\a.sz<1000000)
def z9x:∀(l:List UInt8) (i acc m:Nat),10<=i+m->i<=10->vdec (l.take m) i acc=vdec l i acc
  | [],i,acc,m,_,_=>by rw[List.take_nil]
  | c::l,i,acc,0,h,u=>by rw[qzs,vdec_ten _ _ _ (by omega),vdec_ten _ _ _ (by omega)]
  | c::l,i,acc,m+1,h,u=>by
    rw[qzl,vdec,vdec];split
    · rfl
    split
    · rfl
    split
    · rfl
    exact z9x l (i+1) _ m (by omega) (by omega)
def zhx(D:Ck) (i m:Nat):(D.extract i m).data.toList=(D.data.toList.drop i).take (m- i):=by rw[ByteArray.data_extract,Array.toList_extract]
variable {D:Ck} {n:Int}
def zpo(h:qD D n):vdec (kr D n).data.toList 0 0=vdec (D.data.toList.drop n.toNat) 0 0:=by
 obtain⟨A,B,C⟩:=h;have G:D.data.toList.length=D.size:=rfl;unfold kr;rw[zhx];by_cases u:n+10<=D.size
 ·rw[z9x _ _ _ _ (by omega) (by decide)]
 ·rw[Δ];rw[qqv];omega
def Kh(h:qD D n):qN D n 0=((qb D n.toNat).1,(((qb D n.toNat).2.2:Nat):Int),(((qb D n.toNat).2.1:Nat):Int)):=by
  have e:=zpo h;unfold qN qb vval vlen verr;rw[e,if_neg (by decide)];have u:=h.1;cases vdec (D.data.toList.drop n.toNat) 0 0 with
  | none=>
    simp only[Option.getD_none,Option.isSome_none];rw[if_neg (by decide)];have:jP 0=0:=(by decide);rw[this];simp;omega
  | some r=>
    simp;omega
def tk0(D:Ck) (n k:Int):zF D n 0 k=if(D.size:Int)- n<k then(mkS [],n,2)else(D.extract n.toNat (n+k).toNat,n+k,0):=by unfold zF;simp
def CV(h:qD D n):kO D n 0=((qJ D n.toNat).1,(qJ D n.toNat).2.2,(qJ D n.toNat).2.1):=by
 have f:=yu D n.toNat (by have:=h.1;have:=h.2.1;omega);unfold kO qJ uI;rw[Kh h];dsimp only;by_cases B:(qb D n.toNat).2.1=0
 ·rw [B];by_cases u:(qb D n.toNat).1<0
  ·have e:qq D (qb D n.toNat).2.2 (qb D n.toNat).1=(mkS [],2,(((qb D n.toNat).2.2:Nat):Int)):=(by unfold qq;rw[if_pos (.inl u)]);simp[u,e,show¬5000<(qb D n.toNat).1 by omega]
  by_cases C:5000<(qb D n.toNat).1
  ·simp[u,C]
  ·simp only[u,C,if_false];simp;rw[tk0];unfold qq;by_cases A:(D.size:Int)- ((qb D n.toNat).2.2:Nat)<(qb D n.toNat).1
   ·rw[if_pos A,if_pos (.inr A)]
   ·rw[if_neg A,if_neg (by omega)];rw[show(((qb D n.toNat).2.2:Nat)+(qb D n.toNat).1:Int).toNat=(qb D n.toNat).2.2+(qb D n.toNat).1.toNat by omega,δ]
 ·have:(((qb D n.toNat).2.1:Nat):Int)≠0:=by omega
  simp[B]
def LS{n k:Int} (h:qD D n) (B:0<=k):zF D n 0 k=((qq D n.toNat k).1,(qq D n.toNat k).2.2,(qq D n.toNat k).2.1):=by
 have A:=h.1;rw[tk0];unfold qq;by_cases u:(D.size:Int)- n<k
 ·rw[if_pos u,if_pos (.inr (by omega))];simp;omega
 ·rw[if_neg u,if_neg (by omega)];rw[show(n+k).toNat=n.toNat+k.toNat by omega];simp;omega
def CL{n k:Int} (h:qD D n):yD D n 0 k=(if je D n.toNat k=0 then(qb D n.toNat).1 else 0,(((qb D n.toNat).2.2:Nat):Int),((je D n.toNat k:Nat):Int)):=by
 unfold yD XY je;rw[Kh h];dsimp only;by_cases u:(qb D n.toNat).2.1=0
 ·rw[u];by_cases A:(qb D n.toNat).1<0\/k<=(qb D n.toNat).1
  ·simp[A]
  ·simp[A]
 ·have:¬(((qb D n.toNat).2.1:Nat):Int)=0:=by omega
  simp[u]
def ZB{i:Nat} {k:Int} (h:i<=D.size):(0<=(qq D i k).2.1/\(qq D i k).2.1<=2)/\((i:Int)<=(qq D i k).2.2/\(qq D i k).2.2<=D.size)/\((qq D i k).2.1=0->0<=k/\(qq D i k).2.2=i+k/\((qq D i k).1.size:Int)=k):=by
 unfold qq;split
 ·refine⟨⟨by show(0:Int)<=2;decide,by show(2:Int)<=2;decide⟩,⟨qzc _,by show(i:Int)<=_;omega⟩,λh=>absurd (show(2:Int)=0 from h) (by decide)⟩
 ·refine⟨⟨by show(0:Int)<=0;decide,by show(0:Int)<=2;decide⟩,⟨by show(i:Int)<=i+k;omega,by show(i:Int)+k<=_;omega⟩,λ_=>⟨by omega,rfl,?_⟩⟩;show((D.extract i (i+k.toNat)).size:Int)=k;rw[qqf];omega
def Yd{i:Nat} (h:i<=D.size):(0<=(qJ D i).2.1/\(qJ D i).2.1<=3)/\((i:Int)<=(qJ D i).2.2/\(qJ D i).2.2<=D.size)/\((qJ D i).1.size:Int)<=5000:=by
 have f:=yu D i h;unfold qJ;split
 ·exact⟨⟨by show(0:Int)<=(_:Nat);omega,by show((_:Nat):Int)<=3;omega⟩,⟨by show(i:Int)<=(_:Nat);omega,by show((_:Nat):Int)<=_;omega⟩,by show((0:Nat):Int)<=5000;decide⟩
 split
 ·exact⟨⟨by show(0:Int)<=3;decide,by show(3:Int)<=3;decide⟩,⟨by show(i:Int)<=(_:Nat);omega,by show((_:Nat):Int)<=_;omega⟩,by show((0:Nat):Int)<=5000;decide⟩
 ·have g:=ZB (k:=(qb D i).1) (show(qb D i).2.2<=D.size by omega);refine⟨⟨g.1.1,by omega⟩,⟨by omega,g.2.1.2⟩,?_⟩;by_cases u:(qq D (qb D i).2.2 (qb D i).1).2.1=0
  ·have:=g.2.2 u;omega
  ·unfold qq at u⊢;split
   ·show((0:Nat):Int)<=5000;decide
   ·rename_i A;rw[if_neg A]at u;exact absurd rfl u
end
section
variable (a c e:Int) (b:Nat) (g:Int×Int)
 abbrev bM:=Jb ((↑b:Int)- 1)/\∃(d:Nat),a=a/\c=c/\(↑d:Int)=(↑b:Int)- 1/\e=e/\d<=63/\d<b/\True
 def U2:=0<=g.1/\g.1<=63
 def ny:=Jb (a- (↑b:Int))/\0<=a- (↑b:Int)/\∃(d:Int×Int),a=a/\d.1=(↑b:Int)/\c=c/\d.2=shP qqs u64 e (a- (↑b:Int))/\(U2 d)/\True
 abbrev Br:=shP qqs u64 1 ((↑b:Int)- a)
 def Bq:=∃(d:Int×Int),a=a/\d.1=(↑b:Int)/\c=c/\d.2=ν u64 (shP qzh u64 e ((↑b:Int)- a)+1)/\(U2 d)/\True
 def Bs:=∃(d:Int×Int),a=a/\d.1=(↑b:Int)/\c=c/\d.2=shP qzh u64 e ((↑b:Int)- a)/\(U2 d)/\True
 def nv:=(2:Int)≠0/\Ji (qq1 (shP qzh u64 a ((↑b:Int)- c)) (2:Int)=1) (Bq c e a b) (Bs c e a b)
 def nt:=Ji (qq1 a (Br c b)=shP qqs u64 1 ((↑b:Int)- c- 1)) (nv a c e b) (Bs c e a b)
 def nq:=Jb ((↑b:Int)- a)/\Jb ((↑b:Int)- a- 1)/\0<=(↑b:Int)- a- 1/\0<=(↑b:Int)- a/\shP qqs u64 1 ((↑b:Int)- a)≠0/\0<=(↑b:Int)- a/\Ji (shP qqs u64 1 ((↑b:Int)- a- 1)<qq1 c (Br a b)) (Bq a e c b) (nt c a e b)
 def nw:=Jb (g.1+a)/\0<=c/\0<=c/\∃(d:Int),d=ν u64 (shP qqs u64 (ν u64 (g.1+a)) c+ν u64 (g.2- shP qqs u64 1 c))/\kZ d/\True
 def nk:=(Ji ((↑b:Int)<=a) (ny a c e b) (nq a e c b))/\∀(h:Int×Int),U2 h->nw c a h
 def nj:=(∃(d:Nat),a=a/\c=c/\(↑d:Int)=(↑b:Int)/\e=e/\d<=63/\True)/\∀(f:Nat),f<=63->nk c e a f
 def ni:=0<=(↑b:Int)/\Ji (shP qzh u64 a (↑b:Int)=0) (bM a c e b) (nj a c e b)
 def nh:=(∃(d:Nat),a=a/\c=c/\(↑d:Int)=63/\e=e/\d<=63/\True)/\∀(f:Nat),f<=63->ni a c e f
 def ng:=Ji (a=0) (∃(d:Int),d=0/\kZ d/\True) (nh a c e)
end
def zpz(v f b:Int):qk3 P (qf5 []) (qg7 []) Tryz.f125 UD (C2) ⟨v,f,b⟩=(kZ v/\1<=f/\f<=62/\0<=b/\b<=2000->ng v f b):=by kernel_rfl
def zz5:=λv f b=>Ο (zpz v f b) (by delta Ji Jb Jt Jf bM U2 ny Br Bq Bs nv nt nq nw nk nj ni nh ng;exact rfl)
section
variable (b:Int) (a:Int×Int×Int) (j:Prop)
 abbrev Ss:=a.2.1=23/\a.2.2=127/\(kZ a.1/\1<=a.2.1/\a.2.1<=62/\0<=a.2.2/\a.2.2<=2000)/\j
 def nC:=Jb (b+1)/\∃(e:Int),e=ν i64 ((0:Int)- (b+1))/\∃(f:Int×Int×Int),f.1=ν u64 (ν u64 e+1)/\Ss f (∀(g:Int),kZ g->∃(c:Int),c=qae BinOp.or u32 2147483648 (ν u32 g)/\(0<=c/\c<4294967296)/\True)
 def nA:=Ji (b<0) (nC b) (∃(h:Int×Int×Int),h.1=ν u64 b/\Ss h (∀(i:Int),kZ i->∃(d:Int),d=ν u32 i/\(0<=d/\d<4294967296)/\True))
end
def zic(v:Int):qk3 P (qf5 []) (qg7 [(125,UD)]) Tryz.f108 PT (λ_=>{}) v=(Vi v->nA v):=by kernel_rfl
def zp0:=λv=>Ο (zic v) (by delta Ji Jb Jt Jf Ss nC nA;exact rfl)
section
variable (b:Int) (a:Int×Int×Int) (j:Prop)
 abbrev Su:=a.2.1=52/\a.2.2=1023/\(kZ a.1/\1<=a.2.1/\a.2.1<=62/\0<=a.2.2/\a.2.2<=2000)/\j
 def nE:=Jb (b+1)/\∃(c:Int),c=ν i64 ((0:Int)- (b+1))/\∃(d:Int×Int×Int),d.1=ν u64 (ν u64 c+1)/\Su d (∀(e:Int),kZ e->∃(f:Int),f=qae BinOp.or u64 9223372036854775808 e/\kZ f/\True)
 def nD:=Ji (b<0) (nE b) (∃(g:Int×Int×Int),g.1=ν u64 b/\Su g (∀(h:Int),kZ h->∃(i:Int),i=h/\kZ i/\True))
end
def zf4(v:Int):qk3 P (qf5 []) (qg7 [(125,UD)]) Tryz.f109 Pp (λ_=>{}) v=(Vi v->nD v):=by kernel_rfl
def zi0:=λv=>Ο (zf4 v) (by delta Ji Jb Jt Jf Su nE nD;exact rfl)
def zji(s:Ck):qk2 P (qf5 [(96,ZG)]) Tryz.f126 ZG (λ_=>{}) s=(qzm s<(9223372036854775808:Nat)->s=s/\qzm s<(9223372036854775808:Nat)/\(↑(j4 s):Int)=(↑(j4 s):Int)/\(↑(qH s):Int)=(↑(qH s):Int)/\True):=by kernel_rfl
section
variable (b:Ck) (a:Ck×Ck)
 abbrev Sv:=∃(c:Ck×Bool),c.1=mkS []/\c.2=ι/\size c.1<=size b/\True
 def nI:=Ji (255<(↑(j4 a.2):Int)) (Sv b) (∃d,size d=1/\qga [int u8 (ν u8 (↑(j4 a.2):Int))] 0 (q18 d)/\size a.1+size d<=9223372036854775807/\(0<=(↑(qH a.2):Int)/\(↑(qH a.2):Int)<=(↑(size a.2):Int))/\∃(e:Ck×Ck),e.2=ByteArray.extract a.2 (toNat (↑(qH a.2):Int)) (size a.2)/\e.1=a.1++d/\size e.1+size e.2<=size b/\size e.2<size a.2/\True)
 def nH:=a.2=a.2/\size a.2<9223372036854775808/\Ji ((↑(qH a.2):Int)=0) (Sv b) (nI b a)
 def nG:=Ji (0<(↑(size a.2):Int)) (nH b a) (∃(f:Ck×Bool),f.1=a.1/\f.2=π/\size f.1<=size b/\True)
 def nF:=(∃(c:Ck×Ck),c.2=b/\c.1=mkS []/\size c.1+size c.2<=size b/\True)/\∀(d:Ck×Ck),size d.1+size d.2<=size b->nG b d
end
def zzo(s:Ck):qk3 P (qf5 [(126,ZG)]) (qg7 []) Tryz.f110 X0 (fJ) s=(size s<1000000->nF s):=by kernel_rfl
def j9s:=λs=>Ο (zzo s) (by delta Ji Jt Jf Sv nI nH nG nF;exact rfl)
section
variable (e:Ck) (a c:GV) (d:Nat) (G:Prop) (t:Nat->Option Obj) (H:Nat) (I:Option Addr) (J L:List Value) (F:GV)
 abbrev ue:=True/\φ a t/\φ c t
 def Bt:=Λ a=Λ a/\Μ a=Μ a/\(ξ a).1=(ξ a).1/\(ξ a).2.1=(ξ a).2.1/\(ξ a).2.2=(ξ a).2.2/\(ρ a).1=(ρ a).1/\(ρ a).2.1=(ρ a).2.1/\(ρ a).2.2=(ρ a).2.2/\Ψ a=Ψ a/\G
 def Vq:=Bt a (Bt c ((∀g,ue a c g->ue a c g)/\G))
 def Mp:=d<=length (qqm a)/\d+zU e (drop d (qqm a))=zU e (qqm a)
 abbrev ZR:=(ρ a).2.1
 abbrev U4:=(↑d:Int)<(↑(ZR a):Int)
 def Bw:=(∀g,ue a c g->q37 g (adr (ρ a).1 (toNat (↑d:Int)*1)) [string e])
 def bO:=Jb ((↑d:Int)+1)/\∃(g:Nat),e=e/\(↑g:Int)=(↑d:Int)+1/\Vq a c ((Mp e a g)/\length (qqm a)- g<length (qqm a)- d/\True)
 def Bx:=∃(g:Nat),e=e/\(↑g:Int)=(↑d:Int)/\Vq a c ((g=zU e (qqm a)/\g<=length (qqm a))/\True)
 def nO:=(0<=(↑d:Int)/\U4 a d)/\(ρ a).1≠noA/\∃g,Bw g a c d/\(qdf g e=π->bO e a c d)/\(qdf g e=ι->Bx e a c d)
 abbrev nN:=Ji (U4 a d) (nO e a c d) (Bx e a c d)
 abbrev Ks:=(ξ a).2.1
 abbrev QT:=(ξ a).2.2
 abbrev QS:=(ρ a).2.2
 def Sw:=(ue a c t)/\(0:Nat)+(ξ a).2.1<=d/\qgm t I (take (((0:Nat)+(ξ a).2.1)*nat_lit 5) (spl ([]++J) ((0:Nat)+toNat (↑H:Int)*5) [int u64 (Λ c),string (Μ c),slice (ξ c).1 (Ks c) (QT c),slice (ρ c).1 (ZR c) (QS c),int i64 (Ψ c)]))
 def Bv:=Ψ a=Ψ c/\qq5 a=PV.mk (Λ c) (Μ c) (zC e (qqm c) (qqh (GV.l c)) (qq5 F)) (qO e (qqm c)) (Ψ c)/\G
 def nM:=(0<=(↑d:Int)/\U4 a d)/\(ρ a).1≠noA/\∃g,Bw g a c d/\Ji (g=e) (∃i,length i=(ξ a).2.1*5/\(∀z,ue a c z->qgm z (ξ a).1 i)/\qkb i/\((0:Nat)+(ξ a).2.1)*80<=140737488355328/\(0<=(↑d:Int)/\(↑d:Int)<(↑((0:Nat)+(ξ a).2.1):Int))/\(0:Nat)+toNat (↑d:Int)*5+length [int u64 (Λ c),string (Μ c),slice (ξ c).1 (Ks c) (QT c),slice (ρ c).1 (ZR c) (QS c),int i64 (Ψ c)]<=length ([]++i)/\∀(k E r:Nat) (u:Option Addr) (i8 A:Nat),(∃v,Sw a c A v d u i)->∃(f:GV),Λ f=Λ a/\Μ f=Μ a/\(ξ f).1=u/\(ξ f).2.1=0+(ξ a).2.1/\(ξ f).2.2=A/\(ρ f).1=(ρ a).1/\(ρ f).2.1=(ρ a).2.1/\(ρ f).2.2=(ρ a).2.2/\Bv e f a ((∀m,Sw a c A m d u i->φ f m)/\True) c) (∃(j:Unit),e=e/\(↑d:Int)=(↑d:Int)/\Vq a c (vS e (qqm a)=ι/\True))
 abbrev U3:=nat_lit 0+(d- nat_lit 0)+nat_lit 1
 abbrev Jq:=slice (ρ a).1 (ZR a) (QS a)
 abbrev Kr:=slice (ξ a).1 (Ks a) (QT a)
 def FA:=(ue a c t)/\nat_lit 0+(d- nat_lit 0)+nat_lit 1+((ξ a).2.1- d)<=H/\qgm t I (take ((nat_lit 0+(d- nat_lit 0)+nat_lit 1+((ξ a).2.1- d))*nat_lit 5) ([]++J++[int u64 (Λ c),string (Μ c),slice (ξ c).1 (Ks c) (QT c),slice (ρ c).1 (ZR c) (QS c),int i64 (Ψ c)]++L))
 def Bu:=nat_lit 0+(d- nat_lit 0)+nat_lit 1+((ρ a).2.1- d)<=H/\qgm t I (take ((nat_lit 0+(d- nat_lit 0)+nat_lit 1+((ρ a).2.1- d))*nat_lit 1) ([]++J++[string e]++L))
 def nL:=(ρ a).2.1<=(ρ a).2.2/\(0<=(↑d:Int)/\(↑d:Int)<=(↑(QS a):Int))/\∃g,length g=(d- nat_lit 0)*1/\(∀K,ue a c K->qgm K (slA (ρ a).1 (QS a) (nat_lit 0) 1) g)/\qkb g/\(nat_lit 0+(d- nat_lit 0))*16<=140737488355328/\length ([]++g)=(nat_lit 0+(d- nat_lit 0))*1/\(U3 d)*16<=140737488355328/\(ρ a).2.1<=(ρ a).2.2/\(0<=(↑d:Int)/\(↑d:Int)<=(↑(ZR a):Int))/\length ([]++g++[string e])=(U3 d)*1/\∃i,length i=((ρ a).2.1- d)*1/\(∀z,ue a c z->qgm z (slA (ρ a).1 (QS a) d 1) i)/\qkb i/\(nat_lit 0+(d- nat_lit 0)+nat_lit 1+((ρ a).2.1- d))*16<=140737488355328/\AV.sv (Jq a)=AV.sv (Jq a)/\AV.sv (Jq a)=AV.sv (Jq a)/\(ξ a).2.1<=(ξ a).2.2/\(0<=(↑d:Int)/\(↑d:Int)<=(↑(QT a):Int))/\∃k,length k=(d- nat_lit 0)*5/\(∀E,ue a c E->qgm E (slA (ξ a).1 (QT a) (nat_lit 0) 5) k)/\qkb k/\(nat_lit 0+(d- nat_lit 0))*80<=140737488355328/\length ([]++k)=(nat_lit 0+(d- nat_lit 0))*5/\(U3 d)*80<=140737488355328/\(ξ a).2.1<=(ξ a).2.2/\(0<=(↑d:Int)/\(↑d:Int)<=(↑(Ks a):Int))/\length ([]++k++[int u64 (Λ c),string (Μ c),slice (ξ c).1 (Ks c) (QT c),slice (ρ c).1 (ZR c) (QS c),int i64 (Ψ c)])=(U3 d)*5/\∃r,length r=((ξ a).2.1- d)*5/\(∀u,ue a c u->qgm u (slA (ξ a).1 (QT a) d 5) r)/\qkb r/\(nat_lit 0+(d- nat_lit 0)+nat_lit 1+((ξ a).2.1- d))*80<=140737488355328/\AV.agg [AV.sv (int u64 (Λ c)),AV.sv (string (Μ c)),AV.sv (Kr c),AV.sv (Jq c),AV.sv (int i64 (Ψ c))]=AV.agg [AV.sv (int u64 (Λ c)),AV.sv (string (Μ c)),AV.sv (Kr c),AV.sv (Jq c),AV.sv (int i64 (Ψ c))]/\AV.sv (Kr a)=AV.sv (Kr a)/\AV.sv (Kr a)=AV.sv (Kr a)/\∀(i8 A v:Nat) (f:Option Addr) (m j:Nat),(∃B,FA a c d B j f k r)->∀(C i16 D:Nat) (o:Option Addr) (M p:Nat),(∃w,(FA a c d w j f k r)/\Bu e a d w p o g i)->∃(h:GV),Λ h=Λ a/\Μ h=Μ a/\(ξ h).1=f/\(ξ h).2.1=nat_lit 0+(d- nat_lit 0)+nat_lit 1+((ξ a).2.1- d)/\(ξ h).2.2=j/\(ρ h).1=o/\(ρ h).2.1=nat_lit 0+(d- nat_lit 0)+nat_lit 1+((ρ a).2.1- d)/\(ρ h).2.2=p/\Bv e h a ((∀q,(FA a c d q j f k r)/\Bu e a d q p o g i->φ h q)/\True) c
 def nK:=(Ji (U4 a d) (nM e a c d) (∃(C:Unit),e=e/\(↑d:Int)=(↑d:Int)/\Vq a c (vS e (qqm a)=ι/\True)))/\∀(D:Unit),vS e (qqm a)=ι->nL e a c d
 def nJ:=((∃(g:Nat),e=e/\(↑g:Int)=0/\Vq a c ((Mp e a g)/\True))/\∀(i:Nat),Mp e a i->nN e a c i)/\∀(f:Nat),f=zU e (qqm a)/\f<=length (qqm a)->nK e a c f
end
def zzl(v:GV) (k:Ck) (w:GV):qk3 P (qf5 []) (qg7 []) Tryz.f24 Q5 (fI) ⟨v,k,w⟩=(length (qqm v)=length (GV.l v)/\length (GV.l v)<1000000->(∃(p:Pub),ue v w p)->nJ k v w):=by kernel_rfl
def put_eq:=λv k w=>Ο (zzl v k w) (by delta Ji Jb Jt Jf ue Bt Vq Mp ZR U4 Bw bO Bx nO nN Ks QT QS Sw Bv nM U3 Jq Kr FA Bu nL nK nJ;exact rfl)
def To(x:Int):IntKind.u64.wrap x=x % 18446744073709551616:=by unfold ν;simp[qq2,qqw]
def zlf(x:Int):IntKind.u32.wrap x=x % 4294967296:=by unfold ν;simp[qq2,qqw]
def Ye(x:Int):kZ (IntKind.u64.wrap x):=by rw[To];unfold kZ;omega
def j01:∀k:Nat,k<64->shP .shl .u64 1 (k:Int)≠0:=by decide+kernel
def k0d(v:Int):shP .shr .u64 v 0=v:=by show v.fdiv (2 ^ min (0:Int).toNat IntKind.u64.bits)=v;rw[show min (0:Int).toNat IntKind.u64.bits=0 from rfl];show v.fdiv 1=v;exact Int.fdiv_one v
def fC(c:Nat) (h:c<256):q18 (mkS [c])=[.int .u8 (c:Nat)]:=by simp[q18,mkS];omega
def W4:q1p P 125 UD:=by
 refine zh (qcl qjq) (qdd qjp) (W:=C2) Tryz.func125 λ⟨(v:Int),(f:Int),(b:Int)⟩=>(zz5 v f b).mpr ?_;rintro⟨X,O,T,H,J⟩;simp only[qB,exists_const,forall_const,δ];have G:∀e:Nat,¬v=0->shP .shr .u64 v (e:Int)=0->e≠0:=λe A hs h=>by subst h;rw[show((0:Nat):Int)=0 from rfl,k0d]at hs;exact A hs
 refine⟨λA=>⟨0,rfl,by unfold kZ;omega⟩,λA=>⟨⟨63,rfl,by omega⟩,λe he=>⟨by omega,λhs=> ?_,λhs=>⟨⟨e,rfl,he⟩,λk V=> ?_⟩⟩⟩⟩
 ·have:=G e A hs;exact⟨⟨by omega,by omega⟩,e- 1,by omega,by omega,by omega⟩
 ·clear G;have u:(0:Int)<=k:=by omega
  refine⟨⟨λhle=>⟨⟨by omega,by omega⟩,by omega,⟨k,_⟩,rfl,rfl,u,by omega⟩,λU=>⟨⟨by omega,by omega⟩,⟨by omega,by omega⟩,by omega,by omega,?_,by omega,λ_=>⟨⟨k,_⟩,rfl,rfl,u,by omega⟩,λ_=>⟨λ_=>⟨by decide,λ_=>⟨⟨k,_⟩,rfl,rfl,u,by omega⟩,λ_=>⟨⟨k,_⟩,rfl,rfl,u,by omega⟩⟩,λ_=>⟨⟨k,_⟩,rfl,rfl,u,by omega⟩⟩⟩⟩,?_⟩
  ·obtain⟨m,hm⟩:=Η (show 0<=(k:Int)- f by omega);rw[hm];exact j01 m (by omega)
  ·rintro⟨a,m⟩ ⟨B,C⟩;simp only at B C⊢;exact⟨⟨by omega,by omega⟩,by omega,by omega,_,rfl,Ye _⟩
def zp1:q1p P 108 PT:=by
 refine zh (qcl qjq) (qdd (qgi W4 qjp)) (W:=λ_=>{}) Tryz.func108 λ(v:Int)=>(zp0 v).mpr ?_;rintro⟨A,B⟩;simp only[qB,exists_const,forall_const,δ];refine⟨λh=>⟨⟨by omega,by omega⟩,_,rfl,⟨_,23,127⟩,rfl,rfl,rfl,⟨Ye _,(by show(1:Int)<=23;decide),(by show(23:Int)<=62;decide),(by show(0:Int)<=127;decide),(by show(127:Int)<=2000;decide)⟩,λb u=>⟨_,rfl,?_⟩⟩,λh=>⟨⟨_,23,127⟩,rfl,rfl,rfl,⟨Ye _,(by show(1:Int)<=23;decide),(by show(23:Int)<=62;decide),(by show(0:Int)<=127;decide),(by show(127:Int)<=2000;decide)⟩,λb u=>⟨_,rfl,?_⟩⟩⟩
 ·show 0<=IntKind.u32.wrap _/\IntKind.u32.wrap _<4294967296;rw[zlf];omega
 ·rw[zlf];omega
def zi1:q1p P 109 Pp:=by refine zh (qcl qjq) (qdd (qgi W4 qjp)) (W:=λ_=>{}) Tryz.func109 λ(v:Int)=>(zi0 v).mpr ?_;rintro⟨A,B⟩;simp only[qB,exists_const,forall_const,δ];refine⟨λh=>⟨⟨by omega,by omega⟩,_,rfl,⟨_,52,1023⟩,rfl,rfl,rfl,⟨Ye _,(by show(1:Int)<=52;decide),(by show(52:Int)<=62;decide),(by show(0:Int)<=1023;decide),(by show(1023:Int)<=2000;decide)⟩,λb u=>⟨_,rfl,?_⟩⟩,λh=>⟨⟨_,52,1023⟩,rfl,rfl,rfl,⟨Ye _,(by show(1:Int)<=52;decide),(by show(52:Int)<=62;decide),(by show(0:Int)<=1023;decide),(by show(1023:Int)<=2000;decide)⟩,λb u=>⟨b,rfl,u⟩⟩⟩;exact Ye _
def zjj:q4p P 126 ZG:=by refine qA (qcl (qgj zdy qjq)) (W:=λ_=>{}) Tryz.func126 λ(s:Ck)=>(zji s).mpr ?_;intro h;exact⟨rfl,h,rfl,rfl,trivial⟩
def j9t:q1p P 110 X0:=by
 refine zh (qcl (qgj zjj qjq)) (qdd qjp) (W:=fJ) Tryz.func110 λ(s:Ck)=>(j9s s).mpr ?_;intro hs;simp only[qB,exists_const,forall_const,δ];refine⟨⟨⟨mkS [],s⟩,rfl,rfl,by show 0+s.size<=_;omega⟩,?_⟩;rintro⟨q,u⟩ hq;simp only at hq⊢;refine⟨λh=>⟨by omega,λB=>⟨⟨mkS [],ι⟩,rfl,rfl,ω _⟩,λB=>⟨λhp=>⟨⟨mkS [],ι⟩,rfl,rfl,ω _⟩,λhp=> ?_⟩⟩,λh=>⟨⟨q,π⟩,rfl,rfl,by show q.size<=_;omega⟩⟩;have H:=P0 u;have C:IntKind.u8.wrap (j4 u:Int)=((j4 u:Nat):Int):=by rw[Yu];omega
 rw[C];have G:(mkS [j4 u]).size=1:=rfl;refine⟨mkS [j4 u],rfl,?_,by omega,⟨by omega,by omega⟩,⟨q++mkS [j4 u],u.extract (qH u) u.size⟩,rfl,rfl,?_,?_⟩
 ·intro j w A;rw[fC _ (by omega)]at A;rw[Χ];exact A
 ·show(q++mkS [j4 u]).size+(u.extract (qH u) u.size).size<=s.size;rw[qqt,qqf,G];omega
 ·show(u.extract (qH u) u.size).size<u.size;rw[qqf];omega
section
def znz{x:Addr} (h:x.spot=Α) (k:Nat):(x.add k).spot=none:=by
 unfold Addr.add;split
 ·exact h
 ·rfl
variable {a:Option Addr}
def j8b(h:Pl a) (c l sz:Nat):Pl (slA a c l sz):=trivial
def HH{p:Pub} {c l sz:Nat} {vs us:List Value} (h:qgm p a vs) (H:l<=c) (hlen:vs.length<=c*sz) (hu:∀(j:Nat) v,us[j]? =ς v->vs[l*sz+j]? =ς v):qgm p (slA a c l sz) us:=by
  have hp:Pl a:=Sen.rowP_Pl h;cases us with
  |nil=>exact .inl ⟨rfl,j8b hp c l sz⟩
  | cons u us=>
    have B:=hu 0 u rfl;rcases h with⟨rfl,_⟩|⟨x,rfl,hs,C⟩
    · simp at B
    · have A:c≠l:=λe=>by subst e;have:=(List.getElem?_eq_some_iff.mp B).1;omega
      refine .inr ⟨x.add (l*sz),?_,znz hs _,λj v G=> ?_⟩
      · unfold slA;rw[if_neg A];rfl
      · have:=C (l*sz+j) v (hu j v G);rw[qzz];exact this
def GV.oks_iff:∀{l:List GV} {p:Pub},qqi l p↔∀v∈l,v.ok p
  | [],p=>by unfold qqi;simp
  | v::l,p=>by unfold qqi;rw[GV.oks_iff (l:=l)];simp
variable {α:Type}
def O6{f:α->List Value} (l:List α) (k:Nat):qa f l=qa f (l.take k)++qa f (l.drop k):=by rw[←zu,qqj]
def ze3{f:α->List Value} (l:List α) (k:Nat):∀(j:Nat) v,(qa f (l.take k))[j]? =ς v->(qa f l)[j]? =ς v:=λj v h=>by rw[O6 l k,qzf (List.getElem?_eq_some_iff.mp h).1];exact h
def ze4{f:α->List Value} {e:Nat} (u:∀x,(f x).length=e) (l:List α) (k:Nat) (A:k<=l.length):∀(j:Nat) v,(qa f (l.drop k))[j]? =ς v->(qa f l)[k*e+j]? =ς v:=λj v h=>by
 rw[O6 l k];have:(qa f (l.take k)).length=k*e:=by rw[qv u,qqk,qzt A]
 rw[←this,qze (Nat.le_add_right _ _),Nat.add_sub_cancel_left];exact h
def J8{α:Type} {f:α->List Value} (h:∀x,∀v∈f x,v.oneCell'=π):∀l,qkb (qa f l)
  | []=>λv u=>by cases u
  | x::l=>λv u=>by
    rcases List.mem_append.1 u with u|u
    · exact h x v u
    · exact J8 h l v u
def zw0:∀(x:Ck),∀v∈qn x,v.oneCell'=true:=λx v h=>by simp[qn]at h;subst h;rfl
def P3:∀(x:GV),∀v∈x.cells,v.oneCell'=true:=λx v h=>by simp[Γ]at h;rcases h with rfl|rfl|rfl|rfl|rfl<;>rfl
def zvq(k:Ck):∀l,zU k l<=l.length
  | []=>ω _
  | a::l=>by
    rw[zU];split
    · have:=zvq k l;rw[qqc];omega
    · exact ω _
def PI:∀(xs A B C:List Value),B.length=xs.length->spl (A++(B++C)) A.length xs=A++(xs++C)
  | [],A,B,C,h=>by have:B=[]:=List.length_eq_zero_iff.mp h;subst this;rfl
  |x::xs,A,[],C,h=>by simp at h
  | x ::xs,A,b::B,C,h=>by
    rw[spl];have e:(A++(b::B++C)).set A.length x=(A++[x])++(B++C):=by
      clear h;induction A with
      |nil=>rfl
      |cons a A u=>rw[qqu,qqc,qzo,u];rfl
    rw[e,show A.length+1=(A++[x]).length by simp,PI xs (A++[x]) B C (by simpa using h)];simp
def HI{f:α->List Value} {e:Nat} (h:∀x,(f x).length=e) (l:List α) (k:Nat) (u:k<l.length) (x:α):qa f (l.set k x)=spl (qa f l) (0+k*e) (f x):=by
 rw[qq6,if_pos u,zu];show _++(f x++_)=_;have A:qa f l=qa f (l.take k)++(f l[k]++qa f (l.drop (k+1))):=by
  conv=>lhs;rw[O6 l k,Φ u]
  rfl
 have B:(qa f (l.take k)).length=k*e:=by rw[qv h,qqk,qzt (Nat.le_of_lt u)]
 rw[A,Χ,←B];exact(PI _ _ _ _ ((h _).trans (h _).symm)).symm
def z78:q1p P 24 Q5:=by
 refine zh (qcl qjq) (qdd qjp) (W:=fI) Tryz.func24 λ⟨v,k,w⟩=>(put_eq v k w).mpr ?_;rintro⟨hkl,hl⟩ ⟨p,_,hp,hw⟩;have hv:=hp;have A:=λq (h:v.ok q)=>(by rw[GV.ok_eq]at h;exact h:qc Γ v.x v.l q/\qc qn v.y v.ks q/\qqi v.l q);have xl:v.x.2.1=v.l.length:=(A p hp).1.1;have yl:v.y.2.1=v.ks.length:=(A p hp).2.1.1;have xc:v.l.length<=v.x.2.2:=by have:=(A p hp).1.2.1;omega
 have yc:v.ks.length<=v.y.2.2:=by have:=(A p hp).2.1.2.1;omega
 simp only[qB,exists_const,forall_const,δ,xl,yl];have kd:∀s,s<v.ks.length->zU k (v.ks.drop s)=if qdf (v.ks[s]!) k=π then zU k (v.ks.drop (s+1))+1 else 0:=λs hs=>by rw[Φ hs,zU,getElem!_pos v.ks s hs]
 have Z:∀s (hs:s<v.ks.length),v.ks[s]! =v.ks[s]:=λs hs=>getElem!_pos v.ks s hs;have C:=λs (hs:s<v.ks.length) q (h:v.ok q)=>(show v.y.1≠noA/\q37 q (adr v.y.1 (s*1)) [.string v.ks[s]]from jX j8 (by decide) (A q h).2.1 hs);refine⟨⟨⟨0,rfl,ω _,Χ _⟩,λs ⟨hs,hk⟩=>⟨λu=> ?_,λT=>⟨s,rfl,?_,hs⟩⟩⟩,λs ⟨hs,Y⟩=>⟨⟨λu=> ?_,λT=> ?_⟩,λX=> ?_⟩⟩
 ·have u:s<v.ks.length:=by omega
  have hd:=kd s u;rw[Z s u]at hd;refine⟨⟨by omega,by omega⟩,(C s u p hp).1,v.ks[s],λq hq=>(C s u q hq.1).2,λG=>⟨⟨by omega,by omega⟩,s+1,by omega,⟨by omega,by rw[if_pos G]at hd;omega⟩,by omega⟩,λG=>⟨s,rfl,by rw[if_neg (by rw[G];decide)]at hd;omega,hs⟩⟩
 ·rw[List.drop_of_length_le (by omega),zU]at hk;omega
 ·have u:s<v.ks.length:=by omega
  have V:s<v.l.length:=by omega
  refine⟨⟨by omega,by omega⟩,(C s u p hp).1,v.ks[s],λq hq=>(C s u q hq.1).2,λhe=> ?_,λhe=> ?_⟩
  ·have hh:vS k v.ks=true:=(by unfold vS;rw[←hs,τ u,he];exact decide_eq_true rfl);refine⟨qa Γ v.l,qv zn _,λq hq=>(A q hq.1).1.2.2,J8 P3 _,by omega,⟨by omega,by omega⟩,by rw[Ζ,qv zn];show 0+s*5+5<=_;omega,λa c _=>⟨.mk v.n v.s (a,0+v.l.length,c) (v.l.set s w) v.y v.ks v.b,rfl,rfl,rfl,rfl,rfl,rfl,yl,rfl,rfl,?_,λq hq=> ?_⟩⟩
   ·rw[qq5];show PV.mk v.n v.s (qqh (v.l.set s w)) v.ks v.b=_;unfold zC qO;rw[hh,if_pos rfl,if_pos rfl,←hs,qq8,qq8,List.map_set]
   ·have B:=hq.2.2;rw[Ζ]at B;change qgm q a (qzj ((0+v.l.length)*5) (spl (qa Γ v.l) (0+s*5) w.cells))at B;rw[←HI zn v.l s V w,Δ (by rw[qv zn,qqn];omega)]at B;unfold φ;refine⟨⟨by show 0+v.l.length=_;rw[qqn];omega,hq.2.1,B⟩,(A q hq.1.1).2.1,GV.oks_iff.2 λx hx=> ?_⟩;rcases qzg hx with hx|rfl
    ·exact GV.oks_iff.1 (A q hq.1.1).2.2 x hx
    ·exact hq.1.2
  ·unfold vS;rw[←hs,τ u];exact decide_eq_false λh=>he (Option.some.inj h)
 ·unfold vS;rw[←hs,List.getElem?_eq_none (by omega)];rfl
 ·have H:s<=v.l.length:=by omega
  have tl:(v.ks.take s).length=s:=by rw[qqk];omega
  have tl2:(v.l.take s).length=s:=by rw[qqk];omega
  have J:(qa qn (v.ks.take s)).length=s*1:=by rw[qv j8,tl]
  have r2:(qa qn (v.ks.drop s)).length=(v.ks.length- s)*1:=by rw[qv j8,qqv]
  have O:(qa Γ (v.l.take s)).length=s*5:=by rw[qv zn,tl2]
  have r4:(qa Γ (v.l.drop s)).length=(v.l.length- s)*5:=by rw[qv zn,qqv]
  refine⟨yc,⟨by omega,by omega⟩,qa qn (v.ks.take s),by rw[J];omega,λq hq=>HH (A q hq.1).2.1.2.2 (ω _) (by rw[qv j8];omega) (λj x U=>by rw[qz3,Χ];exact ze3 _ _ j x U),J8 zw0 _,by omega,by rw[Ζ,J];omega,by omega,yc,⟨by omega,by omega⟩,by rw[Τ,Ζ,J];show s*1+1=_;omega,qa qn (v.ks.drop s),r2,λq hq=>HH (A q hq.1).2.1.2.2 (by omega) (by rw[qv j8];omega) (ze4 j8 _ _ Y),J8 zw0 _,by omega,xc,⟨by omega,by omega⟩,qa Γ (v.l.take s),by rw[O];omega,λq hq=>HH (A q hq.1).1.2.2 (ω _) (by rw[qv zn];omega) (λj x U=>by rw[qz3,Χ];exact ze3 _ _ j x U),J8 P3 _,by omega,by rw[Ζ,O];omega,by omega,xc,⟨by omega,by omega⟩,by rw[Τ,Ζ,O];show s*5+5=_;omega,qa Γ (v.l.drop s),r4,λq hq=>HH (A q hq.1).1.2.2 (by omega) (by rw[qv zn];omega) (ze4 zn _ _ H),J8 P3 _,by omega,λa c _ a2 c2 _=> ?_⟩;have hx:(v.l.take s++w::v.l.drop s).length=0+(s- 0)+1+(v.l.length- s):=by simp;omega
  have hy:(v.ks.take s++k::v.ks.drop s).length=0+(s- 0)+1+(v.ks.length- s):=by simp;omega
  refine⟨.mk v.n v.s (a,0+(s- 0)+1+(v.l.length- s),c) (v.l.take s++w::v.l.drop s) (a2,0+(s- 0)+1+(v.ks.length- s),c2) (v.ks.take s++k::v.ks.drop s) v.b,rfl,rfl,rfl,rfl,rfl,rfl,rfl,rfl,rfl,?_,λq hq=> ?_⟩
  ·rw[qq5];unfold zC qO;rw[X,if_neg (by decide),if_neg (by decide),←hs,qq8,qq8,List.map_append,List.map_cons,List.map_take,List.map_drop]
  ·unfold φ;refine⟨⟨hx.symm,hq.1.2.1,?_⟩,⟨hy.symm,hq.2.1,?_⟩,GV.oks_iff.2 λx hx=> ?_⟩
   ·have B:=hq.1.2.2;rw[Δ (by simp only[Τ,Ζ,O,r4];show s*5+5+_<=_;omega)]at B;rw[zu];simp only[Ζ,qqa]at B;exact B
   ·have B:=hq.2.2;rw[Δ (by simp only[Τ,Ζ,J,r2];show s*1+1+_<=_;omega)]at B;rw[zu];simp only[Ζ,qqa]at B;exact B
   ·have ho:=GV.oks_iff.1 (A q hq.1.1.1).2.2;rcases List.mem_append.1 hx with hx|hx
    ·exact ho x (qqx hx)
    ·rcases List.mem_cons.1 hx with rfl|hx
     ·exact hq.1.1.2
     ·exact ho x (qqy hx)
end
abbrev Qd:=List AT×SV×Int×Int×GJ×Int
abbrev qY:=Int×Int×GV
def QE(x:SV) (all:Int):List (Nat×AO):=[(1, .cells 130 (ς 0) ι [zI x, .sv (.int .i64 all)])]
def jk(all:Int):qY->Prop:=λ⟨h,e,v⟩=>all<=h/\h<=2001/\(e=0->h<=2000)
def sgM(S:List AT) (x:SV) (g:GJ):PF:=⟨π,λp=>qd S x p/\g.ok p,λ_ _ h e=>⟨yG h e.1,GJ.ok_mono h e.2⟩⟩
def k0a(S:List AT) (x:SV) (a:AT) (g:GJ):PF:=⟨π,λp=>qd S x p/\a.ok p/\g.ok p,λ_ _ h e=>⟨yG h e.1,qzq h e.2.1,GJ.ok_mono h e.2.2⟩⟩
def yB:CtR where
 σ:=Qd
 args:=λ⟨S,x,all,t,g,d⟩=>[.ptr 1 0, .sv (.int .i64 t),g.av, .sv (.int .i64 d)]
 h:=λ⟨S,x,all,t,g,d⟩=>QE x all
 m:=2
 pre:=λ⟨S,x,all,t,g,d⟩=>qx S/\(0<=t/\t<S.length)/\g.wf/\(0<=all/\all<=2000)/\1<=d/\d<=21
 mem:=λ⟨S,x,all,t,g,d⟩=>sgM S x g
 β:=λ_=>qY
 post:=λ⟨S,x,all,t,g,d⟩ b=>jk all b
 pm:=λ_ ⟨u,e,v⟩=>vM v
 r:=λ_ ⟨u,e,v⟩=> .tup [v.av, .sv (.int .i64 e)]
 h':=λ⟨S,x,all,t,g,d⟩ ⟨u,e,v⟩=>QE x u
 m':=2
def vD:Qd->Nat:=λ⟨S,x,all,t,g,d⟩=>2*(25- d).toNat
abbrev Ze:=List AT×SV×Int×AT×GJ×Int
def Qi(k:AT->GJ->Prop):CtR where
 σ:=Ze
 args:=λ⟨S,x,all,a,g,d⟩=>[.ptr 1 0,a.av,g.av, .sv (.int .i64 d)]
 h:=λ⟨S,x,all,a,g,d⟩=>QE x all
 m:=2
 pre:=λ⟨S,x,all,a,g,d⟩=>qx S/\a∈S/\k a g/\g.wf/\(0<=all/\all<=2000)/\1<=d/\d<=20
 mem:=λ⟨S,x,all,a,g,d⟩=>k0a S x a g
 β:=λ_=>qY
 post:=λ⟨S,x,all,a,g,d⟩ b=>jk all b
 pm:=λ_ ⟨u,e,v⟩=>vM v
 r:=λ_ ⟨u,e,v⟩=> .tup [v.av, .sv (.int .i64 e)]
 h':=λ⟨S,x,all,a,g,d⟩ ⟨u,e,v⟩=>QE x u
 m':=2
def yO:Ze->Nat:=λ⟨S,x,all,a,g,d⟩=>2*(25- d).toNat
def Ch(a:AT) (g:GJ):Prop:=a.k=12
def isMap(a:AT) (g:GJ):Prop:=a.k=13/\g.k=6
def LK(a:AT) (g:GJ):Prop:=a.k=12\/a.k=13/\g.k=6
def isRec(a:AT) (g:GJ):Prop:=a.k=9
def k07(t:T AV) (h:T AO):Option Int:=match t.get 10 with
  | some (.ptr b _)=>match h.get b with
    | some (.cells _ _ _ (v::_))=>match gi v with
      |some (_,k)=>ς k
      |none=>Α
    |_=>Α
  |_=>Α
def bq(a b h k:Int):Bool:=decide (k=a)&&decide (h=b)
def bI(u h k:Int):Bool:=decide (k=3)&&(decide (u=3)&&(decide (-2147483648<=h)&&decide (h<2147483648)))
def bN(h u k:Int):Bool:=bI h u k||bq 4 3 h k
def bT(h k:Int):Bool:=(decide (k=7)||decide (k=11))&&decide (h=4)
def bP(h k:Int):Bool:=bq 12 5 h k||bq 13 6 h k
def wC(f:Int->Bool) (i:Nat) (keep:List Nat) (t:T AV) (h:T AO):Option LT:=match k07 t h with
 |some k=>ς {σ:=Unit,t:=λ_=>[(i, .sv (.bool (f k)))],h:=λ_=>[],more:=0,μ:=λ_=>0,keep:=keep}
 |none=>Α
def wVl:Qd->WayF:=λ⟨S,x,all,t,g,d⟩=>{
 ann:=λ_ _ _=>ς {σ:=Nat,t:=λj=>[(14, .sv (.int .i64 (j:Int)))],h:=λ_=>[],more:=0,μ:=λj=>1000- j,keep:=[0,3,6,8,10,11]}
 pubE:=[250]
 spl:=λi=>match i with
  |35=>ς 8
  |_=>Α
 flo:=λi=>match i with
  |35=>ς (12,[8])
  |_=>Α
 cut:=λi t h=>match i with
  |7=>wC (bq 1 1 g.k) 45 [0,3,6,8,10,11] t h
  |9=>wC (bq 2 2 g.k) 55 [0,3,6,8,10,11] t h
  |11=>wC (bI g.k g.n) 68 [0,3,6,8,10,11] t h
  |12=>wC (bN g.k g.n) 68 [0,3,6,8,10,11] t h
  |14=>wC (bq 5 3 g.k) 95 [0,3,6,8,10,11] t h
  |16=>wC (bq 6 3 g.k) 107 [0,3,6,8,10,11] t h
  |18=>wC (bq 8 4 g.k) 118 [0,3,6,8,10,11] t h
  |20=>wC (bT g.k) 130 [0,3,6,8,10,11] t h
  |22=>ς {σ:=Bool,t:=λb=>[(162, .sv (.bool b))],h:=λ_=>[],more:=0,μ:=λ_=>0,keep:=[8,12]}
  |24=>wC (bq 10 4 g.k) 165 [0,3,6,8,10,11] t h
  |30=>wC (bq 12 5 g.k) 192 [0,3,6,8,10,11] t h
  |31=>wC (bP g.k) 192 [0,3,6,8,10,11] t h
  |33=>wC (bq 9 6 g.k) 216 [0,3,6,8,10,11] t h
  |37=>ς {σ:=Unit,t:=λ_=>[],h:=λ_=>[],more:=0,μ:=λ_=>0,keep:=[8]}
  |36=>ς {σ:=qY,t:=λ⟨u,e,v⟩=>[(16, .sv (.int .i64 e)),(15, .ptr 50 0)],h:=λ⟨u,e,v⟩=>[(50, .cells 36 (ς 0) ι [.sv (.int .u64 v.n), .sv (.string v.s),zI v.x,zI v.y, .sv (.int .i64 v.b)])]++QE x u,pre:=jk all,mem:=λ⟨u,e,v⟩=>vM v,more:=60,μ:=λ_=>0,keep:=[8]}
  |_=>Α}
def Vc(v:GV):AO:= .cells 36 (ς 0) ι [.sv (.int .u64 v.n), .sv (.string v.s),zI v.x,zI v.y, .sv (.int .i64 v.b)]
def OZ(r n k:Nat):AO:= .cells 36 (ς 0) ι [.int .u64 0, .str [], .ssl r 0 n 5 k, .nsl, .int .i64 0]
def yh(fs:List GV):PF:=⟨π,qqi fs,λ_ _ h e=>GV.oks_mono h e⟩
def fD(x:SV) (all:Int) (A es:Nat) (keep:List Nat):LT:={σ:=qY,t:=λ⟨u,e,v⟩=>[(es, .sv (.int .i64 e)),(A, .ptr 50 0)],h:=λ⟨u,e,v⟩=>[(50,Vc v)]++QE x u,pre:=jk all,mem:=λ⟨u,e,v⟩=>vM v,more:=60,μ:=λ_=>0,keep:=keep}
def LV(h:T AO):Int:=match h.get 1 with
 |some (.cells _ _ _ [_, .sv (.int _ a)])=>a
 |_=>0
def wPa:Ze->WayF:=λ⟨S,x,all,a,g,d⟩=>{
 ann:=λ_ _ _=>ς {σ:=Nat×Int×List GV,pre:=λ⟨j,u,fs⟩=>j<=g.l.length/\(all<=u/\u<=2000)/\fs.length=j,mem:=λ⟨j,u,fs⟩=>yh fs,t:=λ⟨j,u,fs⟩=>[(11, .sv (.int .i64 (j:Int)))],h:=λ⟨j,u,fs⟩=>QE x u++[(5,OZ 6 fs.length 7),(6, .row 36 0 (qa Γ fs))],more:=2,μ:=λ⟨j,u,fs⟩=>g.l.length- j,keep:=[0,3,5,6,8,10]}
 pubE:=[57]
 spl:=λi=>match i with
  |5=>ς 10
  |10=>ς 7
  |_=>Α
 flo:=λi=>match i with
  |5=>ς (14,[10])
  |_=>Α
 cut:=λi _ h=>match i with
  |6=>ς (fD x (LV h) 12 13 [0,3,5,6,8,10,11])
  |_=>Α}
def wPm:Ze->WayF:=λ⟨S,x,all,a,g,d⟩=>{
 ann:=λ_ _ _=>ς {σ:=Nat×Int×GV,pre:=λ⟨j,u,v⟩=>j<=g.l.length/\(all<=u/\u<=2000)/\v.ks.length=v.l.length/\v.l.length<=j,mem:=λ⟨j,u,v⟩=>vM v,t:=λ⟨j,u,v⟩=>[(11, .sv (.int .i64 (j:Int)))],h:=λ⟨j,u,v⟩=>QE x u++[(5,Vc v)],more:=0,μ:=λ⟨j,u,v⟩=>g.l.length- j,keep:=[0,3,5,6,8,10]}
 spl:=λi=>match i with
  |5=>ς 10
  |10=>ς 7
  |_=>Α
 flo:=λi=>match i with
  |5=>ς (14,[10])
  |_=>Α
 cut:=λi _ h=>match i with
  |6=>ς (fD x (LV h) 12 13 [0,3,5,6,8,10,11])
  |_=>Α}
def jnO(g:GJ):AO:= .cells 62 (ς 0) ι [.sv (.int .i64 g.k), .sv (.int .i64 g.n), .sv (.string g.s),zI g.y,zI g.x]
def wRe:Ze->WayF:=λ⟨S,x,all,a,g,d⟩=>{
 ann:=λ_ _ _=>ς {σ:=Nat×Int×List GV,pre:=λ⟨j,u,fs⟩=>j<=a.fs.length/\(all<=u/\u<=2000)/\fs.length=j,mem:=λ⟨j,u,fs⟩=>yh fs,t:=λ⟨j,u,fs⟩=>[(11, .sv (.int .i64 (j:Int)))],h:=λ⟨j,u,fs⟩=>QE x u++[(5,OZ 6 fs.length 7),(6, .row 36 0 (qa Γ fs))],more:=2,μ:=λ⟨j,u,fs⟩=>a.fs.length- j,keep:=[0,3,5,6,8,10]}
 pubE:=[65]
 cut:=λi _ h=>match i with
  |11=>ς {σ:=GJ,pre:=λc=>c.wf,mem:=gM,t:=λc=>[(13, .ptr 50 0)],h:=λc=>[(50,jnO c)],more:=60,μ:=λ_=>0,keep:=[0,3,5,6,8,10,11,12]}
  |_=>Α}
section
variable (c w:Int) (d:SV) (v:List AT) (a:GJ) (C:Int) (B:Nat) (G:Ck) (E:Option Addr) (F:Nat) (g:Int) (l:Option Addr) (m o:Nat) (e:Bool) (p:Ck) (h:Int) (q:Option Addr) (r t:Nat) (i:Option Addr) (j u I:Nat) (S:Prop) (D:qY) (T U:Int) (K:Ck×Bool) (z:Ze) (O:qY) (V:Nat->Option Obj)
 abbrev kj:=True/\qd v d V/\υ a V
 abbrev BG:=Jb (c+1)
 def YE:=Λ D.2.2=0/\Μ D.2.2=mkS []/\S
 def BF:=(ρ D.2.2).1=noA/\(ρ D.2.2).2.1=0/\(ρ D.2.2).2.2=0/\Ψ D.2.2=0/\S
 def U5:=d.1=d.1/\d.2.1=d.2.1/\d.2.2=d.2.2/\S
 def uS:=(ξ D.2.2).1=noA/\(ξ D.2.2).2.1=0/\(ξ D.2.2).2.2=0/\BF (D.2.1=w/\U5 d (D.1=c+1/\jk c D/\(∀A,kj d v a A->φ D.2.2 A)/\True)) D
 def ki:=decide (χ a=3)=decide (χ a=3)
 def z28:=U5 d (c+1=c+1/\χ a=χ a/\Ε a=Ε a/\Θ a=Θ a/\(ε a).1=(ε a).1/\(ε a).2.1=(ε a).2.1/\(ε a).2.2=(ε a).2.2/\(ζ a).1=(ζ a).1/\(ζ a).2.1=(ζ a).2.1/\(ζ a).2.2=(ζ a).2.2/\w=w/\G=G/\E=E/\B=B/\F=F/\C=C/\l=l/\m=m/\o=o/\e=e/\p=p/\g=g/\q=q/\r=r/\t=t/\i=i/\j=j/\u=u/\(∀A,kj d v a A->kj d v a A)/\True/\S)
 def Kt:=(Ji (c=T) (∃(A:Unit),w=w/\ki a/\bq T U (χ a) c=decide (χ a=U)/\z28 C c d v a g B G E F h l m o e p q r t i j u True) (∃(J:Unit),w=w/\ki a/\bq T U (χ a) c=ι/\z28 C c d v a g B G E F h l m o e p q r t i j u True))
 def BD:=(Ji (c=T) (∃(A:Unit),w=w/\bq T U (χ a) c=decide (χ a=U)/\ki a/\z28 C c d v a g B G E F h l m o e p q r t i j u True) (∃(J:Unit),w=w/\bq T U (χ a) c=ι/\ki a/\z28 C c d v a g B G E F h l m o e p q r t i j u True))
 def BH:=∃(A:qY),Λ A.2.2=ν u64 (Ε a)/\Μ A.2.2=mkS []/\uS c 0 d v a A
 def cx:=Ji ((-2147483648:Int)<=Ε a) (∃(A:Unit),c=c/\ki a/\bI (χ a) (Ε a) w=decide (Ε a<2147483648)/\z28 C w d v a g B G E F h l m o e p q r t i j u True) (∃(J:Unit),c=c/\ki a/\bI (χ a) (Ε a) w=ι/\z28 C w d v a g B G E F h l m o e p q r t i j u True)
 def cp:=Ji (χ a=3) (cx c w d v a C B G E F g l m o e p h q r t i j u) (∃(H:Unit),c=c/\ki a/\bI (χ a) (Ε a) w=ι/\z28 C w d v a g B G E F h l m o e p q r t i j u True)
 def cy:=Ji (c=4) (∃(A:Unit),w=w/\ki a/\bN (χ a) (Ε a) c=decide (χ a=3)/\z28 C c d v a g B G E F h l m o e p q r t i j u True) (∃(J:Unit),w=w/\ki a/\bN (χ a) (Ε a) c=ι/\z28 C c d v a g B G E F h l m o e p q r t i j u True)
 def cu:=(bI (χ a) (Ε a) c=π->∃(A:Unit),w=w/\ki a/\bN (χ a) (Ε a) c=bI (χ a) (Ε a) c/\z28 C c d v a g B G E F h l m o e p q r t i j u True)/\(bI (χ a) (Ε a) c=ι->cy c w d v a C B G E F g l m o e p h q r t i j u)
 def cA:=Ji (c=11) (∃(A:Unit),w=w/\ki a/\bT (χ a) c=decide (χ a=4)/\z28 C c d v a g B G E F h l m o e p q r t i j u True) (∃(J:Unit),w=w/\ki a/\bT (χ a) c=ι/\z28 C c d v a g B G E F h l m o e p q r t i j u True)
 def Ku:=U5 d (c+1=c+1/\(∀A,kj d v a A->kj d v a A)/\True/\True)
 def cz:=Ji (c=7) (∃(A:Bool),K.1=K.1/\A=π/\Ku w d v a) (∃(J:Bool),K.1=K.1/\J=decide ((↑(size K.1):Int)=C)/\Ku w d v a)
 def cC:=(e=π->∃(A:qY),Λ A.2.2=0/\Μ A.2.2=K.1/\uS c 0 d v a A)/\(e=ι->∃(J:Unit),Ku c d v a)
 def cf:=((K.2=π->cz c w d v a C K)/\(K.2=ι->∃(L:Bool),K.1=K.1/\L=ι/\Ku w d v a))/\∀(R:Bool),True->cC w d v a R K
 def cq:=(0<=(↑B:Int)/\(↑B:Int)<(↑F:Int))/\E≠noA/\∃A,(∀J,kj d v a J->q37 J (adr E (toNat (↑B:Int)*1)) [string A])/\Ji (A=Θ a) (∃(H:qY),Λ H.2.2=ν u64 (↑B:Int)/\Μ H.2.2=mkS []/\uS c 0 d v a H) (Jb ((↑B:Int)+1)/\∃(Q:Nat),w=w/\ki a/\(↑Q:Int)=(↑B:Int)+1/\z28 c C d v a g m G l o h E F r e p q t j i u I ((1000:Nat)- Q<1000- B/\True))
 def ch:=Ji ((↑B:Int)<(↑F:Int)) (cq c w d v a C B G E F g l m o e p h q r t i j u I) (∃(L:Unit),Ku c d v a)
 def cg:=(∃(A:Nat),c=c/\ki a/\(↑A:Int)=0/\z28 w C d v a g B G E F h l m o e p q r t i j u True)/\∀(J:Nat),True->ch w c d v a C J G l m g E B F e p h q o r i t j u
 def cB:=Ji (c=13) (∃(A:Unit),w=w/\ki a/\bP (χ a) c=decide (χ a=6)/\z28 C c d v a g B G E F h l m o e p q r t i j u True) (∃(J:Unit),w=w/\ki a/\bP (χ a) c=ι/\z28 C c d v a g B G E F h l m o e p q r t i j u True)
 def cr:=(bq 12 5 (χ a) c=π->∃(A:Unit),w=w/\ki a/\bP (χ a) c=bq 12 5 (χ a) c/\z28 C c d v a g B G E F h l m o e p q r t i j u True)/\(bq 12 5 (χ a) c=ι->cB c w d v a C B G E F g l m o e p h q r t i j u)
 def Bz:=AT.k z.2.2.2.1=c/\AT.nm z.2.2.2.1=G/\(AT.al z.2.2.2.1).1=E/\(AT.al z.2.2.2.1).2.1=B/\(AT.al z.2.2.2.1).2.2=F/\AT.it z.2.2.2.1=w/\(AT.sy z.2.2.2.1).1=l/\(AT.sy z.2.2.2.1).2.1=m/\(AT.sy z.2.2.2.1).2.2=o/\AT.hd z.2.2.2.1=e/\AT.df z.2.2.2.1=p/\AT.sz z.2.2.2.1=C/\(AT.f z.2.2.2.1).1=q/\(AT.f z.2.2.2.1).2.1=r/\(AT.f z.2.2.2.1).2.2=t/\(AT.br z.2.2.2.1).1=i/\(AT.br z.2.2.2.1).2.1=j/\(AT.br z.2.2.2.1).2.2=u/\χ z.2.2.2.2.1=χ a/\Ε z.2.2.2.2.1=Ε a/\Θ z.2.2.2.2.1=Θ a/\(ε z.2.2.2.2.1).1=(ε a).1/\(ε z.2.2.2.2.1).2.1=(ε a).2.1/\(ε z.2.2.2.2.1).2.2=(ε a).2.2/\(ζ z.2.2.2.2.1).1=(ζ a).1/\(ζ z.2.2.2.2.1).2.1=(ζ a).2.1/\(ζ z.2.2.2.2.1).2.2=(ζ a).2.2/\z.2.2.2.2.2=g/\z.2.1.1=d.1/\z.2.1.2.1=d.2.1/\z.2.1.2.2=d.2.2/\z.2.2.1=h+1/\S
 def BE:=Ω z.2.2.2.2.1/\(0<=z.2.2.1/\z.2.2.1<=2000)/\1<=z.2.2.2.2.2/\z.2.2.2.2.2<=20
 def BB:=Λ D.2.2=Λ O.2.2/\Μ D.2.2=Μ O.2.2/\(ξ D.2.2).1=(ξ O.2.2).1/\(ξ D.2.2).2.1=(ξ O.2.2).2.1/\(ξ D.2.2).2.2=(ξ O.2.2).2.2/\(ρ D.2.2).1=(ρ O.2.2).1/\(ρ D.2.2).2.1=(ρ O.2.2).2.1/\(ρ D.2.2).2.2=(ρ O.2.2).2.2/\Ψ D.2.2=Ψ O.2.2/\S
 def BA:=(∀A,kj d v a A->qd z.1 z.2.1 A/\qzd z.2.2.2.1 A/\υ z.2.2.2.2.1 A)/\∀(J:qY),jk z.2.2.1 J->(∃H,(kj d v a H)/\φ J.2.2 H)->∃(Q:qY),BB (Q.2.1=J.2.1/\d.1=z.2.1.1/\d.2.1=z.2.1.2.1/\d.2.2=z.2.1.2.2/\Q.1=J.1/\jk c Q/\(∀L,(kj d v a L)/\φ J.2.2 L->φ Q.2.2 L)/\True) Q J
 def By:=((0:Int)<=0/\0<(↑B:Int))/\E≠noA/\∃(A:Int),(∀J,kj d v a J->q37 J (adr E ((0:Nat)*1)) [int i64 A])/\BG c/\∃(H:Qd),H.2.2.2.1=A/\χ H.2.2.2.2.1=χ a/\Ε H.2.2.2.2.1=Ε a/\Θ H.2.2.2.2.1=Θ a/\(ε H.2.2.2.2.1).1=(ε a).1/\(ε H.2.2.2.2.1).2.1=(ε a).2.1/\(ε H.2.2.2.2.1).2.2=(ε a).2.2/\(ζ H.2.2.2.2.1).1=(ζ a).1/\(ζ H.2.2.2.2.1).2.1=(ζ a).2.1/\(ζ H.2.2.2.2.1).2.2=(ζ a).2.2/\H.2.2.2.2.2=c+1/\H.2.1.1=d.1/\H.2.1.2.1=d.2.1/\H.2.1.2.2=d.2.2/\H.2.2.1=w+1/\(vD H<F/\qx H.1/\(0<=H.2.2.2.1/\H.2.2.2.1<(↑(length H.1):Int))/\Ω H.2.2.2.2.1/\(0<=H.2.2.1/\H.2.2.1<=2000)/\1<=H.2.2.2.2.2/\H.2.2.2.2.2<=21)/\(∀Q,kj d v a Q->qd H.1 H.2.1 Q/\υ H.2.2.2.2.1 Q)/\∀(L:qY),jk H.2.2.1 L->(∃i5,(kj d v a i5)/\φ L.2.2 i5)->∃(R:qY),R.2.1=L.2.1/\d.1=H.2.1.1/\d.2.1=H.2.1.2.1/\d.2.2=H.2.1.2.2/\R.1=L.1/\BB ((∀i7,(kj d v a i7)/\φ L.2.2 i7->kj d v a i7)/\(∀i8,(kj d v a i8)/\φ L.2.2 i8->φ R.2.2 i8)/\jk w R/\True) R L
 def BC:=((kj d v a V)/\φ D.2.2 V)/\q37 V (Ξ B F Α) [int u64 (Λ D.2.2),string (Μ D.2.2),slice (ξ D.2.2).1 (ξ D.2.2).2.1 (ξ D.2.2).2.2,slice (ρ D.2.2).1 (ρ D.2.2).2.1 (ρ D.2.2).2.2,int i64 (Ψ D.2.2)]
 def cd:=((By c w d v a B E F)/\By c w d v a B E F)/\∀(M:qY),jk w M->(∃i19,(kj d v a i19)/\φ M.2.2 i19)->∀(i20 i21 i22:Nat),(∃i23,BC d v a i20 i21 M i23)->∃(N:qY),YE ((ξ N.2.2).1=ς (Ξ i20 (i21+nat_lit 0) Α)/\(ξ N.2.2).2.1=nat_lit 1/\(ξ N.2.2).2.2=nat_lit 1/\BF (N.2.1=M.2.1/\U5 d (N.1=M.1/\jk w N/\(∀i25,BC d v a i20 i21 M i25->φ N.2.2 i25)/\True)) N) N
 def cb:=Ji (c=14) (cd w C d v a B E F) (∃(i26:Unit),Ku C d v a)
 def b_:=(bq 9 6 (χ a) c=π->∃(A:Ze),Bz c w d a C B G E F g l m o e p h q r t i j u ((yO A<I+1/\qx A.1/\A.2.2.2.1∈A.1/\isRec A.2.2.2.1 A.2.2.2.2.1/\BE A)/\BA h d v a A) A)/\(bq 9 6 (χ a) c=ι->cb c g d v a h j i I)
 def b9:=Kt c w d v a C B G E F g l m o e p h q r t i j u 9 6/\∀(H:Unit),True->b_ c g d v a h B G E F w l m o e p C q r t i j u I
 def b8:=(bP (χ a) c=π->∃(A:Ze),Bz c w d a C B G E F g l m o e p h q r t i j u ((yO A<I+1/\qx A.1/\A.2.2.2.1∈A.1/\LK A.2.2.2.1 A.2.2.2.2.1/\BE A)/\BA h d v a A) A)/\(bP (χ a) c=ι->b9 c g d v a h B G E F w l m o e p C q r t i j u I)
 def bZ:=(Kt c w d v a C B G E F g l m o e p h q r t i j u 12 5/\∀(H:Unit),True->cr c w d v a C B G E F g l m o e p h q r t i j u)/\∀(R:Unit),True->b8 c g d v a h B G E F w l m o e p C q r t i j u I
 def bY:=(bq 10 4 (χ a) c=π->cg w C d v a c B G E F g l m o e p h q r t i j u)/\(bq 10 4 (χ a) c=ι->bZ c w d v a C B G E F g l m o e p h q r t i j u I)
 def bX:=Kt c w d v a C B G E F g l m o e p h q r t i j u 10 4/\∀(L:Unit),True->bY c w d v a C B G E F g l m o e p h q r t i j u I
 def bW:=(bT (χ a) c=π->∃A,A=Θ a/\size A<1000000/\∀(J:Ck×Bool),size J.1<=size A->cf c w d v a C J)/\(bT (χ a) c=ι->bX c g d v a w B G E F h l m o e p C q r t i j u I)
 def bV:=(Ji (c=7) (∃(A:Unit),w=w/\ki a/\bT (χ a) c=decide (χ a=4)/\z28 C c d v a g B G E F h l m o e p q r t i j u True) (cA c w d v a C B G E F g l m o e p h q r t i j u))/\∀(R:Unit),True->bW c C d v a h B G E F w l m o e p g q r t i j u I
 def bU:=(bq 8 4 (χ a) c=π->∃(A:qY),Λ A.2.2=0/\Μ A.2.2=Θ a/\uS w 0 d v a A)/\(bq 8 4 (χ a) c=ι->bV c C d v a w B G E F g l m o e p h q r t i j u I)
 def bS:=Kt c w d v a C B G E F g l m o e p h q r t i j u 8 4/\∀(L:Unit),True->bU c C d v a w B G E F g l m o e p h q r t i j u I
 def bR:=(bq 6 3 (χ a) c=π->∃(A:Int),A=Ε a/\Vi A/\∀(J:Int),kZ J->∃(H:qY),Λ H.2.2=J/\Μ H.2.2=mkS []/\uS w 0 d v a H)/\(bq 6 3 (χ a) c=ι->bS c C d v a w B G E F g l m o e p h q r t i j u I)
 def bQ:=Kt c w d v a C B G E F g l m o e p h q r t i j u 6 3/\∀(L:Unit),True->bR c C d v a w B G E F g l m o e p h q r t i j u I
 def nY:=(bq 5 3 (χ a) c=π->∃(A:Int),A=Ε a/\Vi A/\∀(J:Int),0<=J/\J<4294967296->(0<=J/\J<=18446744073709551615)/\∃(H:qY),Λ H.2.2=J/\Μ H.2.2=mkS []/\uS w 0 d v a H)/\(bq 5 3 (χ a) c=ι->bQ c C d v a w B G E F g l m o e p h q r t i j u I)
 def nX:=BD c w d v a C B G E F g l m o e p h q r t i j u 5 3/\∀(L:Unit),True->nY c C d v a w B G E F g l m o e p h q r t i j u I
 def nW:=(bN (χ a) (Ε a) c=π->BH w d v a)/\(bN (χ a) (Ε a) c=ι->nX c C d v a w B G E F g l m o e p h q r t i j u I)
 def nV:=((Ji (c=3) (cp w c d v a C B G E F g l m o e p h q r t i j u) (∃(R:Unit),w=w/\ki a/\bI (χ a) (Ε a) c=ι/\z28 C c d v a g B G E F h l m o e p q r t i j u True))/\∀(i8:Unit),True->cu c w d v a C B G E F g l m o e p h q r t i j u)/\∀(W:Unit),True->nW c C d v a w B G E F g l m o e p h q r t i j u I
 def nU:=(bq 2 2 (χ a) c=π->BH w d v a)/\(bq 2 2 (χ a) c=ι->nV c C d v a w B G E F g l m o e p h q r t i j u I)
 def nT:=BD c w d v a C B G E F g l m o e p h q r t i j u 2 2/\∀(L:Unit),True->nU c C d v a w B G E F g l m o e p h q r t i j u I
 def nS:=(bq 1 1 (χ a) c=π->∃(A:qY),YE (uS w 0 d v a A) A)/\(bq 1 1 (χ a) c=ι->nT c C d v a w B G E F g l m o e p h q r t i j u I)
 def nR:=(0<=c/\c<(↑d.2.1:Int))/\d.1≠noA/\∃(A:Int),∃J,∃H,∃(Q:Nat),∃(L:Nat),∃(i5:Int),∃R,∃(i7:Nat),∃(i8:Nat),∃(i9:Bool),∃Y,∃(Z:Int),∃i12,∃(i13:Nat),∃(i14:Nat),∃W,∃(i16:Nat),∃(i17:Nat),(∀M,kj d v a M->q37 M (adr d.1 (toNat c*10)) [int i64 A,string J,slice H Q L,int i64 i5,slice R i7 i8,bool i9,string Y,int i64 Z,slice i12 i13 i14,slice W i16 i17])/\(Kt A w d v a C Q J H L i5 R i7 i8 i9 Y Z i12 i13 i14 W i16 i17 1 1/\∀(i23:Unit),True->nS A C d v a w Q J H L i5 R i7 i8 i9 Y Z i12 i13 i14 W i16 i17 B)/\∀(i169:Unit),True->∃(X:qY),YE (uS C 7 d v a X) X
 def nQ:=Ji (2000<c+1) (∃(A:qY),YE (uS c 3 d v a A) A) (nR w C d v a c B)
 def nP:=BG c/\Ji (20<w) (∃(A:qY),YE (uS c 3 d v a A) A) (nQ c C d v a w B)
end
def jan(n:Nat) (S:List AT) (x:SV) (all t:Int) (g:GJ) (d:Int):qk3 P (qf5 []) (qg7 [(74,yB.below vD n),(111,(Qi LK).below yO (n+1)),(112,(Qi isRec).below yO (n+1)),(108,PT),(109,Pp),(110,X0)]) Tryz.f74 (yB.below vD (n+1)) (wVl) ⟨S,x,all,t,g,d⟩=(vD (S,x,all,t,g,d)<n+1/\qx S/\(0<=t/\t<(↑(length S):Int))/\Ω g/\(0<=all/\all<=2000)/\1<=d/\d<=21->(∃(p:Pub),kj x S g p)->nP all d x S g t n):=by kernel_rfl
def jjw:=λn S x all t g d=>Ο (jan n S x all t g d) (by delta Ji Jb Jt Jf kj BG YE BF U5 uS ki z28 Kt BD BH cx cp cy cu cA Ku cz cC cf cq ch cg cB cr Bz BE BB BA By BC cd cb b_ b9 b8 bZ bY bX bW bV bU bS bR bQ nY nX nW nV nU nT nS nR nQ nP;exact rfl)
section
variable (t:Int) (h:SV) (w:Int) (c:GJ) (a:AT) (m:List AT) (J:Nat) (g:Nat×Int×List GV) (p:qY) (L:Prop) (v:Nat->Option Obj)
 abbrev Kv:=True/\qd m h v/\qzd a v/\υ c v
 def U6:=h.1=h.1/\h.2.1=h.2.1/\h.2.2=h.2.2/\L
 def FC:=χ c=χ c/\Ε c=Ε c/\Θ c=Θ c/\(ε c).1=(ε c).1/\(ε c).2.1=(ε c).2.1/\(ε c).2.2=(ε c).2.2/\(ζ c).1=(ζ c).1/\(ζ c).2.1=(ζ c).2.1/\(ζ c).2.2=(ζ c).2.2/\L
 def FB:=AT.k a=AT.k a/\AT.nm a=AT.nm a/\(AT.al a).1=(AT.al a).1/\(AT.al a).2.1=(AT.al a).2.1/\(AT.al a).2.2=(AT.al a).2.2/\AT.it a=AT.it a/\(AT.sy a).1=(AT.sy a).1/\(AT.sy a).2.1=(AT.sy a).2.1/\(AT.sy a).2.2=(AT.sy a).2.2/\AT.hd a=AT.hd a/\AT.df a=AT.df a/\AT.sz a=AT.sz a/\(AT.f a).1=(AT.f a).1/\(AT.f a).2.1=(AT.f a).2.1/\(AT.f a).2.2=(AT.f a).2.2/\(AT.br a).1=(AT.br a).1/\(AT.br a).2.1=(AT.br a).2.1/\(AT.br a).2.2=(AT.br a).2.2/\L
 def Mq:=g.1<=length (GJ.l c)/\(t<=g.2.1/\g.2.1<=2000)/\length g.2.2=g.1
 def yw:=(Kv h c a m v)/\qqi g.2.2 v
 abbrev BJ:=(↑g.1:Int)<(↑(ε c).2.1:Int)
 abbrev Sy:=LV (T.n (T.n (T.n T.e (ς (AO.cells 62 (ς 0) ι [AV.sv (int i64 (χ c)),AV.sv (int i64 (Ε c)),AV.sv (string (Θ c)),AV.sv (slice (ε c).1 (ε c).2.1 (ε c).2.2),AV.sv (slice (ζ c).1 (ζ c).2.1 (ζ c).2.2)])) T.e) (ς (AO.cells (130:TypeId) (ς 0) ι [AV.sv (slice h.1 h.2.1 h.2.2),AV.sv (int i64 g.2.1)])) (T.n T.e (ς (AO.cells (36:TypeId) (ς 0) ι [AV.int u64 0,AV.str [],AV.ssl (nat_lit 6) (nat_lit 0) (length g.2.2) (nat_lit 5) (nat_lit 7),AV.nsl,AV.int i64 0])) T.e)) Α (T.n (T.n T.e (ς (AO.cells 36 (ς 0) ι [AV.int u64 0,AV.str (List.map qz0 (qzy (qzn (mkS [])))),AV.nsl,AV.nsl,AV.int i64 0])) T.e) (ς (AO.cells 55 (ς 0) ι [AV.sv (int i64 (AT.k a)),AV.sv (string (AT.nm a)),AV.sv (slice (AT.al a).1 (AT.al a).2.1 (AT.al a).2.2),AV.sv (int i64 (AT.it a)),AV.sv (slice (AT.sy a).1 (AT.sy a).2.1 (AT.sy a).2.2),AV.sv (bool (AT.hd a)),AV.sv (string (AT.df a)),AV.sv (int i64 (AT.sz a)),AV.sv (slice (AT.f a).1 (AT.f a).2.1 (AT.f a).2.2),AV.sv (slice (AT.br a).1 (AT.br a).2.1 (AT.br a).2.2)])) (T.n T.e (ς (AO.row (36:TypeId) (nat_lit 0) (qa Γ g.2.2))) T.e)))
 def Sx:=(0<=(↑g.1:Int)/\BJ c g)/\(ε c).1≠noA/\∃(j:Int),∃(r:Int),∃u,∃F,∃(K:Nat),∃(M:Nat),∃N,∃(O:Nat),∃(i8:Nat),(∀Q,yw h c a m g Q->q37 Q (adr (ε c).1 (toNat (↑g.1:Int)*5)) [int i64 j,int i64 r,string u,slice F K M,slice N O i8])/\Jb (t+1)/\∃(d:Qd),d.2.2.2.1=AT.it a/\χ d.2.2.2.2.1=j/\Ε d.2.2.2.2.1=r/\Θ d.2.2.2.2.1=u/\(ε d.2.2.2.2.1).1=F/\(ε d.2.2.2.2.1).2.1=K/\(ε d.2.2.2.2.1).2.2=M/\(ζ d.2.2.2.2.1).1=N/\(ζ d.2.2.2.2.1).2.1=O/\(ζ d.2.2.2.2.1).2.2=i8/\d.2.2.2.2.2=t+1/\d.2.1.1=h.1/\d.2.1.2.1=h.2.1/\d.2.1.2.2=h.2.2/\d.2.2.1=g.2.1/\(vD d<J/\qx d.1/\(0<=d.2.2.2.1/\d.2.2.2.1<(↑(length d.1):Int))/\Ω d.2.2.2.2.1/\(0<=d.2.2.1/\d.2.2.1<=2000)/\1<=d.2.2.2.2.2/\d.2.2.2.2.2<=21)/\(∀z,yw h c a m g z->qd d.1 d.2.1 z/\υ d.2.2.2.2.1 z)/\∀(i:qY),jk d.2.2.1 i->(∃G,(yw h c a m g G)/\φ i.2.2 G)->∃(o:qY),t=t/\(↑g.1:Int)=(↑g.1:Int)/\o.2.1=i.2.1/\h.1=d.2.1.1/\h.2.1=d.2.1.2.1/\h.2.2=d.2.1.2.2/\o.1=i.1/\FC c (length g.2.2=length g.2.2/\FB a (qa Γ g.2.2=qa Γ g.2.2/\Λ o.2.2=Λ i.2.2/\Μ o.2.2=Μ i.2.2/\(ξ o.2.2).1=(ξ i.2.2).1/\(ξ o.2.2).2.1=(ξ i.2.2).2.1/\(ξ o.2.2).2.2=(ξ i.2.2).2.2/\(ρ o.2.2).1=(ρ i.2.2).1/\(ρ o.2.2).2.1=(ρ i.2.2).2.1/\(ρ o.2.2).2.2=(ρ i.2.2).2.2/\Ψ o.2.2=Ψ i.2.2/\(∀A,(yw h c a m g A)/\φ i.2.2 A->yw h c a m g A)/\(∀i16,(yw h c a m g i16)/\φ i.2.2 i16->φ o.2.2 i16)/\jk (Sy h c a g) o/\True))
 def BI:=(ρ p.2.2).1=noA/\(ρ p.2.2).2.1=0/\(ρ p.2.2).2.2=0/\Ψ p.2.2=0/\L
 def od:=length (qa Γ g.2.2)=length g.2.2*5/\(length g.2.2+nat_lit 1)*80<=140737488355328/\Jb ((↑g.1:Int)+1)/\∃(j:Nat×Int×List GV),t=t/\(↑j.1:Int)=(↑g.1:Int)+1/\U6 h (j.2.1=p.1/\FC c (length j.2.2=length g.2.2+nat_lit 1/\FB a (qa Γ j.2.2=qa Γ g.2.2++[int u64 (Λ p.2.2),string (Μ p.2.2),slice (ξ p.2.2).1 (ξ p.2.2).2.1 (ξ p.2.2).2.2,slice (ρ p.2.2).1 (ρ p.2.2).2.1 (ρ p.2.2).2.2,int i64 (Ψ p.2.2)]/\(∀r,(yw h c a m g r)/\φ p.2.2 r->Kv h c a m r)/\(∀u,(yw h c a m g u)/\φ p.2.2 u->qqi j.2.2 u)/\(Mq w c j)/\length (GJ.l c)- j.1<length (GJ.l c)- g.1/\True)))
 def cD:=(0<=(↑g.1:Int)/\(↑g.1:Int)<(↑(ζ c).2.1:Int))/\(ζ c).1≠noA/\∃j,(∀r,(yw h c a m g r)/\φ p.2.2 r->q37 r (adr (ζ c).1 (toNat (↑g.1:Int)*1)) [string j])/\∃(u:GV×Ck×GV),Λ u.1=0/\Μ u.1=mkS []/\False
 def oa:=Ji (AT.k a=12) (od t h w c a m g p) (cD h c a m g p)
 def n_:=((!decide (p.2.1=0))=π->∃(j:qY),Λ j.2.2=0/\Μ j.2.2=mkS []/\(ξ j.2.2).1=noA/\(ξ j.2.2).2.1=0/\(ξ j.2.2).2.2=0/\BI j (j.2.1=p.2.1/\U6 h (j.1=p.1/\jk t j/\(∀r,(yw h c a m g r)/\φ p.2.2 r->φ j.2.2 r)/\True)))/\((!decide (p.2.1=0))=ι->oa w h t c a m g p)
 def n9:=((Sx t h c a m J g)/\Sx t h c a m J g)/\∀(B:qY),jk (Sy h c a g) B->(∃H,(yw h c a m g H)/\φ B.2.2 H)->n_ w h t c a m g B
 def n7:=Ji (BJ c g) (n9 t h w c a m J g) (∀(R S U:Nat) (C:Option Addr) (V D:Nat),(∃I,(yw h c a m g I)/\length g.2.2<=D/\qgm I C (take (length g.2.2*nat_lit 5) (qa Γ g.2.2)))->∃(q:qY),Λ q.2.2=0/\Μ q.2.2=mkS []/\(ξ q.2.2).1=C/\(ξ q.2.2).2.1=length g.2.2/\(ξ q.2.2).2.2=D/\BI q (q.2.1=0/\U6 h (q.1=g.2.1/\jk w q/\(∀E,(yw h c a m g E)/\length g.2.2<=D/\qgm E C (take (length g.2.2*nat_lit 5) (qa Γ g.2.2))->φ q.2.2 E)/\True)))
 def nZ:=(∃(j:Nat×Int×List GV),t=t/\(↑j.1:Int)=0/\U6 h (j.2.1=w/\FC c (length j.2.2=0/\FB a ((∀r,Kv h c a m r->Kv h c a m r)/\(∀u,Kv h c a m u->qqi j.2.2 u)/\(Mq w c j)/\True))))/\∀(F:Nat×Int×List GV),Mq w c F->(∃K,yw h c a m F K)->n7 t h w c a m J F
end
def zjd(n:Nat) (S:List AT) (x:SV) (all:Int) (a:AT) (g:GJ) (d:Int):qk3 P (qf5 []) (qg7 [(74,yB.below vD n),(24,Q5)]) Tryz.f111 ((Qi Ch).below yO (n+1)) (wPa) ⟨S,x,all,a,g,d⟩=(yO (S,x,all,a,g,d)<n+1/\qx S/\a∈S/\Ch a g/\Ω g/\(0<=all/\all<=2000)/\1<=d/\d<=20->(∃(p:Pub),Kv x g a S p)->nZ d x all g a S n):=by kernel_rfl
def zq2:=λn S x all a g d=>Ο (zjd n S x all a g d) (by delta Ji Jb Jt Jf Kv U6 FC FB Mq yw BJ Sy Sx BI od cD oa n_ n9 n7 nZ;exact rfl)
section
variable (u:Int) (h:SV) (z:Int) (d:GJ) (c:AT) (o:List AT) (K:Nat) (a:Nat×Int×GV) (r:qY) (A:GV) (F:Prop) (w:Nat->Option Obj)
 abbrev Kw:=True/\qd o h w/\qzd c w/\υ d w
 def U7:=h.1=h.1/\h.2.1=h.2.1/\h.2.2=h.2.2/\F
 def Mr:=χ d=χ d/\Ε d=Ε d/\Θ d=Θ d/\(ε d).1=(ε d).1/\(ε d).2.1=(ε d).2.1/\(ε d).2.2=(ε d).2.2/\(ζ d).1=(ζ d).1/\(ζ d).2.1=(ζ d).2.1/\(ζ d).2.2=(ζ d).2.2/\F
 def FD:=AT.k c=AT.k c/\AT.nm c=AT.nm c/\(AT.al c).1=(AT.al c).1/\(AT.al c).2.1=(AT.al c).2.1/\(AT.al c).2.2=(AT.al c).2.2/\AT.it c=AT.it c/\(AT.sy c).1=(AT.sy c).1/\(AT.sy c).2.1=(AT.sy c).2.1/\(AT.sy c).2.2=(AT.sy c).2.2/\AT.hd c=AT.hd c/\AT.df c=AT.df c/\AT.sz c=AT.sz c/\(AT.f c).1=(AT.f c).1/\(AT.f c).2.1=(AT.f c).2.1/\(AT.f c).2.2=(AT.f c).2.2/\(AT.br c).1=(AT.br c).1/\(AT.br c).2.1=(AT.br c).2.1/\(AT.br c).2.2=(AT.br c).2.2/\F
 def Ms:=a.1<=length (GJ.l d)/\(u<=a.2.1/\a.2.1<=2000)/\length (qqm a.2.2)=length (GV.l a.2.2)/\length (GV.l a.2.2)<=a.1
 def vX:=(Kw h d c o w)/\φ a.2.2 w
 abbrev BK:=(↑a.1:Int)<(↑(ε d).2.1:Int)
 abbrev SA:=LV (T.n (T.n (T.n T.e (ς (AO.cells 62 (ς 0) ι [AV.sv (int i64 (χ d)),AV.sv (int i64 (Ε d)),AV.sv (string (Θ d)),AV.sv (slice (ε d).1 (ε d).2.1 (ε d).2.2),AV.sv (slice (ζ d).1 (ζ d).2.1 (ζ d).2.2)])) T.e) (ς (AO.cells (130:TypeId) (ς 0) ι [AV.sv (slice h.1 h.2.1 h.2.2),AV.sv (int i64 a.2.1)])) (T.n T.e (ς (AO.cells (36:TypeId) (ς 0) ι [AV.sv (int u64 (Λ a.2.2)),AV.sv (string (Μ a.2.2)),AV.sv (slice (ξ a.2.2).1 (ξ a.2.2).2.1 (ξ a.2.2).2.2),AV.sv (slice (ρ a.2.2).1 (ρ a.2.2).2.1 (ρ a.2.2).2.2),AV.sv (int i64 (Ψ a.2.2))])) T.e)) Α (T.n (T.n T.e (ς (AO.cells 36 (ς 0) ι [AV.int u64 0,AV.str (List.map qz0 (qzy (qzn (mkS [])))),AV.nsl,AV.nsl,AV.int i64 0])) T.e) (ς (AO.cells 55 (ς 0) ι [AV.sv (int i64 (AT.k c)),AV.sv (string (AT.nm c)),AV.sv (slice (AT.al c).1 (AT.al c).2.1 (AT.al c).2.2),AV.sv (int i64 (AT.it c)),AV.sv (slice (AT.sy c).1 (AT.sy c).2.1 (AT.sy c).2.2),AV.sv (bool (AT.hd c)),AV.sv (string (AT.df c)),AV.sv (int i64 (AT.sz c)),AV.sv (slice (AT.f c).1 (AT.f c).2.1 (AT.f c).2.2),AV.sv (slice (AT.br c).1 (AT.br c).2.1 (AT.br c).2.2)])) T.e))
 def Sz:=(0<=(↑a.1:Int)/\BK d a)/\(ε d).1≠noA/\∃(i:Int),∃(t:Int),∃j,∃v,∃(B:Nat),∃(G:Nat),∃L,∃(M:Nat),∃(i8:Nat),(∀N,vX h d c o a N->q37 N (adr (ε d).1 (toNat (↑a.1:Int)*5)) [int i64 i,int i64 t,string j,slice v B G,slice L M i8])/\Jb (u+1)/\∃(g:Qd),g.2.2.2.1=AT.it c/\χ g.2.2.2.2.1=i/\Ε g.2.2.2.2.1=t/\Θ g.2.2.2.2.1=j/\(ε g.2.2.2.2.1).1=v/\(ε g.2.2.2.2.1).2.1=B/\(ε g.2.2.2.2.1).2.2=G/\(ζ g.2.2.2.2.1).1=L/\(ζ g.2.2.2.2.1).2.1=M/\(ζ g.2.2.2.2.1).2.2=i8/\g.2.2.2.2.2=u+1/\g.2.1.1=h.1/\g.2.1.2.1=h.2.1/\g.2.1.2.2=h.2.2/\g.2.2.1=a.2.1/\(vD g<K/\qx g.1/\(0<=g.2.2.2.1/\g.2.2.2.1<(↑(length g.1):Int))/\Ω g.2.2.2.2.1/\(0<=g.2.2.1/\g.2.2.1<=2000)/\1<=g.2.2.2.2.2/\g.2.2.2.2.2<=21)/\(∀C,vX h d c o a C->qd g.1 g.2.1 C/\υ g.2.2.2.2.1 C)/\∀(m:qY),jk g.2.2.1 m->(∃H,(vX h d c o a H)/\φ m.2.2 H)->∃(p:qY),u=u/\(↑a.1:Int)=(↑a.1:Int)/\p.2.1=m.2.1/\h.1=g.2.1.1/\h.2.1=g.2.1.2.1/\h.2.2=g.2.1.2.2/\p.1=m.1/\Mr d (Λ a.2.2=Λ a.2.2/\Μ a.2.2=Μ a.2.2/\(ξ a.2.2).1=(ξ a.2.2).1/\(ξ a.2.2).2.1=(ξ a.2.2).2.1/\(ξ a.2.2).2.2=(ξ a.2.2).2.2/\(ρ a.2.2).1=(ρ a.2.2).1/\(ρ a.2.2).2.1=(ρ a.2.2).2.1/\(ρ a.2.2).2.2=(ρ a.2.2).2.2/\Ψ a.2.2=Ψ a.2.2/\FD c (Λ p.2.2=Λ m.2.2/\Μ p.2.2=Μ m.2.2/\(ξ p.2.2).1=(ξ m.2.2).1/\(ξ p.2.2).2.1=(ξ m.2.2).2.1/\(ξ p.2.2).2.2=(ξ m.2.2).2.2/\(ρ p.2.2).1=(ρ m.2.2).1/\(ρ p.2.2).2.1=(ρ m.2.2).2.1/\(ρ p.2.2).2.2=(ρ m.2.2).2.2/\Ψ p.2.2=Ψ m.2.2/\(∀D,(vX h d c o a D)/\φ m.2.2 D->vX h d c o a D)/\(∀i16,(vX h d c o a i16)/\φ m.2.2 i16->φ p.2.2 i16)/\jk (SA h d c a) p/\True))
 def ov:=Jb ((↑a.1:Int)+1)/\∃(i:Nat×Int×GV),u=u/\(↑i.1:Int)=(↑a.1:Int)+1/\U7 h (i.2.1=r.1/\Mr d (Λ i.2.2=Λ A/\Μ i.2.2=Μ A/\(ξ i.2.2).1=(ξ A).1/\(ξ i.2.2).2.1=(ξ A).2.1/\(ξ i.2.2).2.2=(ξ A).2.2/\(ρ i.2.2).1=(ρ A).1/\(ρ i.2.2).2.1=(ρ A).2.1/\(ρ i.2.2).2.2=(ρ A).2.2/\Ψ i.2.2=Ψ A/\FD c ((∀t,((vX h d c o a t)/\φ r.2.2 t)/\φ A t->Kw h d c o t)/\(∀j,((vX h d c o a j)/\φ r.2.2 j)/\φ A j->φ i.2.2 j)/\(Ms z d i)/\length (GJ.l d)- i.1<length (GJ.l d)- a.1/\True)))
 def ou:=(0<=(↑a.1:Int)/\(↑a.1:Int)<(↑(ζ d).2.1:Int))/\(ζ d).1≠noA/\∃i,(∀t,(vX h d c o a t)/\φ r.2.2 t->q37 t (adr (ζ d).1 (toNat (↑a.1:Int)*1)) [string i])/\∃(j:GV×Ck×GV),Λ j.1=Λ a.2.2/\Μ j.1=Μ a.2.2/\(ξ j.1).1=(ξ a.2.2).1/\(ξ j.1).2.1=(ξ a.2.2).2.1/\(ξ j.1).2.2=(ξ a.2.2).2.2/\(ρ j.1).1=(ρ a.2.2).1/\(ρ j.1).2.1=(ρ a.2.2).2.1/\(ρ j.1).2.2=(ρ a.2.2).2.2/\Ψ j.1=Ψ a.2.2/\j.2.1=i/\Λ j.2.2=Λ r.2.2/\Μ j.2.2=Μ r.2.2/\(ξ j.2.2).1=(ξ r.2.2).1/\(ξ j.2.2).2.1=(ξ r.2.2).2.1/\(ξ j.2.2).2.2=(ξ r.2.2).2.2/\(ρ j.2.2).1=(ρ r.2.2).1/\(ρ j.2.2).2.1=(ρ r.2.2).2.1/\(ρ j.2.2).2.2=(ρ r.2.2).2.2/\Ψ j.2.2=Ψ r.2.2/\(length (qqm j.1)=length (GV.l j.1)/\length (GV.l j.1)<1000000)/\(∀v,(vX h d c o a v)/\φ r.2.2 v->φ j.1 v/\φ j.2.2 v)/\∀(B:GV),qq5 B=PV.mk (Λ j.1) (Μ j.1) (zC j.2.1 (qqm j.1) (qqh (GV.l j.1)) (qq5 j.2.2)) (qO j.2.1 (qqm j.1)) (Ψ j.1)->(∃G,((vX h d c o a G)/\φ r.2.2 G)/\φ B G)->ov u h z d c o a r B
 def ot:=Ji (AT.k c=12) (False) (ou u h z d c o a r)
 def oq:=((!decide (r.2.1=0))=π->∃(i:qY),Λ i.2.2=0/\Μ i.2.2=mkS []/\(ξ i.2.2).1=noA/\(ξ i.2.2).2.1=0/\(ξ i.2.2).2.2=0/\(ρ i.2.2).1=noA/\(ρ i.2.2).2.1=0/\(ρ i.2.2).2.2=0/\Ψ i.2.2=0/\i.2.1=r.2.1/\U7 h (i.1=r.1/\jk u i/\(∀t,(vX h d c o a t)/\φ r.2.2 t->φ i.2.2 t)/\True))/\((!decide (r.2.1=0))=ι->ot z h u d c o a r)
 def om:=((Sz u h d c o K a)/\Sz u h d c o K a)/\∀(E:qY),jk (SA h d c a) E->(∃I,(vX h d c o a I)/\φ E.2.2 I)->oq z h u d c o a E
 def oi:=Ji (BK d a) (om u h z d c o K a) (∃(q:qY),Λ q.2.2=Λ a.2.2/\Μ q.2.2=Μ a.2.2/\(ξ q.2.2).1=(ξ a.2.2).1/\(ξ q.2.2).2.1=(ξ a.2.2).2.1/\(ξ q.2.2).2.2=(ξ a.2.2).2.2/\(ρ q.2.2).1=(ρ a.2.2).1/\(ρ q.2.2).2.1=(ρ a.2.2).2.1/\(ρ q.2.2).2.2=(ρ a.2.2).2.2/\Ψ q.2.2=Ψ a.2.2/\q.2.1=0/\U7 h (q.1=a.2.1/\jk z q/\(∀J,vX h d c o a J->φ q.2.2 J)/\True))
 def oh:=(∃(i:Nat×Int×GV),u=u/\(↑i.1:Int)=0/\U7 h (i.2.1=z/\Mr d (Λ i.2.2=0/\Μ i.2.2=mkS []/\(ξ i.2.2).1=noA/\(ξ i.2.2).2.1=0/\(ξ i.2.2).2.2=0/\(ρ i.2.2).1=noA/\(ρ i.2.2).2.1=0/\(ρ i.2.2).2.2=0/\Ψ i.2.2=0/\FD c ((∀t,Kw h d c o t->Kw h d c o t)/\(∀j,Kw h d c o j->φ i.2.2 j)/\(Ms z d i)/\True))))/\∀(v:Nat×Int×GV),Ms z d v->(∃B,vX h d c o v B)->oi u h z d c o K v
end
def zje(n:Nat) (S:List AT) (x:SV) (all:Int) (a:AT) (g:GJ) (d:Int):qk3 P (qf5 []) (qg7 [(74,yB.below vD n),(24,Q5)]) Tryz.f111 ((Qi isMap).below yO (n+1)) (wPm) ⟨S,x,all,a,g,d⟩=(yO (S,x,all,a,g,d)<n+1/\qx S/\a∈S/\isMap a g/\Ω g/\(0<=all/\all<=2000)/\1<=d/\d<=20->(∃(p:Pub),Kw x g a S p)->oh d x all g a S n):=by kernel_rfl
def zq4:=λn S x all a g d=>Ο (zje n S x all a g d) (by delta Ji Jb Jt Jf Kw U7 Mr FD Ms vX BK SA Sz ov ou ot oq om oi oh;exact rfl)
section
variable (p:Int) (h:SV) (q:Int) (c:GJ) (a:AT) (i:List AT) (U:Nat) (d:Nat×Int×List GV) (E:GJ) (x9:Int) (g:qY) (r:Qd) (D:Bool) (Z:Ck) (x14:Option Addr) (x15:Nat) (K L:Int) (M:Ck) (N:Option Addr) (O Q:Nat) (R:Option Addr) (S T:Nat) (t:Prop) (v:Nat->Option Obj) (x27:GJ×Ck)
 abbrev Kx:=True/\qd i h v/\qzd a v/\υ c v
 def YF:=h.1=h.1/\h.2.1=h.2.1/\h.2.2=h.2.2/\t
 def Wp:=χ c=χ c/\Ε c=Ε c/\Θ c=Θ c/\(ε c).1=(ε c).1/\(ε c).2.1=(ε c).2.1/\(ε c).2.2=(ε c).2.2/\(ζ c).1=(ζ c).1/\(ζ c).2.1=(ζ c).2.1/\(ζ c).2.2=(ζ c).2.2/\t
 def Wo:=AT.k a=AT.k a/\AT.nm a=AT.nm a/\(AT.al a).1=(AT.al a).1/\(AT.al a).2.1=(AT.al a).2.1/\(AT.al a).2.2=(AT.al a).2.2/\AT.it a=AT.it a/\(AT.sy a).1=(AT.sy a).1/\(AT.sy a).2.1=(AT.sy a).2.1/\(AT.sy a).2.2=(AT.sy a).2.2/\AT.hd a=AT.hd a/\AT.df a=AT.df a/\AT.sz a=AT.sz a/\(AT.f a).1=(AT.f a).1/\(AT.f a).2.1=(AT.f a).2.1/\(AT.f a).2.2=(AT.f a).2.2/\(AT.br a).1=(AT.br a).1/\(AT.br a).2.1=(AT.br a).2.1/\(AT.br a).2.2=(AT.br a).2.2/\t
 def Mt:=d.1<=length (AT.fs a)/\(p<=d.2.1/\d.2.1<=2000)/\length d.2.2=d.1
 def ya:=(Kx h c a i v)/\qqi d.2.2 v
 abbrev BP:=(↑d.1:Int)<(↑(AT.f a).2.1:Int)
 def BM:=(ρ g.2.2).1=noA/\(ρ g.2.2).2.1=0/\(ρ g.2.2).2.2=0/\Ψ g.2.2=0/\t
 def BL:=Λ g.2.2=0/\Μ g.2.2=mkS []/\(ξ g.2.2).1=noA/\(ξ g.2.2).2.1=0/\(ξ g.2.2).2.2=0/\BM g t
 def BO:=(∀e,ya h c a i d e->ya h c a i d e)/\(∀j,ya h c a i d j->υ E j)/\Ω E/\True
 def oC:=((!D)=π->∃(e:qY),BL e (e.2.1=7/\YF h (e.1=d.2.1/\jk p e/\(∀j,ya h c a i d j->φ e.2.2 j)/\True)))/\((!D)=ι->∃(l:GJ),q=q/\(↑d.1:Int)=(↑d.1:Int)/\YF h (d.2.1=d.2.1/\Wp c (length d.2.2=length d.2.2/\Wo a (Z=Z/\x14=x14/\U=U/\x15=x15/\x9=x9/\D=D/\K=K/\L=L/\M=M/\N=N/\O=O/\Q=Q/\R=R/\S=S/\T=T/\qa Γ d.2.2=qa Γ d.2.2/\χ l=K/\Ε l=L/\Θ l=M/\(ε l).1=N/\(ε l).2.1=O/\(ε l).2.2=Q/\(ζ l).1=R/\(ζ l).2.1=S/\(ζ l).2.2=T/\BO h c a i d l))))
 abbrev xZ:=qzx (qm x27.2 x27.1) zJ
 def BN:=h.1=r.2.1.1/\h.2.1=r.2.1.2.1/\h.2.2=r.2.1.2.2/\t
 def oD:=length (qa Γ d.2.2)=length d.2.2*5/\(length d.2.2+nat_lit 1)*80<=140737488355328/\Jb ((↑d.1:Int)+1)/\∃(e:Nat×Int×List GV),p=p/\(↑e.1:Int)=(↑d.1:Int)+1/\BN h r (e.2.1=g.1/\Wp c (length e.2.2=length d.2.2+nat_lit 1/\Wo a (qa Γ e.2.2=qa Γ d.2.2++[int u64 (Λ g.2.2),string (Μ g.2.2),slice (ξ g.2.2).1 (ξ g.2.2).2.1 (ξ g.2.2).2.2,slice (ρ g.2.2).1 (ρ g.2.2).2.1 (ρ g.2.2).2.2,int i64 (Ψ g.2.2)]/\(∀j,((ya h c a i d j)/\υ E j)/\φ g.2.2 j->Kx h c a i j)/\(∀l,((ya h c a i d l)/\υ E l)/\φ g.2.2 l->qqi e.2.2 l)/\(Mt q a e)/\length (AT.fs a)- e.1<length (AT.fs a)- d.1/\True)))
 def oB:=((!decide (g.2.1=0))=π->∃(e:qY),BL e (e.2.1=g.2.1/\BN h r (e.1=g.1/\jk p e/\(∀j,((ya h c a i d j)/\υ E j)/\φ g.2.2 j->φ e.2.2 j)/\True)))/\((!decide (g.2.1=0))=ι->oD q h p c a i d E g r)
 def oA:=Jb (p+1)/\∃(e:Qd),e.2.2.2.1=q/\χ e.2.2.2.2.1=χ c/\Ε e.2.2.2.2.1=Ε c/\Θ e.2.2.2.2.1=Θ c/\(ε e.2.2.2.2.1).1=(ε c).1/\(ε e.2.2.2.2.1).2.1=(ε c).2.1/\(ε e.2.2.2.2.1).2.2=(ε c).2.2/\(ζ e.2.2.2.2.1).1=(ζ c).1/\(ζ e.2.2.2.2.1).2.1=(ζ c).2.1/\(ζ e.2.2.2.2.1).2.2=(ζ c).2.2/\e.2.2.2.2.2=p+1/\e.2.1.1=h.1/\e.2.1.2.1=h.2.1/\e.2.1.2.2=h.2.2/\e.2.2.1=d.2.1/\(vD e<U/\qx e.1/\(0<=e.2.2.2.1/\e.2.2.2.1<(↑(length e.1):Int))/\Ω e.2.2.2.2.1/\(0<=e.2.2.1/\e.2.2.1<=2000)/\1<=e.2.2.2.2.2/\e.2.2.2.2.2<=21)/\(∀j,(ya h E a i d j)/\υ c j->qd e.1 e.2.1 j/\υ e.2.2.2.2.1 j)/\∀(l:qY),jk e.2.2.1 l->(∃u,((ya h E a i d u)/\υ c u)/\φ l.2.2 u)->oB x9 h p E a i d c l e
 def oz:=(0<=(↑d.1:Int)/\BP a d)/\(AT.f a).1≠noA/\∃e,∃j,∃(l:Nat),∃(u:Nat),∃(G:Int),∃(i5:Bool),∃(i6:Int),∃(i7:Int),∃i8,∃i9,∃(w:Nat),∃(z:Nat),∃A,∃(B:Nat),∃(C:Nat),(∀V,ya h c a i d V->q37 V (adr (AT.f a).1 (toNat (↑d.1:Int)*9)) [string e,slice j l u,int i64 G,bool i5,int i64 i6,int i64 i7,string i8,slice i9 w z,slice A B C])/\∃(i16:GJ×Ck),χ i16.1=χ c/\Ε i16.1=Ε c/\Θ i16.1=Θ c/\(ε i16.1).1=(ε c).1/\(ε i16.1).2.1=(ε c).2.1/\(ε i16.1).2.2=(ε c).2.2/\(ζ i16.1).1=(ζ c).1/\(ζ i16.1).2.1=(ζ c).2.1/\(ζ i16.1).2.2=(ζ c).2.2/\i16.2=e/\Ω i16.1/\(∀W,ya h c a i d W->υ i16.1 W)/\(((!Option.isSome (qm i16.2 i16.1))=π->oC p h q c a i l d G i5 e j u i6 i7 i8 i9 w z A B C)/\((!Option.isSome (qm i16.2 i16.1))=ι->∃(m:GJ),q=q/\(↑d.1:Int)=(↑d.1:Int)/\YF h (d.2.1=d.2.1/\Wp c (length d.2.2=length d.2.2/\Wo a (e=e/\j=j/\l=l/\u=u/\G=G/\i5=i5/\i6=i6/\i7=i7/\i8=i8/\i9=i9/\w=w/\z=z/\A=A/\B=B/\C=C/\qa Γ d.2.2=qa Γ d.2.2/\χ m=χ (xZ i16)/\Ε m=Ε (xZ i16)/\Θ m=Θ (xZ i16)/\(ε m).1=(ε (xZ i16)).1/\(ε m).2.1=(ε (xZ i16)).2.1/\(ε m).2.2=(ε (xZ i16)).2.2/\(ζ m).1=(ζ (xZ i16)).1/\(ζ m).2.1=(ζ (xZ i16)).2.1/\(ζ m).2.2=(ζ (xZ i16)).2.2/\BO h c a i d m)))))/\∀(F:GJ),Ω F->(∃X,(ya h c a i d X)/\υ F X)->oA q h G F a i U d c p
 def oy:=Ji (BP a d) (oz p h q c a i U d) (∀(i37 i38 i39:Nat) (H:Option Addr) (i41 I:Nat),(∃Y,(ya h c a i d Y)/\length d.2.2<=I/\qgm Y H (take (length d.2.2*nat_lit 5) (qa Γ d.2.2)))->∃(o:qY),Λ o.2.2=0/\Μ o.2.2=mkS []/\(ξ o.2.2).1=H/\(ξ o.2.2).2.1=length d.2.2/\(ξ o.2.2).2.2=I/\BM o (o.2.1=0/\YF h (o.1=d.2.1/\jk p o/\(∀J,(ya h c a i d J)/\length d.2.2<=I/\qgm J H (take (length d.2.2*nat_lit 5) (qa Γ d.2.2))->φ o.2.2 J)/\True)))
 def ox:=(∃(e:Nat×Int×List GV),p=p/\(↑e.1:Int)=0/\YF h (e.2.1=q/\Wp c (length e.2.2=0/\Wo a ((∀j,Kx h c a i j->Kx h c a i j)/\(∀l,Kx h c a i l->qqi e.2.2 l)/\(Mt q a e)/\True))))/\∀(u:Nat×Int×List GV),Mt q a u->(∃G,ya h c a i u G)->oy q h p c a i U u
end
def zqk(n:Nat) (S:List AT) (x:SV) (all:Int) (a:AT) (g:GJ) (d:Int):qk3 P (qf5 [(66,xS)]) (qg7 [(74,yB.below vD n)]) Tryz.f112 ((Qi isRec).below yO (n+1)) (wRe) ⟨S,x,all,a,g,d⟩=(yO (S,x,all,a,g,d)<n+1/\qx S/\a∈S/\isRec a g/\Ω g/\(0<=all/\all<=2000)/\1<=d/\d<=20->(∃(p:Pub),Kx x g a S p)->ox d x all g a S n):=by kernel_rfl
def zzr:=λn S x all a g d=>Ο (zqk n S x all a g d) (by delta Ji Jb Jt Jf Kx YF Wp Wo Mt ya BP BM BL BO oC xZ BN oD oB oA oz oy ox;exact rfl)
section
variable {p:Pub}
def yH{a:AT} (h:a.ok p):a.al.2.1=a.als.length/\a.sy.2.1=a.sys.length/\a.f.2.1=a.fs.length/\a.br.2.1=a.brs.length:=⟨h.1.1,h.2.1.1,h.2.2.1.1,h.2.2.2.1.1⟩
variable {g:GJ}
def Hy(h:g.ok p):g.y.2.1=g.l.length/\g.x.2.1=g.nm.length:=by rw[qz1]at h;exact⟨h.1.1,h.2.1.1⟩
def Yl(h:g.ok p) {j:Nat} (u:j<g.l.length):(g.y.1≠noA/\q37 p (adr g.y.1 (j*5)) g.l[j].cells)/\g.l[j].ok p:=by rw[qz1]at h;exact⟨jX ZI (by decide) h.1 u,GJ.oks_at h.2.2 u⟩
def zvl(h:g.ok p) {j:Nat} (u:j<g.nm.length):g.x.1≠noA/\q37 p (adr g.x.1 (j*1)) [.string g.nm[j]]:=by rw[qz1]at h;exact jX j8 (by decide) h.2.1 u
def uJ:∀{l m:List GV} {p:Pub},qqi l p->qqi m p->qqi (l++m) p:=λh u=>GV.oks_iff.2 λv A=>(List.mem_append.1 A).elim (GV.oks_iff.1 h v) (GV.oks_iff.1 u v)
def vQ{v:GV} (h:v.ok p):qqi [v] p:=GV.oks_iff.2 λw hw=>by simp at hw;subst hw;exact h
def zV:GV:= .mk 0 (mkS []) (Α,0,0) [] (Α,0,0) [] 0
def jc(p:Pub):zV.ok p:=by unfold zV φ;exact⟨qV,qV,by unfold qqi;trivial⟩
def PG(k:Ck) (ks:List Ck) (l:List PV) (w:PV) (h:ks.length=l.length):(qO k ks).length=(zC k ks l w).length/\(zC k ks l w).length<=l.length+1:=by
 have hi:=zvq k ks;unfold qO zC;split
 ·rw[qqn];omega
 ·simp only[Τ,qqk,qqc,qqv];omega
def zq3(n:Nat) (hv:q1p P 74 (yB.below vD n)):q1p P 111 ((Qi Ch).below yO (n+1)):=by
 refine zh (qcl qjq) (qdd (qgi hv (qgi z78 qjp))) (W:=wPa) Tryz.func111 λ⟨S,(x:SV),(all:Int),a,g,(d:Int)⟩=>(zq2 n S x all a g d).mpr ?_;rintro⟨T,hS,X,U,hg,⟨hal0,C⟩,hd1,hd2⟩ ⟨p,_,hx,ha,J⟩;have T:2*(25- d).toNat<n+1:=T;have U:a.k=12:=U;obtain⟨gl,V⟩:=Hy J;have O:=hg;rw[qzp]at O;obtain⟨_,hgl,_,_,_,_,Z⟩:=O;have Y:=(hS.2 a X).2.1 (.inl U);simp only[qB,exists_const,forall_const,δ,gl,V];refine⟨⟨⟨0,all,[]⟩,rfl,rfl,rfl,λq hq=>GV.oks_iff.2 λv h=>(by cases h),ω _,⟨by show all<=all;omega,C⟩,rfl⟩,?_⟩;rintro⟨j,al,fs⟩ ⟨hj,⟨hl0,A⟩,G⟩ ⟨p1,hp1,H⟩;simp only at hj hl0 A G H⊢;refine⟨λhlt=>⟨⟨?xa,?xb⟩,?_⟩,λhge=> ?_⟩;case xa|xb=>
  have u:j<g.l.length:=by omega
  have hw:g.l[j].wf:=GJ.wfs_at Z u;refine⟨⟨by omega,by omega⟩,(Yl J u).1.1,g.l[j].k,g.l[j].n,g.l[j].s,g.l[j].y.1,g.l[j].y.2.1,g.l[j].y.2.2,g.l[j].x.1,g.l[j].x.2.1,g.l[j].x.2.2,λq hq=>(Yl hq.1.2.2 u).1.2,⟨by omega,by omega⟩,⟨S,x,al,a.it,g.l[j],d+1⟩,rfl,rfl,rfl,rfl,rfl,rfl,rfl,rfl,rfl,rfl,rfl,rfl,rfl,rfl,rfl,⟨by show 2*(25- (d+1)).toNat<n;omega,hS,Y,hw,⟨by show 0<=al;omega,A⟩,by show 1<=d+1;omega,by show d+1<=21;omega⟩,λq hq=>⟨hq.1.1,(Yl hq.1.2.2 u).2⟩,?_⟩;rintro⟨a2,e,w⟩ B _;exact⟨⟨a2,e,w⟩,rfl,rfl,rfl,rfl,rfl,rfl,rfl,rfl,rfl,rfl,rfl,rfl,rfl,rfl,λq hq=>hq.1,λq hq=>hq.2,B⟩
 ·rintro⟨a2,e,w⟩ B _;have B:al<=a2/\a2<=2001/\(e=0->a2<=2000):=B;simp only;refine⟨λhe=>⟨⟨a2,e,zV⟩,rfl,rfl,rfl,rfl,rfl,rfl,rfl,rfl,rfl,rfl,rfl,⟨by show all<=a2;omega,B.2⟩,λq hq=>jc q⟩,λhe=>⟨λ_=>⟨qv zn fs,by omega,⟨by omega,by omega⟩,⟨j+1,a2,fs++[w]⟩,by show((j+1:Nat):Int)=_;omega,rfl,by simp,by rw[zu];rfl,λq hq=>hq.1.1,λq hq=>uJ hq.1.2 (vQ hq.2),⟨by show j+1<=_;omega,⟨by show all<=a2;omega,B.2.2 he⟩,by show(fs++[w]).length=j+1;simp[G]⟩,by show _- (j+1)<_;omega⟩,λh=>absurd U h⟩⟩
 ·intro a6 c _;refine⟨⟨al,0, .mk 0 (mkS []) (a6,fs.length,c) fs (Α,0,0) [] 0⟩,rfl,rfl,rfl,rfl,rfl,rfl,rfl,rfl,rfl,rfl,rfl,⟨by show all<=al;omega,by show al<=2001;omega,λ_=>A⟩,λq hq=> ?_⟩;have h2:=hq.2.2;rw[Δ (by rw[qv zn];exact ψ _)]at h2;show φ _ q;unfold φ;exact⟨⟨rfl,hq.2.1,h2⟩,qV,hq.1.2⟩
def zq5(n:Nat) (hv:q1p P 74 (yB.below vD n)):q1p P 111 ((Qi isMap).below yO (n+1)):=by
 refine zh (qcl qjq) (qdd (qgi hv (qgi z78 qjp))) (W:=wPm) Tryz.func111 λ⟨S,(x:SV),(all:Int),a,g,(d:Int)⟩=>(zq4 n S x all a g d).mpr ?_;rintro⟨U,hS,Z,hk,hg,⟨hal0,J⟩,hd1,hd2⟩ ⟨p,_,hx,ha,B⟩;have U:2*(25- d).toNat<n+1:=U;obtain⟨hk,hgk⟩:=hk;obtain⟨gl,Y⟩:=Hy B;have O:=hg;rw[qzp]at O;obtain⟨_,hgl,_,hnsz,_,V,hgs⟩:=O;have V:=V hgk;have hat:=(hS.2 a Z).2.1 (.inr hk);simp only[qB,exists_const,forall_const,δ,gl,Y];refine⟨⟨⟨0,all,zV⟩,rfl,rfl,rfl,rfl,rfl,rfl,rfl,rfl,rfl,rfl,rfl,λq hq=>jc q,ω _,⟨by show all<=all;omega,J⟩,rfl,ω _⟩,?_⟩;rintro⟨j,al,v⟩ ⟨hj,⟨hl0,C⟩,G,hvl⟩ ⟨p1,hp1,hv1⟩;simp only at hj hl0 C G hvl hv1⊢;refine⟨λhlt=>⟨⟨?xa,?xb⟩,?_⟩,λhge=> ?_⟩;case xa|xb=>
  have A:j<g.l.length:=by omega
  have hw:g.l[j].wf:=GJ.wfs_at hgs A;refine⟨⟨by omega,by omega⟩,(Yl B A).1.1,g.l[j].k,g.l[j].n,g.l[j].s,g.l[j].y.1,g.l[j].y.2.1,g.l[j].y.2.2,g.l[j].x.1,g.l[j].x.2.1,g.l[j].x.2.2,λq hq=>(Yl hq.1.2.2 A).1.2,⟨by omega,by omega⟩,⟨S,x,al,a.it,g.l[j],d+1⟩,rfl,rfl,rfl,rfl,rfl,rfl,rfl,rfl,rfl,rfl,rfl,rfl,rfl,rfl,rfl,⟨by show 2*(25- (d+1)).toNat<n;omega,hS,hat,hw,⟨by show 0<=al;omega,C⟩,by show 1<=d+1;omega,by show d+1<=21;omega⟩,λq hq=>⟨hq.1.1,(Yl hq.1.2.2 A).2⟩,?_⟩;rintro⟨a2,e,w⟩ H _;exact⟨⟨a2,e,w⟩,rfl,rfl,rfl,rfl,rfl,rfl,rfl,rfl,rfl,rfl,rfl,rfl,rfl,rfl,λq hq=>hq.1,λq hq=>hq.2,H⟩
 ·rintro⟨a2,e,w⟩ H _;have H:al<=a2/\a2<=2001/\(e=0->a2<=2000):=H;simp only;refine⟨λhe=>⟨⟨a2,e,zV⟩,rfl,rfl,rfl,rfl,rfl,rfl,rfl,rfl,rfl,rfl,rfl,⟨by show all<=a2;omega,H.2⟩,λq hq=>jc q⟩,λhe=>⟨λh=>by omega,λ_=> ?_⟩⟩;have T:j<g.nm.length:=by omega
  refine⟨⟨by omega,by omega⟩,(zvl B T).1,g.nm[j],λq hq=>(zvl hq.1.1.2.2 T).2,⟨v,g.nm[j],w⟩,rfl,rfl,rfl,rfl,rfl,rfl,rfl,rfl,rfl,rfl,rfl,rfl,rfl,rfl,rfl,rfl,rfl,rfl,rfl,⟨G,by show v.l.length<_;omega⟩,λq hq=>⟨hq.1.2,hq.2⟩,?_⟩;intro b u _;have u:b.pv=PV.mk v.n v.s (zC g.nm[j] v.ks (qqh v.l) w.pv) (qO g.nm[j] v.ks) v.b:=u;rw[GV.pv_eq]at u;injection u with _ _ e1 e2 _
  have X:=PG g.nm[j] v.ks (qqh v.l) w.pv (by rw[qq7];exact G);rw[←e1,←e2,qq7,qq7]at X;exact⟨⟨by omega,by omega⟩,⟨j+1,a2,b⟩,by show((j+1:Nat):Int)=_;omega,rfl,rfl,rfl,rfl,rfl,rfl,rfl,rfl,rfl,rfl,λq hq=>hq.1.1.1,λq hq=>hq.2,⟨by show j+1<=_;omega,⟨by show all<=a2;omega,H.2.2 he⟩,X.1,by show b.l.length<=j+1;omega⟩,by show _- (j+1)<_;omega⟩
 ·exact⟨⟨al,0,v⟩,rfl,rfl,rfl,rfl,rfl,rfl,rfl,rfl,rfl,rfl,rfl,⟨by show all<=al;omega,by show al<=2001;omega,λ_=>C⟩,λq hq=>hq.2⟩
def zzs(n:Nat) (hv:q1p P 74 (yB.below vD n)):q1p P 112 ((Qi isRec).below yO (n+1)):=by
 refine zh (qcl (qgj J' qjq)) (qdd (qgi hv qjp)) (W:=wRe) Tryz.func112 λ⟨S,(x:SV),(all:Int),a,g,(d:Int)⟩=>(zzr n S x all a g d).mpr ?_;rintro⟨U,hS,haS,hk,hg,⟨hal0,G⟩,hd1,hd2⟩ ⟨p,_,hx,ha,hgo⟩;have U:2*(25- d).toNat<n+1:=U;obtain⟨gl,C⟩:=Hy hgo;obtain⟨_,_,X,_⟩:=yH ha;have T:=hS.2 a haS;have hf30:=T.2.2.2.2.2.2.2.1;have hfg:=T.2.2.2.2.1;simp only[qB,exists_const,forall_const,δ,gl,C,X];refine⟨⟨⟨0,all,[]⟩,rfl,rfl,rfl,λq hq=>GV.oks_iff.2 λv h=>(by cases h),ω _,⟨by show all<=all;omega,G⟩,rfl⟩,?_⟩;rintro⟨j,al,fs⟩ ⟨hj,⟨hl0,u⟩,J⟩ ⟨p1,hp1,O⟩;simp only at hj hl0 u J O⊢;refine⟨λhlt=> ?_,λhge=> ?_⟩
 ·have A:j<a.fs.length:=by omega
  have H:=hfg _ (θ A);have Z:=λq (h:a.ok q)=>h.2.2.2.2 a.fs[j] (θ A);generalize hfj:a.fs[j]=f at*;have B:=λq (h:a.ok q)=>(show a.f.1≠noA/\q37 q (adr a.f.1 (j*9)) f.cells by rw[←hfj];exact w_ h A);obtain⟨cw,Y⟩:=wW f.nm hg;refine⟨⟨by omega,by omega⟩,(B p ha).1,f.nm,f.al.1,f.al.2.1,f.al.2.2,f.ty,f.hd,f.df.k,f.df.n,f.df.s,f.df.y.1,f.df.y.2.1,f.df.y.2.2,f.df.x.1,f.df.x.2.1,f.df.x.2.2,λq hq=>(B q hq.1.2.1).2,⟨g,f.nm⟩,rfl,rfl,rfl,rfl,gl,rfl,rfl,C,rfl,rfl,hg,λq hq=>hq.1.2.2,?_⟩;simp only;generalize (qm f.nm g).getD zJ=cj at*;refine⟨⟨λhno=>⟨λ_=>⟨⟨al,7,zV⟩,rfl,rfl,rfl,rfl,rfl,rfl,rfl,rfl,rfl,rfl,rfl,⟨by show all<=al;omega,by show al<=2001;omega,λ_=>u⟩,λq hq=>jc q⟩,λ_=>⟨f.df,rfl,rfl,rfl,rfl,rfl,rfl,rfl,rfl,rfl,λq hq=>(Z q hq.1.2.1).2,H.2⟩⟩,λhyes=>⟨cj,rfl,rfl,rfl,rfl,rfl,rfl,rfl,rfl,rfl,λq hq=>Y q hq.1.2.2,cw⟩⟩,?_⟩;intro c hcw _;refine⟨⟨by omega,by omega⟩,⟨S,x,al,f.ty,c,d+1⟩,rfl,rfl,rfl,rfl,rfl,rfl,rfl,rfl,rfl,rfl,rfl,rfl,rfl,rfl,rfl,⟨by show 2*(25- (d+1)).toNat<n;omega,hS,H.1,hcw,⟨by show 0<=al;omega,u⟩,by show 1<=d+1;omega,by show d+1<=21;omega⟩,λq hq=>⟨hq.1.1.1,hq.2⟩,?_⟩;rintro⟨a2,e,w⟩ V _;have V:al<=a2/\a2<=2001/\(e=0->a2<=2000):=V;simp only[true_and];refine⟨λhe=>⟨⟨a2,e,zV⟩,rfl,rfl,rfl,rfl,rfl,rfl,rfl,rfl,rfl,rfl,rfl,⟨by show all<=a2;omega,V.2⟩,λq hq=>jc q⟩,λhe=>⟨qv zn fs,by omega,⟨by omega,by omega⟩,⟨j+1,a2,fs++[w]⟩,by show((j+1:Nat):Int)=_;omega,rfl,by simp,by rw[zu];rfl,λq hq=>hq.1.1.1,λq hq=>uJ hq.1.1.2 (vQ hq.2),⟨by show j+1<=_;omega,⟨by show all<=a2;omega,V.2.2 he⟩,by show(fs++[w]).length=j+1;simp[J]⟩,by show _- (j+1)<_;omega⟩⟩
 ·intro a6 c _;refine⟨⟨al,0, .mk 0 (mkS []) (a6,fs.length,c) fs (Α,0,0) [] 0⟩,rfl,rfl,rfl,rfl,rfl,rfl,rfl,rfl,rfl,rfl,rfl,⟨by show all<=al;omega,by show al<=2001;omega,λ_=>u⟩,λq hq=> ?_⟩;have h2:=hq.2.2;rw[Δ (by rw[qv zn];exact ψ _)]at h2;show φ _ q;unfold φ;exact⟨⟨rfl,hq.2.1,h2⟩,qV,hq.1.2⟩
end
def zfl(n:Nat) (G:q1p P 74 (yB.below vD n)):q1p P 111 ((Qi LK).below yO (n+1)):=by
 have hA:=zq3 n G;have U:=zq5 n G;refine⟨hA.1,hA.2.1,hA.2.2.1,λs=> ?_⟩;obtain⟨T,e0,X⟩:=hA.2.2.2 s;obtain⟨C,e1,Y⟩:=U.2.2.2 s;have e:C=T:=Option.some.inj (e1.symm.trans e0);subst e;refine⟨C,e0,λF I w vs u a2 a3 a4 hp a5 A B=> ?_⟩;obtain⟨m,H,J,V,O⟩:=hp;rcases V with h|h
 ·exact X F I w vs u a2 a3 a4 ⟨m,H,J,h,O⟩ a5 A B
 ·exact Y F I w vs u a2 a3 a4 ⟨m,H,J,h,O⟩ a5 A B
def jjx(n:Nat) (hv:q1p P 74 (yB.below vD n)):q1p P 74 (yB.below vD (n+1)):=by
 refine zh (qcl qjq) (qdd (qgi hv (qgi (zfl n hv) (qgi (zzs n hv) (qgi zp1 (qgi zi1 (qgi j9t qjp))))))) (W:=wVl) Tryz.func74 λ⟨S,(x:SV),(all:Int),(t:Int),g,(d:Int)⟩=>(jjw n S x all t g d).mpr ?_;rintro⟨J,hS,⟨ht0,ht1⟩,hg,⟨hal0,hal1⟩,hd1,hd2⟩ ⟨p,_,hx,C⟩;have J:2*(25- d).toNat<n+1:=J;obtain⟨gl,gnl⟩:=Hy C;obtain⟨j,rfl⟩:=Η ht0;have hj:j<S.length:=by omega
 have sl:x.2.1=S.length:=hx.1.1;have hat:=λq (hq:qd S x q/\g.ok q)=>y_ hq.1 hj;have B:=λq (hq:qd S x q/\g.ok q)=>hq.1.2 S[j] (θ hj);have U:=hS.2 S[j] (θ hj);simp only[qB,exists_const,forall_const,δ,sl];refine⟨⟨by omega,by omega⟩,λh20=>⟨⟨all+1,3,zV⟩,rfl,rfl,rfl,rfl,rfl,rfl,rfl,rfl,rfl,rfl,rfl,⟨by show all<=all+1;omega,by show all+1<=2001;omega,λh=>(by have h:(3:Int)=0:=h;omega)⟩,λq hq=>jc q⟩,λh20=>⟨λu=>⟨⟨all+1,3,zV⟩,rfl,rfl,rfl,rfl,rfl,rfl,rfl,rfl,rfl,rfl,rfl,⟨by show all<=all+1;omega,by show all+1<=2001;omega,λh=>(by have h:(3:Int)=0:=h;omega)⟩,λq hq=>jc q⟩,λu=> ?_⟩⟩;refine⟨⟨by omega,by omega⟩,(hat p ⟨hx,C⟩).1,S[j].k,S[j].nm,S[j].al.1,S[j].al.2.1,S[j].al.2.2,S[j].it,S[j].sy.1,S[j].sy.2.1,S[j].sy.2.2,S[j].hd,S[j].df,S[j].sz,S[j].f.1,S[j].f.2.1,S[j].f.2.2,S[j].br.1,S[j].br.2.1,S[j].br.2.2,λq hq=>(hat q hq).2,?_⟩;have O:=θ hj;obtain⟨_,V,_,T⟩:=yH (B p ⟨hx,C⟩);generalize S[j]=a at*;simp only[V,T];have ret:∀(nn:Int) (ss:Ck) (ee:Int),∃b:qY,b.snd.snd.n=nn/\b.snd.snd.s=ss/\b.snd.snd.x.fst=noA/\b.snd.snd.x.snd.fst=0/\b.snd.snd.x.snd.snd=0/\b.snd.snd.y.fst=noA/\b.snd.snd.y.snd.fst=0/\b.snd.snd.y.snd.snd=0/\b.snd.snd.b=0/\b.snd.fst=ee/\b.fst=all+1/\jk all b/\∀(p:Nat->Option Obj),qd S x p/\g.ok p->b.snd.snd.ok p:=λnn ss ee=>⟨⟨all+1,ee, .mk nn ss (Α,0,0) [] (Α,0,0) [] 0⟩,rfl,rfl,rfl,rfl,rfl,rfl,rfl,rfl,rfl,rfl,rfl,⟨by show all<=all+1;omega,by show all+1<=2001;omega,λ_=>by show all+1<=2000;omega⟩,λq _=>by show φ _ q;unfold φ;exact⟨qV,qV,by unfold qqi;trivial⟩⟩;have H:∀{k b X:Int},a.k=k->bq k b X a.k=decide (X=b):=λ{k b X} h=>by unfold bq;rw[decide_eq_true h];rfl
 have G:∀{k b X:Int},¬a.k=k->bq k b X a.k=false:=λ{k b X} h=>by unfold bq;rw[decide_eq_false h];rfl
 have qk:∀{k b:Int},bq k b g.k a.k=π->a.k=k/\g.k=b:=λ{k b} h=>by unfold bq at h;rw[Ρ,decide_eq_true_eq,decide_eq_true_eq]at h;exact h
 have gn:=hg;rw[qzp]at gn;obtain⟨gsz,_,_,_,⟨Y,Z⟩,_,_⟩:=gn;refine⟨⟨⟨λh=>H h,λh=>G h⟩,λ_=>ret _ _ _,λ_=>⟨⟨λh=>H h,λh=>G h⟩,λ_=>ret _ _ _,λ_=>⟨⟨⟨λh=>⟨λu=>⟨λh3=> ?_,λh3=> ?_⟩,λu=> ?_⟩,λh=> ?_⟩,λh=> ?_,λh=>⟨λu=> ?_,λu=> ?_⟩⟩,λ_=>ret _ _ _,λ_=>⟨⟨λh=>H h,λh=>G h⟩,λ_=>⟨g.n,rfl,⟨Y,Z⟩,λb A=>⟨⟨by omega,by omega⟩,ret _ _ _⟩⟩,λ_=>⟨⟨λh=>H h,λh=>G h⟩,λ_=>⟨g.n,rfl,⟨Y,Z⟩,λb A=>ret _ _ _⟩,λ_=>⟨⟨λh=>H h,λh=>G h⟩,λ_=>ret _ _ _,λ_=>⟨⟨λh=> ?_,λh=>⟨λu=> ?_,λu=> ?_⟩⟩,λ_=>⟨g.s,rfl,by omega,λb A=>⟨⟨λ_=>⟨λ_=>⟨_,rfl⟩,λ_=>⟨_,rfl⟩⟩,λ_=>⟨_,rfl⟩⟩,λs hs=>ret _ _ _⟩⟩,λ_=>⟨⟨λh=>H h,λh=>G h⟩,λhE=>⟨⟨0,rfl⟩,λi hi=> ?_⟩,λ_=>⟨⟨⟨λh=>H h,λh=>G h⟩,λh=> ?_,λh=>⟨λu=> ?_,λu=> ?_⟩⟩,λhP=> ?_,λ_=>⟨⟨λh=>H h,λh=>G h⟩,λhR=> ?_,λ_ h14=>⟨⟨?xa,?xb⟩,?_⟩⟩⟩⟩⟩⟩⟩⟩⟩⟩⟩,ret _ _ _⟩
 ·unfold bI;rw[decide_eq_true h,decide_eq_true u,decide_eq_true h3];rfl
 ·unfold bI;rw[decide_eq_true h,decide_eq_true u,decide_eq_false h3];rfl
 ·unfold bI;rw[decide_eq_true h,decide_eq_false u];rfl
 ·unfold bI;rw[decide_eq_false h];rfl
 ·unfold bN;rw[h];rfl
 ·unfold bN;rw[h,qq3];exact H u
 ·unfold bN;rw[h,qq3];exact G u
 ·unfold bT;rw[decide_eq_true h,Bool.true_or,qzi]
 ·unfold bT;rw[decide_eq_true u,qz2,qzi]
 ·unfold bT;rw[decide_eq_false h,decide_eq_false u];rfl
 ·have hi':i<a.sys.length:=by omega
  have ty:=λq (hq:qd S x q/\g.ok q)=>CU (B q hq).2.1 hi';have h30:=U.2.2.2.2.2.2.2.2.2;exact⟨⟨by omega,by omega⟩,(ty p ⟨hx,C⟩).1,a.sys[i],λq hq=>(ty q hq).2,λ_=>ret _ _ _,λ_=>⟨⟨by omega,by omega⟩,i+1,by omega,by omega⟩⟩
 ·unfold bP;rw[h];rfl
 ·unfold bP;rw[h,qq3];exact H u
 ·unfold bP;rw[h,qq3];exact G u
 ·have hpar:LK a g:=by
   unfold bP at hP;rw[qqo]at hP;rcases hP with h|h
   ·exact .inl (qk h).1
   ·exact .inr (qk h)
  refine⟨⟨S,x,all+1,a,g,d⟩,rfl,rfl,rfl,rfl,rfl,rfl,rfl,V,rfl,rfl,rfl,rfl,rfl,rfl,rfl,rfl,T,rfl,rfl,rfl,rfl,rfl,rfl,rfl,rfl,rfl,rfl,rfl,rfl,sl,rfl,rfl,⟨J,hS,O,hpar,hg,⟨by show 0<=all+1;omega,by show all+1<=2000;omega⟩,hd1,by show d<=20;omega⟩,λq hq=>⟨hq.1,B q hq,hq.2⟩,?_⟩;rintro⟨a2,e,w⟩ A _;have A:all+1<=a2/\a2<=2001/\(e=0->a2<=2000):=A;exact⟨⟨a2,e,w⟩,rfl,rfl,rfl,rfl,rfl,rfl,rfl,rfl,rfl,rfl,rfl,sl.symm,rfl,rfl,⟨by show all<=a2;omega,A.2⟩,λq hq=>hq.2⟩
 ·have hrec:isRec a g:=(qk hR).1;refine⟨⟨S,x,all+1,a,g,d⟩,rfl,rfl,rfl,rfl,rfl,rfl,rfl,V,rfl,rfl,rfl,rfl,rfl,rfl,rfl,rfl,T,rfl,rfl,rfl,rfl,rfl,rfl,rfl,rfl,rfl,rfl,rfl,rfl,sl,rfl,rfl,⟨J,hS,O,hrec,hg,⟨by show 0<=all+1;omega,by show all+1<=2000;omega⟩,hd1,by show d<=20;omega⟩,λq hq=>⟨hq.1,B q hq,hq.2⟩,?_⟩;rintro⟨a2,e,w⟩ A _;have A:all+1<=a2/\a2<=2001/\(e=0->a2<=2000):=A;exact⟨⟨a2,e,w⟩,rfl,rfl,rfl,rfl,rfl,rfl,rfl,rfl,rfl,rfl,rfl,sl.symm,rfl,rfl,⟨by show all<=a2;omega,A.2⟩,λq hq=>hq.2⟩
 case xa|xb=>
  have h0:0<a.brs.length:=List.length_pos_iff.2 (U.2.2.2.1 h14);have hbr:=U.2.2.1 _ (θ h0);refine⟨⟨by omega,by omega⟩,(uO (B p ⟨hx,C⟩) h0).1,a.brs[0],λq hq=>(uO (B q hq) h0).2,⟨by omega,by omega⟩,⟨S,x,all+1,a.brs[0],g,d+1⟩,rfl,rfl,rfl,rfl,rfl,rfl,rfl,rfl,rfl,rfl,rfl,rfl,sl,rfl,rfl,⟨by show 2*(25- (d+1)).toNat<n;omega,hS,hbr,hg,⟨by show 0<=all+1;omega,by show all+1<=2000;omega⟩,by show 1<=d+1;omega,by show d+1<=21;omega⟩,λq hq=>hq,?_⟩;rintro⟨a2,e,w⟩ A _;have A:all+1<=a2/\a2<=2001/\(e=0->a2<=2000):=A;exact⟨⟨a2,e,w⟩,rfl,rfl,sl.symm,rfl,rfl,rfl,rfl,rfl,rfl,rfl,rfl,rfl,rfl,rfl,λq hq=>hq.1,λq hq=>hq.2,⟨by show all<=a2;omega,A.2⟩⟩
 ·rintro⟨a2,e,w⟩ A _ b s1 _;refine⟨⟨a2,e, .mk 0 (mkS []) (ς ⟨b,s1+0,Α⟩,1,1) [w] (Α,0,0) [] 0⟩,rfl,rfl,rfl,rfl,rfl,rfl,rfl,rfl,rfl,rfl,rfl,A,λq hq=> ?_⟩;show φ _ q;unfold φ;refine⟨⟨rfl,ψ _, .inr ⟨⟨b,s1+0,Α⟩,rfl,rfl,λi v hi=> ?_⟩⟩,qV,vQ hq.1.2⟩;rw[qa,qa,qqg]at hi;exact hq.2 i v hi
def zwb:∀n,q1p P 74 (yB.below vD n)
 |0=>qq0 (by decide) (by decide) (Sen.enters_of Tryz.func74 (by kernel_rfl)) λs=>rfl
 |n+1=>jjx n (zwb n)
def jao:q1p P 74 yB:=qzk zwb
def zyb(x:SV) (t:Int):qk2 P (λ_=>Α) Tryz.f30 KX (λ_=>{}) ⟨x,t⟩=(True->(decide ((0:Int)<=t)=π->(decide ((0:Int)<=t)&&decide (t<(↑(qzu (qzv x)):Int)))=decide (t<(↑(qzu (qzv x)):Int))/\True)/\(decide ((0:Int)<=t)=ι->(decide ((0:Int)<=t)&&decide (t<(↑(qzu (qzv x)):Int)))=ι/\True)):=by kernel_rfl
section
variable (d:Int) (z:SV) (a:List AT) (c:GV) (A:Nat) (G:Prop) (v:Int) (B:Ck) (C:Option Addr) (D:Nat) (e:Int) (g:Option Addr) (h i:Nat) (j:Bool) (l:Ck) (u:Int) (m:Option Addr) (o p:Nat) (q:Option Addr) (r t F:Nat) (R:(Option Addr×Nat×Nat)×Int)
 abbrev BU:= !(decide (0<=R.2)&&decide (R.2<(↑R.1.2.1:Int)))
 def YH:=Ν a d (qq5 c)=ι/\True
 def kH:=z.1=z.1/\z.2.1=z.2.1/\z.2.2=z.2.2/\Λ c=Λ c/\Μ c=Μ c/\(ξ c).1=(ξ c).1/\(ξ c).2.1=(ξ c).2.1/\(ξ c).2.2=(ξ c).2.2/\(ρ c).1=(ρ c).1/\(ρ c).2.1=(ρ c).2.1/\(ρ c).2.2=(ρ c).2.2/\Ψ c=Ψ c/\d=d/\B=B/\C=C/\A=A/\D=D/\v=v/\g=g/\h=h/\i=i/\j=j/\l=l/\e=e/\m=m/\o=o/\p=p/\q=q/\r=r/\t=t/\(∀E,True/\qd a z E/\φ c E->True/\qd a z E/\φ c E)/\True/\True
 def ZS:=q8 (AT.k (qe a d))=ι/\nB (AT.k (qe a d))=π/\qp (AT.k (qe a d))=ι/\G
 abbrev YG:=(-2147483648:Int)<=ν i64 (Λ c)
 def Ky:=decide (YG c)=decide (YG c)
 def cI:=Ky c/\Ky c/\Ky c/\Ji (YG c) (∃(E:Unit),jb a (qe a d) c=decide (ν i64 (Λ c)<2147483648)/\ZS d a (kH v z a c A e B C D u g h i j l m o p q r t)) (∃(w:Unit),jb a (qe a d) c=ι/\ZS d a (kH v z a c A e B C D u g h i j l m o p q r t))
 def cH:=Ji (YG c) (cI d z a c A v B C D e g h i j l u m o p q r t) (Ky c/\Ky c/\Ky c/\Ji (YG c) (∃(H:Unit),False) (∃(S:Unit),jb a (qe a d) c=ι/\ZS d a (kH v z a c A e B C D u g h i j l m o p q r t)))
 def cN:=Ji (AT.k (qe a d)=4) (∃(E:Unit),v=v/\Qg (AT.k (qe a d))=decide (AT.k (qe a d)=4)/\kH v z a c A e B C D u g h i j l m o p q r t) (∃(w:Unit),v=v/\Qg (AT.k (qe a d))=decide (v=6)/\kH v z a c A e B C D u g h i j l m o p q r t)
 def Mv:=q8 (AT.k (qe a d))=π/\nB (AT.k (qe a d))=ι/\qp (AT.k (qe a d))=ι/\G
 def cG:=Ji (d=11) (∃(E:Unit),jb a (qe a v) c=decide ((↑(size (Μ c)):Int)=e)/\Mv v a (kH d z a c A u B C D e g h i j l m o p q r t)) (∃(w:R5),w.2.1.1=z.1/\w.2.1.2.1=z.2.1/\w.2.1.2.2=z.2.2/\AT.k w.2.2.1=d/\AT.nm w.2.2.1=B/\(AT.al w.2.2.1).1=C/\(AT.al w.2.2.1).2.1=A/\(AT.al w.2.2.1).2.2=D/\AT.it w.2.2.1=u/\(AT.sy w.2.2.1).1=g/\(AT.sy w.2.2.1).2.1=h/\(AT.sy w.2.2.1).2.2=i/\AT.hd w.2.2.1=j/\AT.df w.2.2.1=l/\AT.sz w.2.2.1=e/\(AT.f w.2.2.1).1=m/\(AT.f w.2.2.1).2.1=o/\(AT.f w.2.2.1).2.2=p/\(AT.br w.2.2.1).1=q/\(AT.br w.2.2.1).2.1=r/\(AT.br w.2.2.1).2.2=t/\Λ w.2.2.2=Λ c/\Μ w.2.2.2=Μ c/\(ξ w.2.2.2).1=(ξ c).1/\(ξ w.2.2.2).2.1=(ξ c).2.1/\(ξ w.2.2.2).2.2=(ξ c).2.2/\(ρ w.2.2.2).1=(ρ c).1/\(ρ w.2.2.2).2.1=(ρ c).2.1/\(ρ w.2.2.2).2.2=(ρ c).2.2/\Ψ w.2.2.2=Ψ c/\(AC w<F+1/\G/\small w.1/\QG w.1/\length (AT.fs w.2.2.1)<1000000/\PV.sm (qq5 w.2.2.2)/\qp (AT.k w.2.2.1)=π)/\(∀H,True/\qd a z H/\φ c H->qd w.1 w.2.1 H/\qzd w.2.2.1 H/\φ w.2.2.2 H)/\∃(S:Unit),jb a (qe a v) c=Wb w.1 w.2.2.1 w.2.2.2/\q8 (AT.k (qe a v))=ι/\nB (AT.k (qe a v))=ι/\qp (AT.k (qe a v))=π/\kH d z a c A u B C D e g h i j l m o p q r t)
 def cE:=Ji (d=8) (Μ c=Μ c/\size (Μ c)<9223372036854775808/\∃(E:Unit),jb a (qe a v) c=qP (Μ c)/\Mv v a (kH d z a c A e B C D u g h i j l m o p q r t)) (cG d z a c A G v B C D u g h i j l e m o p q r t F)
 def oM:=Ji (d=7) (∃(E:Unit),jb a (qe a v) c=π/\Mv v a (kH d z a c A e B C D u g h i j l m o p q r t)) (cE d z a c A G v B C D e g h i j l u m o p q r t F)
 def oL:=Ji (d=10) (∃(E:Unit),jb a (qe a v) c=decide (Λ c<ν u64 (↑A:Int))/\ZS v a (kH d z a c D e B C h u g A i j l m o p q r t)) (oM d z a c D G v B C h e g A i j l u m o p q r t F)
 def oK:=Ji (d=5) (∃(E:Unit),jb a (qe a v) c=decide (Λ c<4294967296)/\ZS v a (kH d z a c A e B C D u g h i j l m o p q r t)) (oL d z a c h G v B C A e g D i j l u m o p q r t F)
 def oI:=(Qg (AT.k (qe a d))=π->∃(E:Unit),jb a (qe a d) c=π/\ZS d a (kH v z a c A e B C D u g h i j l m o p q r t))/\(Qg (AT.k (qe a d))=ι->oK v z a c A G d B C D e g h i j l u m o p q r t F)
 def oH:=((∃(E:Unit),d=d/\decide (AT.k (qe a v)=4)=decide (d=4)/\kH d z a c A e B C D u g h i j l m o p q r t)/\∀(w:Unit),True->cN v z a c A d B C D e g h i j l u m o p q r t)/\∀(T:Unit),True->oI v z a c A G d B C D e g h i j l u m o p q r t F
 def oG:=Ji (d=3) (cH v z a c A d B C D e g h i j l u m o p q r t) (oH d z a c A G v B C D e g h i j l u m o p q r t F)
 def oF:=Ji (d=2) (∃(E:Unit),jb a (qe a v) c=decide (Λ c<=1)/\ZS v a (kH d z a c A e B C D u g h i j l m o p q r t)) (oG d z a c A G v B C D e g h i j l u m o p q r t F)
 def Mu:=jb a (qe a d) c=jb a (qe a d) c/\q8 (AT.k (qe a d))=q8 (AT.k (qe a d))/\nB (AT.k (qe a d))=nB (AT.k (qe a d))/\G
 def BQ:=((!decide (d=14))=π->∃(E:Unit),Mu v a c (wq (qe a v) c= !decide (Ψ c=0)/\qp (AT.k (qe a v))=qp (AT.k (qe a v))/\kH d z a c A e B C D u g h i j l m o p q r t))/\((!decide (d=14))=ι->∃(w:Unit),Mu v a c (wq (qe a v) c=ι/\qp (AT.k (qe a v))=qp (AT.k (qe a v))/\kH d z a c A e B C D u g h i j l m o p q r t))
 def cK:=Ji (0<(↑(ρ c).2.1:Int)) (∃(E:Unit),Mu d a c (wq (qe a d) c=π/\qp (AT.k (qe a d))=qp (AT.k (qe a d))/\kH v z a c A e B C D u g h i j l m o p q r t)) (BQ v z a c A d B C D e g h i j l u m o p q r t)
 def BS:=(qp (AT.k (qe a d))=π->Ν a d (qq5 c)=π/\True)/\(qp (AT.k (qe a d))=ι->Ν a d (qq5 c)=decide ((↑(ξ c).2.1:Int)=0)/\True)
 def cP:=Ji (Μ c=mkS []) (BS d a c) (YH d a c)
 def BR:=(q8 (AT.k (qe a d))=π->BS d a c)/\(q8 (AT.k (qe a d))=ι->cP d a c)
 def cO:=Ji (Λ c=0) (BR d a c) (YH d a c)
 def cM:=(nB (AT.k (qe a d))=π->BR d a c)/\(nB (AT.k (qe a d))=ι->cO d a c)
 def cL:=(jb a (qe a d) c=π->cM d a c)/\(jb a (qe a d) c=ι->YH d a c)
 def cJ:=(wq (qe a d) c=π->YH d a c)/\(wq (qe a d) c=ι->cL d a c)
 def oJ:=(((!decide (d=13))=π->cK v z a c A d B C D e g h i j l u m o p q r t)/\((!decide (d=13))=ι->BQ d z a c A v B C D e g h i j l u m o p q r t))/\∀(U:Unit),True->cJ v a c
 def oE:=(0<=d/\d<(↑z.2.1:Int))/\z.1≠noA/\∃(E:Int),∃w,∃H,∃(S:Nat),∃(T:Nat),∃(U:Int),∃V,∃(W:Nat),∃(i8:Nat),∃(X:Bool),∃I,∃(J:Int),∃K,∃(L:Nat),∃(M:Nat),∃N,∃(i16:Nat),∃(O:Nat),(∀Q,True/\qd a z Q/\φ c Q->q37 Q (adr z.1 (toNat d*10)) [int i64 E,string w,slice H S T,int i64 U,slice V W i8,bool X,string I,int i64 J,slice K L M,slice N i16 O])/\(Ji (E=1) (∃(Y:Unit),jb a (qe a d) c=π/\q8 (AT.k (qe a d))=ι/\nB (AT.k (qe a d))=ι/\qp (AT.k (qe a d))=ι/\kH E z a c S U w H T J V W i8 X I K L M N i16 O) (oF E z a c S G d w H T U V W i8 X I J K L M N i16 O A))/\∀(Z:Unit),True->oJ E z a c S d w H T U V W i8 X I J K L M N i16 O
end
def zi7(h:Prop) (n:Nat) (S:List AT) (x:SV) (t:Int) (v:GV):qk2 P (qf5 [(30,KX),(59,uP),(79,(zhn h).below AC (n+1))]) Tryz.f40 ((H' h).below AB (n+1)) (zwc) ⟨S,x,t,v⟩=(AB (S,x,t,v)<n+1/\(small S/\QG S/\PV.sm (qq5 v))/\Np h (S,x,t,v)->(∃(p:Pub),True/\qd S x p/\φ v p)->∃(s:(Option Addr×Nat×Nat)×Int),s.1.1=x.1/\s.1.2.1=x.2.1/\s.1.2.2=x.2.2/\s.2=t/\True/\((BU s)=π->YH t S v)/\((BU s)=ι->oE t x S v n h)):=by kernel_rfl
def zot:=λh n S x t v=>Ο (zi7 h n S x t v) (by delta Ji Jt Jf BU YH kH ZS YG Ky cI cH cN Mv cG cE oM oL oK oI oH oG oF Mu BQ cK BS cP BR cO cM cL cJ oJ oE;exact rfl)
def Ut:q4p P 30 KX:=by
 refine qA js (W:=λ_=>{}) Tryz.func30 λ⟨(x:SV),(t:Int)⟩=>(zyb x t).mpr ?_;intro _;simp only[qB,δ];refine⟨λh=> ?_,λh=> ?_⟩
 ·rw[decide_eq_true h];rfl
 ·rw[decide_eq_false h];rfl
def Pn:∀x y:List UInt8,(qqq x y||decide (x=y))= !Op.bytesLess y x
  | [],[]=>by simp[qqq]
  | [],b::y=>by simp[qqq]
  |a::x,[]=>by simp[qqq]
  | a ::x,b::y=>by
    have C:=Pn x y;rw[qqq,qqq];have B:a<b\/a=b\/b<a:=by
      rcases Nat.lt_trichotomy a.toNat b.toNat with h|h|h
      · exact .inl (UInt8.lt_iff_toNat_lt.2 h)
      · exact .inr (.inl (UInt8.toNat_inj.1 h))
      · exact .inr (.inr (UInt8.lt_iff_toNat_lt.2 h))
    rcases B with h|h|h
    · have u:¬b<a:=qzr h;have A:¬b=a:=λe=>(by subst e;exact qzb _ h);simp[h,u,A]
    · subst h;have u:¬a<a:=qzb a;simp[u];rw[←C]
    · have u:¬a<b:=qzr h;have A:¬a=b:=λe=>(by subst e;exact qzb _ h);simp[h,u,A]
def QI(x y:Ck):(qdf x y=π\/x=y)↔qdf y x=false:=by
 have h:=Pn x.toList y.toList;have e:=qi4 x y;unfold qdf;by_cases u:x=y
 ·have:x.toList=y.toList:=by rw[u]
  rw[decide_eq_true this,qz2]at h;simp[u];rw[u]at h;simpa using h.symm
 ·have:¬x.toList=y.toList:=λg=>by rw[g]at e;simp at e;exact u e
  rw[decide_eq_false this,Bool.or_false]at h;rw[h];simp[u]
def zou(kq:Prop) (n:Nat) (hf:q4p P 79 ((zhn kq).below AC (n+1))):q4p P 40 ((H' kq).below AB (n+1)):=by
  refine qA (qcl (qgj Ut (qgj z45 (qgj hf qjq)))) (W:=zwc) Tryz.func40 λ⟨S,(x:SV),(t:Int),v⟩=>(zot kq n S x t v).mpr ?_;rintro⟨hmu,⟨hS,hkS,hv⟩,hlf⟩ ⟨p,_,hx,hvo⟩;have hmu:SizeOf.sizeOf v<n+1:=hmu;have xl:=GV.x_len hvo;have yl:=GV.y_len hvo;have sl:x.2.1=S.length:=hx.1.1;have hvs:=hv;rw[GV.sm_eq]at hvs;obtain⟨hn,hs,vl,kl,hsz,_⟩:=hvs;simp only[qB,exists_const,forall_const,δ,xl,yl,sl];have J:Ν S t v.pv=if t<0\/S.length<=t then ι else match S[t.toNat]? with
    |none=>ι
    | some a=>if zo a.k=π then vi a v.n&&decide (v.s.size=0)&&Z8 v.l.length v.ks.length v.b else
      if q8 a.k=π then yV a v.s&&decide (v.n=0)&&Z8 v.l.length v.ks.length v.b else
      if qp a.k=π then vj a v.l.length v.ks v.b&&qza S (qG a v.b) 0 (qqh v.l)&&decide (v.n=0)&&decide (v.s.size=0)else false:=by rw[GV.pv_eq,Ν,qq7]<;>rfl
  refine⟨⟨x,t⟩,rfl,sl,rfl,rfl,?_⟩;simp only[sl];refine⟨λh=> ?_,λh=> ?_⟩
  · rw[J,if_pos];by_cases A:0<=t
    · rw[decide_eq_true A,qzi]at h;have:=of_decide_eq_false h;omega
    · omega
  rw[Ρ,decide_eq_true_eq,decide_eq_true_eq]at h;obtain⟨j,rfl⟩:=Η h.1;have hj:j<S.length:=by omega
  have hae:qe S (j:Int)=S[j]:=by unfold qe;rw[δ,τ hj];rfl
  rw[if_neg (by omega)]at J;have hlf:qp (qe S (j:Int)).k=π->kq:=hlf;rw[hae]at hlf;rw[hae];simp only[δ,τ hj]at J⊢;have hat:=λq (hq:qd S x q/\v.ok q)=>y_ hq.1 hj;have hao:=λq (hq:qd S x q/\v.ok q)=>hq.1.2 S[j] (θ hj);have hsm:=hS.2 S[j] (θ hj);have hkk:=hkS S[j] (θ hj);have syl:S[j].sy.2.1=S[j].sys.length:=(hao p ⟨hx,hvo⟩).2.1.1;refine⟨⟨by omega,by omega⟩,(hat p ⟨hx,hvo⟩).1,S[j].k,S[j].nm,S[j].al.1,S[j].al.2.1,S[j].al.2.2,S[j].it,S[j].sy.1,S[j].sy.2.1,S[j].sy.2.2,S[j].hd,S[j].df,S[j].sz,S[j].f.1,S[j].f.2.1,S[j].f.2.2,S[j].br.1,S[j].br.2.1,S[j].br.2.2,λq hq=>(hat q hq).2,?_⟩;have hao2:=λq (hq:qd S x q/\v.ok q)=>hao q hq;generalize S[j]=a at*;clear hat hao hae;have w64:ν .i64 v.n=if v.n<9223372036854775808 then v.n else v.n- 18446744073709551616:=by unfold ν;simp[qq2,qqw];omega
  have u64:ν .u64 (a.sys.length:Int)=a.sys.length:=by rw[zli];omega
  simp only[syl,u64];have kinds:a.k=1\/a.k=2\/a.k=3\/a.k=4\/a.k=5\/a.k=6\/a.k=7\/a.k=8\/a.k=9\/a.k=10\/a.k=11\/a.k=12\/a.k=13\/a.k=14:=by omega
  have hin:qp a.k=π->jb S a v=Wb S a v:=λh=>by unfold qp at h;have h:=of_decide_eq_true h;unfold jb zo q8;rw[if_neg (by omega),if_neg (by simp;omega),if_neg (by simp;omega)]
  have B:wq a v=π↔(a.k≠13/\0<v.ks.length)\/(a.k≠14/\v.b≠0):=by unfold wq;simp
  have u:wq a v=ι↔¬((a.k≠13/\0<v.ks.length)\/(a.k≠14/\v.b≠0)):=by rw[←B];simp
  have sE:(v.s=mkS [])↔v.s.size=0:=zz0;have key:Ν S (j:Int) v.pv=(!wq a v&&jb S a v&&(nB a.k||decide (v.n=0))&&(q8 a.k||decide (v.s=mkS []))&&(qp a.k||decide (v.l.length=0))):=by
    rw[J,Bool.eq_iff_iff];by_cases Y:zo a.k=π
    · have hk1:=of_decide_eq_true Y;have hT:q8 a.k=false:=decide_eq_false (by omega);have hQ:qp a.k=false:=decide_eq_false (by omega);rw[if_pos Y,hT,hQ];have hok:(jb S a v&&(nB a.k||decide (v.n=0)))=vi a v.n:=by
        unfold jb;by_cases A:a.k=1
        · rw[if_pos A];unfold nB vi;rw[if_pos A,decide_eq_false (by omega)];rfl
        · rw[if_neg A,if_pos Y];unfold nB;rw[decide_eq_true (by omega)];simp
      have e:(!wq a v&&jb S a v&&(nB a.k||decide (v.n=0))&&(ι||decide (v.s=mkS []))&&(ι||decide (v.l.length=0)))=(!wq a v&&(jb S a v&&(nB a.k||decide (v.n=0)))&&(ι||decide (v.s=mkS []))&&(ι||decide (v.l.length=0))):=(by simp only[Bool.and_assoc]);rw[e,hok];unfold Z8;simp only[Ρ,qqo,qq9,decide_eq_true_eq,u,sE,qq4,false_or];constructor
      · rintro⟨⟨A,T⟩,⟨G,X⟩,H⟩;exact⟨⟨⟨by omega,A⟩,T⟩,G⟩
      · rintro⟨⟨⟨A,T⟩,G⟩,X⟩;exact⟨⟨T,G⟩,⟨X,by omega⟩,by omega⟩
    · rw [if_neg Y];have hN':zo a.k=false:=(by simpa using Y);have nn:nB a.k=false:=by have:=of_decide_eq_false hN';exact decide_eq_false (by omega)
      by_cases hT:q8 a.k=π
      · have hk1:=of_decide_eq_true hT;have hQ:qp a.k=false:=decide_eq_false (by omega);have hok:jb S a v=yV a v.s:=(by unfold jb;rw[if_neg (by omega),if_neg Y,if_pos hT]);rw[if_pos hT,hQ,nn,hT,hok];unfold Z8;simp only[Ρ,qqo,qq9,decide_eq_true_eq,u,sE,qq4,false_or,true_or,and_true];constructor
        · rintro⟨⟨A,T⟩,⟨G,X⟩,H⟩;exact⟨⟨⟨by omega,A⟩,T⟩,G⟩
        · rintro⟨⟨⟨A,T⟩,G⟩,X⟩;exact⟨⟨T,G⟩,⟨X,by omega⟩,by omega⟩
      · have hT':q8 a.k=false:=(by simpa using hT);have hQ:qp a.k=true:=by have A:=of_decide_eq_false hT';have T:=of_decide_eq_false hN';exact decide_eq_true (by omega)
        have hk1:=of_decide_eq_true hQ;rw[if_neg hT,if_pos hQ,hQ,nn,hT',hin hQ];have hop:vj a v.l.length v.ks v.b=(!wq a v&&Nx a v.l.length v.ks v.b):=by
          unfold vj Nx;by_cases hb:v.ks.length>0/\a.k≠13\/v.b≠0/\a.k≠14
          · rw[if_pos hb,B.2 (by omega)];rfl
          · rw[if_neg hb,u.2 (by omega)];rfl
        unfold Wb;rw[hop];simp only[Ρ,qqo,qq9,decide_eq_true_eq,u,sE,qq4,false_or,true_or,and_true];constructor
        · rintro⟨⟨⟨⟨A,T⟩,G⟩,X⟩,H⟩;exact⟨⟨⟨A,T,G⟩,X⟩,H⟩
        · rintro⟨⟨⟨A,T,G⟩,X⟩,H⟩;exact⟨⟨⟨⟨A,T⟩,G⟩,X⟩,H⟩
  have C:∀k:Int,a.k=k->(zo k=π\/q8 k=π)->jb S a v=(if k=1 then π else if zo k=π then vi a v.n else yV a v.s)/\q8 a.k=q8 k/\nB a.k=nB k/\qp a.k=qp k:=λk hk hh=>by
    subst hk;refine⟨?_,rfl,rfl,rfl⟩;unfold jb;by_cases A:a.k=1
    · rw[if_pos A,if_pos A]
    · rw[if_neg A,if_neg A];by_cases Y:zo a.k=π
      · rw[if_pos Y,if_pos Y]
      · rw[if_neg Y,if_neg Y,if_pos (hh.resolve_left Y)]
  have oN:∀k:Int,a.k=k->vi a v.n=(if k=1 then decide (v.n=0)else if k=2 then decide (v.n<=1)else if k=3 then decide (v.n<2147483648\/18446744071562067968<=v.n)else if k=5 then decide (v.n<4294967296)else if k=10 then decide (v.n<a.sys.length)else π):=λk hk=>by subst hk;rfl
  have oT:∀k:Int,a.k=k->yV a v.s=(if k=8 then qP v.s else if k=11 then decide ((v.s.size:Int)=a.sz)else π):=λk hk=>by subst hk;rfl
  clear J;refine⟨⟨λA=> ?_,λA=>⟨λT=> ?_,λT=>⟨λG=>⟨λH=>⟨λ_=> ?_,λh=>absurd H h⟩,λH=>⟨λh=>absurd h H,λ_=> ?_⟩⟩,λG=>⟨⟨trivial,λX=> ?_,λX=> ?_⟩,λU=> ?_,λU=>⟨λH=> ?_,λH=>⟨λh10=> ?_,λh10=>⟨λh7=> ?_,λh7=>⟨λh8=>⟨hs,?_⟩,λh8=>⟨λh11=> ?_,λh11=> ?_⟩⟩⟩⟩⟩⟩⟩⟩⟩,⟨λh13=>⟨λhk=> ?_,λhk=>⟨λZ=> ?_,λZ=> ?_⟩⟩,λh13=>⟨λZ=> ?_,λZ=> ?_⟩⟩,λhB=> ?_,λhB=>⟨λho=>⟨λO=>⟨λht=>⟨λhq=> ?_,λhq=> ?_⟩,λht=>⟨λV=>⟨λhq=> ?_,λhq=> ?_⟩,λV=> ?_⟩⟩,λO=>⟨λhn0=>⟨λht=>⟨λhq=> ?_,λhq=> ?_⟩,λht=>⟨λV=>⟨λhq=> ?_,λhq=> ?_⟩,λV=> ?_⟩⟩,λhn0=> ?_⟩⟩,λho=> ?_⟩⟩
  · have:=C 1 A (.inl rfl);exact this
  · have:=C 2 T (.inl rfl);rw[oN 2 T]at this;exact this
  · have:=C 3 G (.inl rfl);rw[oN 3 G]at this;refine⟨this.1.trans ?_,this.2⟩;show decide (v.n<2147483648\/18446744071562067968<=v.n)=_;rw[w64]at H⊢;split at H<;>exact j6 (by omega)
  · have:=C 3 G (.inl rfl);rw[oN 3 G]at this;refine⟨this.1.trans ?_,this.2⟩;show decide (v.n<2147483648\/18446744071562067968<=v.n)=_;rw[w64]at H;split at H<;>exact decide_eq_false (by omega)
  · unfold Qg;rw[X];rfl
  · unfold Qg;rw[decide_eq_false X];rfl
  · unfold Qg at U;rw[qqo,decide_eq_true_eq,decide_eq_true_eq]at U;rcases U with h|h
    · have:=C 4 h (.inl rfl);rw[oN 4 h]at this;exact this
    · have:=C 6 h (.inl rfl);rw[oN 6 h]at this;exact this
  · have:=C 5 H (.inl rfl);rw[oN 5 H]at this;exact this
  · have:=C 10 h10 (.inl rfl);rw[oN 10 h10]at this;exact this
  · have:=C 7 h7 (.inr rfl);rw[oT 7 h7]at this;exact this
  · have:=C 8 h8 (.inr rfl);rw[oT 8 h8]at this;exact this
  · have:=C 11 h11 (.inr rfl);rw[oT 11 h11]at this;exact this
  · have hb6:¬a.k=4/\¬a.k=6:=(by unfold Qg at U;rw[Bool.or_eq_false_iff,decide_eq_false_iff_not,decide_eq_false_iff_not]at U;exact U);have hQ:qp a.k=true:=decide_eq_true (by omega);refine⟨⟨S,x,a,v⟩,rfl,sl,rfl,rfl,rfl,rfl,rfl,rfl,rfl,rfl,syl,rfl,rfl,rfl,rfl,rfl,rfl,rfl,rfl,rfl,rfl,rfl,rfl,rfl,xl,rfl,rfl,yl,rfl,rfl,⟨hmu,hlf hQ,hS,hkS,hsm.1,hv,hQ⟩,λq hq=>⟨hq.1,hao2 q hq,hq.2⟩,hin hQ,decide_eq_false (by unfold qp at hQ;have:=of_decide_eq_true hQ;omega),decide_eq_false (by unfold qp at hQ;have:=of_decide_eq_true hQ;omega),hQ⟩
  · exact B.2 (.inl ⟨h13,by omega⟩)
  · by_cases hb:v.b=0
    · rw[decide_eq_true hb];exact u.2 (by omega)
    · rw[decide_eq_false hb];exact B.2 (.inr ⟨Z,hb⟩)
  · exact u.2 (by omega)
  · by_cases hb:v.b=0
    · rw[decide_eq_true hb];exact u.2 (by omega)
    · rw[decide_eq_false hb];exact B.2 (.inr ⟨Z,hb⟩)
  · exact u.2 (by omega)
  · rw[key,hB];rfl
  all_goals first
    | (rw[key,hB,ho,O,ht,hq];simp[hn0,V];done)
    | (rw[key,hB,ho,O,ht];simp[hn0,V];done)
    | (rw[key,hB,ho,O,ht,hq];simp[hn0];done)
    | (rw[key,hB,ho,O,ht,hq];simp[V];done)
    | (rw[key,hB,ho,O,ht];simp[V];done)
    | (rw[key,hB,ho,O,ht,hq];simp;done)
    | (rw[key,hB,ho,O];simp[hn0];done)
    | (rw[key,hB,ho];simp;done)
def zi6:q4p P 40 (H' False):=Ct.of_below fun
 |0=>Ct.below_zero (by decide) (by decide) (Sen.enters_of Tryz.func40 (by kernel_rfl)) λs=>⟨rfl,rfl⟩
 |n+1=>zou False n (Ct.never (show 1<=1 by decide) (show 1<=1 by decide) (Sen.enters_of Tryz.func79 (by kernel_rfl)) (λs=>⟨rfl,rfl⟩) λs h=>h.2.1)
def Wz(N:List Ck) (r k:Nat):List (Nat×AO):=[(2, .cells 34 (ς 0) ι [.ssl r 0 N.length 1 k]),(r, .row 9 0 (qa qn N))]
abbrev j_:=SV×List Int×Int×Int×List Ck
abbrev zS:=GJ×Int×List Ck
def zz4(L:List Int) (n:Int) (N:List Ck):Prop:=N.length<=n+1/\∀t∈N,t.size<100
def kS(L:List Int) (n:Int) (N:List Ck):zS->Prop:=λ⟨g,n',N'⟩=>g.wf/\n<=n'/\n'<=L.length/\N.length<=N'.length/\N'.length+n<=N.length+n'/\∀t∈N',t.size<100
def wg(h:Int):j_->Prop:=λ⟨x,L,n,d,N⟩=>0<=n/\n<=L.length/\z8 L/\0<=d/\d<=h/\zz4 L n N
def trM:j_->PF:=λ⟨x,L,n,d,N⟩=>Y3 x L
def xT:CtR where
 σ:=j_
 args:=λ⟨x,L,n,d,N⟩=>[.ptr 1 0, .sv (.int .i64 d), .ptr 2 0]
 h:=λ⟨x,L,n,d,N⟩=>jf x n++Wz N 3 4
 m:=5
 pre:=wg 4
 mem:=trM
 β:=λ_=>zS
 post:=λ⟨x,L,n,d,N⟩ b=>kS L n N b
 pm:=λ_ ⟨g,n',N'⟩=>gM g
 r:=λ_ ⟨g,n',N'⟩=>g.av
 h':=λ⟨x,L,n,d,N⟩ ⟨g,n',N'⟩=>jf x n'++Wz N' 5 6
 m':=7
def Lf:CtR:={xT with pre:=wg 3}
def J7:CtR where
 σ:=Ck×j_
 args:=λ⟨s,x,L,n,d,N⟩=>[.ptr 1 0, .sv (.string s), .sv (.int .i64 d), .ptr 2 0]
 h:=λ⟨s,x,L,n,d,N⟩=>jf x n++Wz N 3 4
 m:=5
 pre:=λ⟨s,t⟩=>s.size<100/\wg 3 t
 mem:=λ⟨s,t⟩=>trM t
 β:=λ_=>zS
 post:=λ⟨s,x,L,n,d,N⟩ b=>kS L n N b
 pm:=λ_ ⟨g,n',N'⟩=>gM g
 r:=λ_ ⟨g,n',N'⟩=>g.av
 h':=λ⟨s,x,L,n,d,N⟩ ⟨g,n',N'⟩=>jf x n'++Wz N' 5 6
 m':=7
def j9:j_->Nat:=λ⟨x,L,n,d,N⟩=>(10- d).toNat
def K4:Ck×j_->Nat:=λ⟨s,t⟩=>j9 t
def C6:j_->WayF:=λ⟨x,L,n,d,N⟩=>{
  cut :=λi t _=>match i with
    |4=>ς {σ:=Int,pre:=λk=>0<=k/\k<20/\(8<=k->d<=3/\n<L.length),t:=λk=>[(7, .sv (.int .i64 k))],h:=λ_=>jf x (qh L n),more:=0,μ:=λ_=>0,keep:=[0,1,2,6]}
    | 15=>match jO t 7 with
      |some k=>ς {σ:=Unit,pre:=λ_=>14<=k,t:=λ_=>[],h:=λ_=>[],more:=0,μ:=λ_=>0,keep:=[0,1,2,6,7]}
      |none=>Α
    |_=>Α
  pub:=λi k=>match i,k with
    |8,9=>[42]
    |10,9=>[54]
    |18,9=>[113]
    |20,7=>[120]
    |24,1=>[147]
    |_,_=>[]}
def zwm:j_->WayF:=λ_=>{
 pub:=λi k=>match i,k with
  |7,1=>[40]
  |_,_=>[]}
abbrev Zd:=Int×Int×List Ck×List GJ
def LO(L:List Int) (h:Int) (N0:List Ck) (m:Int):Zd->Prop:=λ⟨i,n,N,fs⟩=>0<=i/\i<=m/\m<5/\(fs.length:Int)=i/\qqp fs/\h<=n/\n<=L.length/\N0.length<=N.length/\N.length+h<=N0.length+n/\∀t∈N,t.size<100
def fsM(fs:List GJ):PF:=⟨π,qqe fs,λ_ _ h e=>GJ.oks_mono h e⟩
def zel:Ck×j_->WayF:=λ⟨s,x,L,u,d,N0⟩=>{
 ann:=λ_ t _=>match jO t 11 with
  |some m=>ς {σ:=Zd,pre:=LO L u N0 m,mem:=λ⟨i,n,N,fs⟩=>fsM fs,t:=λ⟨i,n,N,fs⟩=>[(10, .sv (.int .i64 i))],h:=λ⟨i,n,N,fs⟩=>jf x n++Wz N 9 10++[(6, .cells 62 (ς 0) ι [.int .i64 5, .int .i64 0, .str [], .ssl 7 0 fs.length 5 8, .nsl]),(7, .row 62 0 (qa qqd fs))],more:=4,μ:=λ⟨i,n,N,fs⟩=>(m- i).toNat,keep:=[0,1,2,3,8,9,11],del:=[3]}
  |none=>Α
 pub:=λi k=>match i,k with
  |9,3=>[56]
  |_,_=>[]
 pubE:=[1000008]}
section
variable (e:Int) (c:SV) (b:List Int) (l:Int) (f:List Ck) (A:Int) (i:Nat) (r:Ck) (q:List Int) (t:Nat) (Z:List Int) (h:Nat->Option Obj) (a:zS) (m:j_) (L:Nat) (x15:Option Addr) (p:Prop) (U:Nat) (o:zS)
 abbrev vY:=c.1=c.1/\c.2.1=c.2.1/\c.2.2=c.2.2/\p
 def U':=0<e/\e<1000000/\z8 b
 def YI:=(∀d,True/\qc qj c b d->qc qj (c.1,c.2.1,c.2.2) q d)
 def U9:=qa qn f=qa qn f/\length f=length f/\(∀d,True/\qc qj c b d->True/\qc qj c b d)/\p
 def MD:=0<=e/\e<20/\(8<=e->l<=3/\A<(↑(length b):Int))
 def BV:=(8:Int)≠0/\∃(d:Int),e=e/\d=qq1 (qo b l 20) 8/\vY c (qh q l=qh b l/\U9 c q f ((MD d q e l)/\True))
 def B1:=χ a.1=4/\Ε a.1=0/\Θ a.1=r/\(ε a.1).1=noA/\(ε a.1).2.1=0/\(ε a.1).2.2=0/\(ζ a.1).1=noA/\(ζ a.1).2.1=0/\(ζ a.1).2.2=0/\p
 def B7:=qa qn a.2.2=qa qn f/\length a.2.2=length f/\kS b e f a/\(∀d,True/\qc qj c b d->υ a.1 d)/\True
 def cX:=(0<=e/\e<(↑(nat_lit 8):Int))/\∃d,qga [string (mkS [105,110,116]),string (mkS [108,111,110,103]),string (mkS [115,116,114,105,110,103]),string (mkS [98,121,116,101,115]),string (mkS [98,111,111,108,101,97,110]),string (mkS [110,117,108,108]),string (mkS [102,108,111,97,116]),string (mkS [100,111,117,98,108,101])] (nat_lit 0+toNat e*1) [string d]/\d=d/\True/\∃(z:zS),B1 d z (vY c (z.2.1=qh b l/\B7 l c b f z))
 def Da:=True/\Jb (e+1)/\p
 def MB:=m.1.1=c.1/\m.1.2.1=c.2.1/\m.1.2.2=c.2.2/\m.2.2.1=qh b e/\qa qn m.2.2.2.2=qa qn f/\length m.2.2.2.2=length f/\p
 def MF:=(∀d,True/\qc qj c b d->qc qj m.1 m.2.1 d)
 def U_:=∃d,(True/\qc qj c b d)/\υ a.1 d
 def Mz:=((True/\qc qj c b h)/\υ a.1 h)/\q37 h (Ξ i t Α) [int i64 4,int i64 0,string (mkS [97,114,114,97,121]),slice noA 0 0,slice noA 0 0,int i64 (χ a.1),int i64 (Ε a.1),string (Θ a.1),slice (ε a.1).1 (ε a.1).2.1 (ε a.1).2.2,slice (ζ a.1).1 (ζ a.1).2.1 (ζ a.1).2.2]
 abbrev YJ:=mkS [116,121,112,101]
 abbrev B9:=q37 h (Ξ i t Α) [string (YJ),string (mkS [105,116,101,109,115])]
 def ME:=χ a.1=6/\Ε a.1=0/\Θ a.1=mkS []/\p
 abbrev Kz:=Ξ i (t+nat_lit 0) Α
 def Db:=a.2.1=o.2.1/\qa qn a.2.2=qa qn o.2.2/\length a.2.2=length o.2.2/\p
 def B4:=c.1=m.1.1/\c.2.1=m.1.2.1/\c.2.2=m.1.2.2/\Db a p o
 def BW:=ME a ((ε a.1).1=ς (Kz i t)/\(ε a.1).2.1=nat_lit 2/\(ε a.1).2.2=nat_lit 2/\(ζ a.1).1=ς (Kz L U)/\(ζ a.1).2.1=nat_lit 2/\(ζ a.1).2.2=nat_lit 2/\B4 c a m p o)
 def cS:=True/\∀(d z j:Nat),(∃u,Mz c b d z u a)->∀(B v S:Nat),(∃D,(Mz c b d z D a)/\B9 B v D)->∃(i8:zS),BW c d z i8 m B (kS b e f i8/\(∀E,(Mz c b d z E a)/\B9 B v E->υ i8.1 E)/\True) v a
 def cQ:=mkS [97,114,114,97,121]=mkS [97,114,114,97,121]/\Da e (∃(d:j_),d.2.2.2.1=e+1/\MB l c b f d ((j9 d<i/\wg 4 d)/\MF c b d/\∀(j:zS),kS d.2.1 d.2.2.1 d.2.2.2.2 j->(U_ c b j)->cS l c b f j d))
 def MA:=((True/\qc qj c b h)/\υ a.1 h)/\q37 h (Ξ i t Α) [int i64 4,int i64 0,string (mkS [109,97,112]),slice noA 0 0,slice noA 0 0,int i64 (χ a.1),int i64 (Ε a.1),string (Θ a.1),slice (ε a.1).1 (ε a.1).2.1 (ε a.1).2.2,slice (ζ a.1).1 (ζ a.1).2.1 (ζ a.1).2.2]
 abbrev B8:=q37 h (Ξ i t Α) [string (YJ),string (mkS [118,97,108,117,101,115])]
 def cU:=True/\∀(d z j:Nat),(∃u,MA c b d z u a)->∀(B v S:Nat),(∃D,(MA c b d z D a)/\B8 B v D)->∃(i8:zS),BW c d z i8 m B (kS b e f i8/\(∀E,(MA c b d z E a)/\B8 B v E->υ i8.1 E)/\True) v a
 def cR:=mkS [109,97,112]=mkS [109,97,112]/\Da e (∃(d:j_),d.2.2.2.1=e+1/\MB l c b f d ((j9 d<i/\wg 4 d)/\MF c b d/\∀(j:zS),kS d.2.1 d.2.2.1 d.2.2.2.2 j->(U_ c b j)->cU l c b f j d))
 def BX:=χ a.1=χ o.1/\Ε a.1=Ε o.1/\Θ a.1=Θ o.1/\(ε a.1).1=(ε o.1).1/\(ε a.1).2.1=(ε o.1).2.1/\(ε a.1).2.2=(ε o.1).2.2/\(ζ a.1).1=(ζ o.1).1/\(ζ a.1).2.1=(ζ o.1).2.1/\(ζ a.1).2.2=(ζ o.1).2.2/\p
 def MH:=0<=qh b e/\qh b e<=(↑(length q):Int)/\p
 def cW:=Ji (0<(↑(length f):Int)) (∃(d:List Int),(↑(length f):Int)=(↑(length f):Int)/\vY c (qh b e=qh b e/\(MH e b d (0<(↑(length f):Int)/\(↑(length f):Int)<1000000/\z8 d))/\YI c b d/\(0<=qo d (qh b e) (↑(length f):Int)/\qo d (qh b e) (↑(length f):Int)<(↑(length f):Int))/\∃j,qga (qa qn f) (nat_lit 0+toNat (qo d (qh b e) (↑(length f):Int))*nat_lit 1) [string j]/\j=j/\True/\AV.ssl (nat_lit 3) (nat_lit 0) (length f) (nat_lit 1) (nat_lit 4)=AV.ssl (nat_lit 3) (nat_lit 0) (length f) (nat_lit 1) (nat_lit 4)/\∃(u:zS),B1 j u (vY c (u.2.1=qh d (qh b e)/\B7 e c b f u)))) (∃(v:Unit),l=l/\A=A/\vY c (qh b e=qh b e/\U9 c b f (14<=A/\True)))
 def cV:=Ji (e=14) (cW l c b A f e) (∃(D:Unit),A=A/\e=e/\vY c (qh b l=qh b l/\U9 c b f (14<=e/\True)))
 def oY:=Ji (e<14) (∃(d:j_),d.2.2.2.1=l/\MB A c b f d ((j9 d<i+1/\wg 3 d)/\MF c b d/\∀(j:zS),kS d.2.1 d.2.2.1 d.2.2.2.2 j->(U_ c b j)->∃(B:zS),BX B (B4 c B d (kS b A f B/\(∀v,(True/\qc qj c b v)/\υ j.1 v->υ B.1 v)/\True) j) j)) (cV e c b A f l)
 def oV:=Ji (e=10) (cR l c b A f i) (oY e c b l f A i)
 def oU:=Ji (e<10) (cQ l c b A f i) (oV e c b l f A i)
 def My:=(True/\qc qj c b h)/\q37 h (Ξ i t Α) [int i64 4,int i64 0,string (mkS [102,105,120,101,100]),slice noA 0 0,slice noA 0 0,int i64 4,int i64 0,string (mkS [78]++r),slice noA 0 0,slice noA 0 0,int i64 3,int i64 (qo q (qh b e) 4),string (mkS []),slice noA 0 0,slice noA 0 0]
 abbrev MG:=mkS [110,97,109,101]
 abbrev B6:=q37 h (Ξ i t Α) [string (YJ),string (MG),string (mkS [115,105,122,101])]
 def BZ:=ME a ((ε a.1).1=ς (Kz i t)/\(ε a.1).2.1=nat_lit 3/\(ε a.1).2.2=nat_lit 3/\(ζ a.1).1=ς (Kz L U)/\(ζ a.1).2.1=nat_lit 3/\(ζ a.1).2.2=nat_lit 3/\p)
 def MC:=qa qn a.2.2=qa qn f++[string (mkS [78]++r)]/\length a.2.2=length f+nat_lit 1/\kS b e f a/\p
 def oX:=mkS [102,105,120,101,100]=mkS [102,105,120,101,100]/\True/\mkS [78]++r=mkS [78]++r/\True/\∃(d:List Int),(4:Int)=4/\vY c (qh b e=qh b e/\(MH e b d (U' 4 d))/\YI c b d/\True/\∀(j u B:Nat),(∃v,My e c b j r d u v)->∀(S D i8:Nat),(∃E,(My e c b j r d u E)/\B6 S D E)->∃(F:zS),BZ j u F S (vY c (F.2.1=qh d (qh b e)/\MC e b f r F ((∀M,(My e c b j r d u M)/\B6 S D M->υ F.1 M)/\True))) D)
 def U8:=(True/\qc qj c b h)/\q37 h (Ξ i t Α) [int i64 4,int i64 0,string (mkS [88]),slice noA 0 0,slice noA 0 0,int i64 4,int i64 0,string (mkS [89]),slice noA 0 0,slice noA 0 0,int i64 4,int i64 0,string (mkS [90]),slice noA 0 0,slice noA 0 0]
 abbrev B5:=Int.rec (λ(d:Nat)=>(λ(z:Nat)=>(λ(j:Nat)=>j) z) d) (λ(u:Nat)=>(λ(B:Nat)=>(λ(v:Nat)=>(0:Nat)) B) u) ((1:Int)+qo b (qh q e) 3)- nat_lit 0
 def Mw:=(U8 c b i t h)/\nat_lit 4<=L/\qgm h x15 (take (nat_lit 4*nat_lit 5) ([int i64 4,int i64 0,string (mkS [101,110,117,109]),slice noA 0 0,slice noA 0 0,int i64 4,int i64 0,string (mkS [78]++r),slice noA 0 0,slice noA 0 0,int i64 5,int i64 0,string (mkS []),slice (slA (ς (Kz i t)) (nat_lit 3) (nat_lit 0) 5) (B5 e q b) (nat_lit 3- nat_lit 0),slice noA 0 0]++[int i64 4,int i64 0,string (mkS [88]),slice noA 0 0,slice noA 0 0]))
 abbrev B_:=mkS [115,121,109,98,111,108,115]
 abbrev BY:=take (nat_lit 4*nat_lit 1) ([string (YJ),string (MG),string (B_)]++[string (mkS [100,101,102,97,117,108,116])])
 def oW:=(nat_lit 3+1)*16<=140737488355328/\mkS [88]=mkS [88]/\True/\(nat_lit 3+1)*80<=140737488355328/\∀(d z j:Nat) (u:Option Addr) (B v:Nat),(∃S,Mw e c b i r q t S v u)->∀(i13 i14 i15:Nat) (i16:Option Addr) (i17 N:Nat),(∃V,(Mw e c b i r q t V v u)/\nat_lit 4<=N/\qgm V i16 (BY))->∃(w:zS),ME w ((ε w.1).1=u/\(ε w.1).2.1=nat_lit 4/\(ε w.1).2.2=v/\(ζ w.1).1=i16/\(ζ w.1).2.1=nat_lit 4/\(ζ w.1).2.2=N/\vY c (w.2.1=qh Z (qh q (qh b e))/\MC e b f r w ((∀O,(Mw e c b i r q t O v u)/\nat_lit 4<=N/\qgm O i16 (BY)->υ w.1 O)/\True)))
 def Mx:=(U8 c b i t h)/\q37 h (Ξ L U Α) [int i64 4,int i64 0,string (mkS [101,110,117,109]),slice noA 0 0,slice noA 0 0,int i64 4,int i64 0,string (mkS [78]++r),slice noA 0 0,slice noA 0 0,int i64 5,int i64 0,string (mkS []),slice (slA (ς (Kz i t)) (nat_lit 3) (nat_lit 0) 5) (B5 e q b) (nat_lit 3- nat_lit 0),slice noA 0 0]
 abbrev B3:=q37 h (Ξ i t Α) [string (YJ),string (MG),string (B_)]
 def oS:=nat_lit 3<=nat_lit 3/\((0:Int)<=1+qo b (qh q e) 3/\(1:Int)+qo b (qh q e) (3:Int)<=(↑(nat_lit 3):Int))/\mkS [101,110,117,109]=mkS [101,110,117,109]/\True/\mkS [78]++r=mkS [78]++r/\True/\True/\∃(d:List Int),(2:Int)=2/\vY c (qh b (qh q e)=qh b (qh q e)/\(0<=qh b (qh q e)/\qh b (qh q e)<=(↑(length d):Int)/\U' 2 d)/\(∀z,U8 c q i t z->qc qj (c.1,c.2.1,c.2.2) d z)/\Ji (qo d (qh b (qh q e)) (2:Int)=0) (oW e c q f i r b t d) (∀(G H i38:Nat),(∃Y,Mx e c q i r b t Y G H)->∀(I Q i48:Nat),(∃W,(Mx e c q i r b t W G H)/\B3 I Q W)->∃(J:zS),BZ G H J I (vY c (J.2.1=qh d (qh b (qh q e))/\MC e q f r J ((∀R,(Mx e c q i r b t R G H)/\B3 I Q R->υ J.1 R)/\True))) Q))
 def oR:=mkS [88]=mkS [88]/\True/\mkS [89]=mkS [89]/\True/\mkS [90]=mkS [90]/\True/\∃(d:List Int),(3:Int)=3/\vY c (qh b e=qh b e/\(MH e b d (U' 3 d))/\YI c b d/\((-9223372036854775808:Int)<=1+qo d (qh b e) 3/\(1:Int)+qo d (qh b e) (3:Int)<=9223372036854775807)/\∀(j u B:Nat),(∃v,U8 c b j u v)->oS e c d f j r b u)
 def oQ:=Ji (e=16) (oR l c b f r) (∃(g:Ck×j_),g.1=mkS [78]++r/\g.2.2.2.2.1=A/\g.2.1.1=c.1/\g.2.1.2.1=c.2.1/\g.2.1.2.2=c.2.2/\g.2.2.2.1=qh b l/\qa qn g.2.2.2.2.2=qa qn f++[string (mkS [78]++r)]/\length g.2.2.2.2.2=length f+nat_lit 1/\(K4 g<i+1/\size g.1<100/\wg 3 g.2)/\(∀X,True/\qc qj c b X->qc qj g.2.1 g.2.2.1 X)/\∀(C:zS),kS g.2.2.1 g.2.2.2.1 g.2.2.2.2.2 C->(U_ c b C)->∃(K:zS),BX K (c.1=g.2.1.1/\c.2.1=g.2.1.2.1/\c.2.2=g.2.1.2.2/\Db K (kS b l f K/\(∀T,(True/\qc qj c b T)/\υ C.1 T->υ K.1 T)/\True) C) C)
 def oP:=(26:Int)≠0/\((-9223372036854775808:Int)<=97+qq1 (↑(length f):Int) 26/\(97:Int)+qq1 (↑(length f):Int) (26:Int)<=9223372036854775807)/\∃d,size d=1/\qga [int u8 (ν u8 ((97:Int)+qq1 (↑(length f):Int) 26))] 0 (q18 d)/\size (mkS [78])+size d<=9223372036854775807/\length (qa qn f)=length f*1/\(length f+nat_lit 1)*16<=140737488355328/\Ji (e=15) (oX l c b f d) (oQ e c b l f A i d)
 def oO:=(Ji (e<8) (cX e c b l f) (oU e c b A f l i))/\∀(I:Unit),14<=e->oP e c b l f A i
end
def zr3(c:Nat) (x:SV) (L:List Int) (n d:Int) (N:List Ck):qk3 P (qf5 [(23,Q4),(22,UE),(72,Yq),(71,Yk)]) (qg7 [(70,xT.below j9 c),(106,Lf.below j9 (c+1)),(33,J7.below K4 (c+1))]) Tryz.f70 (xT.below j9 (c+1)) (C6) ⟨x,L,n,d,N⟩=(j9 (x,L,n,d,N)<c+1/\wg 4 (x,L,n,d,N)->(∃(p:Pub),True/\qc qj x L p)->∃(b:List Int),(20:Int)=20/\vY x (n=n/\(0<=n/\n<=(↑(length b):Int)/\U' 20 b)/\YI x L b/\(Ji (3<d) (BV d x b n N L) (∃(h:List Int),vY x (qh b n=qh b n/\True/\YI x L h/\Ji ((↑(length h):Int)<=qh b n) (BV d x b n N L) (∃(s:Int),d=d/\s=qo b n 20/\vY x (qh L n=qh b n/\U9 x L N ((MD s L d n)/\True))))))/\∀(s:Int),MD s L d n->oO s x L n N d c)):=by kernel_rfl
def j0a:=λc x L n d N=>Ο (zr3 c x L n d N) (by delta Ji Jb Jt Jf vY U' YI U9 MD BV B1 B7 cX Da MB MF U_ Mz YJ B9 ME Kz Db B4 BW cS cQ MA B8 cU cR BX MH cW cV oY oV oU My MG B6 BZ MC oX U8 B5 Mw B_ BY oW Mx B3 oS oR oQ oP oO;exact rfl)
section
variable (b:SV) (e:Int) (d:List Int) (D:Int) (l:List Ck) (u:Nat) (a:zS) (v:Ck) (f:j_) (F:List Int) (z:zS) (p:Prop) (g:Nat->Option Obj) (A:Option Addr) (I:Nat)
 abbrev De:=(2:Int)=2/\b.1=b.1/\b.2.1=b.2.1/\b.2.2=b.2.2/\p
 def Dg:=(∀c,True/\qc qj b d c->qc qj (b.1,b.2.1,b.2.2) F c)
 abbrev Di:=Jb (e+1)
 def Df:=f.2.2.2.1=e+1/\f.1.1=b.1/\f.1.2.1=b.2.1/\f.1.2.2=b.2.2/\p
 def Dd:=qa qn f.2.2.2.2=qa qn l/\length f.2.2.2.2=length l/\(j9 f<u/\wg 4 f)/\(∀c,True/\qc qj b d c->qc qj f.1 f.2.1 c)/\p
 def ZT:=(True/\qc qj b d g)/\υ a.1 g
 abbrev Xb:=mkS [110,117,108,108]
 abbrev FE:=[int i64 4,int i64 0,string (Xb),slice noA 0 0,slice noA 0 0]++[int i64 4,int i64 0,string v,slice noA 0 0,slice noA 0 0]
 def SB:=(ZT b d a g)/\nat_lit 3<=u/\qgm g A (take (nat_lit 3*nat_lit 5) ([int i64 4,int i64 0,string (Xb),slice noA 0 0,slice noA 0 0]++[int i64 4,int i64 0,string v,slice noA 0 0,slice noA 0 0]++[int i64 (χ a.1),int i64 (Ε a.1),string (Θ a.1),slice (ε a.1).1 (ε a.1).2.1 (ε a.1).2.2,slice (ζ a.1).1 (ζ a.1).2.1 (ζ a.1).2.2]))
 def Xa:=χ a.1=5/\Ε a.1=0/\Θ a.1=mkS []/\p
 def Wq:=(ζ a.1).1=noA/\(ζ a.1).2.1=0/\(ζ a.1).2.2=0/\b.1=f.1.1/\b.2.1=f.1.2.1/\b.2.2=f.1.2.2/\a.2.1=z.2.1/\qa qn a.2.2=qa qn z.2.2/\length a.2.2=length z.2.2/\kS d e l a/\p
 def o8:=length (FE v)=nat_lit 2*5/\(nat_lit 2+nat_lit 1)*80<=140737488355328/\∀(c J o:Nat) (t:Option Addr) (B i:Nat),(∃H,SB b d i a v H t)->∃(j:zS),Xa j ((ε j.1).1=t/\(ε j.1).2.1=nat_lit 3/\(ε j.1).2.2=i/\Wq b e d l j f a ((∀i8,SB b d i a v i8 t->υ j.1 i8)/\True))
 def Dh:=(ε a.1).1=A/\(ε a.1).2.1=nat_lit 2/\(ε a.1).2.2=u/\p
 def o5:=Ji (χ a.1=6) (o8 b e d l a v f) (∀(E r G:Nat) (q:Option Addr) (h m:Nat),(∃C,(ZT b d a C)/\nat_lit 2<=m/\qgm C q (take (nat_lit 2*nat_lit 5) (FE v)))->∃(i16:zS),Xa i16 (Dh m i16 (Wq b e d l i16 f a ((∀w,(ZT b d a w)/\nat_lit 2<=m/\qgm w q (take (nat_lit 2*nat_lit 5) (FE v))->υ i16.1 w)/\True)) q))
 def SC:=(ZT b d a g)/\nat_lit 2<=u/\qgm g A (take (nat_lit 2*nat_lit 5) ([int i64 4,int i64 0,string (Xb),slice noA 0 0,slice noA 0 0]++[int i64 (χ a.1),int i64 (Ε a.1),string (Θ a.1),slice (ε a.1).1 (ε a.1).2.1 (ε a.1).2.2,slice (ζ a.1).1 (ζ a.1).2.1 (ζ a.1).2.2]))
 def o9:=(nat_lit 1+1)*80<=140737488355328/\∀(c J o:Nat) (t:Option Addr) (B i:Nat),(∃H,SC b d i a H t)->∃(j:zS),Xa j (Dh i j (Wq b e d l j f a ((∀i8,SC b d i a i8 t->υ j.1 i8)/\True)) t)
 def Dc:=(ZT b d a g)/\q37 g (Ξ u I Α) [int i64 4,int i64 0,string (Xb),slice noA 0 0,slice noA 0 0]
 def o7:=Ji (χ a.1=6) (o9 b e d l a f) (∀(E r G:Nat),(∃q,Dc b d E a q r)->∃(h:zS),Xa h ((ε h.1).1=ς (Ξ E (r+nat_lit 0) Α)/\(ε h.1).2.1=nat_lit 1/\(ε h.1).2.2=nat_lit 1/\Wq b e d l h f a ((∀m,Dc b d E a m r->υ h.1 m)/\True)))
 def o6:=Di e/\∃(c:j_),Df b e c (c.2.2.1=qh d D/\Dd b F l u c (∀(o:zS),kS c.2.1 c.2.2.1 c.2.2.2.2 o->(∃t,ZT b F o t)->o7 b D F l o c))
 def oZ:=mkS [110,117,108,108]=mkS [110,117,108,108]/\True/\∃(c:List Int),De b (e=e/\(0<=e/\e<=(↑(length c):Int)/\(0:Int)<2/\(2:Int)<1000000/\z8 c)/\Dg b d c/\Ji (qo c e (2:Int)=0) (∃(o:List Int),De b (qh c e=qh c e/\(0<=qh c e/\qh c e<=(↑(length o):Int)/\(0:Int)<2/\(2:Int)<1000000/\z8 o)/\Dg b d o/\(0<=qo o (qh c e) 2/\qo o (qh c e) (2:Int)<(↑(2:Nat):Int))/\∃B,qga [string (mkS [105,110,116]),string (mkS [115,116,114,105,110,103])] ((0:Nat)+toNat (qo o (qh c e) 2)*1) [string B]/\B=B/\True/\(nat_lit 1+1)*80<=140737488355328/\Di D/\∃(i:j_),Df b D i (i.2.2.1=qh o (qh c e)/\Dd b d l u i (∀(j:zS),kS i.2.1 i.2.2.1 i.2.2.2.2 j->(∃i8,ZT b d j i8)->o5 b e d l j B i)))) (o6 b D c e l u d))
end
def zkn(c:Nat) (x:SV) (L:List Int) (n d:Int) (N:List Ck):qk3 P (qf5 [(23,Q4),(72,Yq)]) (qg7 [(70,xT.below j9 c)]) Tryz.f106 (Lf.below j9 (c+1)) (zwm) ⟨x,L,n,d,N⟩=(j9 (x,L,n,d,N)<c+1/\wg 3 (x,L,n,d,N)->(∃(p:Pub),True/\qc qj x L p)->oZ x n L d N c):=by kernel_rfl
def union_eq:=λc x L n d N=>Ο (zkn c x L n d N) (by delta Ji Jb Jt Jf De Dg Di Df Dd ZT Xb FE SB Xa Wq o8 Dh o5 SC o9 Dc o7 o6 oZ;exact rfl)
section
variable (b:Zd) (g:List Int) (m E:Int) (e:SV) (u:Nat) (q:List Int) (o:Ck) (B:List Ck) (a:zS) (d:j_) (z:Ck) (p:List Int) (j:List Int×GJ) (t K:Option Addr) (l:Nat) (h:Nat->Option Obj) (D L:Nat) (A:Prop) (M:Zd)
 abbrev ML:=e.1=e.1/\e.2.1=e.2.1/\e.2.2=e.2.2/\A
 def QU:=(True/\qc qj e g h)/\qqe b.2.2.2 h
 abbrev Dp:=slice (ε a.1).1 (ε a.1).2.1 (ε a.1).2.2
 abbrev Dq:=slice (ζ a.1).1 (ζ a.1).2.1 (ζ a.1).2.2
 def Dj:=AV.agg [AV.sv (int i64 (χ a.1)),AV.sv (int i64 (Ε a.1)),AV.sv (string (Θ a.1)),AV.sv (Dp a),AV.sv (Dq a)]=AV.agg [AV.sv (int i64 (χ a.1)),AV.sv (int i64 (Ε a.1)),AV.sv (string (Θ a.1)),AV.sv (Dp a),AV.sv (Dq a)]
 def Dn:=d.1.1=d.1.1/\d.1.2.1=d.1.2.1/\d.1.2.2=d.1.2.2/\A
 def cY:=qc qj (d.1.1,d.1.2.1,d.1.2.2) j.1 h/\υ j.2 h
 abbrev Xc:=zR j.2 j.1 (qh g a.2.1)
 def Wr:=((QU b g e h)/\υ a.1 h)/\nat_lit 3<=u/\qgm h t (take (nat_lit 3*nat_lit 5) ([int i64 4,int i64 0,string (mkS [102]++o),slice noA 0 0,slice noA 0 0,int i64 (χ a.1),int i64 (Ε a.1),string (Θ a.1),slice (ε a.1).1 (ε a.1).2.1 (ε a.1).2.2,slice (ζ a.1).1 (ζ a.1).2.1 (ζ a.1).2.2]++[int i64 (Xc q a j).1,int i64 (Xc q a j).2.1,string (Xc q a j).2.2.1,slice noA 0 0,slice noA 0 0]))
 abbrev MN:=mkS [110,97,109,101]
 abbrev MM:=mkS [116,121,112,101]
 def MJ:=nat_lit 3<=u/\qgm h t (take (nat_lit 3*nat_lit 1) ([string (MN),string (MM)]++[string (mkS [100,101,102,97,117,108,116])]))
 def Dl:=length (qa qqd b.2.2.2)=length b.2.2.2*5/\(length b.2.2.2+nat_lit 1)*80<=140737488355328/\Jb (b.1+1)/\A
 def Dm:=qo g m (5:Int)=qo g m 5/\E=E/\b.1=M.1+1/\e.1=d.1.1/\e.2.1=d.1.2.1/\e.2.2=d.1.2.2/\A
 def Do:=qa qn b.2.2.1=qa qn a.2.2/\length b.2.2.1=length a.2.2/\length b.2.2.2=length M.2.2.2+nat_lit 1/\A
 def Dr:=LO g m B (qo q m 5) b/\toNat (qo q m 5- b.1)<toNat (qo q m 5- M.1)/\True
 def ph:=Dl b (∃(c:Zd),o=o/\Dm c g m E e d (c.2.1=(Xc q a j).2.2.2/\qa qqd c.2.2.2=qa qqd b.2.2.2++[int i64 6,int i64 0,string (mkS []),slice t (nat_lit 3) u,slice K (nat_lit 3) l]/\Do c a ((∀i,(Wr b p e u q z a j t i)/\MJ l K i->True/\qc qj e p i)/\(∀r,(Wr b p e u q z a j t r)/\MJ l K r->qqe c.2.2.2 r)/\Dr c p m g B b) b) b)
 def pd:=(nat_lit 2+1)*16<=140737488355328/\∃(c:List Int×GJ),χ c.2=χ a.1/\Ε c.2=Ε a.1/\Θ c.2=Θ a.1/\(ε c.2).1=(ε a.1).1/\(ε c.2).2.1=(ε a.1).2.1/\(ε c.2).2.2=(ε a.1).2.2/\(ζ c.2).1=(ζ a.1).1/\(ζ c.2).2.1=(ζ a.1).2.1/\(ζ c.2).2.2=(ζ a.1).2.2/\Dn d (qh g a.2.1=qh g a.2.1/\(0<=qh g a.2.1/\qh g a.2.1<=(↑(length c.1):Int)/\z8 c.1/\Ω c.2)/\(∀i,(QU b q e i)/\υ a.1 i->cY d c i)/\(nat_lit 2+1)*80<=140737488355328/\Dj a/\∀(r F X:Nat) (G:Option Addr) (U H:Nat),(∃i8,Wr b q e H g o a c G i8)->∀(Y N C:Nat) (v:Option Addr) (S w:Nat),(∃f,(Wr b q e H g o a c G f)/\MJ w v f)->ph b p m E e H g z B a d o q c G v w)
 def Ws:=((QU b g e h)/\υ a.1 h)/\q37 h (Ξ u l Α) [int i64 4,int i64 0,string (mkS [102]++o),slice noA 0 0,slice noA 0 0,int i64 (χ a.1),int i64 (Ε a.1),string (Θ a.1),slice (ε a.1).1 (ε a.1).2.1 (ε a.1).2.2,slice (ζ a.1).1 (ζ a.1).2.1 (ζ a.1).2.2]
 abbrev MK:=q37 h (Ξ u l Α) [string (MN),string (MM)]
 def pj:=Dl b (∃(c:Zd),o=o/\Dm c g m E e d (c.2.1=qh q a.2.1/\qa qqd c.2.2.2=qa qqd b.2.2.2++[int i64 6,int i64 0,string (mkS []),slice (ς (Ξ u (l+nat_lit 0) Α)) (nat_lit 2) (nat_lit 2),slice (ς (Ξ D (L+nat_lit 0) Α)) (nat_lit 2) (nat_lit 2)]/\Do c a ((∀i,(Ws b p e u z a l i)/\MK D L i->True/\qc qj e p i)/\(∀r,(Ws b p e u z a l r)/\MK D L r->qqe c.2.2.2 r)/\Dr c p m g B b) b) b)
 def pc:=((-9223372036854775808:Int)<=97+b.1/\(97:Int)+b.1<=9223372036854775807)/\∃c,size c=1/\qga [int u8 (ν u8 ((97:Int)+b.1))] 0 (q18 c)/\size (mkS [102])+size c<=9223372036854775807/\mkS [102]++c=mkS [102]++c/\True/\True/\Dj a/\∃(i:List Int),(3:Int)=3/\Dn d (a.2.1=a.2.1/\(0<=a.2.1/\a.2.1<=(↑(length i):Int)/\(0:Int)<3/\(3:Int)<1000000/\z8 i)/\(∀r,(QU b g e r)/\υ a.1 r->qc qj (d.1.1,d.1.2.1,d.1.2.2) i r)/\Ji (qo i a.2.1 (3:Int)=0) (pd b i m E e g c B a d o q) (∀(I J V:Nat),(∃T,Ws b g e I c a J T)->∀(O Q W:Nat),(∃R,(Ws b g e I c a J R)/\MK O Q R)->pj b q m E e I i o B a d c g J O Q))
 def pa:=Jb (m+1)/\∃(c:j_),c.2.2.2.1=m+1/\c.1.1=e.1/\c.1.2.1=e.2.1/\c.1.2.2=e.2.2/\c.2.2.1=b.2.1/\qa qn c.2.2.2.2=qa qn b.2.2.1/\length c.2.2.2.2=length b.2.2.1/\(j9 c<u/\wg 4 c)/\(∀i,QU b g e i->qc qj c.1 c.2.1 i)/\∀(r:zS),kS c.2.1 c.2.2.1 c.2.2.2.2 r->(∃F,(QU b g e F)/\υ r.1 F)->pc b g E m e q o B r c
 def MI:=AV.agg [AV.int i64 5,AV.int i64 0,AV.str [],AV.ssl (nat_lit 7) (nat_lit 0) (length b.2.2.2) (nat_lit 5) (nat_lit 8),AV.nsl]=AV.agg [AV.int i64 5,AV.int i64 0,AV.str [],AV.ssl (nat_lit 7) (nat_lit 0) (length b.2.2.2) (nat_lit 5) (nat_lit 8),AV.nsl]
 def Ds:=(QU b g e h)/\length b.2.2.2<=u/\qgm h t (take (length b.2.2.2*nat_lit 5) (qa qqd b.2.2.2))
 def FF:=(Ds b g e u t h)/\q37 h (Ξ l D Α) [int i64 4,int i64 0,string (mkS [114,101,99,111,114,100]),slice noA 0 0,slice noA 0 0,int i64 4,int i64 0,string o,slice noA 0 0,slice noA 0 0,int i64 4,int i64 0,string (mkS [115]),slice noA 0 0,slice noA 0 0,int i64 5,int i64 0,string (mkS []),slice t (length b.2.2.2) u,slice noA 0 0]
 abbrev Dk:=q37 h (Ξ u l Α) [string (MM),string (MN),string (mkS [110,97,109,101,115,112,97,99,101]),string (mkS [102,105,101,108,100,115])]
 def pg:=mkS [114,101,99,111,114,100]=mkS [114,101,99,111,114,100]/\True/\o=o/\True/\mkS [115]=mkS [115]/\True/\True/\MI b/\MI b/\MI b/\∀(c i r:Nat) (F:Option Addr) (X G:Nat),(∃U,Ds b g e G F U)->∀(H i8 Y:Nat),(∃N,FF b g e G o F H N i8)->∀(C v S:Nat),(∃w,(FF b g e G o F H w i8)/\Dk C v w)->∃(f:zS),χ f.1=6/\Ε f.1=0/\Θ f.1=mkS []/\(ε f.1).1=ς (Ξ H (i8+nat_lit 0) Α)/\(ε f.1).2.1=nat_lit 4/\(ε f.1).2.2=nat_lit 4/\(ζ f.1).1=ς (Ξ C (v+nat_lit 0) Α)/\(ζ f.1).2.1=nat_lit 4/\(ζ f.1).2.2=nat_lit 4/\ML e (f.2.1=b.2.1/\qa qn f.2.2=qa qn b.2.2.1/\length f.2.2=length b.2.2.1/\kS g m B f/\(∀i16,(FF b g e G o F H i16 i8)/\Dk C v i16->υ f.1 i16)/\True)
 def o_:=Ji (b.1<qo g m 5) (pa b q E m e u g o B) (pg b q m e o B)
end
def zqi(c:Nat) (s:Ck) (x:SV) (L:List Int) (n d:Int) (N:List Ck):qk3 P (qf5 [(23,Q4),(72,Yq),(71,Yk),(73,HC)]) (qg7 [(70,xT.below j9 c)]) Tryz.f33 (J7.below K4 (c+1)) (zel) ⟨s,x,L,n,d,N⟩=(K4 (s,x,L,n,d,N)<c+1/\size s<100/\wg 3 (x,L,n,d,N)->(∃(p:Pub),True/\qc qj x L p)->∃(b:List Int),(5:Int)=5/\ML x (n=n/\(0<=n/\n<=(↑(length b):Int)/\(0:Int)<5/\(5:Int)<1000000/\z8 b)/\(∀(p:Pub),True/\qc qj x L p->qc qj (x.1,x.2.1,x.2.2) b p)/\(∃(s_1:Zd),s=s/\qo b n (5:Int)=qo b n 5/\d=d/\s_1.1=0/\ML x (s_1.2.1=qh b n/\qa qn s_1.2.2.1=qa qn N/\length s_1.2.2.1=length N/\length s_1.2.2.2=0/\(∀(p:Pub),True/\qc qj x L p->True/\qc qj x L p)/\(∀(p:Pub),True/\qc qj x L p->qqe s_1.2.2.2 p)/\LO L n N (qo b n 5) s_1/\True))/\∀(s_1:Zd),LO L n N (qo b n 5) s_1->(∃(p:Pub),QU s_1 L x p)->o_ s_1 b n d x c L s N)):=by kernel_rfl
def zzq:=λc s x L n d N=>Ο (zqi c s x L n d N) (by delta Ji Jb Jt Jf ML QU Dp Dq Dj Dn cY Xc Wr MN MM MJ Dl Dm Do Dr ph pd Ws MK pj pc pa MI Ds FF Dk pg o_;exact rfl)
section
def leaf(k n:Int) (s:Ck):GJ:= .mk k n s (Α,0,0) [] (Α,0,0) []
variable {s:Ck} {p:Pub}
def zY{k n:Int}:(leaf k n s).ok p:=by unfold leaf;rw[υ];exact⟨qV,qV,by rw[qqe];trivial⟩
def zZ{k n:Int} (h:s.size<1000) (u: -9223372036854775808<=n) (A:n<9223372036854775808):(leaf k n s).wf:=by unfold leaf;rw[Ω];exact⟨h,by decide,by decide,λt B=>(by cases B),⟨u,A⟩,λ_=>rfl,by rw[qqp];trivial⟩
variable {l:List GJ}
def zd{g:GJ} (h:g.ok p) (u:qqe l p):qqe (g::l) p:=by rw[qqe];exact⟨h,u⟩
def kQ:qqe [] p:=by rw[qqe];trivial
def ze{g:GJ} (h:g.wf) (u:qqp l):qqp (g::l):=by rw[qqp];exact⟨h,u⟩
def kR:qqp []:=by rw[qqp];trivial
variable {α:Type}
def ZK{f:α->List Value} {l:List α} {a:Option Addr} {n c:Nat} (u:n=l.length) (h:qgn p a n c (qa f l)):qc f (a,n,c) l p:=⟨u,h⟩
def y8{f:α->List Value} {l:List α} {b s n c:Nat} (A:n=l.length) (u:n<=c) (h:q37 p ⟨b,s,Α⟩ (qa f l)):qc f (ς ⟨b,s+0,Α⟩,n,c) l p:=⟨A,u, .inr ⟨_,rfl,rfl,h⟩⟩
def uA(x:SV) (l:List GJ):GJ:= .mk 5 0 (mkS []) x l (Α,0,0) []
variable {x:SV}
def Ke(h:qc qqd x l p) (u:qqe l p):(uA x l).ok p:=by unfold uA;rw[υ];exact⟨h,qV,u⟩
def z66(u:l.length<8) (A:qqp l):(uA x l).wf:=by unfold uA;rw[Ω];exact⟨by decide,u,ω _,λt B=>(by cases B),⟨by omega,by omega⟩,λh=>absurd h (by decide),A⟩
def wV(x:SV) (l:List GJ) (y:SV) (nm:List Ck):GJ:= .mk 6 0 (mkS []) x l y nm
variable {nm:List Ck}
def ZL{y:SV} (h:qc qqd x l p) (A:qc qn y nm p) (u:qqe l p):(wV x l y nm).ok p:=by unfold wV;rw[υ];exact⟨h,A,u⟩
def ZM{y:SV} (h:l.length<8) (A:nm.length=l.length) (B:∀t∈nm,t.size<1000) (u:qqp l):(wV x l y nm).wf:=by unfold wV;rw[Ω];exact⟨by decide,h,by omega,B,⟨by omega,by omega⟩,λ_=>A,u⟩
variable {L:List Int}
def zq0{n:Int} (h:n<L.length):qh L n=n+1:=by unfold qh;rw[if_neg (by omega)]
def zq1{n m:Int} (h:qo L n m≠0):n<L.length:=by
 unfold qo at h;split at h
 ·exact absurd rfl h
 ·omega
def zv9(c:Nat) (h:c<256):q18 (mkS [c])=[.int .u8 (c:Nat)]:=by simp[q18,mkS];omega
def zlh(n:Nat):ν .u8 (97+(n:Int).tmod 26)=((97+n % 26:Nat):Int):=by rw[Yu,qqb (by omega)];omega
def z5z{α:Type} {f:α->List Value} {l:List α} {p:Pub} {x:Addr} (k:Nat) (h:q37 p x (qa f l)):q37 p x (qa f (l.take k)):=λj v u=>by
 refine h j v ?_;conv at u=>lhs;rw[show qa f (l.take k)=qa f (l.take k)from rfl]
 have e:qa f l=qa f (l.take k)++qa f (l.drop k):=by rw[←zu,qqj]
 rw[e,qzf (List.getElem?_eq_some_iff.mp u).1];exact u
def O1(b s:Nat) (r:Int):SV:=(slA (ς ⟨b,s+0,Α⟩) 3 0 5,(@Int.rec (λ_=>Nat) (λa=>a) (λ_=>0) (1+r))- 0,3- 0)
def V'(r:Int):List GJ:=[leaf 4 0 (mkS [88]),leaf 4 0 (mkS [89]),leaf 4 0 (mkS [90])].take (1+r).toNat
def CT{b s:Nat} {r:Int} (u:0<=r) (A:r<3) (h:q37 p ⟨b,s,Α⟩ (qa qqd [leaf 4 0 (mkS [88]),leaf 4 0 (mkS [89]),leaf 4 0 (mkS [90])])):qc qqd (O1 b s r) (V' r) p/\qqe (V' r) p:=by
 have:r=0\/r=1\/r=2:=by omega
 rcases this with rfl|rfl|rfl
 ·exact⟨⟨rfl,show 1<=3 by decide, .inr ⟨⟨b,s,Α⟩,rfl,rfl,z5z 1 h⟩⟩,zd zY kQ⟩
 ·exact⟨⟨rfl,show 2<=3 by decide, .inr ⟨⟨b,s,Α⟩,rfl,rfl,z5z 2 h⟩⟩,zd zY (zd zY kQ)⟩
 ·exact⟨⟨rfl,show 3<=3 by decide, .inr ⟨⟨b,s,Α⟩,rfl,rfl,h⟩⟩,zd zY (zd zY (zd zY kQ))⟩
def LQ{r:Int} (h:0<=r) (u:r<3):(V' r).length<8/\qqp (V' r):=by
 have:r=0\/r=1\/r=2:=by omega
 rcases this with rfl|rfl|rfl
 ·exact⟨by decide,ze (zZ (by decide) (by omega) (by omega)) kR⟩
 ·exact⟨by decide,ze (zZ (by decide) (by omega) (by omega)) (ze (zZ (by decide) (by omega) (by omega)) kR)⟩
 ·exact⟨by decide,ze (zZ (by decide) (by omega) (by omega)) (ze (zZ (by decide) (by omega) (by omega)) (ze (zZ (by decide) (by omega) (by omega)) kR))⟩
def zr6(c:Nat) (ht:q1p P 70 (xT.below j9 c)):q1p P 106 (Lf.below j9 (c+1)):=by
 refine zh (qcl (qgj Kf (qgj H7 qjq))) (qdd (qgi ht qjp)) (W:=zwm) Tryz.func106 λ⟨(x:SV),(L:List Int),(n:Int),(d:Int),N⟩=>(union_eq c x L n d N).mpr ?_;rintro⟨G,U,H,hL,hd0,hd1,hN,B⟩ ⟨p,_,hp⟩;have G:(10- d).toNat<c+1:=G;simp only[qB,δ];have V:=yI H;refine⟨L,⟨U,H,by omega,by omega,hL⟩,λq hq=>hq,λh0=> ?_,λh0=> ?_⟩
 ·have X:=yI V.2.1;have hr:=yJ (n:=qh L n) (m:=2) hL (by omega);obtain⟨s,hs,J⟩:∃s:Ck,(∀(j:Nat) (v:Value),[Ι s][j]? =ς v->[Ι (mkS [105,110,116]),Ι (mkS [115,116,114,105,110,103])][0+(qo L (qh L n) 2).toNat*1+j]? =ς v)/\s.size<1000:=by
   have:qo L (qh L n) 2=0\/qo L (qh L n) 2=1:=(by omega);rcases this with e|e
   ·rw[e];exact⟨mkS [105,110,116],λj v C=>by cases j with|zero=>exact C|succ j=>simp at C,by decide⟩
   ·rw[e];exact⟨mkS [115,116,114,105,110,103],λj v C=>by cases j with|zero=>exact C|succ j=>simp at C,by decide⟩
  refine⟨L,⟨by omega,V.2.1,by omega,by omega,hL⟩,λq hq=>hq,hr,s,hs,by decide,by omega,⟨x,L,qh L (qh L n),d+1,N⟩,rfl,rfl,rfl,rfl,rfl,rfl,rfl,⟨?_,by omega,X.2.1,hL,by omega,by omega,by omega,B⟩,λq hq=>hq,?_⟩
  ·show(10- (d+1)).toNat<c;omega
  rintro⟨g,n',N'⟩ ⟨hw,Y,h,u,Z,O⟩ _;simp only at Y h u Z;refine⟨λT=>⟨rfl,by decide,λ_ _ _ a m A _=>⟨⟨uA (a,3,A) [leaf 4 0 (mkS [110,117,108,108]),leaf 4 0 s,g],n',N'⟩,rfl,rfl,rfl,rfl,rfl,rfl,rfl,rfl,rfl,rfl,rfl,rfl,rfl,rfl,rfl,⟨?_,by omega,h,u,by omega,O⟩,λq hq=> ?_⟩⟩,λT _ _ _ a m A _=>⟨⟨uA (a,2,A) [leaf 4 0 (mkS [110,117,108,108]),leaf 4 0 s],n',N'⟩,rfl,rfl,rfl,rfl,rfl,rfl,rfl,rfl,rfl,rfl,rfl,rfl,rfl,rfl,rfl,⟨?_,by omega,h,u,by omega,O⟩,λq hq=> ?_⟩⟩
  ·exact z66 (by simp) (ze (zZ (by decide) (by omega) (by omega)) (ze (zZ J (by omega) (by omega)) (ze hw kR)))
  ·exact Ke (ZK rfl hq.2) (zd zY (zd zY (zd hq.1.2 kQ)))
  ·exact z66 (by simp) (ze (zZ (by decide) (by omega) (by omega)) (ze (zZ J (by omega) (by omega)) kR))
  ·exact Ke (ZK rfl hq.2) (zd zY (zd zY kQ))
 ·refine⟨by omega,⟨x,L,qh L n,d+1,N⟩,rfl,rfl,rfl,rfl,rfl,rfl,rfl,⟨?_,by omega,V.2.1,hL,by omega,by omega,by omega,B⟩,λq hq=>hq,?_⟩
  ·show(10- (d+1)).toNat<c;omega
  rintro⟨g,n',N'⟩ ⟨hw,Y,h,u,Z,O⟩ _;simp only at Y h u Z;refine⟨λT=>⟨by decide,λ_ _ _ a m A _=>⟨⟨uA (a,2,A) [leaf 4 0 (mkS [110,117,108,108]),g],n',N'⟩,rfl,rfl,rfl,rfl,rfl,rfl,rfl,rfl,rfl,rfl,rfl,rfl,rfl,rfl,rfl,⟨?_,by omega,h,u,by omega,O⟩,λq hq=> ?_⟩⟩,λT b2 s2 _ _=>⟨⟨uA (ς ⟨b2,s2+0,Α⟩,1,1) [leaf 4 0 (mkS [110,117,108,108])],n',N'⟩,rfl,rfl,rfl,rfl,rfl,rfl,rfl,rfl,rfl,rfl,rfl,rfl,rfl,rfl,rfl,⟨?_,by omega,h,u,by omega,O⟩,λq hq=> ?_⟩⟩
  ·exact z66 (by simp) (ze (zZ (by decide) (by omega) (by omega)) (ze hw kR))
  ·exact Ke (ZK rfl hq.2) (zd zY (zd hq.1.2 kQ))
  ·exact z66 (by simp) (ze (zZ (by decide) (by omega) (by omega)) kR)
  ·exact Ke (y8 rfl (ψ _) hq.2) (zd zY kQ)
def j0b(c:Nat) (ht:q1p P 70 (xT.below j9 c)) (hu:q1p P 106 (Lf.below j9 (c+1))) (hr:q1p P 33 (J7.below K4 (c+1))):q1p P 70 (xT.below j9 (c+1)):=by
 refine zh (qcl (qgj Kf (qgj PD (qgj H7 (qgj ze6 qjq))))) (qdd (qgi ht (qgi hu (qgi hr qjp)))) (W:=C6) Tryz.func70 λ⟨(x:SV),(L:List Int),(n:Int),(d:Int),N⟩=>(j0a c x L n d N).mpr ?_;rintro⟨hmu,hn0,hn1,hL,hd0,hd1,hN,A⟩ ⟨p,_,hp⟩;have hmu:(10- d).toNat<c+1:=hmu;simp only[qB,δ,exists_const];have G:=yI hn1;have hLl:=hL.1;have Y:=yJ (n:=n) (m:=20) hL (by omega);have Z:3<d->(8:Int)≠0/\∃s,s=(qo L n 20).tmod 8/\qh L n=qh L n/\0<=s/\s<20/\(8<=s->d<=3/\n<L.length):=λh=>by have e:(qo L n 20).tmod 8=qo L n 20 % 8:=qqb Y.1;exact⟨by decide,_,rfl,rfl,by omega,by omega,λh=>by omega⟩
 have small9:(8:Int)≠0/\∃s,s=(qo L n 20).tmod 8/\qh L n=qh L n/\0<=s/\s<20/\(8<=s->d<=3/\n<L.length):=by have e:(qo L n 20).tmod 8=qo L n 20 % 8:=qqb Y.1;exact⟨by decide,_,rfl,rfl,by omega,by omega,λh=>by omega⟩
 refine⟨L,⟨hn0,hn1,by omega,by omega,hL⟩,λq hq=>hq,⟨Z,λhd3=>⟨L,λq hq=>hq,λ_=>small9,λ_=>⟨_,rfl,rfl,Y.1,Y.2,λh=>⟨by omega,zq1 (m:=20) (by omega)⟩⟩⟩⟩,?_⟩;rintro k ⟨hk0,hk1,B⟩;refine⟨⟨λh8=> ?_,λh8=>⟨λh10=> ?_,λh10=>⟨λh1=> ?_,λh1=>⟨λh14=> ?_,λh14=>⟨λe14=>⟨λhN0=> ?_,λ_=>by omega⟩,λ_=>by omega⟩⟩⟩⟩⟩,?_⟩
 ·obtain⟨s,hs,hsz⟩:∃s:Ck,(∀(j:Nat) (v:Value),[Ι s][j]? =ς v->[Ι (mkS [105,110,116]),Ι (mkS [108,111,110,103]),Ι (mkS [115,116,114,105,110,103]),Ι (mkS [98,121,116,101,115]),Ι (mkS [98,111,111,108,101,97,110]),Ι (mkS [110,117,108,108]),Ι (mkS [102,108,111,97,116]),Ι (mkS [100,111,117,98,108,101])][0+k.toNat*1+j]? =ς v)/\s.size<1000:=by have:k=0\/k=1\/k=2\/k=3\/k=4\/k=5\/k=6\/k=7:=(by omega);rcases this with rfl|rfl|rfl|rfl|rfl|rfl|rfl|rfl;all_goals refine⟨_,λj v hj=>by cases j with|zero=>exact hj|succ j=>simp at hj,by decide⟩
  exact⟨⟨hk0,h8⟩,s,hs,⟨leaf 4 0 s,qh L n,N⟩,rfl,rfl,rfl,rfl,rfl,rfl,rfl,rfl,rfl,rfl,rfl,rfl,⟨zZ hsz (by omega) (by omega),G.1,G.2.1,ψ _,by omega,A⟩,λq hq=>zY⟩
 ·have hd:=B (by omega);refine⟨by omega,⟨x,L,qh L n,d+1,N⟩,rfl,rfl,rfl,rfl,rfl,rfl,rfl,⟨?_,by omega,G.2.1,hL,by omega,by omega,by omega,A⟩,λq hq=>hq,?_⟩
  ·show(10- (d+1)).toNat<c;omega
  rintro⟨g,n',N'⟩ ⟨hw,p1,J,T,p4,p5⟩ _ O s1 u1 _ b2 s2 u2 _;simp only at p1 J T p4;exact⟨⟨wV (ς ⟨O,s1+0,Α⟩,2,2) [leaf 4 0 (mkS [97,114,114,97,121]),g] (ς ⟨b2,s2+0,Α⟩,2,2) [mkS [116,121,112,101],mkS [105,116,101,109,115]],n',N'⟩,rfl,rfl,rfl,rfl,rfl,rfl,rfl,rfl,rfl,rfl,rfl,rfl,rfl,rfl,rfl,⟨ZM (by simp) rfl (by decide) (ze (zZ (by decide) (by omega) (by omega)) (ze hw kR)),by omega,J,T,by omega,p5⟩,λq hq=>ZL (y8 rfl (ψ _) hq.1.2) (y8 rfl (ψ _) hq.2) (zd zY (zd hq.1.1.2 kQ))⟩
 ·have hd:=B (by omega);refine⟨by omega,⟨x,L,qh L n,d+1,N⟩,rfl,rfl,rfl,rfl,rfl,rfl,rfl,⟨?_,by omega,G.2.1,hL,by omega,by omega,by omega,A⟩,λq hq=>hq,?_⟩
  ·show(10- (d+1)).toNat<c;omega
  rintro⟨g,n',N'⟩ ⟨hw,p1,J,T,p4,p5⟩ _ O s1 u1 _ b2 s2 u2 _;simp only at p1 J T p4;exact⟨⟨wV (ς ⟨O,s1+0,Α⟩,2,2) [leaf 4 0 (mkS [109,97,112]),g] (ς ⟨b2,s2+0,Α⟩,2,2) [mkS [116,121,112,101],mkS [118,97,108,117,101,115]],n',N'⟩,rfl,rfl,rfl,rfl,rfl,rfl,rfl,rfl,rfl,rfl,rfl,rfl,rfl,rfl,rfl,⟨ZM (by simp) rfl (by decide) (ze (zZ (by decide) (by omega) (by omega)) (ze hw kR)),by omega,J,T,by omega,p5⟩,λq hq=>ZL (y8 rfl (ψ _) hq.1.2) (y8 rfl (ψ _) hq.2) (zd zY (zd hq.1.1.2 kQ))⟩
 ·have hd:=B (by omega);refine⟨⟨x,L,qh L n,d,N⟩,rfl,rfl,rfl,rfl,rfl,rfl,rfl,⟨?_,by omega,G.2.1,hL,by omega,by omega,by omega,A⟩,λq hq=>hq,?_⟩
  ·show(10- d).toNat<c+1;omega
  rintro⟨g,n',N'⟩ ⟨hw,p1,J,T,p4,p5⟩ _;simp only at p1 J T p4;exact⟨⟨g,n',N'⟩,rfl,rfl,rfl,rfl,rfl,rfl,rfl,rfl,rfl,rfl,rfl,rfl,rfl,rfl,rfl,⟨hw,by omega,J,T,by omega,p5⟩,λq hq=>hq.2⟩
 ·have hd:=B (by omega);have hN0:0<N.length:=by omega
  have H:=yI G.2.1;have hr:=yJ (n:=qh L n) (m:=N.length) hL (by omega);obtain⟨i,hi⟩:=Η hr.1;have hil:i<N.length:=by omega
  refine⟨L,⟨by omega,G.2.1,by omega,by omega,hL⟩,λq hq=>hq,hr,N[i],?_,⟨leaf 4 0 N[i],qh L (qh L n),N⟩,rfl,rfl,rfl,rfl,rfl,rfl,rfl,rfl,rfl,rfl,rfl,rfl,⟨zZ (by have:=A N[i] (θ _);omega) (by omega) (by omega),by omega,H.2.1,ψ _,by omega,A⟩,λq hq=>zY⟩;rw[hi,δ];intro j v hj;cases j with
  |zero=>rw[Χ,ZE j8 N i hil 0 (by decide)];exact hj
  |succ j=>simp at hj
 intro _ h14;have hd:=B (by omega);have e26:(N.length:Int).tmod 26=(N.length:Int) % 26:=qqb (by omega);have hz:(mkS [97+N.length % 26]).size=1:=rfl;have hn2:(mkS [78]++mkS [97+N.length % 26]).size=2:=by rw[qqt,hz];rfl
 have hnl:n<L.length:=hd.2;have hnn:=zq0 hnl;refine⟨by decide,by omega,mkS [97+N.length % 26],rfl,?_,by rw[hz];decide,qv j8 N,by omega,?_⟩
 ·intro j v hj;rw[zv9 _ (by omega)]at hj;rw[zlh,Χ];exact hj
 have U:∀t∈N++[(mkS [78]++mkS [97+N.length % 26])],t.size<100:=λt ht=>by
  rcases List.mem_append.1 ht with h|h
  ·exact A t h
  ·simp at h;rw[h];omega
 have V:(N++[(mkS [78]++mkS [97+N.length % 26])]).length=N.length+1:=by simp
 have X:qa qn (N++[(mkS [78]++mkS [97+N.length % 26])])=qa qn N++[Ι (mkS [78]++mkS [97+N.length % 26])]:=by rw[zu];rfl
 generalize (mkS [78]++mkS [97+N.length % 26])=name at*;generalize N++[name]=N1 at*;have H:=yI G.2.1;refine⟨λh15=> ?_,λh15=>⟨λh16=> ?_,λh16=> ?_⟩⟩
 ·have hr4:=yJ (n:=qh L n) (m:=4) hL (by omega);refine⟨L,⟨by omega,G.2.1,by omega,by omega,hL⟩,λq hq=>hq,λO s1 u1 _ b2 s2 u2 _=>⟨⟨wV (ς ⟨O,s1+0,Α⟩,3,3) [leaf 4 0 (mkS [102,105,120,101,100]),leaf 4 0 name,leaf 3 (qo L (qh L n) 4) (mkS [])] (ς ⟨b2,s2+0,Α⟩,3,3) [mkS [116,121,112,101],mkS [110,97,109,101],mkS [115,105,122,101]],qh L (qh L n),N1⟩,rfl,rfl,rfl,rfl,rfl,rfl,rfl,rfl,rfl,rfl,X,V,⟨?_,by omega,H.2.1,by omega,by omega,U⟩,λq hq=> ?_⟩⟩
  ·exact ZM (by simp) rfl (by decide) (ze (zZ (by decide) (by omega) (by omega)) (ze (zZ (by omega) (by omega) (by omega)) (ze (zZ (by decide) (by omega) (by omega)) kR)))
  ·exact ZL (y8 rfl (ψ _) hq.1.2) (y8 rfl (ψ _) hq.2) (zd zY (zd zY (zd zY kQ)))
 ·have u:=yJ (n:=qh L n) (m:=3) hL (by omega);have nb3:=yI H.2.1;generalize hrr:qo L (qh L n) 3=r at u;refine⟨L,⟨by omega,G.2.1,by omega,by omega,hL⟩,λq hq=>hq,?_⟩;rw[hrr];refine⟨by omega,λO s1 u1 _=>⟨ψ _,by omega,L,⟨by omega,H.2.1,by omega,by omega,hL⟩,λq hq=>hq.1,?_,?_⟩⟩
  ·refineλ_=>⟨by decide,by decide,λ_ _ _ a _ cc _ _ _ _ a2 _ cc2 _=>⟨⟨wV (a,4,cc) [leaf 4 0 (mkS [101,110,117,109]),leaf 4 0 name,uA (O1 O s1 r) (V' r),leaf 4 0 (mkS [88])] (a2,4,cc2) [mkS [116,121,112,101],mkS [110,97,109,101],mkS [115,121,109,98,111,108,115],mkS [100,101,102,97,117,108,116]],qh L (qh L (qh L n)),N1⟩,rfl,rfl,rfl,rfl,rfl,rfl,rfl,rfl,rfl,rfl,X,V,⟨?_,by omega,nb3.2.1,by omega,by omega,U⟩,λq hq=> ?_⟩⟩
   ·exact ZM (by simp) rfl (by decide) (ze (zZ (by decide) (by omega) (by omega)) (ze (zZ (by omega) (by omega) (by omega)) (ze (z66 (LQ u.1 u.2).1 (LQ u.1 u.2).2) (ze (zZ (by decide) (by omega) (by omega)) kR))))
   ·have C:=CT (b:=O) (s:=s1) u.1 u.2 hq.1.1.2;exact ZL (ZK rfl hq.1.2) (ZK rfl hq.2) (zd zY (zd zY (zd (Ke C.1 C.2) (zd zY kQ))))
  ·refineλ_ b3 s3 _ _ b4 s4 _ _=>⟨⟨wV (ς ⟨b3,s3+0,Α⟩,3,3) [leaf 4 0 (mkS [101,110,117,109]),leaf 4 0 name,uA (O1 O s1 r) (V' r)] (ς ⟨b4,s4+0,Α⟩,3,3) [mkS [116,121,112,101],mkS [110,97,109,101],mkS [115,121,109,98,111,108,115]],qh L (qh L (qh L n)),N1⟩,rfl,rfl,rfl,rfl,rfl,rfl,rfl,rfl,rfl,rfl,X,V,⟨?_,by omega,nb3.2.1,by omega,by omega,U⟩,λq hq=> ?_⟩
   ·exact ZM (by simp) rfl (by decide) (ze (zZ (by decide) (by omega) (by omega)) (ze (zZ (by omega) (by omega) (by omega)) (ze (z66 (LQ u.1 u.2).1 (LQ u.1 u.2).2) kR)))
   ·have C:=CT (b:=O) (s:=s1) u.1 u.2 hq.1.1.2;exact ZL (y8 rfl (ψ _) hq.1.2) (y8 rfl (ψ _) hq.2) (zd zY (zd zY (zd (Ke C.1 C.2) kQ)))
 ·refine⟨⟨name,x,L,qh L n,d,N1⟩,rfl,rfl,rfl,rfl,rfl,rfl,X,V,⟨?_,by show name.size<100;omega,by omega,G.2.1,hL,hd0,hd.1,by omega,U⟩,λq hq=>hq,?_⟩
  ·show(10- d).toNat<c+1;omega
  rintro⟨g,n',N'⟩ ⟨hw,p1,J,T,p4,p5⟩ _;simp only at p1 J T p4;exact⟨⟨g,n',N'⟩,rfl,rfl,rfl,rfl,rfl,rfl,rfl,rfl,rfl,rfl,rfl,rfl,rfl,rfl,rfl,⟨hw,by omega,J,by omega,by omega,p5⟩,λq hq=>hq.2⟩
end
def PC:∀{l m:List GJ} {p:Pub},qqe l p->qqe m p->qqe (l++m) p
  | [],m,p,h,u=>u
  | g::l,m,p,h,u=>by rw[qqe]at h;exact zd h.1 (PC h.2 u)
def PK:∀{l m:List GJ},qqp l->qqp m->qqp (l++m)
  | [],m,h,u=>u
  | g::l,m,h,u=>by rw[qqp]at h;exact ze h.1 (PK h.2 u)
def zjv(c:Nat) (ht:q1p P 70 (xT.below j9 c)):q1p P 33 (J7.below K4 (c+1)):=by
 refine zh (qcl (qgj Kf (qgj H7 (qgj ze6 (qgj zxz qjq))))) (qdd (qgi ht qjp)) (W:=zel) Tryz.func33 λ⟨s,(x:SV),(L:List Int),(n:Int),(d:Int),N⟩=>(zzq c s x L n d N).mpr ?_;rintro⟨A,hss,V,B,hL,hd0,hd1,hN,T⟩ ⟨p,_,hp⟩;have A:(10- d).toNat<c+1:=A;simp only[qB,δ,exists_const];have nb:=yI B;have hLl:=hL.1;have hr5:=yJ (n:=n) (m:=5) hL (by omega);refine⟨L,⟨V,B,by omega,by omega,hL⟩,λq hq=>hq,⟨⟨0,qh L n,N,[]⟩,rfl,rfl,rfl,rfl,rfl,λq hq=>kQ,by omega,by omega,by omega,rfl,kR,nb.1,nb.2.1,ψ _,by omega,T⟩,?_⟩;rintro⟨i,n1,N1,fs⟩ ⟨i0,i1,i2,U,h,q1,Y,q3,q4,Z⟩ _;simp only at i0 i1 i2 U h q1 Y q3 q4 Z⊢;refine⟨λhlt=>⟨by omega,⟨x,L,n1,d+1,N1⟩,rfl,rfl,rfl,rfl,rfl,rfl,rfl,⟨?_,by omega,Y,hL,by omega,by omega,by omega,Z⟩,λq hq=>hq.1,?_⟩,λhge=> ?_⟩
 ·show(10- (d+1)).toNat<c;omega
 ·rintro⟨g,n2,N2⟩ ⟨hw,p1,X,p3,p4,p5⟩ _;simp only at p1 X p3 p4;have hr3:=yJ (n:=n2) (m:=3) hL (by omega);have u:=yI X;have O:=zxx (g:=g) (L:=L) (n:=qh L n2) hL u.2.1;obtain⟨e,rfl⟩:=Η i0;have hz:(mkS [97+e]).size=1:=rfl;have hsz:(mkS [102]++mkS [97+e]).size=2:=by rw[qqt,hz];rfl
  refine⟨by omega,mkS [97+e],rfl,?_,by rw[hz];decide,L,⟨by show 0<=n2;omega,X,by omega,by omega,hL⟩,λq hq=>hq.1.1,λh0=>⟨by decide,⟨L,g⟩,rfl,rfl,rfl,rfl,rfl,rfl,rfl,rfl,rfl,⟨by show 0<=qh L n2;omega,u.2.1,hL,hw⟩,λq hq=>⟨hq.1.1,hq.2⟩,by decide,λ_ _ _ a _ H _ _ _ _ a2 _ J _=>⟨qv ZI fs,by omega,by omega,⟨(e:Int)+1,(zR g L (qh L n2)).2.2.2,N2,fs++[wV (a,3,H) [leaf 4 0 (mkS [102]++mkS [97+e]),g,leaf (zR g L (qh L n2)).1 (zR g L (qh L n2)).2.1 (zR g L (qh L n2)).2.2.1] (a2,3,J) [mkS [110,97,109,101],mkS [116,121,112,101],mkS [100,101,102,97,117,108,116]]]⟩,rfl,rfl,rfl,rfl,rfl,?_,rfl,rfl,by simp,λq hq=>hq.1.1.1.1,λq hq=> ?_,?_,?_⟩⟩,λh0 C s3 _ _ G s4 _ _=>⟨qv ZI fs,by omega,by omega,⟨(e:Int)+1,qh L n2,N2,fs++[wV (ς ⟨C,s3+0,Α⟩,2,2) [leaf 4 0 (mkS [102]++mkS [97+e]),g] (ς ⟨G,s4+0,Α⟩,2,2) [mkS [110,97,109,101],mkS [116,121,112,101]]]⟩,rfl,rfl,rfl,rfl,rfl,?_,rfl,rfl,by simp,λq hq=>hq.1.1.1.1,λq hq=> ?_,?_,?_⟩⟩
  ·intro j v hj;rw[zv9 _ (by omega)]at hj;rw[show ν .u8 (97+(e:Int))=((97+e:Nat):Int)by rw[Yu];omega,Χ];exact hj
  ·rw[zu];rfl
  ·exact PC hq.1.1.1.2 (zd (ZL (ZK rfl hq.1.2) (ZK rfl hq.2) (zd zY (zd hq.1.1.2 (zd zY kQ)))) kQ)
  ·refine⟨by omega,by omega,i2,by rw[Τ];show((fs.length+1:Nat):Int)=_;omega,PK h (ze (ZM (by simp) rfl (by decide) (ze (zZ (by omega) (by omega) (by omega)) (ze hw (ze (zZ (by omega) (by omega) (by omega)) kR)))) kR),by omega,O.1.2,by omega,by omega,p5⟩
  ·show(qo L n 5- ((e:Int)+1)).toNat<_;omega
  ·rw[zu];rfl
  ·exact PC hq.1.1.1.2 (zd (ZL (y8 rfl (ψ _) hq.1.2) (y8 rfl (ψ _) hq.2) (zd zY (zd hq.1.1.2 kQ))) kQ)
  ·refine⟨by omega,by omega,i2,by rw[Τ];show((fs.length+1:Nat):Int)=_;omega,PK h (ze (ZM (by simp) rfl (by decide) (ze (zZ (by omega) (by omega) (by omega)) (ze hw kR))) kR),by omega,u.2.1,by omega,by omega,p5⟩
  ·show(qo L n 5- ((e:Int)+1)).toNat<_;omega
 ·intro _ _ _ a _ H _ C s3 _ _ G s4 _ _;refine⟨⟨wV (ς ⟨C,s3+0,Α⟩,4,4) [leaf 4 0 (mkS [114,101,99,111,114,100]),leaf 4 0 s,leaf 4 0 (mkS [115]),uA (a,fs.length,H) fs] (ς ⟨G,s4+0,Α⟩,4,4) [mkS [116,121,112,101],mkS [110,97,109,101],mkS [110,97,109,101,115,112,97,99,101],mkS [102,105,101,108,100,115]],n1,N1⟩,rfl,rfl,rfl,rfl,rfl,rfl,rfl,rfl,rfl,rfl,rfl,rfl,⟨?_,q1,Y,q3,q4,Z⟩,λq hq=> ?_⟩
  ·exact ZM (by simp) rfl (by decide) (ze (zZ (by decide) (by omega) (by omega)) (ze (zZ (by omega) (by omega) (by omega)) (ze (zZ (by decide) (by omega) (by omega)) (ze (z66 (by omega) h) kR))))
  ·have e1:qzj (fs.length*5) (qa qqd fs)=qa qqd fs:=Δ (by rw[qv ZI];exact ψ _);have e2:=hq.1.1.2;rw[e1]at e2;exact ZL (y8 rfl (ψ _) hq.1.2) (y8 rfl (ψ _) hq.2) (zd zY (zd zY (zd zY (zd (Ke (ZK rfl e2) hq.1.1.1.2) kQ))))
def Uo:∀c,q1p P 70 (xT.below j9 c)/\q1p P 33 (J7.below K4 c)
 |0=>⟨qq0 (by decide) (by decide) (Sen.enters_of Tryz.func70 (by kernel_rfl)) λs=>rfl,qq0 (by decide) (by decide) (Sen.enters_of Tryz.func33 (by kernel_rfl)) λs=>rfl⟩
 |c+1=>⟨j0b c (Uo c).1 (zr6 c (Uo c).1) (zjv c (Uo c).1),zjv c (Uo c).1⟩
def zqj:q1p P 33 J7:=qzk λc=>(Uo c).2
def Pv:CtR:=xo (List AT×SV×Int×GJ) (λ⟨S,x,t,g⟩=>[kh x, .sv (.int .i64 t),g.av]) (λ⟨S,x,t,g⟩=>qx S/\g.wf) (λ⟨S,x,t,g⟩=>sgM S x g) (Int×GV) (λ_ _=>True) (λ_ ⟨e,v⟩=>vM v) λ_ ⟨e,v⟩=> .tup [v.av, .sv (.int .i64 e)]
def sM(S:List AT) (x:SV):PF:=⟨π,qd S x,λ_ _ h e=>yG h e⟩
def HQ:CtR:=xo (List AT×SV) (λ⟨S,x⟩=>[kh x]) (λ⟨S,x⟩=>qx S) (λ⟨S,x⟩=>sM S x) (Int×Int×Int) (λ_ _=>True) (λ_ _=>{}) λ_ ⟨e,t,i⟩=> .tup [.sv (.int .i64 e), .sv (.int .i64 t), .sv (.int .i64 i)]
def zkx:HQ.σ->WayF:=λ⟨S,x⟩=>{
 ann:=λid t _=>match id with
  |0=>ς {σ:=Nat,pre:=λj=>j<=S.length,t:=λj=>[(5, .sv (.int .i64 (j:Int)))],h:=λ_=>[],more:=0,μ:=λj=>S.length- j,keep:=[1]}
  |_=>ς {σ:=Nat,t:=λk=>[(6, .sv (.int .i64 (k:Int)))],h:=λ_=>[],more:=0,μ:=λk=>100- k,keep:=[1,5]}}
abbrev K9:=SV×List Int×Int
def Yt:K9->Prop:=λ⟨x,L,n⟩=>0<=n/\n<=L.length/\z8 L
def O_:CtR where
 σ:=K9
 args:=λ⟨x,L,n⟩=>[.ptr 1 0]
 h:=λ⟨x,L,n⟩=>jf x n
 m:=2
 pre:=Yt
 mem:=λ⟨x,L,n⟩=>Y3 x L
 β:=λ_=>GJ×Int
 post:=λ⟨x,L,n⟩ ⟨g,n'⟩=>g.wf/\n<=n'/\n'<=L.length
 pm:=λ_ ⟨g,n'⟩=>gM g
 r:=λ_ ⟨g,n'⟩=>g.av
 h':=λ⟨x,L,n⟩ ⟨g,n'⟩=>jf x n'
 m':=2
def P_:CtR where
 σ:=K9
 args:=λ⟨x,L,n⟩=>[.ptr 1 0]
 h:=λ⟨x,L,n⟩=>jf x n
 m:=2
 pre:=Yt
 mem:=λ⟨x,L,n⟩=>Y3 x L
 β:=λ_=>List AT×SV×Bool×Int
 post:=λ⟨x,L,n⟩ ⟨S,y,b,n'⟩=>qx S/\(b=π->S≠[])/\n<=n'/\n'<=L.length
 pm:=λ_ ⟨S,y,b,n'⟩=>sM S y
 r:=λ_ ⟨S,y,b,n'⟩=> .tup [kh y, .sv (.bool b)]
 h':=λ⟨x,L,n⟩ ⟨S,y,b,n'⟩=>jf x n'
 m':=2
section
variable (a:qY) (i:List AT) (j:SV) (k:GJ) (d:Int×GV) (l:Prop) (h:(Option Addr×Nat×Nat)×Int)
 def SF:= !(decide (0<=h.2)&&decide (h.2<(↑h.1.2.1:Int)))
 def SE:=Λ d.2=0/\Μ d.2=mkS []/\(ξ d.2).1=noA/\(ξ d.2).2.1=0/\(ξ d.2).2.2=0/\(ρ d.2).1=noA/\(ρ d.2).2.1=0/\(ρ d.2).2.2=0/\Ψ d.2=0/\l
 def pk:=((!decide (a.2.1=0))=π->∃(g:Int×GV),SE g (g.1=a.2.1/\True/\(∀e,(True/\qd i j e/\υ k e)/\φ a.2.2 e->φ g.2 e)/\True))/\((!decide (a.2.1=0))=ι->∃(c:Int×GV),Λ c.2=Λ a.2.2/\Μ c.2=Μ a.2.2/\(ξ c.2).1=(ξ a.2.2).1/\(ξ c.2).2.1=(ξ a.2.2).2.1/\(ξ c.2).2.2=(ξ a.2.2).2.2/\(ρ c.2).1=(ρ a.2.2).1/\(ρ c.2).2.1=(ρ a.2.2).2.1/\(ρ c.2).2.2=(ρ a.2.2).2.2/\Ψ c.2=Ψ a.2.2/\c.1=0/\True/\(∀f,(True/\qd i j f/\υ k f)/\φ a.2.2 f->φ c.2 f)/\True)
end
def zfz(S:List AT) (x:SV) (t:Int) (g:GJ):qk3 P (qf5 [(30,KX)]) (qg7 [(74,yB)]) Tryz.f34 Pv (λ_=>{}) ⟨S,x,t,g⟩=(qx S/\Ω g->(∃(p:Pub),True/\qd S x p/\υ g p)->∃(s:(Option Addr×Nat×Nat)×Int),s.1.1=x.1/\s.1.2.1=x.2.1/\s.1.2.2=x.2.2/\s.2=t/\True/\((SF s)=π->∃(b:Int×GV),SE b (b.1=1/\True/\(∀(p:Pub),True/\qd S x p/\υ g p->φ b.2 p)/\True))/\((SF s)=ι->∃(s:Qd),s.2.2.2.1=t/\χ s.2.2.2.2.1=χ g/\Ε s.2.2.2.2.1=Ε g/\Θ s.2.2.2.2.1=Θ g/\(ε s.2.2.2.2.1).1=(ε g).1/\(ε s.2.2.2.2.1).2.1=(ε g).2.1/\(ε s.2.2.2.2.1).2.2=(ε g).2.2/\(ζ s.2.2.2.2.1).1=(ζ g).1/\(ζ s.2.2.2.2.1).2.1=(ζ g).2.1/\(ζ s.2.2.2.2.1).2.2=(ζ g).2.2/\s.2.2.2.2.2=1/\s.2.1.1=x.1/\s.2.1.2.1=x.2.1/\s.2.1.2.2=x.2.2/\s.2.2.1=0/\(qx s.1/\(0<=s.2.2.2.1/\s.2.2.2.1<(↑(length s.1):Int))/\Ω s.2.2.2.2.1/\(0<=s.2.2.1/\s.2.2.1<=2000)/\1<=s.2.2.2.2.2/\s.2.2.2.2.2<=21)/\(∀(p:Pub),True/\qd S x p/\υ g p->qd s.1 s.2.1 p/\υ s.2.2.2.2.1 p)/\∀(b:qY),jk s.2.2.1 b->(∃(p:Pub),(True/\qd S x p/\υ g p)/\φ b.2.2 p)->pk b S x g)):=by kernel_rfl
def zkq:=λS x t g=>Ο (zfz S x t g) (by delta SF SE pk;exact rfl)
section
variable (a:SV) (e:List AT) (d f:Nat) (A:Int×GV) (C:Prop) (H:Option Addr) (I:Nat)
 abbrev Dt:=a.1=a.1/\a.2.1=a.2.1/\a.2.2=a.2.2/\C
 def Wt:=Dt a ((∀c,True/\qd e a c->True/\qd e a c)/\C)
 abbrev MP:=(↑d:Int)<(↑a.2.1:Int)
 def Du:=(∀c,True/\qd e a c->q37 c (Addr.add (adr a.1 (toNat (↑d:Int)*10)) 8) [slice H f I])
 abbrev MO:=Jb ((↑d:Int)+1)
 def pC:=MO d/\∃(c:Nat),(↑f:Int)=(↑f:Int)/\(↑c:Int)=(↑d:Int)+1/\Wt a e (True/\(100:Nat)- c<100- d/\True)
 def pA:=MO d/\∃(c:Nat),(↑f:Int)=(↑f:Int)/\(↑c:Int)=(↑d:Int)+1/\Dt a ((∀g,(True/\qd e a g)/\φ A.2 g->True/\qd e a g)/\True/\(100:Nat)- c<100- d/\True)
 def pz:=((!decide (A.1=0))=π->∃(c:Int×Int×Int),c.1=A.1/\c.2.1=(↑d:Int)/\c.2.2=(↑f:Int)/\True/\True)/\((!decide (A.1=0))=ι->pA a e f d A)
 def py:=(0<=(↑d:Int)/\MP a d)/\a.1≠noA/\∃c,∃(g:Nat),∃(h:Nat),Du a e d g c h/\(0<=(↑f:Int)/\(↑f:Int)<(↑g:Int))/\c≠noA/\∃D,∃E,∃(F:Nat),∃(G:Nat),∃(i8:Int),∃(B:Bool),∃(l:Int),∃(m:Int),∃o,∃p,∃(q:Nat),∃(r:Nat),∃i16,∃(t:Nat),∃(u:Nat),(∀v,True/\qd e a v->q37 v (adr c (toNat (↑f:Int)*9)) [string D,slice E F G,int i64 i8,bool B,int i64 l,int i64 m,string o,slice p q r,slice i16 t u])/\((!B)=π->pC a e f d)/\((!B)=ι->∃(b:List AT×(Option Addr×Nat×Nat)×Int×GJ),b.2.1.1=a.1/\b.2.1.2.1=a.2.1/\b.2.1.2.2=a.2.2/\b.2.2.1=i8/\χ b.2.2.2=l/\Ε b.2.2.2=m/\Θ b.2.2.2=o/\(ε b.2.2.2).1=p/\(ε b.2.2.2).2.1=q/\(ε b.2.2.2).2.2=r/\(ζ b.2.2.2).1=i16/\(ζ b.2.2.2).2.1=t/\(ζ b.2.2.2).2.2=u/\(qx b.1/\Ω b.2.2.2)/\(∀i,True/\qd e a i->qd b.1 b.2.1 i/\υ b.2.2.2 i)/\∀(w:Int×GV),True->(∃z,(True/\qd e a z)/\φ w.2 z)->pz a e d f w)
 def pB:=MO d/\∃(c:Nat),(↑c:Int)=(↑d:Int)+1/\Wt a e (c<=length e/\length e- c<length e- d/\True)
 def px:=(0<=(↑d:Int)/\MP a d)/\a.1≠noA/\∃c,∃(g:Nat),∃(h:Nat),Du a e d g c h/\Ji ((↑f:Int)<(↑g:Int)) (py a e d f) (pB a e d)
 def pw:=(∃(c:Nat),(↑d:Int)=(↑d:Int)/\(↑c:Int)=0/\Wt a e (True/\True))/\∀(h:Nat),True->px a e d h
 def po:=Ji (MP a d) (pw a e d) (∃(j:Int×Int×Int),j.1=0/\j.2.1=0/\j.2.2=0/\True/\True)
 def pn:=(∃(c:Nat),(↑c:Int)=0/\Wt a e (c<=length e/\True))/\∀(h:Nat),h<=length e->po a e h
end
def zf1(S:List AT) (x:SV):qk3 P (qf5 []) (qg7 [(34,Pv)]) Tryz.f20 HQ (zkx) ⟨S,x⟩=(qx S->(∃(p:Pub),True/\qd S x p)->pn x S):=by kernel_rfl
def zht:=λS x=>Ο (zf1 S x) (by delta Ji Jb Jt Jf Dt Wt MP Du MO pC pA pz py pB px pw po pn;exact rfl)
def zfq(x:SV) (L:List Int) (n:Int):qk1 P (qf5 []) (qg7 [(33,J7)]) Tryz.f19 O_ (λ_=>{}) ⟨x,L,n⟩=(Yt (x,L,n)->(∃(p:Pub),True/\qc qj x L p)->∃(s:Ck×j_),s.1=mkS [84,111,112]/\s.2.2.2.2.1=0/\s.2.1.1=x.1/\s.2.1.2.1=x.2.1/\s.2.1.2.2=x.2.2/\s.2.2.2.1=n/\qa qn s.2.2.2.2.2=[string (mkS [84,111,112])]/\length s.2.2.2.2.2=nat_lit 1/\(size s.1<100/\wg 3 s.2)/\(∀(p:Pub),True/\qc qj x L p->qc qj s.2.1 s.2.2.1 p)/\∀(b:zS),kS s.2.2.1 s.2.2.2.1 s.2.2.2.2.2 b->(∃(p:Pub),(True/\qc qj x L p)/\υ b.1 p)->∃(h:GJ×Int),χ h.1=χ b.1/\Ε h.1=Ε b.1/\Θ h.1=Θ b.1/\(ε h.1).1=(ε b.1).1/\(ε h.1).2.1=(ε b.1).2.1/\(ε h.1).2.2=(ε b.1).2.2/\(ζ h.1).1=(ζ b.1).1/\(ζ h.1).2.1=(ζ b.1).2.1/\(ζ h.1).2.2=(ζ b.1).2.2/\x.1=s.2.1.1/\x.2.1=s.2.1.2.1/\x.2.2=s.2.1.2.2/\h.2=b.2.1/\(Ω h.1/\n<=h.2/\h.2<=(↑(length L):Int))/\(∀(p:Pub),(True/\qc qj x L p)/\υ b.1 p->υ h.1 p)/\True):=by kernel_rfl
section
variable (a:List AT×(Option Addr×Nat×Nat)×Int) (d:SV) (f:K9) (g:GJ×Int) (k:Int) (h:List Int) (b:List AT×(Option Addr×Nat×Nat)×Bool×Int) (m:Prop)
 def SH:=b.2.1.1=a.2.1.1/\b.2.1.2.1=a.2.1.2.1/\b.2.1.2.2=a.2.1.2.2/\m
 def SG:=d.1=f.1.1/\d.2.1=f.1.2.1/\d.2.2=f.1.2.2/\b.2.2.2=g.2/\(qx b.1/\(b.2.2.1=π->b.1≠[])/\k<=b.2.2.2/\b.2.2.2<=(↑(length h):Int))/\(∀c,((True/\qc qj d h c)/\υ g.1 c)/\qd a.1 a.2.1 c->qd b.1 b.2.1 c)/\True
 def pD:=((!decide (a.2.2=0))=π->∃(c:List AT×(Option Addr×Nat×Nat)×Bool×Int),SH a c (c.2.2.1=ι/\SG a d f g k h c))/\((!decide (a.2.2=0))=ι->∃(e:List AT×Option Addr×Nat×Nat),e.2.1=a.2.1.1/\e.2.2.1=a.2.1.2.1/\e.2.2.2=a.2.1.2.2/\qx e.1/\(∀i,((True/\qc qj d h i)/\υ g.1 i)/\qd a.1 a.2.1 i->qd e.1 e.2 i)/\∀(l:Int×Int×Int),True->∃(j:List AT×(Option Addr×Nat×Nat)×Bool×Int),SH a j (j.2.2.1=decide (l.1=0)/\SG a d f g k h j))
end
def zoa(x:SV) (L:List Int) (n:Int):qk3 P (qf5 []) (qg7 [(19,O_),(18,PW),(20,HQ)]) Tryz.f9 P_ (λ_=>{}) ⟨x,L,n⟩=(Yt (x,L,n)->(∃(p:Pub),True/\qc qj x L p)->∃(s:K9),s.1.1=x.1/\s.1.2.1=x.2.1/\s.1.2.2=x.2.2/\s.2.2=n/\Yt s/\(∀(p:Pub),True/\qc qj x L p->qc qj s.1 s.2.1 p)/\∀(b:GJ×Int),Ω b.1/\s.2.2<=b.2/\b.2<=(↑(length s.2.1):Int)->(∃(p:Pub),(True/\qc qj x L p)/\υ b.1 p)->∃(s_1:GJ),χ s_1=χ b.1/\Ε s_1=Ε b.1/\Θ s_1=Θ b.1/\(ε s_1).1=(ε b.1).1/\(ε s_1).2.1=(ε b.1).2.1/\(ε s_1).2.2=(ε b.1).2.2/\(ζ s_1).1=(ζ b.1).1/\(ζ s_1).2.1=(ζ b.1).2.1/\(ζ s_1).2.2=(ζ b.1).2.2/\Ω s_1/\(∀(p:Pub),(True/\qc qj x L p)/\υ b.1 p->υ s_1 p)/\∀(h:List AT×(Option Addr×Nat×Nat)×Int),qx h.1/\(h.2.2=0->h.1≠[])->(∃(p:Pub),((True/\qc qj x L p)/\υ b.1 p)/\qd h.1 h.2.1 p)->pD h x s b n L):=by kernel_rfl
def zx9:=λx L n=>Ο (zoa x L n) (by delta SH SG pD;exact rfl)
def zkr:q1p P 34 Pv:=by refine zh (qcl (qgj Ut qjq)) (qdd (qgi jao qjp)) (W:=λ_=>{}) Tryz.func34 λ⟨S,(x:SV),(t:Int),g⟩=>(zkq S x t g).mpr ?_;rintro⟨hS,u⟩ ⟨p,_,hx,A⟩;have sl:x.2.1=S.length:=hx.1.1;simp only[qB,exists_const,forall_const,δ];refine⟨⟨x,t⟩,rfl,rfl,rfl,rfl,λh=>⟨⟨1,zV⟩,rfl,rfl,rfl,rfl,rfl,rfl,rfl,rfl,rfl,rfl,λq hq=>jc q⟩,λh=> ?_⟩;simp only[sl,Ρ,decide_eq_true_eq]at h;refine⟨⟨S,x,0,t,g,1⟩,rfl,rfl,rfl,rfl,rfl,rfl,rfl,rfl,rfl,rfl,rfl,rfl,rfl,rfl,rfl,⟨hS,h,u,⟨(by show(0:Int)<=0;decide),(by show(0:Int)<=2000;decide)⟩,(by show(1:Int)<=1;decide),(by show(1:Int)<=21;decide)⟩,λq hq=>hq,?_⟩;rintro⟨a,e,v⟩ _ _;exact⟨λ_=>⟨⟨e,zV⟩,rfl,rfl,rfl,rfl,rfl,rfl,rfl,rfl,rfl,rfl,λq hq=>jc q⟩,λ_=>⟨⟨0,v⟩,rfl,rfl,rfl,rfl,rfl,rfl,rfl,rfl,rfl,rfl,λq hq=>hq.2⟩⟩
def zhu:q1p P 20 HQ:=by
  refine zh (qcl qjq) (qdd (qgi zkr qjp)) (W:=zkx) Tryz.func20 λ⟨S,(x:SV)⟩=>(zht S x).mpr ?_;rintro hS ⟨p,_,hx⟩;have sl:x.2.1=S.length:=hx.1.1;have X:=hS.1;simp only[qB,exists_const,forall_const,δ,sl];refine⟨⟨0,rfl,ω _⟩,?_⟩;rintro j hj;refine⟨λhlt=>⟨⟨0,rfl⟩,λk=> ?_⟩,λY=>⟨⟨0,0,0⟩,rfl,rfl,rfl⟩⟩;have A:j<S.length:=by omega
  have u:=λq (hq:qd S x q)=>y_ hq A;have h:=λq (hq:qd S x q)=>hq.2 S[j] (θ A);have G:=hS.2 S[j] (θ A);generalize S[j]=a at*;obtain⟨_,_,V,_⟩:=yH (h p hx);have U:=G.2.2.2.2.2.2.2.1;have T:∀q,qd S x q->q37 q ((adr x.1 (j*10)).add 8) [.slice a.f.1 a.fs.length a.f.2.2]:=λq hq i v hi=>by
    cases i with
    | zero=>
      rw[←V]at hi;have:=(u q hq).2 8 v hi;rw[qzz];exact this
    |succ i=>simp at hi
  refine⟨⟨by omega,by omega⟩,(u p hx).1,a.f.1,a.fs.length,a.f.2.2,T,λZ=>⟨⟨by omega,by omega⟩,(u p hx).1,a.f.1,a.fs.length,a.f.2.2,T,⟨by omega,by omega⟩,?_⟩,λZ=>⟨⟨by omega,by omega⟩,j+1,by omega,by omega,by omega⟩⟩;have B:k<a.fs.length:=by omega
  have J:=G.2.2.2.2.1 _ (θ B);have H:=λq (hq:qd S x q)=>(h q hq).2.2.2.2 a.fs[k] (θ B);have C:=λq (hq:qd S x q)=>w_ (h q hq) B;have O:k<100:=by omega
  generalize a.fs[k]=f at*;refine⟨(C p hx).1,f.nm,f.al.1,f.al.2.1,f.al.2.2,f.ty,f.hd,f.df.k,f.df.n,f.df.s,f.df.y.1,f.df.y.2.1,f.df.y.2.2,f.df.x.1,f.df.x.2.1,f.df.x.2.2,λq hq=>(C q hq).2,λ_=>⟨⟨by omega,by omega⟩,k+1,by omega,by omega⟩,λ_=>⟨⟨S,x,f.ty,f.df⟩,rfl,sl,rfl,rfl,rfl,rfl,rfl,rfl,rfl,rfl,rfl,rfl,rfl,⟨hS,J.2⟩,λq hq=>⟨hq,(H q hq).2⟩,?_⟩⟩;rintro⟨e,v⟩ _;exact⟨λ_=>⟨⟨e,j,k⟩,rfl,rfl,rfl⟩,λ_=>⟨⟨by omega,by omega⟩,k+1,by omega,λq hq=>hq.1,by omega⟩⟩
def zfr:q1p P 19 O_:=by refine qj9 mixed (qcl qjq) (qdd (qgi zqj qjp)) (W:=λ_=>{}) Tryz.func19 (by kernel_rfl) (show 1<=2 by decide) (show 2<=2 by decide) (λs=>by kernel_rfl) λ⟨(x:SV),L,(n:Int)⟩=>(zfq x L n).mpr ?_;rintro⟨h,u,hL⟩ ⟨p,_,hx⟩;simp only[qB,exists_const,forall_const,δ];refine⟨⟨mkS [84,111,112],x,L,n,0,[mkS [84,111,112]]⟩,rfl,rfl,rfl,rfl,rfl,rfl,rfl,rfl,⟨(by show(3:Nat)<100;decide),⟨h,u,hL,(by show(0:Int)<=0;decide),(by show(0:Int)<=3;decide),(by show((1:Nat):Int)<=n+1;omega),λt A=>(by simp at A;subst A;show 3<100;decide)⟩⟩,λq hq=>hq,?_⟩;rintro⟨g,n',N'⟩ ⟨hw,B,C,_⟩ _;exact⟨⟨g,n'⟩,rfl,rfl,rfl,rfl,rfl,rfl,rfl,rfl,rfl,rfl,rfl,rfl,rfl,⟨hw,B,C⟩,λq hq=>hq.2⟩
def zxa:q1p P 9 P_:=by refine zh (qcl qjq) (qdd (qgi zfr (qgi zp5 (qgi zhu qjp)))) (W:=λ_=>{}) Tryz.func9 λ⟨(x:SV),L,(n:Int)⟩=>(zx9 x L n).mpr ?_;rintro⟨A,B,hL⟩ ⟨p,_,hx⟩;simp only[qB,exists_const,forall_const,δ];refine⟨⟨x,L,n⟩,rfl,rfl,rfl,rfl,⟨A,B,hL⟩,λq hq=>hq,?_⟩;rintro⟨g,n'⟩ ⟨hw,C,G⟩ _;refine⟨g,rfl,rfl,rfl,rfl,rfl,rfl,rfl,rfl,rfl,hw,λq hq=>hq.2,?_⟩;rintro⟨S,y,e⟩ ⟨hS,u⟩ _;simp only at hS u⊢;refine⟨λhe=>⟨⟨S,y,ι,n'⟩,rfl,rfl,rfl,rfl,trivial,trivial,trivial,rfl,⟨hS,λh=>(by cases h),C,G⟩,λq hq=>hq.2⟩,λhe=>⟨⟨S,y⟩,rfl,rfl,rfl,hS,λq hq=>hq.2,?_⟩⟩;rintro⟨e2,t,i⟩;exact⟨⟨S,y,decide (e2=0),n'⟩,rfl,rfl,rfl,rfl,trivial,trivial,trivial,rfl,⟨hS,λ_=>u he,C,G⟩,λq hq=>hq.2⟩
section
def qg(R:List Int) (t:Int):Int:=R.getD t.toNat (-1)
def kK(a:AT):Int:=if a.k=9\/a.k=14 then -1 else 0
def vC(R:List Int):List Int->Int->Int
 | [],m=>m
 |b::l,m=>vC R l (if 0<=qg R b/\(m<0\/qg R b<m)then qg R b else m)
def z93(R:List Int):List AF->Int->Int
 | [],m=>m+1
 |f::l,m=>if qg R f.ty<0 then -1 else z93 R l (if m<qg R f.ty then qg R f.ty else m)
def yE(R:List Int) (a:AT):Int:=if a.k=14 then(if vC R a.brs (-1)<0 then -1 else vC R a.brs (-1)+1)else z93 R a.fs 0
def wT(S:List AT) (R:List Int):List Int:=List.zipWith (λa r=>if 0<=r then r else yE R a) S R
def zO(S:List AT):Nat->List Int
 |0=>S.map kK
 |k+1=>wT S (zO S k)
def qC(S:List AT):List Int:=zO S (S.length+1)
def yR(R B:List Int):Nat->Nat->Nat->Nat
 |0,i,m=>m
 |c+1,i,m=>yR R B c (i+1) (if 0<=qg R (B.getD i 0)/\(qg R (B.getD m 0)<0\/qg R (B.getD i 0)<qg R (B.getD m 0))then i else m)
def zE(R B:List Int):Nat:=yR R B B.length 0 0
def kP(a b:Int):Int:=if 1000000<a+b then 1000000 else a+b
def wfs(W:List Int) (i:Nat):List AF->List Int
 | []=>W
 |f::l=>wfs (W.set i (kP (qg W i) (qg W f.ty))) i l
def wU(R W:List Int) (i:Nat) (a:AT):List Int:=if a.k=14 then(W.set i 1).set i (kP (qg (W.set i 1) i) (qg (W.set i 1) (a.brs.getD (zE R a.brs) 0)))else W.set i 1
def w1(R W:List Int) (i:Nat) (a:AT):List Int:=wfs (wU R W i a) i a.fs
def Q9(S:List AT) (R:List Int) (k:Int):Nat->Nat->List Int->List Int
 |0,i,W=>W
 |c+1,i,W=>Q9 S R k c (i+1) (if qg R i=k then w1 R W i (S.getD i zA)else W)
def wall(S:List AT) (R:List Int):Nat->Int->List Int->List Int
 |0,k,W=>W
 |c+1,k,W=>wall S R c (k+1) (Q9 S R k S.length 0 W)
def wts(S:List AT) (R:List Int):List Int:=wall S R (S.length+1) 0 (qzw S.length 0)
def zW(S:List AT) (t:Int):Bool:=(decide (0<=t)&&decide (t<(S.length:Int)))&&decide (0<=qg (qC S) t)&&decide (qg (wts S (qC S)) t<=2000)
def PH(R:List Int) (i:Nat):qg R i=R.getD i (-1):=by unfold qg;rw[δ]
variable {R:List Int}
def wX{i:Nat} (h:i<R.length):qg R i=R[i]:=by rw[PH,Κ,τ h];rfl
def zzn{i:Nat} (h:i<R.length):qg R i∈R:=by rw[wX h];exact θ h
def H6(S:List AT) (R:List Int) (h:R.length=S.length):(wT S R).length=S.length:=by unfold wT;simp[h]
def ZD(S:List AT):∀k,(zO S k).length=S.length
 |0=>by rw[zO];simp
 |k+1=>by rw[zO];exact H6 S _ (ZD S k)
variable {S:List AT}
def P5(h:R.length=S.length) {i:Nat} (hi:i<S.length):qg (wT S R) i=if 0<=qg R i then qg R i else yE R S[i]:=by rw[wX (by rw[H6 S R h];exact hi),wX (by omega)];unfold wT;simp
def Po(R:List Int):∀(l:List Int) (m:Int), -1<=m-> -1<=vC R l m/\(0<=vC R l m->vC R l m=m\/∃b∈l,qg R b=vC R l m)
  | [],m,h=>by rw[vC];exact⟨h,λ_=> .inl rfl⟩
  | b ::l,m,h=>by
    rw[vC];split;next G=>
      obtain⟨B,C⟩:=Po R l (qg R b) (by omega);refine⟨B,λA=> .inr ?_⟩;rcases C A with e|⟨c,u,e⟩
      · exact⟨b,Υ,e.symm⟩
      · exact⟨c,Β _ u,e⟩
    next G=>
      obtain⟨B,C⟩:=Po R l m h;refine⟨B,λA=> ?_⟩;rcases C A with e|⟨c,u,e⟩
      · exact .inl e
      · exact .inr ⟨c,Β _ u,e⟩
def PA (R:List Int):∀(l:List AF) (m:Int),0<=m->z93 R l m= -1\/(m<z93 R l m/\(∀f∈l,0<=qg R f.ty/\qg R f.ty<z93 R l m)/\(z93 R l m=m+1\/∃f∈l,qg R f.ty+1=z93 R l m))
  | [],m,h=>by rw[z93];exact .inr ⟨by omega,λf u=>(by cases u), .inl rfl⟩
  | g :: l, m,h=>by
    rw[z93];split
    · exact .inl rfl
    next G =>
      split;next hm=>
        rcases PA R l (qg R g.ty) (by omega)with e|⟨A,B,C⟩
        · exact .inl e
        · refine .inr ⟨by omega,λf u=> ?_, .inr ?_⟩
          · rcases List.mem_cons.1 u with rfl|u
            · exact⟨by omega,A⟩
            · exact B f u
          · rcases C with e|⟨f,u,e⟩
            · exact⟨g,Υ,e.symm⟩
            · exact⟨f,Β _ u,e⟩
      next hm=>
        rcases PA R l m h with e|⟨A,B,C⟩
        · exact .inl e
        · refine .inr ⟨A,λf u=> ?_,?_⟩
          · rcases List.mem_cons.1 u with rfl|u
            · exact⟨by omega,by omega⟩
            · exact B f u
          · rcases C with e|⟨f,u,e⟩
            · exact .inl e
            · exact .inr ⟨f,Β _ u,e⟩
def yQ(S:List AT) (R:List Int) (K:Int):Prop:=R.length=S.length/\∀(i:Nat) (h:i<S.length),(-1<=qg R i/\qg R i<=K)/\(S[i].k≠9->S[i].k≠14->qg R i=0)/\(S[i].k=9->0<=qg R i->∀f∈S[i].fs,0<=qg R f.ty/\qg R f.ty<qg R i)/\(S[i].k=14->0<=qg R i->∃b∈S[i].brs,0<=qg R b/\qg R b<qg R i)/\(2<=qg R i->∃j,j<S.length/\qg R j+1=qg R i)
def vR{n:Nat} {t:Int} (h:0<=t/\t<n):∃j:Nat,j<n/\t=(j:Int):=by obtain⟨j,rfl⟩:=Η h.1;exact⟨j,by omega,rfl⟩
def znw {K:Int} (hS:qx S) (h:yQ S R K) (hK:0<=K):yQ S (wT S R) (K+1):=by
 obtain⟨V,h⟩:=h;refine⟨H6 S R V,λi hi=> ?_⟩;have hg:=hS.2 S[i] (θ hi);have keep:∀t:Int,(0<=t/\t<(S.length:Int))->0<=qg R t->qg (wT S R) t=qg R t:=λt X O=>by obtain⟨j,H,rfl⟩:=vR X;rw[P5 V H,if_pos O]
 have Z:∀t:Int,(0<=t/\t<(S.length:Int))->qg R t<=K:=λt X=>by obtain⟨j,H,rfl⟩:=vR X;exact(h j H).1.2
 obtain⟨⟨b1,b2⟩,p1,p2,p3,p4⟩:=h i hi;have G:=λf (B:f∈S[i].fs)=>(hg.2.2.2.2.1 f B).1;have C:=hg.2.2.1;rw[P5 V hi];split;next O=>
  refine⟨⟨b1,by omega⟩,p1,λU _ f B=> ?_,λU _=> ?_,λT=> ?_⟩
  ·have:=p2 U O f B;rw[keep _ (G f B) this.1];exact this
  ·obtain⟨b,A,q1,q2⟩:=p3 U O;exact⟨b,A,by rw[keep _ (C b A) q1];exact⟨q1,q2⟩⟩
  ·obtain⟨j,H,e⟩:=p4 T;exact⟨j,H,by rw[keep j ⟨by omega,by omega⟩ (by omega)];exact e⟩
 next O =>
  unfold yE;by_cases u:S[i].k=14
  ·rw [if_pos u];obtain⟨c1,c2⟩:=Po R S[i].brs (-1) (by omega);split;next hn=>exact⟨⟨by omega,by omega⟩,λ_ h=>absurd u h,λh=>absurd h (by omega),λ_ h=>absurd h (by omega),λh=>absurd h (by omega)⟩
   next hn=>
    rcases c2 (by omega)with e|⟨b,A,e⟩
    ·omega
    ·have:=Z b (C b A);refine⟨⟨by omega,by omega⟩,λ_ h=>absurd u h,λh=>absurd h (by omega),λ_ _=>⟨b,A,?_⟩,λT=> ?_⟩
     ·rw[keep _ (C b A) (by omega)];omega
     ·obtain⟨j,H,rfl⟩:=vR (C b A);exact⟨j,H,by rw[keep j ⟨by omega,by omega⟩ (by omega)];omega⟩
  ·rw [if_neg u];by_cases J:S[i].k=9
   ·rcases PA R S[i].fs 0 (by omega)with e|⟨h1,T,Y⟩
    ·rw[e];exact⟨⟨by omega,by omega⟩,λh=>absurd J h,λ_ h=>absurd h (by omega),λh=>absurd h u,λh=>absurd h (by omega)⟩
    ·refine⟨⟨by omega,?_⟩,λh=>absurd J h,λ_ _ f B=> ?_,λh=>absurd h u,λh2'=> ?_⟩
     ·rcases Y with e|⟨f,B,e⟩
      ·omega
      ·have:=Z f.ty (G f B);omega
     ·have:=T f B;rw[keep _ (G f B) this.1];exact this
     ·rcases Y with e|⟨f,B,e⟩
      ·omega
      ·have:=T f B;obtain⟨j,H,ej⟩:=vR (G f B);rw[ej]at this e;exact⟨j,H,by rw[keep j ⟨by omega,by omega⟩ this.1];omega⟩
   ·exact absurd (p1 J u) (by omega)
def znx(S:List AT):yQ S (S.map kK) 0:=by
 refine⟨by simp,λi hi=> ?_⟩;have e:qg (S.map kK) i=kK S[i]:=by rw[wX (by simpa using hi)];simp
 rw[e];unfold kK;split;next h=>exact⟨⟨by omega,by omega⟩,λu A=>by omega,λ_ h=>absurd h (by omega),λ_ h=>absurd h (by omega),λh=>absurd h (by omega)⟩
 next h=>exact⟨⟨by omega,by omega⟩,λ_ _=>rfl,λu=>absurd (Or.inl u) h,λu=>absurd (Or.inr u) h,λh=>absurd h (by omega)⟩
def P9{S:List AT} (hS:qx S):∀k:Nat,yQ S (zO S k) k
  |0=>znx S
  | k+1=>by have:=znw hS (P9 hS k) (by omega);rw[zO];exact this
def Ym(hS:qx S):yQ S (qC S) (S.length+1):=by have:=P9 hS (S.length+1);unfold qC;exact this
def zdv:∀{l R:List Int},l.Nodup->(∀x∈l,x∈R)->l.length<=R.length
  | [],R,_,_=>ω _
  | x::l,R,u,h=>by rw[List.nodup_cons]at u;have hx:=h x Υ;have:=zdv (l:=l) (R:=R.erase x) u.2 λy A=>(List.mem_erase_of_ne (λe=>by subst e;exact u.1 A)).2 (h y (Β _ A));rw[List.length_erase_of_mem hx]at this;have B:0<R.length:=List.length_pos_of_mem hx;rw[qqc];omega
def jjq{S:List AT} {R:List Int} {K:Int} (h:yQ S R K) {i:Nat} (hi:i<S.length):qg R i<=S.length:=by
  obtain⟨O,h⟩:=h;have down:∀d:Nat,∀j,j<S.length->qg R j=d->∀m:Nat,1<=m->m<=d->(m:Int)∈R:=by
    intro d;induction d with
    |zero=>intro j B e m A C;omega
    | succ d G=>
      intro j B e m A C;by_cases hm:m=d+1
      · have:=zzn (R:=R) (i:=j) (by omega);rw[e]at this;rw[hm];exact this
      · obtain⟨H,u,e2⟩:=(h j B).2.2.2.2 (by omega);exact G H u (by omega) m A (by omega)
  by_cases J:qg R i<=0
  · omega
  obtain⟨d,hd⟩:=Η (show 0<=qg R i by omega);have hs:=down d i hi hd;have:=zdv (l:=(List.range d).map λ(m:Nat)=>((m+1:Nat):Int)) (R:=R) (by unfold List.Nodup;rw[List.pairwise_map];exact(List.nodup_range (n:=d)).imp λ{a b} h e=>h (by simp at e;omega)) λx hx=>by obtain⟨m,hm,rfl⟩:=List.mem_map.1 hx;rw[List.mem_range]at hm;exact hs (m+1) (by omega) (by omega)
  simp at this;omega
end
section
def Lh(R B:List Int):∀(c i m:Nat),c+i=B.length->m<B.length->yR R B c i m<B.length/\(0<=qg R (B.getD m 0)->0<=qg R (B.getD (yR R B c i m) 0)/\qg R (B.getD (yR R B c i m) 0)<=qg R (B.getD m 0))/\∀j,i<=j->j<B.length->0<=qg R (B.getD j 0)->0<=qg R (B.getD (yR R B c i m) 0)/\qg R (B.getD (yR R B c i m) 0)<=qg R (B.getD j 0)
  |0,i,m,h,hm=>by rw[yR];exact⟨hm,λh=>⟨h,by omega⟩,λj G u=>by omega⟩
  | c + 1,i,m,h,hm=>by
    rw[yR];split;next O=>
      obtain⟨G,u,H⟩:=Lh R B c (i+1) i (by omega) (by omega);have u:=u O.1;refine⟨G,λT=>⟨u.1,by omega⟩,λj J A C=> ?_⟩;by_cases e:j=i
      · subst e;exact u
      · exact H j (by omega) A C
    next O=>
      obtain⟨G,u,H⟩:=Lh R B c (i+1) m (by omega) hm;refine⟨G,u,λj J A C=> ?_⟩;by_cases e:j=i
      · subst e;have:=u (by omega);exact⟨this.1,by omega⟩
      · exact H j (by omega) A C
def Lg{R B:List Int} (h:B≠[]):zE R B<B.length:=by have:0<B.length:=List.length_pos_iff.2 h;exact(Lh R B B.length 0 0 (by omega) this).1
def Um{B:List Int} {i:Nat} (h:i<B.length):B.getD i 0∈B:=by rw[Κ,τ h];exact θ h
variable {S:List AT} {R:List Int} {K:Int}
def HZ(h:yQ S R K) {i:Nat} (hi:i<S.length) (H:S[i].k=14) (A:0<=qg R i):zE R S[i].brs<S[i].brs.length/\0<=qg R (S[i].brs.getD (zE R S[i].brs) 0)/\qg R (S[i].brs.getD (zE R S[i].brs) 0)<qg R i:=by
 obtain⟨b,G,B,C⟩:=(h.2 i hi).2.2.2.1 H A;obtain⟨j,u,rfl⟩:=List.getElem_of_mem G;have:=(Lh R S[i].brs S[i].brs.length 0 0 (by omega) (by omega)).2.2 j (by omega) u;have ej:S[i].brs.getD j 0=S[i].brs[j]:=by rw[Κ,τ u];rfl
 rw[ej]at this;have:=this B;exact⟨Lg (λe=>by rw[e]at u;simp at u),this.1,Int.lt_of_le_of_lt this.2 C⟩
variable {W:List Int}
def QH{i j:Nat} (hi:i<W.length) (v:Int):qg (W.set i v) j=if j=i then v else qg W j:=by
 rw[PH,PH,Κ,Κ];by_cases h:j=i
 ·subst h;rw[List.getElem?_set_self hi,if_pos rfl];rfl
 ·rw[List.getElem?_set_ne (λe=>h e.symm),if_neg h]
def Yc{i:Nat} {t:Int} (hi:i<W.length) (v:Int) (u:0<=t):qg (W.set i v) t=if t=i then v else qg W t:=by
 obtain⟨j,rfl⟩:=Η u;rw[QH hi];by_cases h:j=i
 ·subst h;rw[if_pos rfl,if_pos rfl]
 ·rw[if_neg h,if_neg (by omega)]
def WB(n:Nat) (W:List Int):Prop:=W.length=n/\∀i,i<n->0<=qg W i/\qg W i<=1000000
def LB{n:Nat} (h:WB n W) {t:Int} (A:0<=t/\t<n):0<=qg W t/\qg W t<=1000000:=by obtain⟨j,u,rfl⟩:=vR A;exact h.2 j u
def z70{n:Nat} (h:WB n W) {i:Nat} (hi:i<n) {v:Int} (A:0<=v/\v<=1000000):WB n (W.set i v):=by
 refine⟨by rw[qqn];exact h.1,λj u=> ?_⟩;rw[QH (by have:=h.1;omega)];split
 ·exact A
 ·exact h.2 j u
def Lz{a b:Int} (h:0<=a) (u:0<=b):0<=kP a b/\kP a b<=1000000:=by unfold kP;split<;>omega
def jn(W:List Int):List AF->Int
 | []=>0
 |f::l=>qg W f.ty+jn W l
def Yr(n:Nat) (l:List AF):Prop:=∀f∈l,0<=f.ty/\f.ty<n
def Pf{n:Nat} {W:List Int} (h:WB n W):∀{l:List AF},Yr n l->0<=jn W l
  | [],_=>qzc _
  | f::l,u=>by have B:=LB h (u f Υ);have C:=Pf h (l:=l) λg A=>u g (Β _ A);rw[jn];omega
def Hw{W V:List Int}:∀{l:List AF},(∀f∈l,qg V f.ty=qg W f.ty)->jn V l=jn W l
 | [],_=>rfl
 |f::l,h=>by rw[jn,jn,h f Υ,Hw λg u=>h g (Β _ u)]
def zk6{n:Nat} {W:List Int} (h:WB n W):∀{l:List AF},Yr n l->∀f∈l,qg W f.ty<=jn W l
  | g::l,B,f,u=>by
    have G:=Pf h (l:=l) λg A=>B g (Β _ A);have C:=LB h (B g Υ);rw[jn];rcases List.mem_cons.1 u with rfl|u
    · omega
    · have:=zk6 h (λg A=>B g (Β _ A)) f u;omega
def zwp{n:Nat} {i:Nat} (hi:i<n):∀{l:List AF} {W:List Int},WB n W->Yr n l->WB n (wfs W i l)/\(∀t:Int,0<=t->t≠i->qg (wfs W i l) t=qg W t)/\qg W i<=qg (wfs W i l) i/\((∀f∈l,f.ty≠i)->kP (qg W i) (jn W l)<=qg (wfs W i l) i)
  | [],W,h,G=>by rw[wfs,jn];refine⟨h,λ_ _ _=>rfl,qzc _,λ_=> ?_⟩;have:=h.2 i hi;unfold kP;split<;>omega
  | f ::l,W,h,G=>by
    have A:i<W.length:=by have:=h.1;omega
    have T:=LB h (G f Υ);have O:=h.2 i hi;have hw:=z70 h hi (Lz O.1 T.1);have B:Yr n l:=λg C=>G g (Β _ C);obtain⟨J,a2,a3,a4⟩:=zwp hi hw B;rw[QH A,if_pos rfl]at a3 a4;rw[wfs];refine⟨J,λt H u=> ?_,?_,λu=> ?_⟩
    · rw[a2 t H u,Yc A _ H,if_neg u]
    · refine qz4 ?_ a3;unfold kP;split<;>omega
    · have a4:=a4 λg C=>u g (Β _ C);have e:jn (W.set i (kP (qg W i) (qg W f.ty))) l=jn W l:=Hw λg C=>(by rw[Yc A _ (B g C).1,if_neg (u g (Β _ C))]);rw[e]at a4;have hp:=Pf h B;refine qz4 ?_ a4;rw[jn];unfold kP
      (repeat' split)<;>omega
def WI(R W:List Int) (i:Nat) (a:AT):Prop:=1<=qg W i/\(a.k=9->kP 1 (jn W a.fs)<=qg W i)/\(a.k=14->kP 1 (qg W (a.brs.getD (zE R a.brs) 0))<=qg W i)
def jjy{R W:List Int} (hS:qx S) (h:yQ S R K) (hW:WB S.length W) {i:Nat} (hi:i<S.length) (Z:0<=qg R i):WB S.length (w1 R W i S[i])/\(∀t:Int,0<=t->t≠i->qg (w1 R W i S[i]) t=qg W t)/\WI R (w1 R W i S[i]) i S[i]:=by
 have hg:=hS.2 S[i] (θ hi);have J:Yr S.length S[i].fs:=λf J=>(hg.2.2.2.2.1 f J).1;have B:i<W.length:=by have:=hW.1;omega
 have hr:=h.2 i hi;have A:WB S.length (wU R W i S[i])/\(∀t:Int,0<=t->t≠i->qg (wU R W i S[i]) t=qg W t)/\1<=qg (wU R W i S[i]) i/\(S[i].k≠14->qg (wU R W i S[i]) i=1)/\(S[i].k=14->qg (wU R W i S[i]) i=kP 1 (qg W (S[i].brs.getD (zE R S[i].brs) 0))):=by
  have U:=z70 hW hi (v:=1) (by omega);have C:i<(W.set i 1).length:=by rw[qqn];exact B
  unfold wU;split;next G=>
   obtain⟨c1,c2,Y⟩:=HZ h hi G Z;have O:=hg.2.2.1 _ (Um c1);have u:S[i].brs.getD (zE R S[i].brs) 0≠(i:Int):=λe=>(by rw[e]at Y;omega);have e1:qg (W.set i 1) i=1:=(by rw[QH B,if_pos rfl]);have e2:qg (W.set i 1) (S[i].brs.getD (zE R S[i].brs) 0)=qg W (S[i].brs.getD (zE R S[i].brs) 0):=(by rw[Yc B _ O.1,if_neg u]);rw[e1,e2];have hv:=LB hW O;refine⟨z70 U hi (Lz (by omega) hv.1),λt H u=> ?_,?_,λh=>absurd G h,λ_=> ?_⟩
   ·rw[Yc C _ H,if_neg u,Yc B _ H,if_neg u]
   ·rw[QH C,if_pos rfl];unfold kP;split<;>omega
   ·rw[QH C,if_pos rfl]
  next G=>
   refine⟨U,λt H u=>by rw[Yc B _ H,if_neg u],by rw[QH B,if_pos rfl];exact qzc _,λ_=>by rw[QH B,if_pos rfl],λh=>absurd h G⟩
 obtain⟨A1,A2,A3,A4,A5⟩:=A;obtain⟨b1,X,b3,V⟩:=zwp hi A1 J;unfold w1;refine⟨b1,λt H u=>by rw[X t H u,A2 t H u],by omega,λG=> ?_,λG=> ?_⟩
 ·have hlt:=hr.2.2.1 G Z;have u:∀f∈S[i].fs,f.ty≠(i:Int):=λf J e=>by have:=hlt f J;rw[e]at this;omega
  have V:=V u;rw[A4 (by omega)]at V;rw[Hw (W:=wU R W i S[i]) λf T=>X f.ty (J f T).1 (u f T)];exact V
 ·obtain⟨c1,c2,Y⟩:=HZ h hi G Z;have O:=hg.2.2.1 _ (Um c1);have u:S[i].brs.getD (zE R S[i].brs) 0≠(i:Int):=λe=>by rw[e]at Y;omega
  rw[X _ O.1 u,A2 _ O.1 u,←A5 G];exact b3
def WK(S:List AT) (R:List Int) (k:Int) (i:Nat) (W:List Int):Prop:=WB S.length W/\∀(j:Nat) (h:j<S.length),0<=qg R j->(qg R j<k\/qg R j=k/\j<i)->WI R W j S[j]
def zx2{R W:List Int} {K k:Int} (hS:qx S) (h:yQ S R K) (hk:0<=k) {i:Nat} (hi:i<S.length) (T:WK S R k i W):WK S R k (i+1) (if qg R i=k then w1 R W i (S.getD i zA)else W):=by
 have e:S.getD i zA=S[i]:=by rw[Κ,τ hi];rfl
 rw[e];split;next hr=>
  obtain⟨a1,a2,a3⟩:=jjy hS h T.1 hi (by omega);refine⟨a1,λj A G hc=> ?_⟩;by_cases C:j=i
  ·subst C;exact a3
  have hw:=T.2 j A G (by omega);have Y:=λO=>(h.2 j A).2.2.1 O G;have X:=λf (U:f∈S[j].fs)=>((hS.2 S[j] (θ A)).2.2.2.2.1 f U).1.1;have V:=λb (hb:b∈S[j].brs)=>((hS.2 S[j] (θ A)).2.2.1 b hb).1;have u:(j:Int)≠(i:Int):=by omega
  have B:0<=(j:Int):=by omega
  have J:qg R j<=k:=by omega
  rw[←hr]at J;have ne:∀t:Int,qg R t<qg R j->t≠(i:Int):=λt Z e=>by rw[e]at Z;exact absurd J (Int.not_le.2 Z)
  refine⟨by rw[a2 j B u];exact hw.1,λO=> ?_,λH=> ?_⟩
  ·rw[Hw (W:=W) λf U=>a2 f.ty (X f U) (ne _ (Y O f U).2),a2 j B u];exact hw.2.1 O
  ·obtain⟨c1,c2,c3⟩:=HZ h A H G;rw[a2 _ (V _ (Um c1)) (ne _ c3),a2 j B u];exact hw.2.2 H
 next hr=>exact⟨T.1,λj A G hc=>T.2 j A G (by
  by_cases C:j=i
  ·subst C;omega
  ·omega)⟩
def zlj{S:List AT} {R:List Int} {K k:Int} (hS:qx S) (h:yQ S R K) (B:0<=k):∀(c i:Nat) (W:List Int),c+i=S.length->WK S R k i W->WK S R (k+1) 0 (Q9 S R k c i W)
  | 0,i,W,A,u=>by rw[Q9];exact⟨u.1,λj G C A=>u.2 j G C (by omega)⟩
  | c+1,i,W,A,u=>by rw[Q9];exact zlj hS h B c (i+1) _ (by omega) (zx2 hS h B (by omega) u)
def zla{S:List AT} {R:List Int} {K:Int} (hS:qx S) (h:yQ S R K):∀(c:Nat) (k:Int) (W:List Int),0<=k->WK S R k 0 W->WK S R (k+c) 0 (wall S R c k W)
  |0,k,W,A,u=>by rw[wall];simpa using u
  | c+1,k,W,A,u=>by rw[wall];have:=zla hS h c (k+1) _ (by omega) (zlj hS h A S.length 0 W (by omega) u);rw[show k+((c+1:Nat):Int)=k+1+c by omega];exact this
def LA(hS:qx S) (h:yQ S R K):WB S.length (wts S R)/\∀(j:Nat) (u:j<S.length),0<=qg R j->WI R (wts S R) j S[j]:=by have B:WK S R 0 0 (qzw S.length 0):=⟨⟨by simp,λi hi=>by rw[wX (by simpa using hi)];simp⟩,λj u A C=>by omega⟩;have:=zla hS h (S.length+1) 0 _ (by omega) B;refine⟨this.1,λj u A=>this.2 j u A (.inl ?_)⟩;have:=jjq h u;omega
def uL{t:Int}:zW S t=π↔(0<=t/\t<(S.length:Int))/\0<=qg (qC S) t/\qg (wts S (qC S)) t<=2000:=by unfold zW;simp[and_assoc]
def Pz{S:List AT} (hS:qx S) {i:Nat} (hi:i<S.length) (G:S[i].k=9) (h:zW S i=π):1+jn (wts S (qC S)) S[i].fs<=qg (wts S (qC S)) i/\∀f∈S[i].fs,zW S f.ty=true:=by
 obtain⟨_,B,O⟩:=uL.1 h;have C:=Ym hS;obtain⟨w1,J⟩:=LA hS C;have hw:=(J i hi B).2.1 G;have H:=hS.2 S[i] (θ hi);have A:Yr S.length S[i].fs:=λf A=>(H.2.2.2.2.1 f A).1;have e:1+jn (wts S (qC S)) S[i].fs<=qg (wts S (qC S)) i:=by unfold kP at hw;split at hw<;>omega
 refine⟨e,λf u=>uL.2 ⟨A f u,((C.2 i hi).2.2.1 G B f u).1,?_⟩⟩;have:=zk6 w1 A f u;omega
def zj4(hS:qx S) {i:Nat} (hi:i<S.length) (B:S[i].k=14) (h:zW S i=π):1+qg (wts S (qC S)) (S[i].brs.getD (zE (qC S) S[i].brs) 0)<=qg (wts S (qC S)) i:=by obtain⟨_,u,G⟩:=uL.1 h;have A:=Ym hS;obtain⟨w1,C⟩:=LA hS A;have hw:=(C i hi u).2.2 B;unfold kP at hw;split at hw<;>omega
end
section
def qz:List Ck->Nat
 | []=>0
 |k::l=>k.size+10+qz l
mutual
def PV.wt:PV->Nat
 | .mk n s l ks b=>30+0*s.size+qz ks+PV.wts l
def PV.wts:List PV->Nat
 | []=>0
 |v::l=>PV.wt v+PV.wts l
end
def z53(n:Int) (s:Ck) (l:List PV) (ks:List Ck) (b:Int):(PV.mk n s l ks b).wt=30+0*s.size+qz ks+PV.wts l:=by rw[PV.wt]
def Ki:zV.pv= .mk 0 (mkS []) [] [] 0:=by unfold zV;rw[qq5,qqh]
def j0:(mkS []).size=0:=rfl
def z21:∀(l m:List PV),PV.wts (l++m)=PV.wts l+PV.wts m
 | [],m=>by rw[PV.wts];simp
 |v::l,m=>by rw[qqu,PV.wts,PV.wts,z21 l m];omega
def Kb(v:PV):PV.wts [v]=PV.wt v:=by rw[PV.wts,PV.wts];rfl
def zwr:∀v:PV,30<=PV.wt v
 | .mk n s l ks b=>by rw[PV.wt];omega
def PL:∀l:List PV,30*l.length<=PV.wts l
  | []=>by simp
  | v::l=>by have:=PL l;have:=zwr v;rw[PV.wts,qqc];omega
def zit:∀{l:List Ck} {k:Ck},k∈l->k.size<=qz l
  | a::l,v,h=>by
    rw[qz];rcases List.mem_cons.1 h with rfl|h
    · omega
    · have:=zit h;omega
def Py:∀(l m:List Ck),qz (l++m)=qz l+qz m
 | [],m=>by rw[qz];simp
 |v::l,m=>by rw[qqu,qz,qz,Py l m];omega
def Ul(l:List PV) (k:Nat):PV.wts (l.take k)+PV.wts (l.drop k)=PV.wts l:=by rw[←z21,qqj]
variable {l:List PV}
def j0l{k:Nat} (h:k<l.length) (w:PV):PV.wts (l.set k w)+PV.wt l[k]=PV.wts l+PV.wt w:=by have e:=Ul l k;rw[Φ h,PV.wts]at e;rw[qq6,if_pos h,z21,PV.wts];omega
def Ka:∀{l:List PV},PV.sms l↔∀v∈l,v.sm
 | []=>by unfold PV.sms;simp
 |v::l=>by unfold PV.sms;rw[Ka (l:=l)];simp
mutual
def PV.nar:PV->Prop
 | .mk n s l ks b=>s.size<=1000000/\l.length<=1000/\ks.length<=1000/\PV.nars l
def PV.nars:List PV->Prop
 | []=>True
 |v::l=>PV.nar v/\PV.nars l
end
def z80:∀{l:List PV},PV.nars l↔∀v∈l,v.nar
 | []=>by unfold PV.nars;simp
 |v::l=>by unfold PV.nars;rw[z80 (l:=l)];simp
def PV.sn(v:PV):Prop:=v.sm/\v.nar
variable {s:Ck} {ks:List Ck}
def z51{n:Int} {b:Int} (G:0<=n/\n<18446744073709551616) (hs:s.size<=1000000) (C:l.length<=1000) (B:ks.length<=1000) (u:∀k∈ks,k.size<9223372036854775808) (h:∀v∈l,v.sn):(PV.mk n s l ks b).sn:=⟨by rw[PV.sm];exact⟨G,by omega,by omega,by omega,u,Ka.2 λv A=>(h v A).1⟩,by rw[PV.nar];exact⟨hs,C,B,z80.2 λv A=>(h v A).2⟩⟩
def CS{n:Int} {b:Int} (h:(PV.mk n s l ks b).sn):(0<=n/\n<18446744073709551616)/\s.size<=1000000/\l.length<=1000/\ks.length<=1000/\(∀k∈ks,k.size<9223372036854775808)/\∀v∈l,v.sn:=by obtain⟨A,u⟩:=h;rw[PV.sm]at A;rw[PV.nar]at u;exact⟨A.1,u.1,u.2.1,u.2.2.1,A.2.2.2.2.1,λv B=>⟨Ka.1 A.2.2.2.2.2 v B,z80.1 u.2.2.2 v B⟩⟩
mutual
def PV.ss:PV->Prop
 | .mk n s l ks b=>s.size<=1000001/\PV.sss l
def PV.sss:List PV->Prop
 | []=>True
 |v::l=>PV.ss v/\PV.sss l
end
def zk5:∀{l:List PV},PV.sss l↔∀v∈l,v.ss
 | []=>by unfold PV.sss;simp
 |v::l=>by unfold PV.sss;rw[zk5 (l:=l)];simp
mutual
def zvy:∀{v:PV},v.nar->v.ss
  | .mk n s l ks b,h=>by rw[PV.nar]at h;rw[PV.ss];exact⟨by omega,nars_sss h.2.2.2⟩
def nars_sss:∀{l:List PV},PV.nars l->PV.sss l
  | [],_=>by unfold PV.sss;trivial
  | v::l,h=>by unfold PV.nars at h;unfold PV.sss;exact⟨zvy h.1,nars_sss h.2⟩
end
def PV.sz(v:PV):Prop:=v.sm/\v.ss
def PV.sn.sz{v:PV} (h:v.sn):v.sz:=⟨h.1,zvy h.2⟩
def HF{S:List AT} {f:Nat->Int}:∀{l:List PV} {i:Nat},(∀(j:Nat) (h:j<l.length),Ν S (f (i+j)) l[j]=π)->qza S f i l=π
  | [],i,h=>by rw[qza]
  | v ::l,i,h=>by
    rw[qza];have u:=h 0 (by simp);have:=HF (S:=S) (f:=f) (l:=l) (i:=i+1) λj A=>by have:=h (j+1) (by simp;omega);rw[show i+1+j=i+(j+1)by omega];simpa using this
    rw[this];simpa using u
variable {S:List AT}
def zd7{f:Nat->Int} {t:Int} (u:∀i,f i=t) {l:List PV} (h:∀v∈l,Ν S t v=π):qza S f 0 l=true:=
 HF λj A=>by rw[u];exact h _ (θ A)
variable {i:Nat}
def j93(hi:i<S.length) {n:Int} (u:zo S[i].k=π) (h:vi S[i] n=π):Ν S i (.mk n (mkS []) [] [] 0)=true:=by rw[Ν,if_neg (by omega)];simp only[δ,τ hi];rw[if_pos u,h];rfl
def j94(hi:i<S.length) {s:Ck} (u:q8 S[i].k=π) (h:yV S[i] s=π):Ν S i (.mk 0 s [] [] 0)=true:=by
 have A:zo S[i].k=false:=by unfold q8 at u;have:=of_decide_eq_true u;unfold zo;exact decide_eq_false (by omega)
 rw[Ν,if_neg (by omega)];simp only[δ,τ hi];rw[if_neg (by rw[A];decide),if_pos u,h];rfl
def Lj(hi:i<S.length) {l:List PV} {ks:List Ck} {b:Int} (u:qp S[i].k=π) (h:vj S[i] l.length ks b=π) (A:qza S (qG S[i] b) 0 l=π):Ν S i (.mk 0 (mkS []) l ks b)=true:=by
 have hq:=u;unfold qp at hq;have hq:=of_decide_eq_true hq;have B:zo S[i].k=false:=by unfold zo;exact decide_eq_false (by omega)
 have C:q8 S[i].k=false:=by unfold q8;exact decide_eq_false (by omega)
 rw[Ν,if_neg (by omega)];simp only[δ,τ hi];rw[if_neg (by rw[B];decide),if_neg (by rw[C];decide),if_pos u,h,A];rfl
def zox(hi:i<S.length) (u:S[i].k=9) {l:List PV} (B:l.length=S[i].fs.length) (h:∀(j:Nat) (C:j<l.length) (G:j<S[i].fs.length),Ν S (S[i].fs[j]).ty l[j]=π):Ν S i (.mk 0 (mkS []) l [] 0)=true:=by
 refine Lj hi (by unfold qp;exact decide_eq_true (.inl u)) ?_ (HF λj A=> ?_)
 ·unfold vj;rw[if_neg (by simp),if_pos u];exact decide_eq_true B
 ·have e:qG S[i] 0 (0+j)=(S[i].fs[j]'(by omega)).ty:=by unfold qG;rw[if_pos u,Χ,τ (by omega)]
  rw[e];exact h j A (by omega)
def zoy(hi:i<S.length) (u:S[i].k=14) {b:Nat} (B:b<S[i].brs.length) {v:PV} (h:Ν S (S[i].brs.getD b 0) v=π):Ν S i (.mk 0 (mkS []) [v] [] b)=true:=by
 refine Lj hi (by unfold qp;exact decide_eq_true (by omega)) ?_ (HF λj A=> ?_)
 ·unfold vj;rw[if_neg (by simp[u]),if_neg (by omega),if_pos u];exact decide_eq_true ⟨by omega,by omega,rfl⟩
 ·obtain rfl:j=0:=by simp at A;exact A
  have e:qG S[i] (b:Int) (0+0)=S[i].brs.getD b 0:=by unfold qG;rw[if_neg (by omega),if_pos u,δ]
  rw[e];exact h
def zov(hi:i<S.length) (u:S[i].k=12) {l:List PV} (h:∀v∈l,Ν S S[i].it v=π):Ν S i (.mk 0 (mkS []) l [] 0)=true:=by
 refine Lj hi (by unfold qp;exact decide_eq_true (by omega)) ?_ (zd7 (λj=> ?_) h)
 ·unfold vj;rw[if_neg (by simp),if_neg (by omega),if_neg (by omega),if_neg (by omega)]
 ·unfold qG;rw[if_neg (by omega),if_neg (by omega)]
def zow(hi:i<S.length) (A:S[i].k=13) {l:List PV} {ks:List Ck} (B:ks.length=l.length) (u:yN ks=π) (h:∀v∈l,Ν S S[i].it v=π):Ν S i (.mk 0 (mkS []) l ks 0)=true:=by
 refine Lj hi (by unfold qp;exact decide_eq_true (by omega)) ?_ (zd7 (λj=> ?_) h)
 ·unfold vj;rw[if_neg (by omega),if_neg (by omega),if_neg (by omega),if_pos A,u,decide_eq_true B.symm];rfl
 ·unfold qG;rw[if_neg (by omega),if_neg (by omega)]
def Jm(a:Ck):List Ck->Bool
 | []=>π
 |j::_=>qdf a j
def O8(a:Ck) (l:List Ck):yN (a::l)=(qP a&&Jm a l&&yN l):=by
 cases l with
 |nil=>rw[yN,Jm,yN];simp
 |cons j l=>rw[yN,Jm]
def z44(k a:Ck) (l:List Ck):qO k (a::l)=if qdf a k=π then a::qO k l else if a=k then a::l else k::a::l:=by
 unfold qO vS;rw[zU];by_cases h:qdf a k=π
 ·rw[if_pos h,if_pos h];simp only[List.getElem?_cons_succ,qzl,List.drop_succ_cons];split<;>rfl
 ·rw[if_neg h,if_neg h];simp only[List.getElem?_cons_zero,qzs,List.drop_zero,Ζ,decide_eq_true_eq,Option.some.injEq]
def zzf{a k:Ck} {l:List Ck} (h:qdf a k=π) (u:Jm a l=π):Jm a (qO k l)=true:=by
  cases l with
  |nil=>unfold qO vS;simp[zU,Jm,h]
  | cons j l=>
    rw[z44];split
    · exact u
    · split
      · exact u
      · exact h
def zdk{k:Ck} (u:qP k=π):∀{l:List Ck},yN l=π->yN (qO k l)=π
  | [],_=>by unfold qO vS;simp[zU,yN,u]
  | a ::l,h=>by
    have C:=h;rw[O8,Ρ,Ρ]at h;obtain⟨⟨G,H⟩,J⟩:=h;rw[z44];split;next A=>rw[O8,G,zzf A H,zdk u J];rfl
    next A=>
      split
      · exact C
      next B=>
        rw[O8,u,C];rw[Jm];rcases(QI k a).2 (by simpa using A)with g|g
        · rw[g];rfl
        · exact absurd g.symm B
variable {k:Ck}
def zdz{w v:PV} (h:v∈zC k ks l w):v=w\/v∈l:=by
 unfold zC at h;split at h
 ·rcases qzg h with h|h
  ·exact .inr h
  ·exact .inl h
 ·rcases List.mem_append.1 h with h|h
  ·exact .inr (qqx h)
  ·rcases List.mem_cons.1 h with h|h
   ·exact .inl h
   ·exact .inr (qqy h)
def z82{x:Ck} (h:x∈qO k ks):x=k\/x∈ks:=by
 unfold qO at h;split at h
 ·exact .inr h
 ·rcases List.mem_append.1 h with h|h
  ·exact .inr (qqx h)
  ·rcases List.mem_cons.1 h with h|h
   ·exact .inl h
   ·exact .inr (qqy h)
def zzk{w:PV}:PV.wts (zC k ks l w)<=PV.wts l+PV.wt w:=by
 unfold zC;split
 ·by_cases h:zU k ks<l.length
  ·have:=j0l h w;omega
  ·rw[List.set_eq_of_length_le (by omega)];omega
 ·have:=Ul l (zU k ks);rw[z21,PV.wts];omega
def zzg:qz (qO k ks)<=qz ks+k.size+10:=by
 unfold qO;split
 ·omega
 ·have:qz (ks.take (zU k ks))+qz (ks.drop (zU k ks))=qz ks:=by rw[←Py,qqj]
  rw[Py,qz];omega
end
def vg(k:Int):Bool:=decide (k=3\/k=4)
def Qo(k:Int):Bool:=decide (k=7\/k=8)
def vh(k:Int):Bool:=decide (k=12\/k=13)
def Vo(t:T AV) (k:Nat):Option Nat:=match t.get k with
 |some (.ptr b _)=>ς b
 |_=>Α
def We(h:T AO) (u n:Nat):AO:=match h.get u with
 |some (.cells ty fz g [a,b,_,d,e])=> .cells ty fz g [a,b, .ssl 40 0 n 5 41,d,e]
 |_=> .cells 0 Α ι []
abbrev vG:=List AT×zi×Int×Int
abbrev zD:=GV×Int×Int×Int
def Hq(S:List AT) (x y:SV) (D:Ck):PF:=⟨π,λp=>qd S x p/\(y.2.1=D.size/\qgn p y.1 y.2.1 y.2.2 (q18 D)),λ_ _ h e=>⟨yG h e.1,e.2.1,q4n h e.2.2⟩⟩
def jK(all h e:Int):Int:=if e=0/\(20<h\/2000<all)then 3 else e
def z17(R:zG) (D:Ck) (n all e:Int):zD->Prop:=λ⟨r,n',h,e'⟩=>(if e=0 then jJ R r.pv n' h e' else e'=e)/\qD D n'/\(all<=h/\h<=2001)/\(e'=0->h<=2000)/\n<=n'
def wB:CtR where
 σ:=vG
 args:=λ⟨S,⟨x,y,D,n,all,e⟩,t,A⟩=>[.ptr 1 0, .sv (.int .i64 t), .sv (.int .i64 A)]
 h:=λ⟨S,⟨x,y,D,n,all,e⟩,t,A⟩=>jD x y n all e
 m:=2
 pre:=λ⟨S,⟨x,y,D,n,all,e⟩,t,A⟩=>zp S/\qD D n/\(0<=all/\all<=2000)/\0<=e/\(0<=t/\t<S.length)/\1<=A/\A<=21
 mem:=λ⟨S,⟨x,y,D,n,all,e⟩,t,A⟩=>Hq S x y D
 β:=λ_=>zD
 post:=λ⟨S,⟨x,y,D,n,all,e⟩,t,A⟩ b=>z17 (qM S D (21- A).toNat t n.toNat all.toNat) D n (all+1) e b
 pm:=λ_ ⟨r,n',u,e'⟩=>vM r
 r:=λ_ ⟨r,n',u,e'⟩=>r.av
 h':=λ⟨S,⟨x,y,D,n,all,e⟩,t,A⟩ ⟨r,n',u,e'⟩=>jD x y n' u e'
 m':=2
def yz:vG->Nat:=λ⟨S,_,t,h⟩=>(25- h).toNat
abbrev Y0:=List AT×zi×AT×Int
def rbM(S:List AT) (a:AT) (x y:SV) (D:Ck):PF:=⟨π,λp=>qd S x p/\a.ok p/\(y.2.1=D.size/\qgn p y.1 y.2.1 y.2.2 (q18 D)),λ_ _ h e=>⟨yG h e.1,qzq h e.2.1,e.2.2.1,q4n h e.2.2.2⟩⟩
def qu(S:List AT) (D:Ck) (h:Int):Int->Nat->Nat->zG:=λt n c=>qM S D (20- h).toNat t n c
def Jj(κ:AT->Prop):CtR where
 σ:=Y0
 args:=λ⟨S,⟨x,y,D,n,all,e⟩,a,A⟩=>[.ptr 1 0,a.av, .sv (.int .i64 A)]
 h:=λ⟨S,⟨x,y,D,n,all,e⟩,a,A⟩=>jD x y n all e
 m:=2
 pre:=λ⟨S,⟨x,y,D,n,all,e⟩,a,A⟩=>zp S/\a∈S/\κ a/\qD D n/\(0<=all/\all<=2000)/\e=0/\1<=A/\A<=20
 mem:=λ⟨S,⟨x,y,D,n,all,e⟩,a,A⟩=>rbM S a x y D
 β:=λ_=>zD
 post:=λ⟨S,⟨x,y,D,n,all,e⟩,a,A⟩ b=>z17 (ko (qu S D A) D a n.toNat all.toNat) D n all 0 b
 pm:=λ_ ⟨r,n',u,e'⟩=>vM r
 r:=λ_ ⟨r,n',u,e'⟩=>r.av
 h':=λ⟨S,⟨x,y,D,n,all,e⟩,a,A⟩ ⟨r,n',u,e'⟩=>jD x y n' u e'
 m':=2
def x8:Y0->Nat:=λ⟨S,_,a,h⟩=>(25- h).toNat
def Az(a:AT):Prop:=a.k=12
def AA(a:AT):Prop:=a.k=13
def ux(a:AT):Prop:=a.k=12\/a.k=13
def vA{α:Type} (h:Rs α) (e:Int) (q:Prop):Prop:=(e=0/\q)\/∃k:Nat,e=k+1/\h= .no k
def Hp(S:List AT) (t u:Int) (D:Ck) (n all:Int) (j:Nat) (A h e1:Int) (fs:List GV):Prop:=
 j<=(qe S t).fs.length/\fs.length=j/\qD D A/\(all<=h/\h<=2001)/\(e1=0->h<=2000)/\n<=A/\
 vA (kY (qu S D u) ((qe S t).fs.map AF.ty) [] n.toNat all.toNat) e1 (kY (qu S D u) (((qe S t).fs.map AF.ty).drop j) (qqh fs) A.toNat h.toNat=kY (qu S D u) ((qe S t).fs.map AF.ty) [] n.toNat all.toNat)
def wRv:vG->WayF:=λ⟨S,⟨x,y,D,n,all,e⟩,t,C⟩=>{
 pubE:=[183]
 spl:=λi=>match i with
  |40=>ς 11
  |_=>Α
 flo:=λi=>match i with
  |40=>ς (11,[0,1])
  |_=>Α
 cut:=λi B _=>match i with
  |4=>ς {σ:=Unit,t:=λ_=>[],h:=λ_=>jD x y n (all+1) (jK (all+1) C e),more:=0,μ:=λ_=>0,keep:=[0,1,2,6]}
  |15=>xN vg 56 45 [0,1,2,6,7,8,45] B
  |25=>xN Qo 87 45 [0,1,2,6,7,8,45] B
  |43=>xN vh 176 45 [0,1,2,6,7,8,45] B
  |_=>Α
 ann:=λid B H=>match Vo B 7 with
  |some G=>ς {σ:=Nat×Int×Int×Int×List GV,pre:=λ⟨j,A,u,e1,fs⟩=>Hp S t C D n (all+1) j A u e1 fs,mem:=λ⟨j,A,u,e1,fs⟩=>yh fs,t:=λ⟨j,A,u,e1,fs⟩=>[(10, .sv (.int .i64 (j:Int)))],h:=λ⟨j,A,u,e1,fs⟩=>jD x y A u e1++[(G,We H G fs.length),(40, .row 36 0 (qa Γ fs))],more:=60,μ:=λ⟨j,A,u,e1,fs⟩=>(qe S t).fs.length- j,keep:=[0,1,2,6,7,8]}
  |none=>Α}
def fE(h:T AO):Option Int:=match h.get 1 with
  | some (.cells _ _ _ [_,_,_,a,_])=>match gi a with
    |some (_,k)=>ς k
    |none=>Α
  |_=>Α
abbrev Y1:=Rs (zH×Nat×Nat)
def zr(S:List AT) (a:AT) (h:Int) (D:Ck) (n all:Int):Y1:=vH (qu S D h a.it) D (decide (a.k=13)) (D.size+1- n.toNat) ([],[]) n.toNat all.toNat
def jy(S:List AT) (a:AT) (h:Int) (D:Ck) (F:Nat) (st:Int) (sz:Int) (r:zH×Nat×Nat):Y1:=if Qh st.toNat sz r.2.1=π then .no 1 else vH (qu S D h a.it) D (decide (a.k=13)) F r.1 r.2.1 r.2.2
def OY(D:Ck) (n all:Int) (u h e1:Int) (st:zH):Prop:=(qD D u/\n<=u)/\(all<=h/\h<=2001)/\(e1=0->h<=2000)/\st.2.length<=h
def Zy(S:List AT) (a:AT) (u:Int) (D:Ck) (n all:Int) (F:Nat) (A h e1:Int) (st:zH):Prop:=OY D n all A h e1 st/\D.size<F+A/\vA (zr S a u D n all) e1 (vH (qu S D u a.it) D (decide (a.k=13)) F st A.toNat h.toNat=zr S a u D n all)
def J1(S:List AT) (a:AT) (u:Int) (D:Ck) (n all:Int) (F:Nat) (cnt sz A h e1:Int) (st:zH):Prop:=OY D n all A h e1 st/\cnt<=9223372036854775807/\D.size<F+A/\vA (zr S a u D n all) e1 (1<=cnt/\(jR (qu S D u a.it) D (decide (a.k=13)) cnt.toNat st A.toNat h.toNat).bind (jy S a u D F A sz)=zr S a u D n all)
def V7(S:List AT) (a:AT) (A:Int) (D:Ck) (n all:Int) (F:Nat) (al cnt sz u:Int) (i:Nat) (B h e1:Int) (st:zH):Prop:=((i=0\/(i:Int)<=cnt)/\al<=h/\(e1=0->al+i<=h))/\OY D n all B h e1 st/\(0<=u/\u<=B)/\D.size<F+u/\vA (zr S a A D n all) e1 (1<=cnt/\(jR (qu S D A a.it) D (decide (a.k=13)) (cnt- i).toNat st B.toNat h.toNat).bind (jy S a A D F u sz)=zr S a A D n all)
def uK(u:GV):Prop:=u.n=0/\u.s=mkS []/\u.b=0/\u.ks.length=u.l.length
def Hu (arr:Bool):Y0->WayF:=λ⟨S,⟨x,y,D,n,all,e⟩,a,G⟩=>{
  pubE:=[31,120]
  spl:=λi=>match i with
    |19=>ς 7
    |_=>Α
  flo:=λi=>match i with
    |19=>ς (7,[0,1])
    |_=>Α
  cut :=λi J H=>match i,Vo J 7,fE H with
    | 14,ς C,ς al=>match arr with
      |true=>ς {σ:=Nat×Int×Int×Int×Int×List GV,pre:=λ⟨F,cnt,sz,B,e1,fs⟩=>J1 S a G D n all F cnt sz B al e1 ([],qqh fs),mem:=λ⟨F,cnt,sz,B,e1,fs⟩=>yh fs,t:=λ⟨F,cnt,sz,B,e1,fs⟩=>[(8, .sv (.int .i64 cnt)),(9, .sv (.int .i64 sz))],h:=λ⟨F,cnt,sz,B,e1,fs⟩=>jD x y B al e1++[(C,We H C fs.length),(40, .row 36 0 (qa Γ fs))],more:=60,μ:=λ_=>0,keep:=[0,2,4,6,7]}
      |false=>ς {σ:=Nat×Int×Int×Int×Int×GV,pre:=λ⟨F,cnt,sz,B,e1,u⟩=>uK u/\J1 S a G D n all F cnt sz B al e1 (u.ks,qqh u.l),mem:=λ⟨F,cnt,sz,B,e1,u⟩=>vM u,t:=λ⟨F,cnt,sz,B,e1,u⟩=>[(8, .sv (.int .i64 cnt)),(9, .sv (.int .i64 sz))],h:=λ⟨F,cnt,sz,B,e1,u⟩=>jD x y B al e1++[(C,Vc u)],more:=0,μ:=λ_=>0,keep:=[0,2,4,6,7]}
    |_,_,_=>Α
  ann :=λid J H=>match Vo J 7 with
    | some C=>match id with
      | 0=>match arr with
        |true=>ς {σ:=Nat×Int×Int×Int×List GV,pre:=λ⟨F,B,A,e1,fs⟩=>Zy S a G D n all F B A e1 ([],qqh fs),mem:=λ⟨F,B,A,e1,fs⟩=>yh fs,t:=λ_=>[],h:=λ⟨F,B,A,e1,fs⟩=>jD x y B A e1++[(C,We H C fs.length),(40, .row 36 0 (qa Γ fs))],more:=60,μ:=λ⟨F,B,A,e1,fs⟩=>2*(2001- A).toNat+(if e1=0 then 1 else 0),keep:=[0,2,4,6,7]}
        |false=>ς {σ:=Nat×Int×Int×Int×GV,pre:=λ⟨F,B,A,e1,u⟩=>uK u/\Zy S a G D n all F B A e1 (u.ks,qqh u.l),mem:=λ⟨F,B,A,e1,u⟩=>vM u,t:=λ_=>[],h:=λ⟨F,B,A,e1,u⟩=>jD x y B A e1++[(C,Vc u)],more:=0,μ:=λ⟨F,B,A,e1,u⟩=>2*(2001- A).toNat+(if e1=0 then 1 else 0),keep:=[0,2,4,6,7]}
      | _=>match arr,jO J 8,jO J 9,jO J 10,fE H with
        |true,ς O,ς T,ς st,ς al=>ς {σ:=Nat×Nat×Int×Int×Int×List GV,pre:=λ⟨F,i,B,A,e1,fs⟩=>V7 S a G D n all F al O T st i B A e1 ([],qqh fs),mem:=λ⟨F,i,B,A,e1,fs⟩=>yh fs,t:=λ⟨F,i,B,A,e1,fs⟩=>[(11, .sv (.int .i64 (i:Int)))],h:=λ⟨F,i,B,A,e1,fs⟩=>jD x y B A e1++[(C,We H C fs.length),(40, .row 36 0 (qa Γ fs))],more:=60,μ:=λ⟨F,i,B,A,e1,fs⟩=>O.toNat- i,keep:=[0,2,4,6,7,8,9,10]}
        |false,ς O,ς T,ς st,ς al=>ς {σ:=Nat×Nat×Int×Int×Int×GV,pre:=λ⟨F,i,B,A,e1,u⟩=>uK u/\V7 S a G D n all F al O T st i B A e1 (u.ks,qqh u.l),mem:=λ⟨F,i,B,A,e1,u⟩=>vM u,t:=λ⟨F,i,B,A,e1,u⟩=>[(11, .sv (.int .i64 (i:Int)))],h:=λ⟨F,i,B,A,e1,u⟩=>jD x y B A e1++[(C,Vc u)],more:=0,μ:=λ⟨F,i,B,A,e1,u⟩=>O.toNat- i,keep:=[0,2,4,6,7,8,9,10]}
        |_,_,_,_,_=>Α
    |none=>Α}
end
end Go.Proofs.YtniogjgfomaicaaGreat.Wd
