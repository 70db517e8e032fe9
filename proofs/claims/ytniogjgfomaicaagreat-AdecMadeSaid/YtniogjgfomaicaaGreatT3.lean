/-
  What the functions do: contracts, and their questions answered. No condition but what its theorems ask.
-/
import Derived.Test.YtniogjgfomaicaaGreatRx
import Derived.Test.YtniogjgfomaicaaGreatT2
import Derived.Test.YtniogjgfomaicaaGreatSh
import Derived.WalkKit
import Derived.ProofKit
namespace Go.Proofs.YtniogjgfomaicaaGreat.Wd
open Go.Proofs.YtniogjgfomaicaaGreat.Eng Go.Proofs.YtniogjgfomaicaaGreat.Sen Go.RowKit
set_option linter.defProp false
set_option linter.unusedVariables false
set_option linter.unusedSimpArgs false
set_option maxRecDepth 1000000
open Go.Value (int string slice bool)
open Go.IntKind (i64 u64 u8 u32 i32)
open _root_.List (length take drop)
open _root_.ByteArray (size)
open _root_.Int (toNat)
noncomputable section
open AT renaming ok->Φ,ok_mono->qzv
open GV renaming b->Ο,cells->θ,cells_at->Χ,n->Ζ,ok->υ,oks->ν,pv->qqf,pv_eq->qzn,pvs->ι,pvs_len->Γ,pvs_map->qqg,s->Η,x->π,y->ς
open PV renaming fitL->qqr,fits->qqb,wt->qzx,wts->qqe
open _root_.Array renaming getElem?_eq_none->qq7,getElem?_modify->qq8,length_toList->qzf,toList->qz2,toList_append->qze
open _root_.BitVec renaming ofInt->qz0
open _root_.Bool renaming and_eq_true->φ,false->Β,false_eq_true->qzo,not_eq_false'->qzi,not_eq_true'->qzq,true->ξ
open _root_.ByteArray renaming append_assoc->η,data->qzg,data_append->qq2,ext->qzm,mk->χ,size_append->qq3
open _root_.Eq renaming trans->Ω
open _root_.Go.Addr renaming add_add->qz3,mk->qzp
open _root_.Go.IntKind renaming bits->qqn,signed->qqi,wrap->ζ
open _root_.Go.Op renaming bytesLess->qqd
open _root_.Go.TypeDesc renaming string->Τ
open _root_.Go.Value renaming int->qzr,string->ω
open _root_.Int renaming emod_eq_of_lt->qzu,eq_ofNat_of_zero_le->Δ,le_refl->ρ,le_trans->qz6,toNat_natCast->γ,toNat_of_nonneg->qqj
open _root_.List renaming append_assoc->qzs,append_nil->qqh,cons_append->Λ,drop_eq_getElem_cons->qq4,drop_of_length_le->qqp,drop_zero->qz1,eq_nil_of_length_eq_zero->Υ,getD_eq_getElem?_getD->qqk,getElem?_append_left->Ν,getElem?_append_right->Μ,getElem?_cons_succ->qq6,getElem?_eq_getElem->δ,getElem?_eq_none->qzc,getElem?_map->qqw,getElem?_toArray->qqs,getElem_map->qqx,getElem_mem->ε,length_append->ψ,length_cons->qqy,length_drop->qzw,length_map->Θ,length_set->qzy,length_take->Ρ,map_append->qq1,map_congr_left->qqv,map_cons->Ψ,map_fst_zip->qqo,map_id'->qz4,map_map->qq9,mem_cons_of_mem->qqt,mem_cons_self->qzl,nil_append->qqc,of_mem_zip->qq0,set_cons_succ->qzj,set_cons_zero->qzk,take->qzt,take_add->qq5,take_add_one->qqm,take_append_drop->qzd,take_of_length_le->Ι,take_succ_cons->qqu,take_zero->qql,zip_cons_cons->τ
open _root_.Nat renaming add_zero->qz5,le_refl->Κ,le_trans->qzb,lt_or_ge->qqq,min_eq_left->qzz,mul_comm->qza,pow_le_pow_right->qzh,sub_self->qz7,zero_add->qqa,zero_le->Α
open _root_.Option renaming map_some->qqz,none->Ξ,some->Ε
section
variable (g j:Int) (c d:SV) (o q t:Int) (i:List AT) (m:Ck) (O:Nat) (p:Int) (w:Option Addr) (A:Nat) (z:Int) (C:Option Addr) (D E:Nat) (F:Bool) (G:Ck) (N:Int) (H:Option Addr) (I J:Nat) (K:Option Addr) (L M:Nat) (u:Ck) (Q:Nat) (v:Nat×Int×Int×Int×List GV) (X:Nat->Option Obj) (B:vG) (l:zD) (e:zi) (h:zi×Int) (U:Prop) (R:(Option Addr×Nat×Nat)×(Option Addr×Nat×Nat)×Int×Int×Int×Int) (x36:Y0)
 abbrev jm:=True/\qd i c X/\d.2.1=size m/\qgn X d.1 d.2.1 d.2.2 (q18 m)
 abbrev MX:=Jb (g+1)
 def Dv:=c.1=R.1.1/\c.2.1=R.1.2.1/\c.2.2=R.1.2.2/\d.1=R.2.1.1/\d.2.1=R.2.1.2.1/\d.2.2=R.2.1.2.2/\U
 def Xg:=(∀a,jm c d i m a->jm c d i m a)
 abbrev Dz:=∃(a:(Option Addr×Nat×Nat)×(Option Addr×Nat×Nat)×Int×Int×Int×Int),a.2.2.2.2.2=3/\a.1.1=c.1/\a.1.2.1=c.2.1/\a.1.2.2=c.2.2/\a.2.1.1=d.1/\a.2.1.2.1=d.2.1/\a.2.1.2.2=d.2.2/\a.2.2.1=g/\a.2.2.2.1=j+1/\a.2.2.2.2.1=o/\True/\∃(V:Unit),q=q/\t=t/\Dv c d (g=a.2.2.1/\j+1=a.2.2.2.1/\(jK (j+1) t o=if a.2.2.2.2.1=0 then a.2.2.2.2.2 else a.2.2.2.2.1)/\Xg c d i m/\True/\True) a
 def DK:=c.1=c.1/\c.2.1=c.2.1/\c.2.2=c.2.2/\U
 abbrev YK:=DK c (DK d U)
 def dq:=Ji (2000<g+1) (Dz j g c d o q t i m) (∃(Y:Unit),q=q/\t=t/\YK c d (j=j/\g+1=g+1/\jK (g+1) t o=o/\Xg c d i m/\True/\True))
 def Xh:=Ζ l.1=0/\Η l.1=mkS []/\U
 def DL:=(π l.1).1=noA/\(π l.1).2.1=0/\(π l.1).2.2=0/\U
 def Xe:=(ς l.1).1=noA/\(ς l.1).2.1=0/\(ς l.1).2.2=0/\U
 def KA:=DL l (Xe l (Ο l.1=0/\U))
 abbrev Xf:=z17 (qM i m (toNat ((21:Int)- g)) j (toNat o) (toNat q)) m o (q+1) t l
 def ZU:=Xf g j o q t i m l/\(∀a,jm c d i m a->υ l.1 a)/\True
 def DO:=∃(a:zD),Xh a (KA a (YK c d (a.2.1=g/\a.2.2.1=j+1/\a.2.2.2=jK (j+1) o q/\ZU o t c d g j q i m a)))
 def YL:=h.1.1.1=c.1/\h.1.1.2.1=c.2.1/\h.1.1.2.2=c.2.2/\h.1.2.1.1=d.1/\h.1.2.1.2.1=d.2.1/\h.1.2.1.2.2=d.2.2/\h.1.2.2.2.1=g/\h.1.2.2.2.2.1=j+1/\h.1.2.2.2.2.2=jK (j+1) o q/\U
 def MV:=qD h.1.2.2.1 h.1.2.2.2.1/\0<=h.2/\U
 def MS:=h.1.2.1.2.1=size h.1.2.2.1/\qgn X h.1.2.1.1 h.1.2.1.2.1 h.1.2.1.2.2 (q18 h.1.2.2.1)
 abbrev KC:=zF h.1.2.2.1 h.1.2.2.2.1 h.1.2.2.2.2.2 h.2
 abbrev Xd:=(↑(kc (qz2 (qzg (KC h).1))):Int)
 abbrev MW:=KA l (Dv c d (l.2.1=R.2.2.1/\l.2.2.1=R.2.2.2.1/\(l.2.2.2=if R.2.2.2.2.1=0 then R.2.2.2.2.2 else R.2.2.2.2.1)/\ZU g j c d o q t i m l) R)
 def MU:=c.1=h.1.1.1/\c.2.1=h.1.1.2.1/\c.2.2=h.1.1.2.2/\d.1=h.1.2.1.1/\d.2.1=h.1.2.1.2.1/\d.2.2=h.1.2.1.2.2/\U
 def MT:=KA l (MU c d h (l.2.1=(KC h).2.1/\l.2.2.1=h.1.2.2.2.2.1/\l.2.2.2=(KC h).2.2/\ZU g j c d o q t i m l))
 def KB:=YK c d (g=g/\j+1=j+1/\jK (j+1) o q=jK (j+1) o q/\t=t/\m=m/\w=w/\O=O/\A=A/\p=p/\C=C/\D=D/\E=E/\F=F/\G=G/\z=z/\H=H/\I=I/\J=J/\K=K/\L=L/\M=M/\Xg c d i u/\True/\True)
 def dt:=e.2.1.2.1=size e.2.2.1/\qgn X e.2.1.1 e.2.1.2.1 e.2.1.2.2 (q18 e.2.2.1)
 def DB:=e.1.1=c.1/\e.1.2.1=c.2.1/\e.1.2.2=c.2.2/\e.2.1.1=d.1/\e.2.1.2.1=d.2.1/\e.2.1.2.2=d.2.2/\e.2.2.2.1=g/\e.2.2.2.2.1=j+1/\e.2.2.2.2.2=jK (j+1) o q/\qD e.2.2.1 e.2.2.2.1/\(∀a,jm c d i m a->dt a e)/\U
 abbrev QV:=qN e.2.2.1 e.2.2.2.1 e.2.2.2.2.2
 def DE:=R.2.2.2.2.2=2/\R.1.1=e.1.1/\R.1.2.1=e.1.2.1/\R.1.2.2=e.1.2.2/\R.2.1.1=e.2.1.1/\R.2.1.2.1=e.2.1.2.1/\R.2.1.2.2=e.2.1.2.2/\U
 def Dx:=∃(a:(Option Addr×Nat×Nat)×(Option Addr×Nat×Nat)×Int×Int×Int×Int),DE e (a.2.2.1=(QV e).2.1/\a.2.2.2.1=e.2.2.2.2.1/\a.2.2.2.2.1=(QV e).2.2/\True/\∃(V:zD),Ζ V.1=ζ u64 (QV e).1/\Η V.1=mkS []/\MW g j c d o q t i m V a) a
 def Dy:=c.1=e.1.1/\c.2.1=e.1.2.1/\c.2.2=e.1.2.2/\d.1=e.2.1.1/\d.2.1=e.2.1.2.1/\d.2.2=e.2.1.2.2/\U
 def DI:=∃(a:zD),Ζ a.1=ζ u64 (QV e).1/\Η a.1=mkS []/\KA a (Dy c d e (a.2.1=(QV e).2.1/\a.2.2.1=e.2.2.2.2.1/\a.2.2.2=(QV e).2.2/\ZU g j c d o q t i m a))
 def dn:=Ji (2147483648<=(QV e).1) (Dx g j c d o q t i m e) (DI g j c d o q t i m e)
 def de:=Ji ((QV e).1< -2147483648) (Dx g j c d o q t i m e) (dn g j c d o q t i m e)
 def DG:=(Jt (g=z)->∃(a:zi×Int),a.2=N/\YL j o c d q t a ((MV a (a.2<=8))/\(∀V,jm c d i m V->MS V a)/\∃(r:zD),Ζ r.1=(Xd a)/\Η r.1=mkS []/\MT q p c d j o t i m r a))
 abbrev ug:=kO e.2.2.1 e.2.2.2.1 e.2.2.2.2.2
 def DJ:=∃(a:zD),Ζ a.1=0/\Η a.1=(ug e).1/\KA a (Dy c d e (a.2.1=(ug e).2.1/\a.2.2.1=e.2.2.2.2.1/\a.2.2.2=(ug e).2.2/\ZU g j c d o q t i m a))
 def dm:=(ug e).1=(ug e).1/\size (ug e).1<9223372036854775808/\((!qP (ug e).1)=ξ->∃(a:(Option Addr×Nat×Nat)×(Option Addr×Nat×Nat)×Int×Int×Int×Int),DE e (a.2.2.1=(ug e).2.1/\a.2.2.2.1=e.2.2.2.2.1/\a.2.2.2.2.1=(ug e).2.2/\True/\∃(V:zD),Ζ V.1=0/\Η V.1=(ug e).1/\MW g j c d o q t i m V a) a)/\((!qP (ug e).1)=Β->DJ g j c d o q t i m e)
 def MY:=(MV h (h.2<9223372036854775808))/\(∀a,jm c d i m a->MS a h)/\U
 abbrev uf:=yD h.1.2.2.1 h.1.2.2.2.1 h.1.2.2.2.2.2 h.2
 def DM:=l.2.1=(uf h).2.1/\l.2.2.1=h.1.2.2.2.2.1/\l.2.2.2=(uf h).2.2/\U
 def DC:=(yz B<O/\zp B.1/\qD B.2.1.2.2.1 B.2.1.2.2.2.1/\(0<=B.2.1.2.2.2.2.1/\B.2.1.2.2.2.2.1<=2000)/\0<=B.2.1.2.2.2.2.2/\(0<=B.2.2.1/\B.2.2.1<(↑(length B.1):Int))/\1<=B.2.2.2/\B.2.2.2<=21)
 def DA:=qd B.1 B.2.1.1 X/\B.2.1.2.1.2.1=size B.2.1.2.2.1/\qgn X B.2.1.2.1.1 B.2.1.2.1.2.1 B.2.1.2.1.2.2 (q18 B.2.1.2.2.1)
 abbrev DH:=qM B.1 B.2.1.2.2.1 (toNat ((21:Int)- B.2.2.2)) B.2.2.1 (toNat B.2.1.2.2.2.1) (toNat B.2.1.2.2.2.2.1)
 abbrev DD:=q37 X (qzp O A Ξ) [int u64 (Ζ l.1),string (Η l.1),slice (π l.1).1 (π l.1).2.1 (π l.1).2.2,slice (ς l.1).1 (ς l.1).2.1 (ς l.1).2.2,int i64 (Ο l.1)]
 def DF:=c.1=B.2.1.1.1/\c.2.1=B.2.1.1.2.1/\c.2.2=B.2.1.1.2.2/\d.1=B.2.1.2.1.1/\d.2.1=B.2.1.2.1.2.1/\d.2.2=B.2.1.2.1.2.2/\U
 def dh:=(0<=(uf h).1/\(uf h).1<(↑O:Int))/\w≠noA/\∃(a:Int),(∀V,jm c d i m V->q37 V (adr w (toNat (uf h).1*1)) [int i64 a])/\MX g/\∃(r:vG),r.2.2.1=a/\r.2.2.2=g+1/\r.2.1.1.1=h.1.1.1/\r.2.1.1.2.1=h.1.1.2.1/\r.2.1.1.2.2=h.1.1.2.2/\r.2.1.2.1.1=h.1.2.1.1/\r.2.1.2.1.2.1=h.1.2.1.2.1/\r.2.1.2.1.2.2=h.1.2.1.2.2/\r.2.1.2.2.2.1=(uf h).2.1/\r.2.1.2.2.2.2.1=h.1.2.2.2.2.1/\r.2.1.2.2.2.2.2=(uf h).2.2/\DC A r/\(∀Y,jm c d i m Y->DA Y r)/\∀(S:zD),z17 (DH r) r.2.1.2.2.1 r.2.1.2.2.2.1 (r.2.1.2.2.2.2.1+1) r.2.1.2.2.2.2.2 S->(∃i5,(jm c d i m i5)/\υ S.1 i5)->∀(i6 i7 i8:Nat),(∃i9,((jm c d i m i9)/\υ S.1 i9)/\DD i6 i7 i9 S)->∃(W:zD),Xh W ((π W.1).1=Ε (qzp i6 (i7+nat_lit 0) Ξ)/\(π W.1).2.1=nat_lit 1/\(π W.1).2.2=nat_lit 1/\Xe W (Ο W.1=(uf h).1/\DF c d r (W.2.1=S.2.1/\W.2.2.1=S.2.2.1/\W.2.2.2=S.2.2.2/\Xf g j o q t i m W/\(∀i11,((jm c d i m i11)/\υ S.1 i11)/\DD i6 i7 i11 S->υ W.1 i11)/\True)))
 def dc:=length (qa θ v.2.2.2.2)=length v.2.2.2.2*5/\(length v.2.2.2.2+nat_lit 1)*80<=140737488355328/\Jb ((↑v.1:Int)+1)/\∃(a:Nat×Int×Int×Int×List GV),g=g/\j=j/\(↑a.1:Int)=(↑v.1:Int)+1/\DF c d B (a.2.1=l.2.1/\a.2.2.1=l.2.2.1/\a.2.2.2.1=l.2.2.2/\length a.2.2.2.2=length v.2.2.2.2+nat_lit 1/\o=o/\m=m/\w=w/\O=O/\A=A/\q=q/\C=C/\D=D/\E=E/\F=F/\G=G/\t=t/\H=H/\I=I/\J=J/\K=K/\L=L/\M=M/\qa θ a.2.2.2.2=qa θ v.2.2.2.2++[int u64 (Ζ l.1),string (Η l.1),slice (π l.1).1 (π l.1).2.1 (π l.1).2.2,slice (ς l.1).1 (ς l.1).2.1 (ς l.1).2.2,int i64 (Ο l.1)]/\(∀V,((jm c d i u V)/\ν v.2.2.2.2 V)/\υ l.1 V->jm c d i u V)/\(∀r,((jm c d i u r)/\ν v.2.2.2.2 r)/\υ l.1 r->ν a.2.2.2.2 r)/\Hp i g j u p (z+1) a.1 a.2.1 a.2.2.1 a.2.2.2.1 a.2.2.2.2/\length (AT.fs (qe i g))- a.1<length (AT.fs (qe i g))- v.1/\True)
 def MQ:=(0<=(↑v.1:Int)/\(↑v.1:Int)<(↑O:Int))/\w≠noA/\∃(a:Int),(∀V,(jm c d i m V)/\ν v.2.2.2.2 V->q37 V (Addr.add (adr w (toNat (↑v.1:Int)*9)) 2) [int i64 a])/\MX g/\∃(r:vG),r.2.2.1=a/\r.2.2.2=g+1/\r.2.1.1.1=c.1/\r.2.1.1.2.1=c.2.1/\r.2.1.1.2.2=c.2.2/\r.2.1.2.1.1=d.1/\r.2.1.2.1.2.1=d.2.1/\r.2.1.2.1.2.2=d.2.2/\r.2.1.2.2.2.1=v.2.1/\r.2.1.2.2.2.2.1=v.2.2.1/\r.2.1.2.2.2.2.2=v.2.2.2.1/\DC A r/\(∀Y,(jm c d i m Y)/\ν v.2.2.2.2 Y->DA Y r)/\∀(S:zD),z17 (DH r) r.2.1.2.2.1 r.2.1.2.2.2.1 (r.2.1.2.2.2.2.1+1) r.2.1.2.2.2.2.2 S->(∃i5,((jm c d i m i5)/\ν v.2.2.2.2 i5)/\υ S.1 i5)->dc j g c d o q t i G D p C E z H I J F u w O L K M Q m v r S
 def db:=(MQ g j c d o q t i m O p w A z C D E F G H I J K L M u Q v)/\(MQ g j c d o q t i m O p w A z C D E F G H I J K L M u Q v)/\MQ g j c d o q t i m O p w A z C D E F G H I J K L M u Q v
 def DN:=((jm c d i m X)/\ν v.2.2.2.2 X)/\length v.2.2.2.2<=O/\qgm X w (take (length v.2.2.2.2*nat_lit 5) (qa θ v.2.2.2.2))
 def Dw:=∀(a V r:Nat) (Y:Option Addr) (S i5:Nat),(∃i6,DN c d i m i5 Y v i6)->∃(i7:zD),Xh i7 ((π i7.1).1=Y/\(π i7.1).2.1=length v.2.2.2.2/\(π i7.1).2.2=i5/\Xe i7 (Ο i7.1=0/\YK c d (i7.2.1=v.2.1/\i7.2.2.1=v.2.2.1/\i7.2.2.2=v.2.2.2.1/\Xf g j o q t i m i7/\(∀i8,DN c d i m i5 Y v i8->υ i7.1 i8)/\True)))
 def da:=Ji (v.2.2.2.1=0) (db g j c d o q t i m O p w A z C D E F G H I J K L M u Q v) (Dw g j c d p z N i m v)
 def c_:=Ji ((↑v.1:Int)<(↑O:Int)) (da g j c d o q t i m O p w A z C D E F G N H I J K L M u Q v) (Dw g j c d p z N i m v)
 def c9:=(∃(a:Nat×Int×Int×Int×List GV),g=g/\j=j/\(↑a.1:Int)=0/\YK c d (a.2.1=o/\a.2.2.1=q+1/\a.2.2.2.1=jK (q+1) j t/\length a.2.2.2.2=0/\p=p/\m=m/\w=w/\O=O/\A=A/\z=z/\C=C/\D=D/\E=E/\F=F/\G=G/\N=N/\H=H/\I=I/\J=J/\K=K/\L=L/\M=M/\Xg c d i u/\(∀r,jm c d i u r->ν a.2.2.2.2 r)/\Hp i g j u o (q+1) a.1 a.2.1 a.2.2.1 a.2.2.2.1 a.2.2.2.2/\True))/\∀(Y:Nat×Int×Int×Int×List GV),Hp i g j u o (q+1) Y.1 Y.2.1 Y.2.2.1 Y.2.2.2.1 Y.2.2.2.2->(∃S,(jm c d i u S)/\ν Y.2.2.2.2 S)->c_ j g c d p z N i u I o H Q q w O A F m t C D E K J L G M Y
 def dr:=qd x36.1 x36.2.1.1 X/\Φ x36.2.2.1 X/\x36.2.1.2.1.2.1=size x36.2.1.2.2.1/\qgn X x36.2.1.2.1.1 x36.2.1.2.1.2.1 x36.2.1.2.1.2.2 (q18 x36.2.1.2.2.1)
 def dg:=(vh g=ξ->∃(a:Y0),AT.k a.2.2.1=g/\AT.nm a.2.2.1=m/\(AT.al a.2.2.1).1=w/\(AT.al a.2.2.1).2.1=O/\(AT.al a.2.2.1).2.2=A/\AT.it a.2.2.1=j/\(AT.sy a.2.2.1).1=C/\(AT.sy a.2.2.1).2.1=D/\(AT.sy a.2.2.1).2.2=E/\AT.hd a.2.2.1=F/\AT.df a.2.2.1=G/\AT.sz a.2.2.1=o/\(AT.f a.2.2.1).1=H/\(AT.f a.2.2.1).2.1=I/\(AT.f a.2.2.1).2.2=J/\(AT.br a.2.2.1).1=K/\(AT.br a.2.2.1).2.1=L/\(AT.br a.2.2.1).2.2=M/\a.2.2.2=q/\a.2.1.1.1=c.1/\a.2.1.1.2.1=c.2.1/\a.2.1.1.2.2=c.2.2/\a.2.1.2.1.1=d.1/\a.2.1.2.1.2.1=d.2.1/\a.2.1.2.1.2.2=d.2.2/\a.2.1.2.2.2.1=t/\a.2.1.2.2.2.2.1=p+1/\a.2.1.2.2.2.2.2=jK (p+1) q z/\(x8 a<Q+1/\zp a.1/\a.2.2.1∈a.1/\ux a.2.2.1/\qD a.2.1.2.2.1 a.2.1.2.2.2.1/\(0<=a.2.1.2.2.2.2.1/\a.2.1.2.2.2.2.1<=2000)/\a.2.1.2.2.2.2.2=0/\1<=a.2.2.2/\a.2.2.2<=20)/\(∀V,jm c d i u V->dr V a)/\∀(r:zD),z17 (ko (qu a.1 a.2.1.2.2.1 a.2.2.2) a.2.1.2.2.1 a.2.2.1 (toNat a.2.1.2.2.2.1) (toNat a.2.1.2.2.2.2.1)) a.2.1.2.2.1 a.2.1.2.2.2.1 a.2.1.2.2.2.2.1 0 r->(∃Y,(jm c d i u Y)/\υ r.1 Y)->∃(S:zD),Ζ S.1=Ζ r.1/\Η S.1=Η r.1/\(π S.1).1=(π r.1).1/\(π S.1).2.1=(π r.1).2.1/\(π S.1).2.2=(π r.1).2.2/\(ς S.1).1=(ς r.1).1/\(ς S.1).2.1=(ς r.1).2.1/\(ς S.1).2.2=(ς r.1).2.2/\Ο S.1=Ο r.1/\c.1=a.2.1.1.1/\c.2.1=a.2.1.1.2.1/\c.2.2=a.2.1.1.2.2/\d.1=a.2.1.2.1.1/\d.2.1=a.2.1.2.1.2.1/\d.2.2=a.2.1.2.1.2.2/\S.2.1=r.2.1/\S.2.2.1=r.2.2.1/\S.2.2.2=r.2.2.2/\Xf q N t p z i u S/\(∀i5,(jm c d i u i5)/\υ r.1 i5->υ S.1 i5)/\True)/\(vh g=Β->DO t p c d q z N i u)
 def dd:=(Ji (g=12) (∃(a:Unit),j=j/\g=g/\o=o/\vh g=decide (g=12)/\KB q t c d o p g i m O z w A N C D E F G H I J K L M u) (∃(r:Unit),j=j/\g=g/\o=o/\vh g=decide (g=13)/\KB q t c d o p g i m O z w A N C D E F G H I J K L M u))/\∀(S:Unit),True->dg g z c d N o q i m O t w A p C D E F G j H I J K L M u Q
 def c7:=Ji (g=9) (c9 j o c d q t p i m O g w A z C D E F G N H I J K L M u Q) (dd g j c d o q t i m O p w A z C D E F G N H I J K L M u Q)
 def c6:=Ji (g=14) (∃(a:zi×Int),a.2=(↑O:Int)/\YL j o c d q t a (MY c d i m a (Ji ((uf a).2.2=0) (dh q p c d j o t i m O w A a) (∃(i14:zD),Xh i14 (DL i14 (Xe i14 (Ο i14.1=(uf a).1/\MU c d a (DM i14 a (ZU q p c d j o t i m i14))))))))) (c7 g p c d q j o i G D t C E z H I J F u N K L M w O Q m A)
 def cZ:=Ji (g=11) (∃(a:zi×Int),a.2=j/\YL o q c d t p a (MY c d i m a (∃(r:zD),Ζ r.1=0/\Η r.1=(KC a).1/\MT t z c d o q p i m r a))) (c6 g o c d q t p i m O z w A N C D E F G j H I J K L M u Q)
 def pN:=Ji (g=10) (∃(a:zi×Int),a.2=(↑O:Int)/\YL j o c d q t a (MY c d i m a (∃(r:zD),Ζ r.1=ζ u64 (uf a).1/\Η r.1=mkS []/\KA r (MU c d a (DM r a (ZU q p c d j o t i m r)))))) (cZ g z c d j o q i m A t w D p C E I F G N H O J K L M u Q)
 def pM:=(Qo g=ξ->∃(a:zi),DB j o c d q t i m a (Ji (g=8) (dm q p c d j o t i m a) (DJ q p c d j o t i m a)))/\(Qo g=Β->pN g j c d o q t i m O p w A z C D E F G N H I J K L M u Q)
 def pL:=(Ji (g=7) (∃(a:Unit),j=j/\Qo g=decide (g=7)/\g=g/\o=o/\KB q t c d o p g i m O z w A N C D E F G H I J K L M u) (∃(r:Unit),j=j/\Qo g=decide (g=8)/\g=g/\o=o/\KB q t c d o p g i m O z w A N C D E F G H I J K L M u))/\∀(S:Unit),True->pM g q c d t o p i u D j K L N w Q O F m z C A E H I J G M
 def pK:=DG g j c d o q t i m p 6 8/\(Jf (g=6)->pL g p c d q j o i G O t w A z C D E F u N H I J K L M m Q)
 def pJ:=DG g j c d o q t i m p 5 4/\(Jf (g=5)->pK g j c d o q t i m O p w A z C D E F G N H I J K L M u Q)
 def pI:=(vg g=ξ->∃(a:zi),DB j o c d q t i m a (Ji (g=3) (de q p c d j o t i m a) (DI q p c d j o t i m a)))/\(vg g=Β->pJ g j c d o q t i m O p w A z C D E F G N H I J K L M u Q)
 def pH:=(Ji (g=3) (∃(a:Unit),j=j/\g=g/\o=o/\vg g=decide (g=3)/\KB q t c d o p g i m O z w A N C D E F G H I J K L M u) (∃(r:Unit),j=j/\g=g/\o=o/\vg g=decide (g=4)/\KB q t c d o p g i m O z w A N C D E F G H I J K L M u))/\∀(S:Unit),True->pI g q c d t o p i u O j w A z C D E F m N H I J K L M G Q
 def pG:=(0<=g/\g<(↑c.2.1:Int))/\c.1≠noA/\∃(a:Int),∃V,∃r,∃(Y:Nat),∃(S:Nat),∃(i5:Int),∃i6,∃(i7:Nat),∃(i8:Nat),∃(i9:Bool),∃W,∃(i11:Int),∃i12,∃(i13:Nat),∃(i14:Nat),∃i15,∃(i16:Nat),∃(i17:Nat),(∀i18,jm c d i m i18->q37 i18 (adr c.1 (toNat g*10)) [int i64 a,string V,slice r Y S,int i64 i5,slice i6 i7 i8,bool i9,string W,int i64 i11,slice i12 i13 i14,slice i15 i16 i17])/\Ji (a=2) (∃(T:zi×Int),T.2=1/\YL j o c d q t T ((MV T (T.2<=8))/\(∀i20,jm c d i m i20->MS i20 T)/\Ji (1<(Xd T)) (∃(Z:(Option Addr×Nat×Nat)×(Option Addr×Nat×Nat)×Int×Int×Int×Int),Z.2.2.2.2.2=2/\Z.1.1=T.1.1.1/\Z.1.2.1=T.1.1.2.1/\Z.1.2.2=T.1.1.2.2/\Z.2.1.1=T.1.2.1.1/\Z.2.1.2.1=T.1.2.1.2.1/\Z.2.1.2.2=T.1.2.1.2.2/\Z.2.2.1=(KC T).2.1/\Z.2.2.2.1=T.1.2.2.2.2.1/\Z.2.2.2.2.1=(KC T).2.2/\True/\∃(i22:zD),Ζ i22.1=(Xd T)/\Η i22.1=mkS []/\MW q g c d j o t i m i22 Z) (∃(i24:zD),Ζ i24.1=(Xd T)/\Η i24.1=mkS []/\MT q g c d j o t i m i24 T))) (pH a g c d q j o i V Y t r S i5 i6 i7 i8 i9 W i11 i12 i13 i14 i15 i16 i17 m O)
 def pF:=((!decide (jK (g+1) j o=0))=ξ->DO q g c d j o t i m)/\((!decide (jK (g+1) j o=0))=Β->pG t q c d g j o i m O)
 def pE:=MX g/\(Ji (20<j) (Dz o g c d q t j i m) (dq g o c d q t j i m))/\∀(i8:Unit),True->pF g j c d q o t i m O
end
def zzu(c:Nat) (S:List AT) (x y:SV) (D:Ck) (n all e t h:Int):qk3 P (qf5 [(55,ZF),(56,Ce),(57,Kc),(58,Uw),(60,Pq),(61,Uv),(59,uP)]) (qg7 [(31,wB.below yz c),(62,(Jj ux).below x8 (c+1))]) Tryz.f31 (wB.below yz (c+1)) (wRv) ⟨S,⟨x,y,D,n,all,e⟩,t,h⟩=(yz (S,(x,y,D,n,all,e),t,h)<c+1/\zp S/\qD D n/\(0<=all/\all<=2000)/\0<=e/\(0<=t/\t<(↑(length S):Int))/\1<=h/\h<=21->(∃(p:Pub),jm x y S D p)->pE all h x y n e t S D c):=by kernel_rfl
def j9y:=λc S x y D n all e t h=>Ω (zzu c S x y D n all e t h) (by delta Ji Jb Jt Jf jm MX Dv Xg Dz DK YK dq Xh DL Xe KA Xf ZU DO YL MV MS KC Xd MW MU MT KB dt DB QV DE Dx Dy DI dn de DG ug DJ dm MY uf DM DC DA DH DD DF dh dc MQ db DN Dw da c_ c9 dr dg dd c7 c6 cZ pN pM pL pK pJ pI pH pG pF pE;exact rfl)
section
variable {S:List AT}
def Hz{j:Nat} (h:j<S.length):qe S ((j:Nat):Int)=S[j]:=by unfold qe;rw[γ,δ h];rfl
def zvu{all u e:Int} (h:20<u\/2000<all):jK all u e=if e=0 then 3 else e:=by unfold jK;split<;>split<;>omega
def jjj{all h e:Int} (u:¬20<h) (A:¬2000<all):jK all h e=e:=by unfold jK;rw[if_neg (by omega)]
def jjk{all u e:Int} (h:jK all u e=0):e=0/\¬20<u/\¬2000<all:=by unfold jK at h;split at h<;>omega
def j9i{all u e:Int} (h:jK all u e≠0):e≠0/\jK all u e=e\/e=0/\jK all u e=3/\(20<u\/2000<all):=by
 unfold jK at*;split at h
 ·rename_i g;exact .inr ⟨g.1,by rw[if_pos g],g.2⟩
 ·rename_i g;exact .inl ⟨h,by rw[if_neg g]⟩
variable {D:Ck}
def CI{t u all:Int} {n:Nat} (A:1<=u) (B:u<=21) (C:0<=all) (h:20<u\/2000<all+1):qM S D (21- u).toNat t n all.toNat= .no 2:=by
 rcases h with h|h
 ·rw[show(21- u).toNat=0 by omega];rfl
 ·cases(21- u).toNat with
  |zero=>rfl
  |succ f=>rw[qM,if_pos (by omega)]
def zvi{u all:Int} {j n:Nat} (A:j<S.length) (B:1<=u) (C:¬20<u) (G:0<=all) (h:¬2000<all+1):qM S D (21- u).toNat ((j:Nat):Int) n all.toNat=kA (qu S D u) D S[j] n (all+1).toNat:=by rw[show(21- u).toNat=(20- u).toNat+1 by omega,qM,if_neg (by omega),γ,δ A,show(all+1).toNat=all.toNat+1 by omega];rfl
def k05{a:AT} {p:Pub} (h:a.ok p) {j:Nat} (A:j<a.fs.length):q37 p ((adr a.f.1 (j*9)).add 2) [.int .i64 a.fs[j].ty]:=λi v hi=>by
  have u:=(w_ h A).2;cases i with
  | zero=>
    simp at hi;subst hi;have:=u 2 _ (show a.fs[j].cells[2]? =Ε (.int .i64 a.fs[j].ty)from rfl);rw[qz3,qz5];exact this
  |succ i=>simp at hi
def Wg(l:List GV) (v:GV):ι (l++[v])=ι l++[v.pv]:=by rw[qqg,qqg];simp
def z60{fs:List GV} {a:Option Addr} {c:Nat} {q:Pub} (u:ν fs q) (A:fs.length<=c) (h:qgm q a (qzt (fs.length*5) (qa θ fs))):(GV.mk 0 (mkS []) (a,fs.length,c) fs (Ξ,0,0) [] 0).ok q:=by rw[Ι (by rw[qv zn];exact Κ _)]at h;unfold υ;exact⟨⟨rfl,A,h⟩,qV,u⟩
variable {g:Int->Nat->Nat->zG} {ts:List Int} {l:List PV}
def zw4{n c:Nat} {i:Nat} (h:ts.length<=i):kY g (ts.drop i) l n c= .ok (l,n,c):=by rw[qqp h];rfl
def zw3{n c:Nat} {i:Nat} (h:i<ts.length):kY g (ts.drop i) l n c=(g ts[i] n c).bind λr=>kY g (ts.drop (i+1)) (l++[r.1]) r.2.1 r.2.2:=by rw[qq4 h,kY]
def HO{α:Type} {R:zG} {f:PV×Nat×Nat->Rs α} {u:Rs α} {v:PV} {n c e:Int} (h:jJ R v n c e) (A:R.bind f=u):vA u e (f (v,n.toNat,c.toNat)=u):=by
  cases R with
  |no k=>exact .inr ⟨k,h,A.symm⟩
  | ok r=>
    obtain⟨rfl,rfl,rfl,rfl⟩:=h;exact .inl ⟨rfl,A⟩
def jq(N:Int) (s:Ck) (n e:Int):Rs (PV×Nat):=if e=0 then .ok (.mk N s [] [] 0,n.toNat)else .no (e- 1).toNat
def zyn{a:AT} {n n' all e' N:Int} {s:Ck} (Q:Pub->Prop) (h:a.k≠9/\a.k≠14/\a.k≠12/\a.k≠13) (u:qS a D n.toNat=jq N s n' e') (he:0<=e') (hd:qD D n') (B:0<=all) (C:¬2000<all+1) (A:n<=n'):∃b:zD,b.1.n=N/\b.1.s=s/\b.1.x.1=noA/\b.1.x.2.1=0/\b.1.x.2.2=0/\b.1.y.1=noA/\b.1.y.2.1=0/\b.1.y.2.2=0/\b.1.b=0/\b.2.1=n'/\b.2.2.1=all+1/\b.2.2.2=e'/\z17 (kA g D a n.toNat (all+1).toNat) D n (all+1) 0 b/\∀q,Q q->b.1.ok q:=by
 refine⟨(.mk N s (Ξ,0,0) [] (Ξ,0,0) [] 0,n',all+1,e'),rfl,rfl,rfl,rfl,rfl,rfl,rfl,rfl,rfl,rfl,rfl,rfl,⟨?_,hd,⟨by omega,by omega⟩,λ_=>by omega,A⟩,λq _=> ?_⟩
 ·rw[if_pos rfl];unfold kA;rw[if_neg h.1,if_neg h.2.1,if_neg (by omega),u];unfold jq;have:=hd.1;split
  ·rw[zb];exact⟨by assumption,rfl,by show n'=((n'.toNat:Nat):Int);omega,by show all+1=(((all+1).toNat:Nat):Int);omega⟩
  ·rw[jl];show e'=(((e'- 1).toNat:Nat):Int)+1;omega
 ·unfold υ ν;exact⟨qV,qV,trivial⟩
def j9z(c:Nat) (hv0:q1p P 31 (wB.below yz c)) (hb0:q1p P 62 ((Jj ux).below x8 (c+1))):q1p P 31 (wB.below yz (c+1)):=by
 refine zh (qcl (qgj z37 (qgj zyt (qgj z40 (qgj Ph (qgj zij (qgj Pg (qgj z45 qjq)))))))) (qdd (qgi hv0 (qgi hb0 qjp))) (W:=wRv) Tryz.func31 λ⟨S,⟨(x:SV),(y:SV),D,(n:Int),(all:Int),(e:Int)⟩,(t:Int),(G:Int)⟩=>(j9y c S x y D n all e t G).mpr ?_;rintro⟨hmu,J,hd,⟨ha0,ha1⟩,he,⟨t0,t1⟩,hp1,hp2⟩ ⟨p,_,hx,hyl,hy⟩;have hS:=J.1;have hmu:(25- G).toNat<c+1:=hmu;have xs:x.2.1=S.length:=hx.1.1;simp only[qB,exists_const,forall_const,γ];refine⟨⟨by omega,by omega⟩,⟨λh20=>⟨⟨x,y,n,all+1,e,3⟩,rfl,rfl,rfl,rfl,rfl,rfl,rfl,rfl,rfl,rfl,rfl,rfl,rfl,rfl,rfl,rfl,rfl,rfl,zvu (.inl h20)⟩,λh20=>⟨λhA=>⟨⟨x,y,n,all+1,e,3⟩,rfl,rfl,rfl,rfl,rfl,rfl,rfl,rfl,rfl,rfl,rfl,rfl,rfl,rfl,rfl,rfl,rfl,rfl,zvu (.inr hA)⟩,λhA=>jjj h20 hA⟩⟩,λhne=> ?_,λhE=> ?_⟩
 ·refine⟨⟨zV,n,all+1,jK (all+1) G e⟩,rfl,rfl,rfl,rfl,rfl,rfl,rfl,rfl,rfl,rfl,rfl,rfl,⟨?_,hd,⟨by omega,by omega⟩,λh=>absurd h hne,ρ _⟩,λq _=>jc q⟩;rcases j9i hne with⟨u,h2⟩|⟨u,h2,X⟩
  ·rw[if_neg u,h2]
  ·rw[if_pos u,h2,CI hp1 hp2 ha0 X];rfl
 obtain⟨rfl,l1,l2⟩:=jjk hE;rw[hE];obtain⟨j,rfl⟩:=Δ t0;have U:j<S.length:=by omega
 rw[zvi U hp1 l1 ha0 l2];have htp:=λq (hq:qd S x q)=>y_ hq U;have O:=λq (hq:qd S x q)=>hq.2 S[j] (ε U);refine⟨⟨by omega,by omega⟩,(htp p hx).1,S[j].k,S[j].nm,S[j].al.1,S[j].al.2.1,S[j].al.2.2,S[j].it,S[j].sy.1,S[j].sy.2.1,S[j].sy.2.2,S[j].hd,S[j].df,S[j].sz,S[j].f.1,S[j].f.2.1,S[j].f.2.2,S[j].br.1,S[j].br.2.1,S[j].br.2.2,λq hq=>(htp q hq.1).2,?_⟩;have hn0:=hd.1;have hn1:=hd.2.1;have hkd:=J.2.1 S[j] (ε U);have hrg:=J.2.2 S[j] (ε U);have fin:∀(n' e' N:Int) (s:Ck),(S[j].k≠9/\S[j].k≠14/\S[j].k≠12/\S[j].k≠13)->qS S[j] D n.toNat=jq N s n' e'->0<=e'->qD D n'->n<=n'->_:=λn' e' N s hk hR he hd=>zyn (g:=qu S D G) (λq=>qd S x q/\y.2.1=D.size/\qgn q y.1 y.2.1 y.2.2 (q18 D)) hk hR he hd ha0 l2;clear hE;refine⟨λk2=> ?_,λk2=> ?_⟩
 ·refine⟨⟨⟨x,y,D,n,all+1,0⟩,1⟩,rfl,rfl,rfl,rfl,rfl,rfl,rfl,rfl,rfl,rfl,⟨hd,by show(0:Int)<=1;decide,by show(1:Int)<=8;decide⟩,λq hq=>hq.2,?_⟩;simp only[LS hd (show(0:Int)<=1 by decide)];have Y:=ZB (D:=D) (i:=n.toNat) (k:=1) (by omega);have H:qS S[j] D n.toNat=(yA D n.toNat 1).bind λr=>if 1<jL r.1 then .no 1 else .ok (kL (jL r.1),r.2):=by unfold qS;rw[if_neg (by omega),if_pos k2]
  unfold yA vu jL at H;generalize qq D n.toNat 1=T at*;obtain⟨s,e1,m⟩:=T;simp only at Y H⊢;have A:qD D m:=⟨by omega,by omega,hd.2.2⟩;by_cases u:e1=0
  ·rw[if_pos u,zb]at H;refine⟨λh=>⟨⟨x,y,m,all+1,e1,2⟩,rfl,rfl,rfl,rfl,rfl,rfl,rfl,rfl,rfl,rfl,?_⟩,λh=> ?_⟩
   ·simp only[true_and,and_true,u,if_true];exact fin m 2 _ _ (by omega) (by rw[H,if_pos h];rfl) (by decide) A (by omega)
   ·simp only[true_and,and_true];exact fin m e1 _ _ (by omega) (by rw[H,if_neg h,u];rfl) (by omega) A (by omega)
  ·rw[if_neg u,jl]at H;refine⟨λh=>⟨⟨x,y,m,all+1,e1,2⟩,rfl,rfl,rfl,rfl,rfl,rfl,rfl,rfl,rfl,rfl,?_⟩,λh=> ?_⟩
   ·simp only[true_and,and_true,u,if_false];exact fin m e1 _ _ (by omega) (by rw[H];unfold jq;rw[if_neg u]) (by omega) A (by omega)
   ·simp only[true_and,and_true];exact fin m e1 _ _ (by omega) (by rw[H];unfold jq;rw[if_neg u]) (by omega) A (by omega)
 refine⟨⟨λh=>by unfold vg;exact j6 (by omega),λh=>by unfold vg;exact j6 (by omega)⟩,λhI=> ?_,λhI=> ?_⟩
 ·unfold vg at hI;rw[decide_eq_true_eq]at hI;refine⟨⟨x,y,D,n,all+1,0⟩,rfl,rfl,rfl,rfl,rfl,rfl,rfl,rfl,rfl,hd,λq hq=>hq.2,?_⟩;simp only[Kh hd];have Y:=yu D n.toNat (by omega);have X:S[j].k=3->qS S[j] D n.toNat=(uz D n.toNat).bind λr=>if r.1< -2147483648\/2147483648<=r.1 then .no 1 else .ok (kL (r.1 % 18446744073709551616),r.2):=λh=>by unfold qS;rw[if_neg (by omega),if_neg (by omega),if_pos h]
  have h4:¬S[j].k=3->qS S[j] D n.toNat=(uz D n.toNat).bind λr=> .ok (kL (r.1 % 18446744073709551616),r.2):=λh=>by unfold qS;rw[if_neg (by omega),if_neg (by omega),if_neg h,if_pos (by omega)]
  unfold uz at X h4;generalize qb D n.toNat=T at*;obtain⟨v,e1,m⟩:=T;simp only at Y X h4⊢;have A:qD D (m:Int):=⟨by omega,by omega,hd.2.2⟩;simp only[wrap_u64];by_cases u:e1=0
  ·rw[if_pos u]at X h4;refine⟨λk3=>⟨λh=>⟨⟨x,y,m,all+1,e1,2⟩,rfl,rfl,rfl,rfl,rfl,rfl,rfl,rfl,rfl,rfl,?_⟩,λh=>⟨λh'=>⟨⟨x,y,m,all+1,e1,2⟩,rfl,rfl,rfl,rfl,rfl,rfl,rfl,rfl,rfl,rfl,?_⟩,λh'=> ?_⟩⟩,λk3=> ?_⟩
   ·simp only[true_and,and_true,u,if_true];exact fin m 2 _ _ (by omega) (by rw[X k3,zb,if_pos (.inl h)];rfl) (by decide) A (by omega)
   ·simp only[true_and,and_true,u,if_true];exact fin m 2 _ _ (by omega) (by rw[X k3,zb,if_pos (.inr h')];rfl) (by decide) A (by omega)
   ·simp only[true_and,and_true];exact fin m e1 _ _ (by omega) (by rw[X k3,zb,if_neg (by omega),u];rfl) (by omega) A (by omega)
   ·simp only[true_and,and_true];exact fin m e1 _ _ (by omega) (by rw[h4 k3,zb,u];rfl) (by omega) A (by omega)
  ·rw[if_neg u]at X h4;have hno:∀(N:Int) (s:Ck),qS S[j] D n.toNat=jq N s m e1:=λN s=>by
    have hz:∀k:Nat,jq N s (m:Int) (e1:Int)= .no (e1- 1):=λ_=>(by unfold jq;rw[if_neg (by omega)];congr 1;omega);by_cases h:S[j].k=3
    ·rw[X h,jl,hz 0]
    ·rw[h4 h,jl,hz 0]
   have fin2:=λ(N:Int) (s:Ck)=>fin m e1 N s (by omega) (hno N s) (by omega) A (by omega);have h1':¬(e1:Int)=0:=(by omega);refine⟨λk3=>⟨λh=>⟨⟨x,y,m,all+1,e1,2⟩,rfl,rfl,rfl,rfl,rfl,rfl,rfl,rfl,rfl,rfl,?_⟩,λh=>⟨λh'=>⟨⟨x,y,m,all+1,e1,2⟩,rfl,rfl,rfl,rfl,rfl,rfl,rfl,rfl,rfl,rfl,?_⟩,λh'=> ?_⟩⟩,λk3=> ?_⟩;all_goals simp only[true_and,and_true,h1',if_false]
   all_goals exact fin2 _ _
 unfold vg at hI;rw[decide_eq_false_iff_not]at hI;have low:∀k:Int,(k=4\/k=8)->(S[j].k=5\/S[j].k=6)->(qS S[j] D n.toNat=(yA D n.toNat k).bind λr=> .ok (kL (jL r.1),r.2))->_:=λk hk h56 H=>(by
  have Y:=ZB (D:=D) (i:=n.toNat) (k:=k) (by omega);unfold yA vu jL at H;exact fin (qq D n.toNat k).2.2 (qq D n.toNat k).2.1 (kc (qq D n.toNat k).1.data.toList:Nat) (mkS []) (by omega) (by
   rw[H];unfold jq;by_cases h:(qq D n.toNat k).2.1=0
   ·rw[if_pos h,if_pos h];rfl
   ·rw[if_neg h,if_neg h];rfl) Y.1.1 ⟨by omega,by omega,hd.2.2⟩ (by omega))
 refine⟨λk5=> ?_,λk5=>⟨λk6=> ?_,λk6=>⟨⟨λh=>by unfold Qo;exact j6 (by omega),λh=>by unfold Qo;exact j6 (by omega)⟩,λhb=> ?_,λhb=> ?_⟩⟩⟩
 ·refine⟨⟨⟨x,y,D,n,all+1,0⟩,4⟩,rfl,rfl,rfl,rfl,rfl,rfl,rfl,rfl,rfl,rfl,⟨hd,by show(0:Int)<=4;decide,by show(4:Int)<=8;decide⟩,λq hq=>hq.2,?_⟩;simp only[LS hd (show(0:Int)<=4 by decide),true_and,and_true];exact low 4 (.inl rfl) (.inl k5) (by unfold qS;rw[if_neg (by omega),if_neg k2,if_neg (by omega),if_neg (by omega),if_pos k5])
 ·refine⟨⟨⟨x,y,D,n,all+1,0⟩,8⟩,rfl,rfl,rfl,rfl,rfl,rfl,rfl,rfl,rfl,rfl,⟨hd,by show(0:Int)<=8;decide,by show(8:Int)<=8;decide⟩,λq hq=>hq.2,?_⟩;simp only[LS hd (show(0:Int)<=8 by decide),true_and,and_true];exact low 8 (.inr rfl) (.inr k6) (by unfold qS;rw[if_neg (by omega),if_neg k2,if_neg (by omega),if_neg (by omega),if_neg k5,if_pos k6])
 ·unfold Qo at hb;rw[decide_eq_true_eq]at hb;refine⟨⟨x,y,D,n,all+1,0⟩,rfl,rfl,rfl,rfl,rfl,rfl,rfl,rfl,rfl,hd,λq hq=>hq.2,?_⟩;simp only[CV hd,true_and,and_true];have Y:=Yd (D:=D) (i:=n.toNat) (by omega);have h7:S[j].k=7->qS S[j] D n.toNat=(O4 D n.toNat).bind λr=> .ok (JI r.1,r.2):=λh=>by unfold qS;rw[if_neg (by omega),if_neg (by omega),if_neg (by omega),if_neg (by omega),if_neg (by omega),if_neg (by omega),if_pos h]
  have Z:S[j].k=8->qS S[j] D n.toNat=(Uj D n.toNat).bind λr=> .ok (JI r.1,r.2):=λh=>by unfold qS;rw[if_neg (by omega),if_neg (by omega),if_neg (by omega),if_neg (by omega),if_neg (by omega),if_neg (by omega),if_neg (by omega),if_pos h]
  unfold O4 vu at h7;unfold Uj vu vP at Z;generalize qJ D n.toNat=T at*;obtain⟨s,e1,m⟩:=T;simp only at Y h7 Z⊢;have A:qD D m:=⟨by omega,by omega,hd.2.2⟩;by_cases u:e1=0
  ·rw[if_pos u]at h7;refine⟨λk8=>⟨by omega,λhv=> ?_,λhv=> ?_⟩,λk8=> ?_⟩
   ·rw[if_neg (by rw[if_pos ⟨u,hv⟩];decide),if_pos ⟨u,hv⟩]at Z;refine⟨⟨x,y,m,all+1,e1,2⟩,rfl,rfl,rfl,rfl,rfl,rfl,rfl,rfl,rfl,rfl,?_⟩;simp only[true_and,and_true,u,if_true];exact fin m 2 _ _ (by omega) (by rw[Z k8];rfl) (by decide) A (by omega)
   ·rw[if_neg (show¬(e1=0/\qP s=Β)by rw[hv];simp),if_pos u]at Z;exact fin m e1 _ _ (by omega) (by rw[Z k8,u];rfl) (by omega) A (by omega)
   ·exact fin m e1 _ _ (by omega) (by rw[h7 (by omega),u];rfl) (by omega) A (by omega)
  ·rw[if_neg u]at h7;rw[if_neg (show¬(e1=0/\qP s=Β)by omega),if_neg u]at Z;refine⟨λk8=>⟨by omega,λhv=> ?_,λhv=> ?_⟩,λk8=> ?_⟩
   ·refine⟨⟨x,y,m,all+1,e1,2⟩,rfl,rfl,rfl,rfl,rfl,rfl,rfl,rfl,rfl,rfl,?_⟩;simp only[true_and,and_true,u,if_false];exact fin m e1 _ _ (by omega) (by rw[Z k8];unfold jq;rw[if_neg u];rfl) (by omega) A (by omega)
   ·exact fin m e1 _ _ (by omega) (by rw[Z k8];unfold jq;rw[if_neg u];rfl) (by omega) A (by omega)
   ·exact fin m e1 _ _ (by omega) (by rw[h7 (by omega)];unfold jq;rw[if_neg u];rfl) (by omega) A (by omega)
 unfold Qo at hb;rw[decide_eq_false_iff_not]at hb;obtain⟨_,syl,fl,bl⟩:=yH (O p hx);have sm:=hS.2 S[j] (ε U);refine⟨λk10=> ?_,λk10=>⟨λk11=> ?_,λk11=>⟨λk14=> ?_,λk14=> ?_⟩⟩⟩
 ·refine⟨⟨⟨x,y,D,n,all+1,0⟩,(S[j].sy.2.1:Int)⟩,rfl,rfl,rfl,rfl,rfl,rfl,rfl,rfl,rfl,rfl,⟨hd,by show(0:Int)<=(S[j].sy.2.1:Int);omega,by show(S[j].sy.2.1:Int)<_;omega⟩,λq hq=>hq.2,?_⟩;simp only[CL hd,true_and,and_true,wrap_u64];have Y:=yu D n.toNat (by omega);have H:qS S[j] D n.toNat=(xq D n.toNat S[j].sys.length).bind λr=> .ok (kL r.1,r.2):=by unfold qS;rw[if_neg (by omega),if_neg k2,if_neg (by omega),if_neg (by omega),if_neg k5,if_neg k6,if_neg (by omega),if_neg (by omega),if_pos k10]
  unfold xq at H;rw[←syl]at H;have A:qD D ((qb D n.toNat).2.2:Nat):=⟨by omega,by omega,hd.2.2⟩;refine fin _ _ _ _ (by omega) ?_ (by omega) A (by omega);rw[H];unfold jq;by_cases u:je D n.toNat S[j].sy.2.1=0
  ·have hrr:0<=(qb D n.toNat).1:=(by unfold je at u;split at u<;>omega);rw[if_pos u,if_pos (by omega),if_pos u,zb,qzu hrr (by omega),γ];rfl
  ·rw[if_neg u,if_neg (by omega),jl];congr 1;omega
 ·have hz:=hrg.2.2.2 k11;refine⟨⟨⟨x,y,D,n,all+1,0⟩,S[j].sz⟩,rfl,rfl,rfl,rfl,rfl,rfl,rfl,rfl,rfl,rfl,⟨hd,by show(0:Int)<=S[j].sz;omega,by show S[j].sz<_;omega⟩,λq hq=>hq.2,?_⟩;simp only[LS hd hz.1,true_and,and_true];have Y:=ZB (D:=D) (i:=n.toNat) (k:=S[j].sz) (by omega);have H:qS S[j] D n.toNat=(yA D n.toNat S[j].sz).bind λr=> .ok (JI r.1,r.2):=by unfold qS;rw[if_neg (by omega),if_neg k2,if_neg (by omega),if_neg (by omega),if_neg k5,if_neg k6,if_neg (by omega),if_neg (by omega),if_neg k10,if_pos k11]
  unfold yA vu at H;refine fin _ _ _ _ (by omega) ?_ (by omega) ⟨by omega,by omega,hd.2.2⟩ (by omega);rw[H];unfold jq;by_cases u:(qq D n.toNat S[j].sz).2.1=0
  ·rw[if_pos u,if_pos u];rfl
  ·rw[if_neg u,if_neg u];rfl
 ·have V:kA (qu S D G) D S[j] n.toNat (all+1).toNat=y7 (qu S D G) D S[j] n.toNat (all+1).toNat:=by unfold kA;rw[if_neg (by omega),if_pos k14]
  refine⟨⟨⟨x,y,D,n,all+1,0⟩,(S[j].br.2.1:Int)⟩,rfl,rfl,rfl,rfl,rfl,rfl,rfl,rfl,rfl,rfl,⟨hd,by show(0:Int)<=(S[j].br.2.1:Int);omega,by show(S[j].br.2.1:Int)<_;omega⟩,λq hq=>hq.2,?_⟩;have Y:=yu D n.toNat (by omega);have A:qD D ((qb D n.toNat).2.2:Nat):=⟨by omega,by omega,hd.2.2⟩;rw[V];unfold y7 xq;rw[←bl];simp only[CL hd,true_and,and_true];by_cases u:je D n.toNat S[j].br.2.1=0
  ·have hrr:0<=(qb D n.toNat).1/\(qb D n.toNat).1<S[j].br.2.1:=(by unfold je at u;split at u<;>omega);rw[if_pos u,if_pos u,zb];refine⟨λ_=>⟨hrr,?_⟩,λh=>absurd (by omega) h⟩;obtain⟨b,hb⟩:=Δ hrr.1;have hbl:b<S[j].brs.length:=(by omega);have hba:=λq (hq:qd S x q)=>uO (O q hq) hbl;have hbr:=hrg.2.1 S[j].brs[b] (ε hbl);have hgd:S[j].brs.getD b 0=S[j].brs[b]:=(by rw[qqk,δ hbl];rfl);simp only[hb,γ,hgd];refine⟨(hba p hx).1,S[j].brs[b],λq hq=>(hba q hq.1).2,⟨by omega,by omega⟩,⟨S,⟨x,y,D,((qb D n.toNat).2.2:Nat),all+1,0⟩,S[j].brs[b],G+1⟩,rfl,rfl,rfl,rfl,rfl,rfl,rfl,rfl,rfl,rfl,(by show(0:Int)=((je D n.toNat S[j].br.2.1:Nat):Int);omega),⟨by show(25- (G+1)).toNat<c;omega,J,A,⟨by show 0<=all+1;omega,by show all+1<=2000;omega⟩,ρ _,hbr,by show 1<=G+1;omega,by show G+1<=21;omega⟩,λq hq=>hq,?_⟩;rintro⟨r,n',B,e'⟩ ⟨g1,g2,g3,g4,g6⟩ _ b2 s2 _;have g6:((qb D n.toNat).2.2:Nat)<=n':=g6;have g3:all+1+1<=B/\B<=2001:=g3;rw[if_pos rfl,show(21- (G+1)).toNat=(20- G).toNat by omega]at g1;simp only[γ]at g1;refine⟨⟨.mk 0 (mkS []) (Ε ⟨b2,s2+0,Ξ⟩,1,1) [r] (Ξ,0,0) [] b,n',B,e'⟩,rfl,rfl,rfl,rfl,rfl,rfl,rfl,rfl,rfl,rfl,rfl,rfl,rfl,rfl,rfl,rfl,rfl,rfl,⟨?_,g2,⟨by omega,by omega⟩,g4,by omega⟩,λq hq=> ?_⟩
   ·rw[if_pos rfl];show jJ ((qM S D (20- G).toNat S[j].brs[b] (qb D n.toNat).2.2 (all+1).toNat).bind _) _ _ _ _;revert g1;cases qM S D (20- G).toNat S[j].brs[b] (qb D n.toNat).2.2 (all+1).toNat with
    |no k=>exactλg1=>g1
    |ok w=>exactλ⟨q1,q2,q3,q4⟩=>⟨q1,by rw[qqf,ι,ι,q2],q3,q4⟩
   ·unfold υ;exact⟨⟨rfl,Κ _, .inr ⟨_,rfl,rfl,hq.2⟩⟩,qV,vQ hq.1.2⟩
  ·rw[if_neg u,if_neg u,jl];refine⟨λh=>absurd h (by omega),λ_=>⟨⟨zV,((qb D n.toNat).2.2:Nat),all+1,(je D n.toNat S[j].br.2.1:Nat)⟩,rfl,rfl,rfl,rfl,rfl,rfl,rfl,rfl,rfl,rfl,rfl,rfl,⟨?_,A,⟨by omega,by omega⟩,λ_=>by omega,by omega⟩,λq _=>jc q⟩⟩;rw[if_pos rfl];show((je D n.toNat S[j].br.2.1:Nat):Int)=((je D n.toNat S[j].br.2.1- 1:Nat):Int)+1;omega
 refine⟨λk9=> ?_,λk9=>⟨⟨λh=>by unfold vh;exact j6 (by omega),λh=>by unfold vh;exact j6 (by omega)⟩,λhA=> ?_,λhA=> ?_⟩⟩
 ·have V:kA (qu S D G) D S[j] n.toNat (all+1).toNat=V8 (qu S D G) S[j] n.toNat (all+1).toNat:=by unfold kA;rw[if_pos k9]
  rw[V];refine⟨⟨⟨0,n,all+1,0,[]⟩,rfl,rfl,rfl,rfl,rfl,λq _=>GV.oks_iff.2 λw hw=>(by cases hw),⟨Α _,rfl,hd,⟨ρ _,by show all+1<=2001;omega⟩,λ_=>by show all+1<=2000;omega,ρ _, .inl ⟨rfl,rfl⟩⟩⟩,?_⟩;rintro⟨i,n1,C,e1,fs⟩ ⟨r1,r2,r3,⟨r4,r5⟩,r5',r7,r6⟩ ⟨p2,hp2,hfsok⟩;rw[Hz U]at r1 r6;simp only at r1 r2 r3 r4 r5 r5' r6 r7 hfsok⊢;have rc:∀(a:Option Addr) (cc:Nat),(e1≠0\/S[j].fs.length<=i)->z17 (V8 (qu S D G) S[j] n.toNat (all+1).toNat) D n (all+1) 0 (.mk 0 (mkS []) (a,fs.length,cc) fs (Ξ,0,0) [] 0,n1,C,e1):=λa cc hc=>by
   refine⟨?_,r3,⟨by omega,r5⟩,r5',r7⟩;rw[if_pos rfl];unfold V8;rcases r6 with⟨q1,q2⟩|⟨k,q1,q2⟩
   ·rw[zw4 (by rw[Θ];omega)]at q2;rw[←q2,zb];have:=r3.1;exact⟨q1,by rw[qqf],by show n1=((n1.toNat:Nat):Int);omega,by show C=((C.toNat:Nat):Int);omega⟩
   ·rw[q2,jl];exact q1
  refine⟨λhlt=>⟨λhz0=> ?_,λhnz a cc _=>⟨⟨.mk 0 (mkS []) (a,fs.length,cc) fs (Ξ,0,0) [] 0,n1,C,e1⟩,rfl,rfl,rfl,rfl,rfl,rfl,rfl,rfl,rfl,rfl,rfl,rfl,rc a cc (.inl (by omega)),λq hq=>z60 hq.1.2 hq.2.1 hq.2.2⟩⟩,λhge a cc _=>⟨⟨.mk 0 (mkS []) (a,fs.length,cc) fs (Ξ,0,0) [] 0,n1,C,e1⟩,rfl,rfl,rfl,rfl,rfl,rfl,rfl,rfl,rfl,rfl,rfl,rfl,rc a cc (.inr (by omega)),λq hq=>z60 hq.1.2 hq.2.1 hq.2.2⟩⟩;subst hz0;have hif:i<S[j].fs.length:=by omega
  have r6:kY (qu S D G) ((S[j].fs.map AF.ty).drop i) (ι fs) n1.toNat C.toNat=kY (qu S D G) (S[j].fs.map AF.ty) [] n.toNat (all+1).toNat:=by
   rcases r6 with⟨_,q⟩|⟨k,q,_⟩
   ·exact q
   ·omega
  rw[zw3 (by rw[Θ];exact hif),qqx]at r6;have hft:=hrg.1 _ (ε hif);have hfty:=λq hq=>k05 (O q hq) hif;have hne:=(w_ (O p hx) hif).1;have hr0:=r5' rfl;refine⟨?ra,?rb,?rc⟩;case ra|rb|rc=>
   refine⟨⟨by omega,by omega⟩,hne,S[j].fs[i].ty,λq hq=>hfty q hq.1.1,⟨by omega,by omega⟩,⟨S,⟨x,y,D,n1,C,0⟩,S[j].fs[i].ty,G+1⟩,rfl,rfl,rfl,rfl,rfl,rfl,rfl,rfl,rfl,rfl,rfl,⟨by show(25- (G+1)).toNat<c;omega,J,r3,⟨by show 0<=C;omega,hr0⟩,ρ _,hft,by show 1<=G+1;omega,by show G+1<=21;omega⟩,λq hq=>hq.1,?_⟩;rintro⟨r,n',B,e'⟩ ⟨g1,g2,g3,g4,g6⟩ _;have g6:n1<=n':=g6;have g3:C+1<=B/\B<=2001:=g3;rw[if_pos rfl,show(21- (G+1)).toNat=(20- G).toNat by omega]at g1;have hag:=HO g1 r6;refine⟨qv zn fs,by omega,⟨by omega,by omega⟩,⟨i+1,n',B,e',fs++[r]⟩,by show((i+1:Nat):Int)=_;omega,?_⟩;simp only[true_and,and_true,eq_self];refine⟨by simp,by rw[zu];rfl,λq hq=>hq.1.1,λq hq=>uJ hq.1.2 (vQ hq.2),⟨by rw[Hz U];omega,by simp[r2],g2,⟨by omega,by omega⟩,g4,by omega,?_⟩,by rw[Hz U];omega⟩;rw[Hz U,Wg];exact hag
 ·unfold vh at hA;rw[decide_eq_true_eq]at hA;have V:kA (qu S D G) D S[j] n.toNat (all+1).toNat=ko (qu S D G) D S[j] n.toNat (all+1).toNat:=by unfold kA;rw[if_neg k9,if_neg k14,if_pos hA]
  rw[V];refine⟨⟨S,⟨x,y,D,n,all+1,0⟩,S[j],G⟩,?_⟩;simp only[true_and,and_true,eq_self];refine⟨⟨hmu,J,ε U,hA,hd,⟨by omega,by omega⟩,hp1,by omega⟩,λq hq=>⟨hq.1,O q hq.1,hq.2⟩,?_⟩;rintro⟨r,n',B,e'⟩ ⟨g1,g2,g3,g4,g6⟩ _;have g3:all+1<=B/\B<=2001:=g3;exact⟨⟨r,n',B,e'⟩,rfl,rfl,rfl,rfl,rfl,rfl,rfl,rfl,rfl,rfl,rfl,rfl,⟨g1,g2,⟨by omega,by omega⟩,g4,g6⟩,λq hq=>hq.2⟩
 ·unfold vh at hA;rw[decide_eq_false_iff_not]at hA;have H:qS S[j] D n.toNat= .ok (kL 0,n.toNat):=by unfold qS;rw[if_pos (by omega)]
  exact fin n 0 0 (mkS []) (by omega) H (by decide) hd (ρ _)
end
def zhy(l:List AV) (h:T AO):Option (Int×vd):=match l with
  | .ptr id _::k::_=>match Ay h id with
    | some d=>match gi k with
      |some (_,n)=>Ε (n,d)
      |none=>Ξ
    |none=>Ξ
  |_=>Ξ
def Ur:Ct where
 σ:=Int×vd
 args:=λ⟨k,x,s,i,c⟩=>[.ptr 1 0, .sv (.int .i64 k)]
 h:=λ⟨k,x,s,i,c⟩=>jw x s i c
 m:=2
 pre:=λ⟨k,d⟩=>qZ d/\ -9223372036854775808<=k/\k<9223372036854775808
 find:=Ε zhy
 r:=λ⟨k,x,s,i,c⟩=> .tup [.sv (.string (qq s i.toNat k).1), .sv (.int .i64 (qq s i.toNat k).2.1)]
 h':=λ⟨k,x,s,i,c⟩=>jw x s (qq s i.toNat k).2.2 c
 m':=2
 g:=λ_=>Ξ
def HS:Ct where
 σ:=Int×vd
 args:=λ⟨k,x,s,i,c⟩=>[.ptr 1 0, .sv (.int .i64 k)]
 h:=λ⟨k,x,s,i,c⟩=>jw x s i c
 m:=2
 pre:=λ⟨k,d⟩=>qZ d/\0<=k/\k<=8
 find:=Ε zhy
 r:=λ⟨k,x,s,i,c⟩=> .tup [.sv (.int .u64 (jL (qq s i.toNat k).1)), .sv (.int .i64 (qq s i.toNat k).2.1)]
 h':=λ⟨k,x,s,i,c⟩=>jw x s (qq s i.toNat k).2.2 c
 m':=2
 g:=λ_=>Ξ
def zkz:HS.σ->WayF:=λ⟨k,x,s,i,c⟩=>{
 ann:=λ_ _ _=>Ε {σ:=Nat,pre:=λj=>j<=(qq s i.toNat k).1.size,t:=λj=>[(8, .sv (.int .u64 (kc ((qq s i.toNat k).1.data.toList.take j):Nat))),(18, .sv (.int .i64 (j:Nat)))],h:=λ_=>[],more:=0,μ:=λj=>(qq s i.toNat k).1.size- j,keep:=[6,7,17]}}
def Le:Ct where
 σ:=vd
 args:=λ⟨x,s,i,c⟩=>[.ptr 1 0]
 h:=λ⟨x,s,i,c⟩=>jw x s i c
 m:=2
 pre:=qZ
 find:=Ε Li
 r:=λ⟨x,s,i,c⟩=> .tup [.sv (.string (qJ s i.toNat).1), .sv (.int .i64 (qJ s i.toNat).2.1)]
 h':=λ⟨x,s,i,c⟩=>jw x s (qJ s i.toNat).2.2 c
 m':=2
 g:=λ_=>Ξ
def HX:Ct where
 σ:=vd
 args:=λ⟨x,s,i,c⟩=>[.ptr 1 0]
 h:=λ⟨x,s,i,c⟩=>jw x s i c
 m:=2
 pre:=qZ
 find:=Ε Li
 r:=λ⟨x,s,i,c⟩=> .tup [.sv (.string (qJ s i.toNat).1), .sv (.int .i64 (vP (qJ s i.toNat)))]
 h':=λ⟨x,s,i,c⟩=>jw x s (qJ s i.toNat).2.2 c
 m':=2
 g:=λ_=>Ξ
def LL(k:Int):Prop:=k≠9/\k≠14/\k≠12/\k≠13
def atM(a:AT):PF:=⟨ξ,λp=>a.ok p,λ_ _ h e=>qzv h e⟩
abbrev ye:=Int×Ck×Int×Int
def HU:CtR where
 σ:=vd×AT
 args:=λ⟨⟨x,s,i,c⟩,a⟩=>[.ptr 1 0,a.av]
 h:=λ⟨⟨x,s,i,c⟩,a⟩=>jw x s i c
 m:=2
 pre:=λ⟨d,a⟩=>qZ d/\LL a.k/\(1<=a.k/\a.k<=14)/\a.sys.length<1000000/\(a.k=11->0<=a.sz/\a.sz<1000000)
 mem:=λ⟨d,a⟩=>atM a
 β:=λ_=>ye
 post:=λ⟨⟨x,s,i,c⟩,a⟩ ⟨N,r,e',i'⟩=>qS a s i.toNat=jq N r i' e'/\0<=e'/\i<=i'/\i'<=s.size
 pm:=λ_ _=>{}
 r:=λ_ ⟨N,r,e',i'⟩=> .tup [(GV.mk N r (Ξ,0,0) [] (Ξ,0,0) [] 0).av, .sv (.int .i64 e')]
 h':=λ⟨⟨x,s,i,c⟩,a⟩ ⟨N,r,e',i'⟩=>jw x s i' c
 m':=2
def zl2:HU.σ->WayF:=λ⟨⟨x,s,i,c⟩,a⟩=>{
 cut:=λi h _=>match i with
  |10=>xN vg 23 9 [0,3,4,5,9,23] h
  |_=>Ξ}
abbrev ur:=List AT×vd×Int×Int
abbrev zm:=GV×Int×Int×Int
def vpM(S:List AT) (x:SV):PF:=⟨ξ,λp=>qd S x p,λ_ _ h e=>yG h e⟩
def Jn(s:Ck) (i c:Int):zm->Prop:=λ⟨r,e',i',h⟩=>(i<=i'/\i'<=s.size)/\(c<=h/\h<=2001)/\(e'=0->h<=2000)
def xp(S:List AT) (t:Int):Prop:=0<=t/\t<S.length
def z31(S:List AT) (R:zG) (s:Ck) (i c t:Int) (b:zm):Prop:=(xp S t->jJ R b.1.pv b.2.2.1 b.2.2.2 b.2.1/\c+1<=b.2.2.2)/\(¬xp S t->b.2.1=1)/\Jn s i c b
def uQ:CtR where
 σ:=ur
 args:=λ⟨S,⟨x,s,i,c⟩,t,u⟩=>[.ptr 1 0, .sv (.int .i64 t), .sv (.int .i64 u)]
 h:=λ⟨S,⟨x,s,i,c⟩,t,u⟩=>jw x s i c
 m:=2
 pre:=λ⟨S,⟨x,s,i,c⟩,t,u⟩=>zp S/\qZ ⟨x,s,i,c⟩/\(0<=c/\c<=2000)/\1<=u/\u<=21
 mem:=λ⟨S,⟨x,s,i,c⟩,t,u⟩=>vpM S x
 β:=λ_=>zm
 post:=λ⟨S,⟨x,s,i,c⟩,t,u⟩ b=>z31 S (qM S s (21- u).toNat t i.toNat c.toNat) s i c t b
 pm:=λ_ ⟨r,e',i',A⟩=>vM r
 r:=λ_ ⟨r,e',i',A⟩=> .tup [r.av, .sv (.int .i64 e')]
 h':=λ⟨S,⟨x,s,i,c⟩,t,u⟩ ⟨r,e',i',A⟩=>jw x s i' A
 m':=2
def wv:ur->Nat:=λ⟨S,_,t,h⟩=>(25- h).toNat
abbrev xj:=List AT×vd×AT×Int
def ppM(S:List AT) (x:SV) (a:AT):PF:=⟨ξ,λp=>qd S x p/\a.ok p,λ_ _ h e=>⟨yG h e.1,qzv h e.2⟩⟩
def uk(κ:AT->Prop) (R:(Int->Nat->Nat->zG)->Ck->AT->Nat->Nat->zG):CtR where
 σ:=xj
 args:=λ⟨S,⟨x,s,i,c⟩,a,u⟩=>[.ptr 1 0,a.av, .sv (.int .i64 u)]
 h:=λ⟨S,⟨x,s,i,c⟩,a,u⟩=>jw x s i c
 m:=2
 pre:=λ⟨S,⟨x,s,i,c⟩,a,u⟩=>zp S/\a∈S/\κ a/\qZ ⟨x,s,i,c⟩/\(0<=c/\c<=2000)/\1<=u/\u<=20
 mem:=λ⟨S,⟨x,s,i,c⟩,a,u⟩=>ppM S x a
 β:=λ_=>zm
 post:=λ⟨S,⟨x,s,i,c⟩,a,u⟩ b=>jJ (R (qu S s u) s a i.toNat c.toNat) b.1.pv b.2.2.1 b.2.2.2 b.2.1/\Jn s i c b
 pm:=λ_ ⟨r,e',i',A⟩=>vM r
 r:=λ_ ⟨r,e',i',A⟩=> .tup [r.av, .sv (.int .i64 e')]
 h':=λ⟨S,⟨x,s,i,c⟩,a,u⟩ ⟨r,e',i',A⟩=>jw x s i' A
 m':=2
def v_:xj->Nat:=λ⟨S,_,a,h⟩=>(25- h).toNat
def Vt(a:AT):Prop:=a.k=9
def Vj(a:AT):Prop:=a.k=14
def xK(g:Int->Nat->Nat->zG) (D:Ck) (a:AT) (n c:Nat):zG:=V8 g a n c
def C8:ur->WayF:=λ⟨S,⟨x,s,i,c⟩,t,u⟩=>{
 cut:=λi h _=>match i with
  |13=>xN vh 62 48 [0,1,2,6,7,8,48,62] h
  |_=>Ξ}
def Ho(S:List AT) (a:AT) (s:Ck) (h i c:Int) (j:Nat) (i1 c1:Int) (fs:List GV):Prop:=(j<=a.fs.length/\fs.length=j)/\(i<=i1/\i1<=s.size)/\(c<=c1/\c1<=2000)/\kY (qu S s h) ((a.fs.map AF.ty).drop j) (ι fs) i1.toNat c1.toNat=kY (qu S s h) (a.fs.map AF.ty) [] i.toNat c.toNat
def C4:xj->WayF:=λ⟨S,⟨x,s,i,c⟩,a,A⟩=>{
 pubE:=[40]
 ann:=λ_ C B=>match Vo C 8 with
  |some u=>Ε {σ:=Nat×Int×Int×List GV,pre:=λ⟨j,i1,c1,fs⟩=>Ho S a s A i c j i1 c1 fs,mem:=λ⟨j,i1,c1,fs⟩=>yh fs,t:=λ⟨j,i1,c1,fs⟩=>[(16, .sv (.int .i64 (j:Nat)))],h:=λ⟨j,i1,c1,fs⟩=>jw x s i1 c1++[(u,We B u fs.length),(40, .row 36 0 (qa θ fs))],more:=60,μ:=λ⟨j,i1,c1,fs⟩=>a.fs.length- j,keep:=[0,2,4,6,7,8,14,15]}
  |none=>Ξ}
def C7:xj->WayF:=λ_=>{pubE:=[42]}
section
variable (a:Int) (c:Ck) (b:Int) (d:SV) (e:Int) (f:Prop)
 abbrev Ja:=decide (a<0)=decide (a<0)
 def Wu:=Ja a/\Ja a/\Ja a/\Ja a/\Ja a/\f
 def SI:=(qq c (toNat a) b).2.1=e/\d.1=d.1/\d.2.1=d.2.1/\d.2.2=d.2.2/\c=c/\f
 def FG:=(qq c (toNat a) b).1=mkS []/\SI a c b d 2 ((qq c (toNat a) b).2.2=a/\e=e/\True)
 def pS:=Ja a/\Wu a (Wu a (Ji (a<0) (FG b c a d e) (False)))
 def pR:=Jb (a+b)/\(0<=a/\a<=a+b/\a+b<=(↑(size c):Int))/\(qq c (toNat a) b).1=ByteArray.extract c (toNat a) (toNat (a+b))/\SI a c b d 0 ((qq c (toNat a) b).2.2=a+b/\e=e/\True)
 def pQ:=Ji ((↑(size c):Int)- a<b) (FG a c b d e) (pR a c b d e)
 def pP:=Wu a (Wu a (Jb ((↑(size c):Int)- b)/\Ja a/\Ji (a<0) (FG b c a d e) (pQ b c a d e)))
 def pO:=Ji (a<0) (pS a c b d e) (pP a c b d e)
end
def zew(k:Int) (x:SV) (s:Ck) (i c:Int):qk2 P (λ_=>Ξ) Tryz.f89 Ur (λ_=>{}) ⟨k,x,s,i,c⟩=(qZ (x,s,i,c)/\(-9223372036854775808:Int)<=k/\k<9223372036854775808->pO k s i x c):=by kernel_rfl
def zhf:=λk x s i c=>Ω (zew k x s i c) (by delta Ji Jb Jt Jf Ja Wu SI FG pS pR pQ pP pO;exact rfl)
section
variable (b:Int) (d:SV) (a:Ck) (c f:Int) (e:Nat) (h:Prop)
 abbrev SK:=d.1=d.1/\d.2.1=d.2.1/\d.2.2=d.2.2/\h
 abbrev uo:=(qq a (toNat b) c).1
 abbrev Ww:=(↑(size (uo b a c)):Int)
 def SJ:=(qq a (toNat b) c).2.1=(qq a (toNat b) c).2.1/\(Ww b a c)=(Ww b a c)/\h
 abbrev Wv:=(↑(kc (take e (qz2 (qzg (uo b a c))))):Int)
 def FH:=SK d (a=a/\(qq a (toNat b) c).2.2=(qq a (toNat b) c).2.2/\f=f/\h)
 def pV:=(0<=(↑e:Int)/\(↑e:Int)<(Ww b a c))/\(0<=(↑(bat (uo b a c) (toNat (↑e:Int))):Int)/\(↑(bat (uo b a c) (toNat (↑e:Int))):Int)<=18446744073709551615)/\0<=ζ u64 ((8:Int)*ζ u64 (↑e:Int))/\Jb ((↑e:Int)+1)/\∃(g:Nat),SJ b a c ((Wv b a c g)=qae BinOp.or u64 (Wv b a c e) (shP BinOp.shl u64 (↑(bat (uo b a c) (toNat (↑e:Int))):Int) (ζ u64 ((8:Int)*ζ u64 (↑e:Int))))/\(qq a (toNat b) c).1=(qq a (toNat b) c).1/\(↑g:Int)=(↑e:Int)+1/\FH b d a c f (g<=size (uo b a c)/\size (uo b a c)- g<size (uo b a c)- e/\True))
 def pW:=jL (uo b a c)=(Wv b a c e)/\(qq a (toNat b) c).2.1=(qq a (toNat b) c).2.1/\FH b d a c f True
 def pU:=Ji ((↑e:Int)<(Ww b a c)) (pV b d a c f e) (pW b d a c f e)
 def pT:=b=b/\SK d (a=a/\c=c/\f=f/\(qZ ((d.1,d.2.1,d.2.2),a,c,f)/\(-9223372036854775808:Int)<=b/\b<9223372036854775808)/\(∃(g:Nat),SJ c a b ((Wv c a b g)=0/\(qq a (toNat c) b).1=(qq a (toNat c) b).1/\(↑g:Int)=0/\FH c d a b f (g<=size (uo c a b)/\True)))/\∀(i:Nat),i<=size (uo c a b)->pU c d a b f i)
end
def zfa(k:Int) (x:SV) (s:Ck) (i c:Int):qk2 P (qf5 [(89,Ur)]) Tryz.f85 HS (zkz) ⟨k,x,s,i,c⟩=(qZ (x,s,i,c)/\0<=k/\k<=8->pT k x s i c):=by kernel_rfl
def zi9:=λk x s i c=>Ω (zfa k x s i c) (by delta Ji Jb Jt Jf SK uo Ww SJ Wv FH pV pW pU pT;exact rfl)
section
variable (c:SV) (a:Ck) (b d:Int) (e:Prop)
 abbrev Vr:=c.1=c.1/\c.2.1=c.2.1/\c.2.2=c.2.2/\a=a/\e
 abbrev FJ:=(↑(qb a (toNat b)).2.1:Int)
 abbrev Js:=(qJ a (toNat b)).2
 abbrev Jr:=(↑(qb a (toNat b)).2.2:Int)
 def p6:=(qJ a (toNat b)).1=mkS []/\(Js a b).1=(FJ a b)/\Vr c a ((Js a b).2=(Jr a b)/\d=d/\True)
 def p7:=(qJ a (toNat b)).1=mkS []/\(Js a b).1=3/\Vr c a ((Js a b).2=(Jr a b)/\d=d/\True)
 abbrev FI:=qq a (toNat (Jr a b)) (qb a (toNat b)).1
 def pZ:=(qb a (toNat b)).1=(qb a (toNat b)).1/\Vr c a ((Jr a b)=(Jr a b)/\d=d/\(qZ ((c.1,c.2.1,c.2.2),a,(Jr a b),d)/\(-9223372036854775808:Int)<=(qb a (toNat b)).1/\(qb a (toNat b)).1<9223372036854775808)/\(qJ a (toNat b)).1=(FI a b).1/\(Js a b).1=(FI a b).2.1/\Vr c a ((Js a b).2=(FI a b).2.2/\d=d/\True))
 def pY:=Ji (5000<(qb a (toNat b)).1) (p7 c a b d) (pZ c a b d)
 def pX:=Vr c a (b=b/\d=d/\qZ ((c.1,c.2.1,c.2.2),a,b,d)/\((!decide ((FJ a b)=0))=ξ->p6 c a b d)/\((!decide ((FJ a b)=0))=Β->pY c a b d))
end
def zkg(x:SV) (s:Ck) (i c:Int):qk2 P (qf5 [(86,Yo),(89,Ur)]) Tryz.f87 Le (λ_=>{}) ⟨x,s,i,c⟩=(qZ (x,s,i,c)->pX x s i c):=by kernel_rfl
def zqy:=λx s i c=>Ω (zkg x s i c) (by delta Ji Jt Jf Vr FJ Js Jr p6 p7 FI pZ pY pX;exact rfl)
section
variable (c:SV) (a:Ck) (b d:Int) (e:Prop)
 abbrev FK:=c.1=c.1/\c.2.1=c.2.1/\c.2.2=c.2.2/\a=a/\e
 abbrev Ju:=(qJ a (toNat b)).2
 def FL:=(qJ a (toNat b)).1=(qJ a (toNat b)).1
 def re:=FL a b/\vP (qJ a (toNat b))=2/\FK c a ((Ju a b).2=(Ju a b).2/\d=d/\True)
 def SL:=FL a b/\vP (qJ a (toNat b))=(Ju a b).1/\FK c a ((Ju a b).2=(Ju a b).2/\d=d/\True)
 def p_:=FL a b/\size (qJ a (toNat b)).1<9223372036854775808/\((!qP (qJ a (toNat b)).1)=ξ->re c a b d)/\((!qP (qJ a (toNat b)).1)=Β->SL c a b d)
 def p9:=FK c a (b=b/\d=d/\qZ ((c.1,c.2.1,c.2.2),a,b,d)/\Ji ((Ju a b).1=0) (p_ c a b d) (SL c a b d))
end
def zfy(x:SV) (s:Ck) (i c:Int):qk2 P (qf5 [(87,Le),(90,uP)]) Tryz.f88 HX (λ_=>{}) ⟨x,s,i,c⟩=(qZ (x,s,i,c)->p9 x s i c):=by kernel_rfl
def zko:=λx s i c=>Ω (zfy x s i c) (by delta Ji Jt Jf FK Ju FL re SL p_ p9;exact rfl)
section
variable (a:AT) (h:SV) (c:Ck) (d g:Int) (i:ye) (m:Prop) (l:Int)
 abbrev jt:=GV.mk i.1 i.2.1 (noA,(0:Nat),(0:Nat)) [] (noA,(0:Nat),(0:Nat)) [] 0
 def xf:=(π (jt i)).1=noA/\(π (jt i)).2.1=0/\(π (jt i)).2.2=0/\(ς (jt i)).1=noA/\(ς (jt i)).2.1=0/\(ς (jt i)).2.2=0/\Ο (jt i)=0/\m
 def z33:=h.1=h.1/\h.2.1=h.2.1/\h.2.2=h.2.2/\c=c/\m
 def uT:=(qS a c (toNat d)=jq i.1 i.2.1 i.2.2.2 i.2.2.1/\0<=i.2.2.1/\d<=i.2.2.2/\i.2.2.2<=(↑(size c):Int))/\True
 def DR:=∃(e:ye),Ζ (jt e)=0/\Η (jt e)=mkS []/\xf e (e.2.2.1=l/\z33 h c (e.2.2.2=d/\g=g/\uT a c d e))
 abbrev KD:=qZ ((h.1,h.2.1,h.2.2),c,d,g)
 abbrev KE:=qq c (toNat d) 1
 def dy:=(1:Int)=1/\z33 h c (d=d/\g=g/\(KD h c d g/\(0:Int)<=1/\(1:Int)<=8)/\Ji (1<jL (KE c d).1) (∃(e:ye),Ζ (jt e)=jL (KE c d).1/\Η (jt e)=mkS []/\xf e (e.2.2.1=2/\z33 h c (e.2.2.2=(KE c d).2.2/\g=g/\uT a c d e))) (∃(j:ye),Ζ (jt j)=jL (KE c d).1/\Η (jt j)=mkS []/\xf j (j.2.2.1=(KE c d).2.1/\z33 h c (j.2.2.2=(KE c d).2.2/\g=g/\uT a c d j))))
 def DP:=∃(e:Unit),vg (AT.k a)=decide (AT.k a=l)/\AT.k a=AT.k a/\z33 h c (d=d/\g=g/\AT.k a=AT.k a/\AT.nm a=AT.nm a/\(AT.al a).1=(AT.al a).1/\(AT.al a).2.1=(AT.al a).2.1/\(AT.al a).2.2=(AT.al a).2.2/\AT.it a=AT.it a/\(AT.sy a).1=(AT.sy a).1/\(AT.sy a).2.1=(AT.sy a).2.1/\(AT.sy a).2.2=(AT.sy a).2.2/\AT.hd a=AT.hd a/\AT.df a=AT.df a/\AT.sz a=AT.sz a/\(AT.f a).1=(AT.f a).1/\(AT.f a).2.1=(AT.f a).2.1/\(AT.f a).2.2=(AT.f a).2.2/\(AT.br a).1=(AT.br a).1/\(AT.br a).2.1=(AT.br a).2.1/\(AT.br a).2.2=(AT.br a).2.2/\(∀j,True/\Φ a j->True/\Φ a j)/\True/\True)
 def DS:= !decide ((qb c (toNat d)).1=ζ i32 (qb c (toNat d)).1)
 def DT:=Ζ (jt i)=ζ u64 (qb c (toNat d)).1/\Η (jt i)=mkS []/\m
 def DQ:=∃(e:ye),DT c d e (xf e (e.2.2.1=(↑(qb c (toNat d)).2.1:Int)/\z33 h c (e.2.2.2=(↑(qb c (toNat d)).2.2:Int)/\g=g/\uT a c d e)))
 def dx:=Jb (ζ i32 (qb c (toNat d)).1)/\((DS c d)=ξ->∃(e:ye),DT c d e (xf e (e.2.2.1=2/\z33 h c (e.2.2.2=(↑(qb c (toNat d)).2.2:Int)/\g=g/\uT a c d e))))/\((DS c d)=Β->DQ a h c d g)
 def du:=z33 h c (d=d/\g=g/\KD h c d g/\Ji (AT.k a=3) (dx a h c d g) (DQ a h c d g))
 def SM:=l=l/\z33 h c (d=d/\g=g/\(KD h c d g/\0<=l/\l<=8)/\∃(e:ye),Ζ (jt e)=jL (qq c (toNat d) l).1/\Η (jt e)=mkS []/\xf e (e.2.2.1=(qq c (toNat d) l).2.1/\z33 h c (e.2.2.2=(qq c (toNat d) l).2.2/\g=g/\uT a c d e)))
 def dA:=AT.sz a=AT.sz a/\z33 h c (d=d/\g=g/\(KD h c d g/\(-9223372036854775808:Int)<=AT.sz a/\AT.sz a<9223372036854775808)/\∃(e:ye),Ζ (jt e)=0/\Η (jt e)=(qq c (toNat d) (AT.sz a)).1/\xf e (e.2.2.1=(qq c (toNat d) (AT.sz a)).2.1/\z33 h c (e.2.2.2=(qq c (toNat d) (AT.sz a)).2.2/\g=g/\uT a c d e)))
 def dz:=Ji (AT.k a=11) (dA a h c d g) (DR a h c d g 1)
 def dv:=Ji (AT.k a=8) (z33 h c (d=d/\g=g/\KD h c d g/\∃(e:ye),Ζ (jt e)=0/\Η (jt e)=(qJ c (toNat d)).1/\xf e (e.2.2.1=vP (qJ c (toNat d))/\z33 h c (e.2.2.2=(qJ c (toNat d)).2.2/\g=g/\uT a c d e)))) (dz a h c d g)
 def ru:=Ji (AT.k a=7) (z33 h c (d=d/\g=g/\KD h c d g/\∃(e:ye),Ζ (jt e)=0/\Η (jt e)=(qJ c (toNat d)).1/\xf e (e.2.2.1=(qJ c (toNat d)).2.1/\z33 h c (e.2.2.2=(qJ c (toNat d)).2.2/\g=g/\uT a c d e)))) (dv a h c d g)
 def rr:=Ji (AT.k a=10) (∃(e:Int×vd),e.1=(↑(AT.sy a).2.1:Int)/\e.2.1.1=h.1/\e.2.1.2.1=h.2.1/\e.2.1.2.2=h.2.2/\e.2.2.1=c/\e.2.2.2.1=d/\e.2.2.2.2=g/\qZ e.2/\∃(j:ye),Ζ (jt j)=ζ u64 (qb e.2.2.1 (toNat e.2.2.2.1)).1/\Η (jt j)=mkS []/\xf j (j.2.2.1=(↑(je e.2.2.1 (toNat e.2.2.2.1) e.1):Int)/\h.1=e.2.1.1/\h.2.1=e.2.1.2.1/\h.2.2=e.2.1.2.2/\c=e.2.2.1/\j.2.2.2=(↑(qb e.2.2.1 (toNat e.2.2.2.1)).2.2:Int)/\g=e.2.2.2.2/\uT a c d j)) (ru a h c d g)
 def rq:=Ji (AT.k a=6) (SM a h c d g 8) (rr a h c d g)
 def rp:=Ji (AT.k a=5) (SM a h c d g 4) (rq a h c d g)
 def rm:=(vg (AT.k a)=ξ->du a h c d g)/\(vg (AT.k a)=Β->rp a h c d g)
 def rl:=(Ji (AT.k a=3) (DP a h c d g 3) (DP a h c d g 4))/\∀(o:Unit),True->rm a h c d g
 def rh:=Ji (AT.k a=2) (dy a h c d g) (rl a h c d g)
 def rf:=Ji (AT.k a=1) (DR a h c d g 0) (rh a h c d g)
end
def zfm(x:SV) (s:Ck) (i c:Int) (a:AT):qk3 P (qf5 [(85,HS),(86,Yo),(84,HR),(87,Le),(88,HX),(89,Ur)]) (qg7 []) Tryz.f45 HU (zl2) ⟨⟨x,s,i,c⟩,a⟩=(qZ (x,s,i,c)/\LL (AT.k a)/\(1<=AT.k a/\AT.k a<=14)/\length (AT.sys a)<1000000/\(AT.k a=11->0<=AT.sz a/\AT.sz a<1000000)->(∃(p:Pub),True/\Φ a p)->rf a x s i c):=by kernel_rfl
def zjg:=λx s i c a=>Ω (zfm x s i c a) (by delta Ji Jb Jt Jf jt xf z33 uT DR KD KE dy DP DS DT DQ dx du SM dA dz dv ru rr rq rp rm rl rh rf;exact rfl)
section
variable (h:Int) (c:SV) (i:Ck) (m j:Int) (l:List AT) (q:Int) (L:Nat) (N:Int) (O:Ck) (v:Option Addr) (w:Nat) (p:Int) (z:Option Addr) (A B:Nat) (C:Bool) (o:Ck) (J:Int) (D:Option Addr) (E F:Nat) (G:Option Addr) (H I Q:Nat) (e:zm) (a:xj) (R:Prop) (x29:ye) (x30:Int)
 abbrev DV:=c.1=c.1/\c.2.1=c.2.1/\c.2.2=c.2.2/\R
 def Xi:=Ζ e.1=0/\Η e.1=mkS []/\(π e.1).1=noA/\(π e.1).2.1=0/\(π e.1).2.2=0/\(ς e.1).1=noA/\(ς e.1).2.1=0/\(ς e.1).2.2=0/\Ο e.1=0/\e.2.1=m/\DV c (i=i/\e.2.2.1=h/\R)
 def YM:=z31 l (qM l i (toNat ((21:Int)- h)) m (toNat j) (toNat q)) i j q m e/\(∀d,True/\qd l c d->υ e.1 d)/\True
 def FN:=AT.k a.2.2.1=h/\AT.nm a.2.2.1=i/\(AT.al a.2.2.1).1=v/\(AT.al a.2.2.1).2.1=L/\(AT.al a.2.2.1).2.2=w/\AT.it a.2.2.1=m/\(AT.sy a.2.2.1).1=z/\(AT.sy a.2.2.1).2.1=A/\(AT.sy a.2.2.1).2.2=B/\AT.hd a.2.2.1=C/\AT.df a.2.2.1=O/\AT.sz a.2.2.1=j/\(AT.f a.2.2.1).1=D/\(AT.f a.2.2.1).2.1=E/\(AT.f a.2.2.1).2.2=F/\(AT.br a.2.2.1).1=G/\(AT.br a.2.2.1).2.1=H/\(AT.br a.2.2.1).2.2=I/\a.2.2.2=q/\a.2.1.1.1=c.1/\a.2.1.1.2.1=c.2.1/\a.2.1.1.2.2=c.2.2/\a.2.1.2.1=o/\a.2.1.2.2.1=N/\a.2.1.2.2.2=p+1/\R
 def M1:=v_ a<L+1/\zp a.1/\a.2.2.1∈a.1/\R
 def MZ:=qZ (a.2.1.1,a.2.1.2.1,a.2.1.2.2.1,a.2.1.2.2.2)/\(0<=a.2.1.2.2.2/\a.2.1.2.2.2<=2000)/\1<=a.2.2.2/\a.2.2.2<=20
 def M0:=(∀d,True/\qd l c d->qd a.1 a.2.1.1 d/\Φ a.2.2.1 d)
 abbrev M4:=qu a.1 a.2.1.2.1 a.2.2.2
 abbrev M3:=Jn a.2.1.2.1 a.2.1.2.2.1 a.2.1.2.2.2 e
 def FM:=(∃d,(True/\qd l c d)/\υ e.1 d)->∃(t:zm),Ζ t.1=Ζ e.1/\Η t.1=Η e.1/\(π t.1).1=(π e.1).1/\(π t.1).2.1=(π e.1).2.1/\(π t.1).2.2=(π e.1).2.2/\(ς t.1).1=(ς e.1).1/\(ς t.1).2.1=(ς e.1).2.1/\(ς t.1).2.2=(ς e.1).2.2/\Ο t.1=Ο e.1/\t.2.1=e.2.1/\c.1=a.2.1.1.1/\c.2.1=a.2.1.1.2.1/\c.2.2=a.2.1.1.2.2/\i=a.2.1.2.1/\t.2.2.1=e.2.2.1/\t.2.2.2=e.2.2.2/\z31 l (qM l i (toNat ((21:Int)- h)) m (toNat j) (toNat q)) i j q m t/\(∀u,(True/\qd l c u)/\υ e.1 u->υ t.1 u)/\True
 def DU:=∃(d:Unit),h=h/\m=m/\j=j/\vh j=decide (j=x30)/\DV c (i=i/\q=q/\N+1=N+1/\j=j/\O=O/\v=v/\L=L/\w=w/\p=p/\z=z/\A=A/\B=B/\C=C/\o=o/\J=J/\D=D/\E=E/\F=F/\G=G/\H=H/\I=I/\(∀t,True/\qd l c t->True/\qd l c t)/\True/\True)
 abbrev x0:=GV.mk x29.1 x29.2.1 (noA,(0:Nat),(0:Nat)) [] (noA,(0:Nat),(0:Nat)) [] 0
 def rF:=Ji (h=14) (∃(d:xj),FN h c i m j q L N O v w p z A B C o D E F G H I d ((M1 Q d (Vj d.2.2.1/\MZ d))/\M0 c l d/\∀(u:zm),jJ (y7 (M4 d) d.2.1.2.1 d.2.2.1 (toNat d.2.1.2.2.1) (toNat d.2.1.2.2.2)) (qqf u.1) u.2.2.1 u.2.2.2 u.2.1/\M3 u d->FM q c o J N l p u d)) (∃(g:vd×AT),AT.k g.2=h/\AT.nm g.2=i/\(AT.al g.2).1=v/\(AT.al g.2).2.1=L/\(AT.al g.2).2.2=w/\AT.it g.2=m/\(AT.sy g.2).1=z/\(AT.sy g.2).2.1=A/\(AT.sy g.2).2.2=B/\AT.hd g.2=C/\AT.df g.2=O/\AT.sz g.2=j/\(AT.f g.2).1=D/\(AT.f g.2).2.1=E/\(AT.f g.2).2.2=F/\(AT.br g.2).1=G/\(AT.br g.2).2.1=H/\(AT.br g.2).2.2=I/\g.1.1.1=c.1/\g.1.1.2.1=c.2.1/\g.1.1.2.2=c.2.2/\g.1.2.1=o/\g.1.2.2.1=N/\g.1.2.2.2=p+1/\(qZ g.1/\LL (AT.k g.2)/\(1<=AT.k g.2/\AT.k g.2<=14)/\length (AT.sys g.2)<1000000/\(AT.k g.2=11->0<=AT.sz g.2/\AT.sz g.2<1000000))/\(∀Z,True/\qd l c Z->Φ g.2 Z)/\∀(i8:ye),qS g.2 g.1.2.1 (toNat g.1.2.2.1)=jq i8.1 i8.2.1 i8.2.2.2 i8.2.2.1/\0<=i8.2.2.1/\g.1.2.2.1<=i8.2.2.2/\i8.2.2.2<=(↑(size g.1.2.1):Int)->∃(K:zm),Ζ K.1=Ζ (x0 i8)/\Η K.1=Η (x0 i8)/\(π K.1).1=(π (x0 i8)).1/\(π K.1).2.1=(π (x0 i8)).2.1/\(π K.1).2.2=(π (x0 i8)).2.2/\(ς K.1).1=(ς (x0 i8)).1/\(ς K.1).2.1=(ς (x0 i8)).2.1/\(ς K.1).2.2=(ς (x0 i8)).2.2/\Ο K.1=Ο (x0 i8)/\K.2.1=i8.2.2.1/\c.1=g.1.1.1/\c.2.1=g.1.1.2.1/\c.2.2=g.1.1.2.2/\o=g.1.2.1/\K.2.2.1=i8.2.2.2/\K.2.2.2=g.1.2.2.2/\YM q c o J N l p K)
 def rE:=(vh h=ξ->∃(d:xj),FN h c i m j q L N O v w p z A B C o D E F G H I d ((M1 Q d (ux d.2.2.1/\MZ d))/\M0 c l d/\∀(u:zm),jJ (ko (M4 d) d.2.1.2.1 d.2.2.1 (toNat d.2.1.2.2.1) (toNat d.2.1.2.2.2)) (qqf u.1) u.2.2.1 u.2.2.2 u.2.1/\M3 u d->FM q c o J N l p u d))/\(vh h=Β->rF h c i m j l q L N O v w p z A B C o J D E F G H I Q)
 def rD:=(Ji (h=12) (DU m c i j h l q L N O v w p z A B C o J D E F G H I 12) (DU m c i j h l q L N O v w p z A B C o J D E F G H I 13))/\∀(i4:Unit),True->rE h c O p J l j L q o v w N z A B C i m D E F G H I Q
 def rC:=(0<=h/\h<(↑c.2.1:Int))/\c.1≠noA/\∃(d:Int),∃t,∃u,∃(i3:Nat),∃(i4:Nat),∃(i5:Int),∃g,∃(Z:Nat),∃(i8:Nat),∃(K:Bool),∃S,∃(T:Int),∃U,∃(V:Nat),∃(W:Nat),∃X,∃(i16:Nat),∃(Y:Nat),(∀i18,True/\qd l c i18->q37 i18 (adr c.1 (toNat h*10)) [int i64 d,string t,slice u i3 i4,int i64 i5,slice g Z i8,bool K,string S,int i64 T,slice U V W,slice X i16 Y])/\Ji (d=9) (∃(r:xj),FN d c t i5 T m i3 j S u i4 q g Z i8 K i U V W X i16 Y r ((M1 L r (Vt r.2.2.1/\MZ r))/\M0 c l r/\∀(M:zm),jJ (xK (M4 r) r.2.1.2.1 r.2.2.1 (toNat r.2.1.2.2.1) (toNat r.2.1.2.2.2)) (qqf M.1) M.2.2.1 M.2.2.2 M.2.1/\M3 M r->FM m c i h j l q M r)) (rD d c i h m l j i3 q t u i4 i5 g Z i8 K S T U V W X i16 Y L)
 def rB:=Ji (2000<h+1) (∃(d:zm),Xi m c i 3 d (d.2.2.2=h+1/\YM j c i q m l h d)) (rC q c i j m l h L)
 def rz:=Jb (h+1)/\Ji (20<m) (∃(d:zm),Xi j c i 3 d (d.2.2.2=h+1/\YM m c i q j l h d)) (rB h c i j m l q L)
 def ry:=Ji ((↑c.2.1:Int)<=h) (∃(d:zm),Xi m c i 1 d (d.2.2.2=j/\YM q c i h m l j d)) (rz j c i q m l h L)
 def rv:=Ji (h<0) (∃(d:zm),Xi m c i 1 d (d.2.2.2=j/\YM q c i h m l j d)) (ry h c i m j l q L)
end
def zr9(n:Nat) (S:List AT) (x:SV) (s:Ck) (i c t h:Int):qk3 P (qf5 []) (qg7 [(42,(uk Vt xK).below v_ (n+1)),(43,(uk ux ko).below v_ (n+1)),(44,(uk Vj y7).below v_ (n+1)),(45,HU)]) Tryz.f27 (uQ.below wv (n+1)) (C8) ⟨S,⟨x,s,i,c⟩,t,h⟩=(wv (S,(x,s,i,c),t,h)<n+1/\zp S/\qZ (x,s,i,c)/\(0<=c/\c<=2000)/\1<=h/\h<=21->(∃(p:Pub),True/\qd S x p)->rv t x s i c S h n):=by kernel_rfl
def j0f:=λn S x s i c t h=>Ω (zr9 n S x s i c t h) (by delta Ji Jb Jt Jf DV Xi YM FN M1 MZ M0 M4 M3 FM DU x0 rF rE rD rC rB rz ry rv;exact rfl)
section
variable (a:AT) (j:Int) (d:SV) (i:Ck) (o p:Int) (h:List AT) (G:Nat) (e:Nat×Int×Int×List GV) (g:zm) (m:ur) (q:Prop) (t:Nat->Option Obj) (M:Option Addr)
 abbrev Jv:=(↑(AT.f a).2.1:Int)
 def FO:=(AT.f a).1=(AT.f a).1/\(AT.f a).2.1=(AT.f a).2.1/\(AT.f a).2.2=(AT.f a).2.2/\q
 def DY:=d.1=d.1/\d.2.1=d.2.1/\d.2.2=d.2.2/\q
 def SN:=AT.k a=AT.k a/\AT.nm a=AT.nm a/\(AT.al a).1=(AT.al a).1/\(AT.al a).2.1=(AT.al a).2.1/\(AT.al a).2.2=(AT.al a).2.2/\AT.it a=AT.it a/\(AT.sy a).1=(AT.sy a).1/\(AT.sy a).2.1=(AT.sy a).2.1/\(AT.sy a).2.2=(AT.sy a).2.2/\AT.hd a=AT.hd a/\AT.df a=AT.df a/\AT.sz a=AT.sz a/\FO a ((AT.br a).1=(AT.br a).1/\(AT.br a).2.1=(AT.br a).2.1/\(AT.br a).2.2=(AT.br a).2.2/\q)
 def Qb:=(True/\qd h d t/\Φ a t)/\ν e.2.2.2 t
 def SO:=(ς g.1).1=noA/\(ς g.1).2.1=0/\(ς g.1).2.2=0/\Ο g.1=0/\q
 def DW:=d.1=m.2.1.1.1/\d.2.1=m.2.1.1.2.1/\d.2.2=m.2.1.1.2.2/\i=m.2.1.2.1/\q
 def DX:=(jJ (xK (qu h i j) i a (toNat o) (toNat p)) (qqf g.1) g.2.2.1 g.2.2.2 g.2.1/\Jn i o p g)
 def rK:=length (qa θ e.2.2.2)=length e.2.2.2*5/\(length e.2.2.2+nat_lit 1)*80<=140737488355328/\Jb ((↑e.1:Int)+1)/\∃(c:Nat×Int×Int×List GV),(Jv a)=(Jv a)/\j=j/\(↑c.1:Int)=(↑e.1:Int)+1/\FO a (DW d i m (c.2.1=g.2.2.1/\c.2.2.1=g.2.2.2/\SN a (length c.2.2.2=length e.2.2.2+nat_lit 1/\qa θ c.2.2.2=qa θ e.2.2.2++[int u64 (Ζ g.1),string (Η g.1),slice (π g.1).1 (π g.1).2.1 (π g.1).2.2,slice (ς g.1).1 (ς g.1).2.1 (ς g.1).2.2,int i64 (Ο g.1)]/\(∀l,(Qb a d h e l)/\υ g.1 l->True/\qd h d l/\Φ a l)/\(∀r,(Qb a d h e r)/\υ g.1 r->ν c.2.2.2 r)/\Ho h a i j o p c.1 c.2.1 c.2.2.1 c.2.2.2/\length (AT.fs a)- c.1<length (AT.fs a)- e.1/\True)))
 def rJ:=((!decide (g.2.1=0))=ξ->∃(c:zm),Ζ c.1=0/\Η c.1=mkS []/\(π c.1).1=noA/\(π c.1).2.1=0/\(π c.1).2.2=0/\SO c (c.2.1=g.2.1/\DW d i m (c.2.2.1=g.2.2.1/\c.2.2.2=g.2.2.2/\DX a j i o p h c/\(∀l,(Qb a d h e l)/\υ g.1 l->υ c.1 l)/\True)))/\((!decide (g.2.1=0))=Β->rK a j d i o p h e g m)
 def rI:=(0<=(↑e.1:Int)/\(↑e.1:Int)<(Jv a))/\(AT.f a).1≠noA/\∃c,∃l,∃(r:Nat),∃(u:Nat),∃(F:Int),∃(S:Bool),∃(T:Int),∃(U:Int),∃i8,∃V,∃(H:Nat),∃(I:Nat),∃J,∃(K:Nat),∃(L:Nat),(∀B,Qb a d h e B->q37 B (adr (AT.f a).1 (toNat (↑e.1:Int)*9)) [string c,slice l r u,int i64 F,bool S,int i64 T,int i64 U,string i8,slice V H I,slice J K L])/\Jb (j+1)/\∃(i16:ur),i16.2.2.1=F/\i16.2.2.2=j+1/\i16.2.1.1.1=d.1/\i16.2.1.1.2.1=d.2.1/\i16.2.1.1.2.2=d.2.2/\i16.2.1.2.1=i/\i16.2.1.2.2.1=e.2.1/\i16.2.1.2.2.2=e.2.2.1/\(wv i16<G/\zp i16.1/\qZ (i16.2.1.1,i16.2.1.2.1,i16.2.1.2.2.1,i16.2.1.2.2.2)/\(0<=i16.2.1.2.2.2/\i16.2.1.2.2.2<=2000)/\1<=i16.2.2.2/\i16.2.2.2<=21)/\(∀C,Qb a d h e C->qd i16.1 i16.2.1.1 C)/\∀(v:zm),z31 i16.1 (qM i16.1 i16.2.1.2.1 (toNat ((21:Int)- i16.2.2.2)) i16.2.2.1 (toNat i16.2.1.2.2.1) (toNat i16.2.1.2.2.2)) i16.2.1.2.1 i16.2.1.2.2.1 i16.2.1.2.2.2 i16.2.2.1 v->(∃D,(Qb a d h e D)/\υ v.1 D)->rJ a j d i o p h e v i16
 def DZ:=length e.2.2.2<=G/\qgm t M (take (length e.2.2.2*nat_lit 5) (qa θ e.2.2.2))
 def rH:=Ji ((↑e.1:Int)<(Jv a)) (rI a j d i o p h G e) (∀(N O Q:Nat) (w:Option Addr) (R z:Nat),(∃E,(Qb a d h e E)/\DZ z e E w)->∃(i32:zm),Ζ i32.1=0/\Η i32.1=mkS []/\(π i32.1).1=w/\(π i32.1).2.1=length e.2.2.2/\(π i32.1).2.2=z/\SO i32 (i32.2.1=0/\DY d (i=i/\i32.2.2.1=e.2.1/\i32.2.2.2=e.2.2.1/\DX a j i o p h i32/\(∀A,(Qb a d h e A)/\DZ z e A w->υ i32.1 A)/\True)))
 def rG:=(∃(c:Nat×Int×Int×List GV),(Jv a)=(Jv a)/\j=j/\(↑c.1:Int)=0/\FO a (DY d (i=i/\c.2.1=o/\c.2.2.1=p/\SN a (length c.2.2.2=0/\(∀l,True/\qd h d l/\Φ a l->True/\qd h d l/\Φ a l)/\(∀r,True/\qd h d r/\Φ a r->ν c.2.2.2 r)/\Ho h a i j o p c.1 c.2.1 c.2.2.1 c.2.2.2/\True))))/\∀(u:Nat×Int×Int×List GV),Ho h a i j o p u.1 u.2.1 u.2.2.1 u.2.2.2->(∃F,Qb a d h u F)->rH a j d i o p h G u
end
def zju(n:Nat) (S:List AT) (x:SV) (s:Ck) (i c:Int) (a:AT) (h:Int):qk3 P (qf5 []) (qg7 [(27,uQ.below wv n)]) Tryz.f42 ((uk Vt xK).below v_ (n+1)) (C4) ⟨S,⟨x,s,i,c⟩,a,h⟩=(v_ (S,(x,s,i,c),a,h)<n+1/\zp S/\a∈S/\Vt a/\qZ (x,s,i,c)/\(0<=c/\c<=2000)/\1<=h/\h<=20->(∃(p:Pub),True/\qd S x p/\Φ a p)->rG a h x s i c S n):=by kernel_rfl
def zqg:=λn S x s i c a h=>Ω (zju n S x s i c a h) (by delta Ji Jb Jt Jf Jv FO DY SN Qb SO DW DX rK rJ rI DZ rH rG;exact rfl)
section
variable (d:Int×vd) (e:AT) (h:List AT) (g:SV) (q:Int) (B:Nat) (l:Ck) (r t:Int) (c:zm) (f:ur) (j:Nat->Option Obj) (z:Nat) (v:zm) (p:Prop)
 abbrev FP:=(↑(je d.2.2.1 (toNat d.2.2.2.1) d.1):Int)
 def SU:=(ς c.1).1=noA/\(ς c.1).2.1=0/\(ς c.1).2.2=0/\p
 def SR:=Ζ c.1=0/\Η c.1=mkS []/\(π c.1).1=noA/\(π c.1).2.1=0/\(π c.1).2.2=0/\SU c (Ο c.1=0/\p)
 abbrev Jw:=qb d.2.2.1 (toNat d.2.2.2.1)
 def SS:=(jJ (y7 (qu h l q) l e (toNat r) (toNat t)) (qqf c.1) c.2.2.1 c.2.2.2 c.2.1/\Jn l r t c)
 def SQ:=g.1=f.2.1.1.1/\g.2.1=f.2.1.1.2.1/\g.2.2=f.2.1.1.2.2/\l=f.2.1.2.1/\c.2.2.1=v.2.2.1/\c.2.2.2=v.2.2.2/\SS e h q l r t c/\p
 def SP:=((True/\qd h g j/\Φ e j)/\υ c.1 j)/\q37 j (qzp B z Ξ) [int u64 (Ζ c.1),string (Η c.1),slice (π c.1).1 (π c.1).2.1 (π c.1).2.2,slice (ς c.1).1 (ς c.1).2.1 (ς c.1).2.2,int i64 (Ο c.1)]
 def rN:=((!decide (c.2.1=0))=ξ->∃(m:zm),SR m (m.2.1=c.2.1/\SQ e h g q l r t m f c ((∀k,(True/\qd h g k/\Φ e k)/\υ c.1 k->υ m.1 k)/\True)))/\((!decide (c.2.1=0))=Β->∀(a o w:Nat),(∃u,SP e h g a c u o)->∃(i:zm),Ζ i.1=0/\Η i.1=mkS []/\(π i.1).1=Ε (qzp a (o+nat_lit 0) Ξ)/\(π i.1).2.1=nat_lit 1/\(π i.1).2.2=nat_lit 1/\SU i (Ο i.1=(Jw d).1/\i.2.1=0/\SQ e h g q l r t i f c ((∀A,SP e h g a c A o->υ i.1 A)/\True)))
 def rL:=(0<=(Jw d).1/\(Jw d).1<(↑(AT.br e).2.1:Int))/\(AT.br e).1≠noA/\∃(m:Int),(∀k,True/\qd h g k/\Φ e k->q37 k (adr (AT.br e).1 (toNat (Jw d).1*1)) [int i64 m])/\Jb (q+1)/\∃(a:ur),a.2.2.1=m/\a.2.2.2=q+1/\a.2.1.1.1=d.2.1.1/\a.2.1.1.2.1=d.2.1.2.1/\a.2.1.1.2.2=d.2.1.2.2/\a.2.1.2.1=d.2.2.1/\a.2.1.2.2.1=(↑(Jw d).2.2:Int)/\a.2.1.2.2.2=d.2.2.2.2/\(wv a<B/\zp a.1/\qZ (a.2.1.1,a.2.1.2.1,a.2.1.2.2.1,a.2.1.2.2.2)/\(0<=a.2.1.2.2.2/\a.2.1.2.2.2<=2000)/\1<=a.2.2.2/\a.2.2.2<=21)/\(∀o,True/\qd h g o/\Φ e o->qd a.1 a.2.1.1 o)/\∀(w:zm),z31 a.1 (qM a.1 a.2.1.2.1 (toNat ((21:Int)- a.2.2.2)) a.2.2.1 (toNat a.2.1.2.2.1) (toNat a.2.1.2.2.2)) a.2.1.2.1 a.2.1.2.2.1 a.2.1.2.2.2 a.2.2.1 w->(∃u,(True/\qd h g u/\Φ e u)/\υ w.1 u)->rN d e h g q l r t w a
end
def zr5(n:Nat) (S:List AT) (x:SV) (s:Ck) (i c:Int) (a:AT) (h:Int):qk3 P (qf5 [(84,HR)]) (qg7 [(27,uQ.below wv n)]) Tryz.f44 ((uk Vj y7).below v_ (n+1)) (C7) ⟨S,⟨x,s,i,c⟩,a,h⟩=(v_ (S,(x,s,i,c),a,h)<n+1/\zp S/\a∈S/\Vj a/\qZ (x,s,i,c)/\(0<=c/\c<=2000)/\1<=h/\h<=20->(∃(p:Pub),True/\qd S x p/\Φ a p)->∃(s_1:Int×vd),s_1.1=(↑(AT.br a).2.1:Int)/\s_1.2.1.1=x.1/\s_1.2.1.2.1=x.2.1/\s_1.2.1.2.2=x.2.2/\s_1.2.2.1=s/\s_1.2.2.2.1=i/\s_1.2.2.2.2=c/\qZ s_1.2/\((!decide ((FP s_1)=0))=ξ->∃(b:zm),SR b (b.2.1=(FP s_1)/\x.1=s_1.2.1.1/\x.2.1=s_1.2.1.2.1/\x.2.2=s_1.2.1.2.2/\s=s_1.2.2.1/\b.2.2.1=(↑(Jw s_1).2.2:Int)/\b.2.2.2=s_1.2.2.2.2/\SS a S h s i c b/\(∀(p:Pub),True/\qd S x p/\Φ a p->υ b.1 p)/\True))/\((!decide ((FP s_1)=0))=Β->rL s_1 a S x h n s i c)):=by kernel_rfl
def j0d:=λn S x s i c a h=>Ω (zr5 n S x s i c a h) (by delta Jb FP SU SR Jw SS SQ SP rN rL;exact rfl)
open Go.Proofs.YtniogjgfomaicaaGreat.Rv
def O7:q4p P 89 Ur:=by
 refine qA js (W:=λ_=>{}) Tryz.func89 λ⟨(k:Int),(x:SV),s,(i:Int),(c:Int)⟩=>(zhf k x s i c).mpr ?_;rintro⟨⟨u,A,B⟩,C,G⟩;simp only[decide_eq_true_eq,decide_eq_false_iff_not,true_and,and_true,eq_self];have bad:(k<0\/(s.size:Int)- i<k)->qq s i.toNat k=(mkS [],2,i):=λh=>by unfold qq;rw[if_pos (by omega),qqj u]
 refine⟨λh=>⟨λ_=>by rw[bad (.inl h)];exact⟨rfl,rfl,rfl⟩,λg=>absurd h g⟩,λh=>⟨⟨by omega,by omega⟩,λg=>absurd g h,λ_=>⟨λg=>by rw[bad (.inr g)];exact⟨rfl,rfl,rfl⟩,λg=>⟨⟨by omega,by omega⟩,⟨u,by omega,by omega⟩,?_⟩⟩⟩⟩;unfold qq;rw[if_neg (by omega),qqj u,show(i+k).toNat=i.toNat+k.toNat by omega];exact⟨rfl,rfl,rfl⟩
def zj2:∀(l:List UInt8) (j:Nat) (h:j<l.length),kc (l.take (j+1))=kc (l.take j)+256 ^ j*l[j].toNat
  |c::l,0,_=>by simp[kc]
  | c::l,j+1,h=>by have u:j<l.length:=(by simpa using h);have:=zj2 l j u;rw[qqu,qqu,kc,kc,this,List.getElem_cons_succ,Nat.pow_succ,Nat.mul_add];rw[show 256 ^ j*256*l[j].toNat=256*(256 ^ j*l[j].toNat)by rw[qza (256 ^ j) 256,Nat.mul_assoc]];omega
def zzb(v b j:Nat) (A:v<256 ^ j) (G:j<8) (C:b<256):qae .or .u64 (v:Int) (shP .shl .u64 (b:Int) (ζ .u64 (8*ζ .u64 (j:Int))))=((v+256 ^ j*b:Nat):Int):=by
 have hw:ζ .u64 (8*ζ .u64 (j:Int))=((8*j:Nat):Int):=by rw[wrap_u64,wrap_u64];omega
 have hp:(2:Nat) ^ (8*j)=256 ^ j:=by rw[Nat.pow_mul]
 have B:256 ^ j<=256 ^ 7:=qzh (by decide) (by omega);have h:(256:Nat) ^ 7=72057594037927936:=by decide
 have u:256 ^ j*b<=256 ^ j*255:=Nat.mul_le_mul_left _ (by omega);have hs:shP .shl .u64 (b:Int) (ζ .u64 (8*ζ .u64 (j:Int)))=((256 ^ j*b:Nat):Int):=by
  rw[hw];show ζ .u64 ((b:Int)*2 ^ min ((8*j:Nat):Int).toNat 64)=_;rw[wrap_u64,γ,qzz (by omega)];have:((b:Int)*2 ^ (8*j))=((256 ^ j*b:Nat):Int):=by rw[←hp,qza];norm_cast;exact qza _ _
  rw[this];omega
 rw[hs];show ζ .u64 (qz0 64 (v:Int)|||qz0 64 ((256 ^ j*b:Nat):Int)).toNat=_;rw[BitVec.toNat_or,ZA _ (by omega),ZA _ (by omega)];have:=Nat.two_pow_add_eq_or_of_lt (b:=v) (i:=8*j) (by rw[hp];exact A) b;rw[hp]at this;rw[Nat.or_comm,←this,wrap_u64];omega
def zia:q4p P 85 HS:=by
 refine qA (qcl (qgj O7 qjq)) (W:=zkz) Tryz.func85 λ⟨(k:Int),(x:SV),s,(i:Int),(c:Int)⟩=>(zi9 k x s i c).mpr ?_;rintro⟨A,V,X⟩;have G:=ZB (D:=s) (i:=i.toNat) (k:=k) (by have:=A.1;have:=A.2.1;omega);have U:(qq s i.toNat k).1.size<=8:=by
  by_cases h:(qq s i.toNat k).2.1=0
  ·have:=G.2.2 h;omega
  ·unfold qq at h⊢;split
   ·show 0<=8;decide
   ·rename_i J;rw[if_neg J]at h;exact absurd rfl h
 generalize qq s i.toNat k=T at*;obtain⟨r,e1,m⟩:=T;simp only[decide_eq_true_eq,decide_eq_false_iff_not,true_and,and_true,eq_self]at U⊢;have hlen:r.data.toList.length=r.size:=rfl;refine⟨⟨A,by omega,by omega⟩,⟨0,rfl,rfl,Α _⟩,λj Y=>⟨λO=> ?_,λH=> ?_⟩⟩
 ·have u:j<r.size:=by omega
  have C:=uN r j;have B:=Lr (r.data.toList.take j);rw[Ρ,hlen,qzz (by omega)]at B;refine⟨⟨by omega,by omega⟩,⟨by omega,by rw[γ];omega⟩,by rw[wrap_u64,wrap_u64];omega,⟨by omega,by omega⟩,j+1,?_,by omega,by omega,by omega⟩;rw[γ,zzb _ _ _ B (by omega) C,zj2 _ _ (by rw[hlen];exact u),zv8 u];rfl
 ·have:j=r.size:=by omega
  subst this;unfold jL;rw[←hlen,List.take_length]
def ze7:q4p P 87 Le:=by
 refine qA (qcl (qgj H2 (qgj O7 qjq))) (W:=λ_=>{}) Tryz.func87 λ⟨(x:SV),s,(i:Int),(c:Int)⟩=>(zqy x s i c).mpr ?_;intro h;have A:=yu s i.toNat (by have:=h.1;have:=h.2.1;omega);simp only[decide_eq_true_eq,decide_eq_false_iff_not,qzq,qzi,true_and,and_true,eq_self];unfold qJ;refine⟨h,λhe=> ?_,λhe=>⟨λu=> ?_,λu=>⟨⟨⟨by show(0:Int)<=(_:Nat);omega,by show((_:Nat):Int)<=_;omega,h.2.2⟩,by omega,by omega⟩,?_⟩⟩⟩
 ·rw[if_pos (by omega)];exact⟨rfl,rfl,rfl⟩
 ·rw[if_neg (by omega),if_pos u];exact⟨rfl,rfl,rfl⟩
 ·rw[if_neg (by omega),if_neg u,γ];exact⟨rfl,rfl,rfl⟩
def z9w:q4p P 88 HX:=by
 refine qA (qcl (qgj ze7 (qgj zrb qjq))) (W:=λ_=>{}) Tryz.func88 λ⟨(x:SV),s,(i:Int),(c:Int)⟩=>(zko x s i c).mpr ?_;intro h;have A:=Yd (D:=s) (i:=i.toNat) (by have:=h.1;have:=h.2.1;omega);simp only[decide_eq_true_eq,decide_eq_false_iff_not,qzq,qzi,true_and,and_true,eq_self];unfold vP;refine⟨h,λhe=>⟨by omega,λu=> ?_,λu=> ?_⟩,λhe=> ?_⟩
 ·rw[if_pos ⟨he,u⟩]
 ·rw[if_neg (by rw[u];simp)]
 ·rw[if_neg (λq=>he q.1)]
section
def j7{α β:Type} {r:Rs α} {f:α->Rs β} {b:β} (h:r.bind f= .ok b):∃a,r= .ok a/\f a= .ok b:=by
 cases r with
 |no k=>cases h
 |ok a=>exact⟨a,rfl,h⟩
variable {s:Ck}
def uM{n:Int} (u:0<=n/\n<18446744073709551616) (hs:s.size<9223372036854775808):(PV.mk n s [] [] 0).sm:=by unfold PV.sm PV.sms;exact⟨u,hs,by decide,by decide,λk h=>by simp at h,trivial⟩
variable {D:Ck} {i:Nat}
def Uq{k:Int}:(qq D i k).1.size<=D.size/\((qq D i k).1.size<=k.toNat):=by
 unfold qq;split
 ·exact⟨Α _,Α _⟩
 ·show(D.extract i (i+k.toNat)).size<=_/\(D.extract i (i+k.toNat)).size<=_;rw[ByteArray.size_extract];omega
def PJ:(qJ D i).1.size<=D.size:=by
 unfold qJ;split
 ·exact Α _
 split
 ·exact Α _
 ·exact Uq.1
def J_{t:Ck×Int×Int} {e:Int} {r:Ck×Nat} (h:vu t e= .ok r):r.1=t.1/\e=0/\r.2=t.2.2.toNat:=by
 unfold vu at h;split at h
 ·cases h;exact⟨rfl,by assumption,rfl⟩
 ·cases h
def Nr(h:s.size<=8):0<=jL s/\jL s<18446744073709551616:=by
 unfold jL;have A:=Lr s.data.toList;have u:s.data.toList.length<=8:=h;have B:256 ^ s.data.toList.length<=256 ^ 8:=qzh (by decide) u;have C:256 ^ 8=18446744073709551616:=by decide
 omega
def jji{a:AT} {r:PV×Nat} (J:a.sys.length<1000000) (H:D.size<100000000000000000) (h:qS a D i= .ok r):r.1.sm:=by
 have B:(mkS []).size<9223372036854775808:=by decide
 unfold qS at h;split at h
 ·cases h;exact uM (by decide) B
 split at h
 ·obtain⟨t,A,u⟩:=j7 h;obtain⟨e1,_,_⟩:=J_ A;split at u
  ·cases u
  ·cases u;rw[e1];exact uM (Nr (qzb Uq.2 (by decide))) B
 split at h
 ·obtain⟨t,A,u⟩:=j7 h;split at u
  ·cases u
  ·cases u;exact uM (by omega) B
 split at h
 ·obtain⟨t,A,u⟩:=j7 h;cases u;exact uM (by omega) B
 split at h
 ·obtain⟨t,A,u⟩:=j7 h;obtain⟨e1,_,_⟩:=J_ A;cases u;rw[e1];exact uM (Nr (qzb Uq.2 (by decide))) B
 split at h
 ·obtain⟨t,A,u⟩:=j7 h;obtain⟨e1,_,_⟩:=J_ A;cases u;rw[e1];exact uM (Nr (qzb Uq.2 (by decide))) B
 split at h
 ·obtain⟨t,A,u⟩:=j7 h;obtain⟨e1,_,_⟩:=J_ A;cases u;have:=PJ (D:=D) (i:=i);exact uM (by decide) (by rw[e1];omega)
 split at h
 ·obtain⟨t,A,u⟩:=j7 h;obtain⟨e1,_,_⟩:=J_ A;cases u;have:=PJ (D:=D) (i:=i);exact uM (by decide) (by rw[e1];omega)
 split at h
 ·obtain⟨t,A,u⟩:=j7 h;unfold xq at A;split at A
  ·rename_i C;cases A;cases u;unfold je at C;split at C
   ·cases C
   ·rename_i G;exact uM (by show 0<=(qb D i).1/\(qb D i).1<_;omega) B
  ·cases A
 split at h
 ·obtain⟨t,A,u⟩:=j7 h;obtain⟨e1,_,_⟩:=J_ A;cases u;have:=Uq (D:=D) (i:=i) (k:=a.sz);exact uM (by decide) (by rw[e1];omega)
 ·cases h
def Vw(r:PV×Nat×Nat) (c:Nat):Prop:=r.1.sm/\c<r.2.2/\r.2.2<=2000
def zw5{g:Int->Nat->Nat->zG} (C:∀t n c r,g t n c= .ok r->Vw r c):∀(ts:List Int) (l:List PV) (n c:Nat) (r:List PV×Nat×Nat),kY g ts l n c= .ok r->c<=2000->l.length<=c->(∀v∈l,v.sm)->r.1.length<=r.2.2/\(∀v∈r.1,v.sm)/\c<=r.2.2/\r.2.2<=2000
  | [],l,n,c,r,h,B,G,u=>by cases h;exact⟨G,u,Κ _,B⟩
  | t ::ts,l,n,c,r,h,B,G,u=>by
    obtain⟨q,H,J⟩:=j7 h;obtain⟨g1,g2,g3⟩:=C _ _ _ _ H;obtain⟨i1,i2,i3,i4⟩:=zw5 C ts _ _ _ _ J g3 (by simp;omega) λv A=>by
      rcases List.mem_append.1 A with w|w
      · exact u v w
      · simp at w;subst w;exact g1
    exact⟨i1,i2,by omega,i4⟩
def Vx(st:zH) (c:Nat):Prop:=st.1.length<=c/\st.2.length<=c/\(∀v∈st.2,v.sm)/\∀k∈st.1,k.size<9223372036854775808
def zzh(k:Ck) (ks:List Ck):(qO k ks).length<=ks.length+1:=by
 unfold qO;split
 ·omega
 ·simp;omega
def zzi(k:Ck) (ks:List Ck) (l:List PV) (w:PV):(zC k ks l w).length<=l.length+1:=by
 unfold zC;split
 ·simp
 ·simp;omega
def jjb{g:Nat->Nat->zG} {mp:Bool} (O:D.size<100000000000000000) (B:∀n c r,g n c= .ok r->Vw r c) {st:zH} {n c:Nat} {r:zH×Nat×Nat} (h:yi g D mp st n c= .ok r) (J:Vx st c):Vx r.1 r.2.2/\c<r.2.2/\r.2.2<=2000:=by
 obtain⟨T,U,C,G⟩:=J;unfold yi at h;split at h
 ·obtain⟨k,H,h⟩:=j7 h;obtain⟨q,u,h⟩:=j7 h;cases h;obtain⟨g1,g2,g3⟩:=B _ _ _ u;obtain⟨e1,_,_⟩:=J_ H;have s1:=zzh k.1 st.1;have s2:=zzi k.1 st.1 st.2 q.1;have V:=PJ (D:=D) (i:=n);refine⟨⟨by show(qO k.1 st.1).length<=q.2.2;omega,by show(zC k.1 st.1 st.2 q.1).length<=q.2.2;omega,λv A=> ?_,λx hx=> ?_⟩,g2,g3⟩
  ·rcases zdz A with rfl|w
   ·exact g1
   ·exact C v w
  ·rcases z82 hx with rfl|w
   ·rw[e1];omega
   ·exact G x w
 ·obtain⟨q,u,h⟩:=j7 h;cases h;obtain⟨g1,g2,g3⟩:=B _ _ _ u;refine⟨⟨by show st.1.length<=q.2.2;omega,by show(st.2++[q.1]).length<=q.2.2;simp;omega,λv A=> ?_,G⟩,g2,g3⟩;rcases List.mem_append.1 A with w|w
  ·exact C v w
  ·simp at w;subst w;exact g1
def zvp{g:Nat->Nat->zG} {D:Ck} {mp:Bool} (B:D.size<100000000000000000) (C:∀n c r,g n c= .ok r->Vw r c):∀(k:Nat) (st:zH) (n c:Nat) (r:zH×Nat×Nat),jR g D mp k st n c= .ok r->Vx st c->c<=2000->Vx r.1 r.2.2/\c<=r.2.2/\r.2.2<=2000
  |0,st,n,c,r,h,A,u=>by cases h;exact⟨A,Κ _,u⟩
  | k+1,st,n,c,r,h,A,_=>by obtain⟨q,G,u⟩:=j7 h;obtain⟨i1,i2,i3⟩:=jjb B C G A;obtain⟨H,O,J⟩:=zvp B C k _ _ _ _ u i1 i3;exact⟨H,by omega,J⟩
def Cz{g:Nat->Nat->zG} {D:Ck} {mp:Bool} (G:D.size<100000000000000000) (H:∀n c r,g n c= .ok r->Vw r c):∀(f:Nat) (st:zH) (n c:Nat) (r:zH×Nat×Nat),vH g D mp f st n c= .ok r->Vx st c->c<=2000->Vx r.1 r.2.2/\c<=r.2.2/\r.2.2<=2000
  |0,st,n,c,r,h,C,A=>by cases h
  | f + 1,st,n,c,r,h,C,u=>by
    obtain⟨q,U,A⟩:=j7 h;split at A
    · cases A;exact⟨C,Κ _,u⟩
    · obtain⟨p,J,B⟩:=j7 A;obtain⟨i1,i2,i3⟩:=zvp G H _ _ _ _ _ J C u;split at B
      · cases B
      · obtain⟨O,V,T⟩:=Cz G H f _ _ _ _ B i1 i3;exact⟨O,by omega,T⟩
def jjt{g:Int->Nat->Nat->zG} {a:AT} (U:a.sys.length<1000000) (J:D.size<100000000000000000) (G:∀t n c r,g t n c= .ok r->Vw r c) {n c:Nat} {r:PV×Nat×Nat} (h:kA g D a n c= .ok r) (C:c<=2000):r.1.sm/\c<=r.2.2/\r.2.2<=2000:=by
 have H:(mkS []).size<9223372036854775808:=by decide
 unfold kA at h;split at h
 ·obtain⟨q,A,u⟩:=j7 h;cases u;obtain⟨i1,i2,i3,i4⟩:=zw5 G _ _ _ _ _ A C (Α _) (λv B=>by cases B);refine⟨?_,i3,i4⟩;unfold PV.sm;exact⟨by decide,H,by omega,by decide,λk h=>(by cases h),Ka.2 i2⟩
 split at h
 ·obtain⟨b,A,u⟩:=j7 h;obtain⟨q,O,T⟩:=j7 u;cases T;obtain⟨g1,g2,g3⟩:=G _ _ _ _ O;refine⟨?_,by show c<=q.2.2;omega,g3⟩;unfold PV.sm;exact⟨by decide,H,by show 1<4611686018427387904;decide,by decide,λk h=>(by cases h),Ka.2 λv B=>by simp at B;subst B;exact g1⟩
 split at h
 ·obtain⟨q,A,u⟩:=j7 h;cases u;obtain⟨⟨i1,i2,i3,i4⟩,i5,i6⟩:=Cz J (λn c r=>G _ n c r) _ _ _ _ _ A ⟨Α _,Α _,λv B=>(by cases B),λk V=>(by cases V)⟩ C;refine⟨?_,i5,i6⟩;unfold PV.sm;exact⟨by decide,H,by omega,by omega,i4,Ka.2 i3⟩
 ·obtain⟨q,A,u⟩:=j7 h;cases u;exact⟨jji U J A,Κ _,C⟩
def CJ{S:List AT} {D:Ck} (hS:small S) (u:D.size<100000000000000000):∀(f:Nat) (t:Int) (n c:Nat) (r:PV×Nat×Nat),qM S D f t n c= .ok r->Vw r c
  |0,t,n,c,r,h=>by cases h
  | f + 1,t,n,c,r,h=>by
    unfold qM at h;split at h
    · cases h
    · split at h
      · cases h
      · rename_i a C;have hm:a∈S:=List.mem_of_getElem? C;obtain⟨A,G,B⟩:=jjt (hS.2 a hm).2.2 u (CJ hS u f) h (by omega);exact⟨A,by omega,B⟩
end
open Go.Proofs.YtniogjgfomaicaaGreat.Rv
def Qq{a:AT} {s:Ck} {n:Nat} {N e' i' i:Int} {r:Ck} (h:qS a s n=jq N r i' e') (u:0<=e') (A:i<=i') (B:i'<=s.size):∃b:ye,(GV.mk b.1 b.2.1 (noA,0,0) [] (noA,0,0) [] 0).n=N/\(GV.mk b.1 b.2.1 (noA,0,0) [] (noA,0,0) [] 0).s=r/\(GV.mk b.1 b.2.1 (noA,0,0) [] (noA,0,0) [] 0).x.1=noA/\(GV.mk b.1 b.2.1 (noA,0,0) [] (noA,0,0) [] 0).x.2.1=0/\(GV.mk b.1 b.2.1 (noA,0,0) [] (noA,0,0) [] 0).x.2.2=0/\(GV.mk b.1 b.2.1 (noA,0,0) [] (noA,0,0) [] 0).y.1=noA/\(GV.mk b.1 b.2.1 (noA,0,0) [] (noA,0,0) [] 0).y.2.1=0/\(GV.mk b.1 b.2.1 (noA,0,0) [] (noA,0,0) [] 0).y.2.2=0/\(GV.mk b.1 b.2.1 (noA,0,0) [] (noA,0,0) [] 0).b=0/\b.2.2.1=e'/\b.2.2.2=i'/\qS a s n=jq b.1 b.2.1 b.2.2.2 b.2.2.1/\0<=b.2.2.1/\i<=b.2.2.2/\b.2.2.2<=s.size:=
 ⟨(N,r,e',i'),rfl,rfl,rfl,rfl,rfl,rfl,rfl,rfl,rfl,rfl,rfl,h,u,A,B⟩
def j8q{D:Ck} {i:Nat} {k:Int} (h:(qq D i k).2.1≠0):(qq D i k).1=mkS []:=by
 unfold qq at h⊢;split
 ·rfl
 ·rename_i u;rw[if_neg u]at h;exact absurd rfl h
def zlg{v:Int}:v=ζ .i32 v↔¬(v< -2147483648\/2147483648<=v):=by simp[ζ,qqn,qqi];omega
def zya(v:Int): -9223372036854775808<=ζ .i32 v/\ζ .i32 v<=9223372036854775807:=by simp[ζ,qqn,qqi];omega
def zjh:q1p P 45 HU:=by
 refine zh (qcl (qgj zia (qgj H2 (qgj z9f (qgj ze7 (qgj z9w (qgj O7 qjq))))))) (qdd qjp) (W:=zl2) Tryz.func45 λ⟨⟨(x:SV),s,(i:Int),(c:Int)⟩,a⟩=>(zjg x s i c a).mpr ?_;rintro⟨h,B,hk,hsy,hsz⟩ ⟨p,_,ha⟩;obtain⟨_,syl,_,_⟩:=yH ha;have hi:=h.1;have hi2:=h.2.1;simp only[qB,exists_const,forall_const,γ];have lg:=yu s i.toNat (by omega);have hp:qZ ((x.1,x.2.1,x.2.2),s,i,c):=h;have low:∀k:Int,qS a s i.toNat=(yA s i.toNat k).bind (λr=> .ok (kL (jL r.1),r.2))->_:=λk B=>(by
  have C:=ZB (D:=s) (i:=i.toNat) (k:=k) (by omega);unfold yA vu at B;exact Qq (i:=i) (N:=jL (qq s i.toNat k).1) (r:=mkS []) (e':=(qq s i.toNat k).2.1) (i':=(qq s i.toNat k).2.2) (by
   rw[B];unfold jq;by_cases h:(qq s i.toNat k).2.1=0
   ·rw[if_pos h,if_pos h];rfl
   ·rw[if_neg h,if_neg h];rfl) C.1.1 (by omega) C.2.1.2)
 have X:∀(t:Ck×Int×Int) (e:Int),0<=e->i<=t.2.2->t.2.2<=s.size->qS a s i.toNat=(vu t e).bind (λr=> .ok (JI r.1,r.2))->_:=λt e A G h2 B=>Qq (i:=i) (N:=0) (r:=t.1) (e':=e) (i':=t.2.2) (by
   rw[B];unfold vu jq;by_cases h:e=0
   ·rw[if_pos h,if_pos h];rfl
   ·rw[if_neg h,if_neg h];rfl) A G h2
 refine⟨λH=>Qq (r:=mkS []) (by unfold qS;rw[if_pos H];rfl) (ρ _) (ρ _) hi2,λH=>⟨λJ=>⟨⟨hp,by decide,by decide⟩,?_⟩,λJ=>⟨⟨λh=>by unfold vg;exact j6 (by omega),λh=>by unfold vg;exact j6 (by omega)⟩,λZ=>⟨hp,?_⟩,λZ=> ?_⟩⟩⟩
 ·have C:=ZB (D:=s) (i:=i.toNat) (k:=1) (by omega);have B:qS a s i.toNat=(yA s i.toNat 1).bind λr=>if 1<jL r.1 then .no 1 else .ok (kL (jL r.1),r.2):=by unfold qS;rw[if_neg H,if_pos J]
  unfold yA vu at B;have her:=j8q (D:=s) (i:=i.toNat) (k:=1);generalize qq s i.toNat 1=T at*;obtain⟨r,e1,m⟩:=T;simp only at C B her⊢;refine⟨λG=>Qq (r:=mkS []) ?_ (by decide) (by omega) C.2.1.2,λG=>Qq (r:=mkS []) ?_ C.1.1 (by omega) C.2.1.2⟩
  ·have A:e1=0:=by
    by_cases A:e1=0
    ·exact A
    ·rw[her A]at G;exact absurd G (by decide)
   rw[if_pos A,zb,if_pos G]at B;rw[B];rfl
  ·by_cases A:e1=0
   ·rw[if_pos A,zb,if_neg G]at B;rw[B,A];rfl
   ·rw[if_neg A,jl]at B;rw[B];unfold jq;rw[if_neg A]
 ·unfold vg at Z;rw[decide_eq_true_eq]at Z;have h3:a.k=3->qS a s i.toNat=(uz s i.toNat).bind λr=>if r.1< -2147483648\/2147483648<=r.1 then .no 1 else .ok (kL (r.1 % 18446744073709551616),r.2):=λh=>by unfold qS;rw[if_neg H,if_neg J,if_pos h]
  have h4:¬a.k=3->qS a s i.toNat=(uz s i.toNat).bind λr=> .ok (kL (r.1 % 18446744073709551616),r.2):=λh=>by unfold qS;rw[if_neg H,if_neg J,if_neg h,if_pos (by omega)]
  have hz:(qb s i.toNat).2.1≠0->(qb s i.toNat).1=0:=λh=>by
   unfold qb verr at h;unfold qb vval;simp only at h⊢;cases hv:vdec (s.data.toList.drop i.toNat) 0 0 with
   |none=>rfl
   |some w=>rw[hv]at h;exact absurd rfl h
  unfold uz at h3 h4;have hr:=zya (qb s i.toNat).1;generalize qb s i.toNat=T at*;obtain⟨v,e1,m⟩:=T;simp only[wrap_u64]at lg h3 h4 hz hr⊢;rw[zlg];refine⟨λk3=>⟨hr,λhb=>Qq (r:=mkS []) ?_ (by decide) (by omega) (by omega),λhg=>Qq (r:=mkS []) ?_ (by omega) (by omega) (by omega)⟩,λk3=>Qq (r:=mkS []) ?_ (by omega) (by omega) (by omega)⟩
  ·have hb:=Classical.not_not.1 hb;have A:e1=0:=by
    by_cases A:e1=0
    ·exact A
    ·have:=hz A;omega
   rw[h3 k3,if_pos A,zb,if_pos hb];rfl
  ·rw[h3 k3];unfold jq;by_cases A:e1=0
   ·rw[if_pos A,zb,if_neg hg,if_pos (by omega),γ];rfl
   ·rw[if_neg A,jl,if_neg (by omega)];congr 1;omega
  ·rw[h4 k3];unfold jq;by_cases A:e1=0
   ·rw[if_pos A,zb,if_pos (by omega),γ];rfl
   ·rw[if_neg A,jl,if_neg (by omega)];congr 1;omega
 unfold vg at Z;rw[decide_eq_false_iff_not]at Z;have u:¬a.k=3/\¬a.k=4:=by omega
 refine⟨λV=>⟨⟨hp,by decide,by decide⟩,low 4 (by unfold qS;rw[if_neg H,if_neg J,if_neg u.1,if_neg u.2,if_pos V])⟩,λV=>⟨λY=>⟨⟨hp,by decide,by decide⟩,low 8 (by unfold qS;rw[if_neg H,if_neg J,if_neg u.1,if_neg u.2,if_neg V,if_pos Y])⟩,λY=>⟨λO=> ?_,λO=>⟨λk7=>⟨hp,?_⟩,λk7=>⟨λk8=>⟨hp,?_⟩,λk8=>⟨λU=> ?_,λU=> ?_⟩⟩⟩⟩⟩⟩
 ·refine⟨⟨(a.sy.2.1:Int),x,s,i,c⟩,rfl,rfl,rfl,rfl,rfl,rfl,rfl,h,?_⟩;have B:qS a s i.toNat=(xq s i.toNat a.sys.length).bind λr=> .ok (kL r.1,r.2):=by unfold qS;rw[if_neg H,if_neg J,if_neg u.1,if_neg u.2,if_neg V,if_neg Y,if_neg (by omega),if_neg (by omega),if_pos O]
  unfold xq at B;rw[←syl]at B;simp only[true_and,and_true,eq_self,wrap_u64];refine Qq (r:=mkS []) ?_ (by omega) (by omega) (by omega);rw[B];unfold jq;by_cases G:je s i.toNat a.sy.2.1=0
  ·have hrr:0<=(qb s i.toNat).1:=(by unfold je at G;split at G<;>omega);rw[if_pos G,if_pos (by omega),zb,qzu hrr (by omega),γ];rfl
  ·rw[if_neg G,if_neg (by omega),jl];congr 1;omega
 ·have C:=Yd (D:=s) (i:=i.toNat) (by omega);exact X _ _ C.1.1 (by omega) C.2.1.2 (by unfold qS;rw[if_neg H,if_neg J,if_neg u.1,if_neg u.2,if_neg V,if_neg Y,if_pos k7];rfl)
 ·have C:=Yd (D:=s) (i:=i.toNat) (by omega);exact X _ _ (by unfold vP;split<;>omega) (by omega) C.2.1.2 (by unfold qS;rw[if_neg H,if_neg J,if_neg u.1,if_neg u.2,if_neg V,if_neg Y,if_neg k7,if_pos k8];rfl)
 ·have hz:=hsz U;refine⟨⟨hp,by omega,by omega⟩,?_⟩;have C:=ZB (D:=s) (i:=i.toNat) (k:=a.sz) (by omega);exact X _ _ C.1.1 (by omega) C.2.1.2 (by unfold qS;rw[if_neg H,if_neg J,if_neg u.1,if_neg u.2,if_neg V,if_neg Y,if_neg k7,if_neg k8,if_neg O,if_pos U];rfl)
 ·exact absurd B (by unfold LL;omega)
def UF{S:List AT} {R:zG} {s:Ck} {i c t:Int} {b:zm} (h:xp S t) (A:jJ R b.1.pv b.2.2.1 b.2.2.2 b.2.1) (B:Jn s i (c+1) b):z31 S R s i c t b:=by obtain⟨r,e',i',C⟩:=b;obtain⟨u,⟨a2,a3⟩,a4⟩:=B;exact⟨λ_=>⟨A,a2⟩,λg=>absurd h g,u,⟨by omega,a3⟩,a4⟩
def j0g(n:Nat) (hr:q1p P 42 ((uk Vt xK).below v_ (n+1))) (hb:q1p P 43 ((uk ux ko).below v_ (n+1))) (hu:q1p P 44 ((uk Vj y7).below v_ (n+1))):q1p P 27 (uQ.below wv (n+1)):=by
 refine zh (qcl qjq) (qdd (qgi hr (qgi hb (qgi hu (qgi zjh qjp))))) (W:=C8) Tryz.func27 λ⟨S,⟨(x:SV),s,(i:Int),(c:Int)⟩,(t:Int),(u:Int)⟩=>(j0f n S x s i c t u).mpr ?_;rintro⟨C,B,h,⟨hc0,hc1⟩,hp1,hp2⟩ ⟨p,_,hx⟩;have C:(25- u).toNat<n+1:=C;have hi:=h.1;have hi2:=h.2.1;have xs:x.2.1=S.length:=hx.1.1;simp only[qB,exists_const,forall_const,γ];have out:∀b:zm,b=(zV,1,i,c)->¬xp S t->z31 S (qM S s (21- u).toNat t i.toNat c.toNat) s i c t b:=λb hb h=>by subst hb;exact⟨λg=>absurd g h,λ_=>rfl,⟨ρ _,hi2⟩,⟨ρ _,by show c<=2001;omega⟩,λg=>absurd (show(1:Int)=0 from g) (by decide)⟩
 refine⟨λh0=>⟨⟨zV,1,i,c⟩,rfl,rfl,rfl,rfl,rfl,rfl,rfl,rfl,rfl,rfl,rfl,rfl,out _ rfl (by unfold xp;omega),λq _=>jc q⟩,λh0=>⟨λh1=>⟨⟨zV,1,i,c⟩,rfl,rfl,rfl,rfl,rfl,rfl,rfl,rfl,rfl,rfl,rfl,rfl,out _ rfl (by unfold xp;omega),λq _=>jc q⟩,λh1=>⟨⟨by omega,by omega⟩,?_⟩⟩⟩;have A:xp S t:=by unfold xp;omega
 have lim:∀b:zm,b=(zV,3,i,c+1)->(20<u\/2000<c+1)->z31 S (qM S s (21- u).toNat t i.toNat c.toNat) s i c t b:=λb hb h=>by subst hb;rw[CI hp1 hp2 hc0 h];exact UF A rfl ⟨⟨ρ _,hi2⟩,⟨ρ _,by show c+1<=2001;omega⟩,λg=>absurd (show(3:Int)=0 from g) (by decide)⟩
 refine⟨λV=>⟨⟨zV,3,i,c+1⟩,rfl,rfl,rfl,rfl,rfl,rfl,rfl,rfl,rfl,rfl,rfl,rfl,lim _ rfl (.inl V),λq _=>jc q⟩,λV=>⟨λhA=>⟨⟨zV,3,i,c+1⟩,rfl,rfl,rfl,rfl,rfl,rfl,rfl,rfl,rfl,rfl,rfl,rfl,lim _ rfl (.inr hA),λq _=>jc q⟩,λhA=> ?_⟩⟩;obtain⟨j,rfl⟩:=Δ A.1;have T:j<S.length:=by have:=A.2;omega
 rw[zvi T hp1 V hc0 hA];have htp:=λq (hq:qd S x q)=>y_ hq T;have J:=λq (hq:qd S x q)=>hq.2 S[j] (ε T);have hkd:=B.2.1 S[j] (ε T);have hrg:=B.2.2 S[j] (ε T);have sm:=B.1.2 S[j] (ε T);refine⟨⟨by omega,by omega⟩,(htp p hx).1,S[j].k,S[j].nm,S[j].al.1,S[j].al.2.1,S[j].al.2.2,S[j].it,S[j].sy.1,S[j].sy.2.1,S[j].sy.2.2,S[j].hd,S[j].df,S[j].sz,S[j].f.1,S[j].f.2.1,S[j].f.2.2,S[j].br.1,S[j].br.2.1,S[j].br.2.2,λq hq=>(htp q hq).2,?_⟩;have O:0<=c+1/\c+1<=2000:=by omega
 have X:1<=u/\u<=20:=by omega
 refine⟨λY=> ?_,λY=>⟨⟨λh=>by unfold vh;exact j6 (by omega),λh=>by unfold vh;exact j6 (by omega)⟩,λU=> ?_,λU=>⟨λH=> ?_,λH=> ?_⟩⟩⟩
 ·have G:kA (qu S s u) s S[j] i.toNat (c+1).toNat=xK (qu S s u) s S[j] i.toNat (c+1).toNat:=by unfold kA xK;rw[if_pos Y]
  rw[G];refine⟨⟨S,⟨x,s,i,c+1⟩,S[j],u⟩,?_⟩;simp only[true_and,and_true,eq_self];refine⟨⟨C,B,ε T,Y,h,O,X⟩,λq hq=>⟨hq,J q hq⟩,?_⟩;rintro⟨r,e',i',Z⟩ ⟨g1,g2⟩ _;exact⟨⟨r,e',i',Z⟩,rfl,rfl,rfl,rfl,rfl,rfl,rfl,rfl,rfl,rfl,rfl,rfl,UF A g1 g2,λq hq=>hq.2⟩
 ·unfold vh at U;rw[decide_eq_true_eq]at U;have G:kA (qu S s u) s S[j] i.toNat (c+1).toNat=ko (qu S s u) s S[j] i.toNat (c+1).toNat:=by unfold kA;rw[if_neg Y,if_neg (by omega),if_pos U]
  rw[G];refine⟨⟨S,⟨x,s,i,c+1⟩,S[j],u⟩,?_⟩;simp only[true_and,and_true,eq_self];refine⟨⟨C,B,ε T,U,h,O,X⟩,λq hq=>⟨hq,J q hq⟩,?_⟩;rintro⟨r,e',i',Z⟩ ⟨g1,g2⟩ _;exact⟨⟨r,e',i',Z⟩,rfl,rfl,rfl,rfl,rfl,rfl,rfl,rfl,rfl,rfl,rfl,rfl,UF A g1 g2,λq hq=>hq.2⟩
 ·have G:kA (qu S s u) s S[j] i.toNat (c+1).toNat=y7 (qu S s u) s S[j] i.toNat (c+1).toNat:=by unfold kA;rw[if_neg Y,if_pos H]
  rw[G];refine⟨⟨S,⟨x,s,i,c+1⟩,S[j],u⟩,?_⟩;simp only[true_and,and_true,eq_self];refine⟨⟨C,B,ε T,H,h,O,X⟩,λq hq=>⟨hq,J q hq⟩,?_⟩;rintro⟨r,e',i',Z⟩ ⟨g1,g2⟩ _;exact⟨⟨r,e',i',Z⟩,rfl,rfl,rfl,rfl,rfl,rfl,rfl,rfl,rfl,rfl,rfl,rfl,UF A g1 g2,λq hq=>hq.2⟩
 ·unfold vh at U;rw[decide_eq_false_iff_not]at U;refine⟨⟨⟨x,s,i,c+1⟩,S[j]⟩,?_⟩;simp only[true_and,and_true,eq_self];refine⟨⟨h,⟨Y,H,by omega,by omega⟩,hkd,sm.2.2,hrg.2.2.2⟩,λq hq=>J q hq,?_⟩;rintro⟨N,r,e',i'⟩ ⟨g1,g2,g3,g4⟩;refine⟨⟨.mk N r (Ξ,0,0) [] (Ξ,0,0) [] 0,e',i',c+1⟩,rfl,rfl,rfl,rfl,rfl,rfl,rfl,rfl,rfl,rfl,rfl,rfl,UF A ?_ ⟨⟨g3,g4⟩,⟨ρ _,by show c+1<=2001;omega⟩,λ_=>O.2⟩,λq _=> ?_⟩
  ·unfold kA;rw[if_neg Y,if_neg H,if_neg U,g1];unfold jq;have g2:0<=e':=g2;have g3:i<=i':=g3;split
   ·rw[zb];exact⟨by assumption,by rw[qqf,ι],by show i'=((i'.toNat:Nat):Int);omega,by show c+1=(((c+1).toNat:Nat):Int);omega⟩
   ·rename_i hne;have hne:¬e'=0:=hne;rw[jl];show e'=(((e'- 1).toNat:Nat):Int)+1;omega
  ·unfold υ ν;exact⟨qV,qV,trivial⟩
def zqh(n:Nat) (hv:q1p P 27 (uQ.below wv n)):q1p P 42 ((uk Vt xK).below v_ (n+1)):=by
 refine zh (qcl qjq) (qdd (qgi hv qjp)) (W:=C4) Tryz.func42 λ⟨S,⟨(x:SV),s,(i:Int),(c:Int)⟩,a,(A:Int)⟩=>(zqg n S x s i c a A).mpr ?_;rintro⟨T,G,H,hk,h,⟨hc0,X⟩,hp1,hp2⟩ ⟨p,_,hx,ha⟩;have T:(25- A).toNat<n+1:=T;have hi:=h.1;have hi2:=h.2.1;obtain⟨_,_,fl,_⟩:=yH ha;have hrg:=G.2.2 a H;have sm:=G.1.2 a H;simp only[qB,exists_const,forall_const,γ,fl];refine⟨⟨⟨0,i,c,[]⟩,rfl,rfl,rfl,rfl,λq _=>GV.oks_iff.2 λw hw=>(by cases hw),⟨⟨Α _,rfl⟩,⟨ρ _,hi2⟩,⟨ρ _,X⟩,rfl⟩⟩,?_⟩;rintro⟨j,i1,c1,fs⟩ ⟨⟨r1,r2⟩,⟨r3,r4⟩,⟨r5,r6⟩,U⟩ ⟨p2,hp2',Y⟩;simp only at r1 r2 r3 r4 r5 r6 U Y⊢;have rc:∀(R:zG) (v:PV) (e' i' u:Int),vA (kY (qu S s A) (a.fs.map AF.ty) [] i.toNat c.toNat) e' (kY (qu S s A) (a.fs.map AF.ty) [] i.toNat c.toNat= .ok (ι fs,i'.toNat,u.toNat))->0<=i'->0<=u->v= .mk 0 (mkS []) (ι fs) [] 0\/e'≠0->jJ (xK (qu S s A) s a i.toNat c.toNat) v i' u e':=λ_ v e' i' u ht h0 h1 hv=>by
  unfold xK V8;rcases ht with⟨V,q2⟩|⟨k,V,q2⟩
  ·rw[q2,zb];exact⟨V,hv.resolve_right (λg=>g V),by show i'=((i'.toNat:Nat):Int);omega,by show u=((u.toNat:Nat):Int);omega⟩
  ·rw[q2,jl];exact V
 refine⟨λhlt=> ?_,λhge a6 cc _=>⟨⟨.mk 0 (mkS []) (a6,fs.length,cc) fs (Ξ,0,0) [] 0,0,i1,c1⟩,rfl,rfl,rfl,rfl,rfl,rfl,rfl,rfl,rfl,rfl,rfl,rfl,⟨?_,⟨r3,r4⟩,⟨r5,by show c1<=2001;omega⟩,λ_=>r6⟩,λq hq=>z60 hq.1.2 hq.2.1 hq.2.2⟩⟩
 ·have B:j<a.fs.length:=by omega
  rw[zw3 (by rw[Θ];exact B),qqx]at U;have Z:=hrg.1 _ (ε B);have O:=λq (hq:a.ok q)=>w_ hq B;generalize a.fs[j]=f at*;refine⟨⟨by omega,by omega⟩,(O p ha).1,f.nm,f.al.1,f.al.2.1,f.al.2.2,f.ty,f.hd,f.df.k,f.df.n,f.df.s,f.df.y.1,f.df.y.2.1,f.df.y.2.2,f.df.x.1,f.df.x.2.1,f.df.x.2.2,λq hq=>(O q hq.1.2).2,⟨by omega,by omega⟩,⟨S,⟨x,s,i1,c1⟩,f.ty,A+1⟩,rfl,rfl,rfl,rfl,rfl,rfl,rfl,rfl,⟨by show(25- (A+1)).toNat<n;omega,G,⟨by show 0<=i1;omega,r4,h.2.2⟩,⟨by show 0<=c1;omega,r6⟩,by show 1<=A+1;omega,by show A+1<=21;omega⟩,λq hq=>hq.1.1,?_⟩;rintro⟨r,e',i',u⟩ ⟨g1,_,⟨g2,g3⟩,⟨g4,g5⟩,g6⟩ _;obtain⟨g7,g8⟩:=g1 Z;have g2:i1<=i':=g2;have g4:c1<=u:=g4;have g5:u<=2001:=g5;have g7:jJ (qM S s (21- (A+1)).toNat f.ty i1.toNat c1.toNat) r.pv i' u e':=g7;rw[show(21- (A+1)).toNat=(20- A).toNat by omega]at g7;have J:=HO g7 U;simp only[true_and,and_true];refine⟨λC=>⟨⟨zV,e',i',u⟩,rfl,rfl,rfl,rfl,rfl,rfl,rfl,rfl,rfl,rfl,rfl,rfl,⟨rc (.no 0) _ e' i' u ?_ (by omega) (by omega) (.inr C),⟨by show i<=i';omega,g3⟩,⟨by show c<=u;omega,g5⟩,λg=>absurd g C⟩,λq _=>jc q⟩,λhe=> ?_⟩
  ·rcases J with⟨w,_⟩|w
   ·exact absurd w C
   ·exact .inr w
  ·have w2:kY (qu S s A) ((a.fs.map AF.ty).drop (j+1)) (ι fs++[r.pv]) i'.toNat u.toNat=kY (qu S s A) (a.fs.map AF.ty) [] i.toNat c.toNat:=by
    rcases J with⟨_,w⟩|⟨k,w,_⟩
    ·exact w
    ·omega
   refine⟨qv zn fs,by omega,⟨by omega,by omega⟩,⟨j+1,i',u,fs++[r]⟩,by show((j+1:Nat):Int)=_;omega,?_⟩;simp only[true_and,and_true,eq_self];refine⟨by simp,by rw[zu];rfl,λq hq=>hq.1.1,λq hq=>uJ hq.1.2 (vQ hq.2),⟨⟨by omega,by simp[r2]⟩,⟨by omega,g3⟩,⟨by omega,g6 he⟩,by rw[Wg];exact w2⟩,by omega⟩
 ·rw[zw4 (by rw[Θ];omega)]at U;exact rc (.no 0) _ 0 i1 c1 (.inl ⟨rfl,U.symm⟩) (by omega) (by omega) (.inl (by rw[qqf]))
def j0e(n:Nat) (hv:q1p P 27 (uQ.below wv n)):q1p P 44 ((uk Vj y7).below v_ (n+1)):=by
 refine zh (qcl (qgj z9f qjq)) (qdd (qgi hv qjp)) (W:=C7) Tryz.func44 λ⟨S,⟨(x:SV),s,(i:Int),(c:Int)⟩,a,(u:Int)⟩=>(j0d n S x s i c a u).mpr ?_;rintro⟨O,C,H,hk,h,⟨V,X⟩,hp1,hp2⟩ ⟨p,_,hx,ha⟩;have O:(25- u).toNat<n+1:=O;have hi:=h.1;have hi2:=h.2.1;obtain⟨_,_,_,bl⟩:=yH ha;have Z:=C.2.2 a H;have sm:=C.1.2 a H;have hf:=yu s i.toNat (by omega);simp only[qB,exists_const,forall_const,γ,bl];refine⟨⟨(a.brs.length:Int),x,s,i,c⟩,?_⟩;simp only[true_and,and_true,eq_self];refine⟨h,λA=>⟨⟨zV,(je s i.toNat a.brs.length:Nat),((qb s i.toNat).2.2:Nat),c⟩,rfl,rfl,rfl,rfl,rfl,rfl,rfl,rfl,rfl,rfl,rfl,rfl,⟨?_,⟨by show i<=((_:Nat):Int);omega,by show((_:Nat):Int)<=_;omega⟩,⟨ρ _,by show c<=2001;omega⟩,λg=>absurd g A⟩,λq _=>jc q⟩,λhe=> ?_⟩
 ·unfold y7 xq;rw[if_neg (by omega),jl];show((je s i.toNat a.brs.length:Nat):Int)=((je s i.toNat a.brs.length- 1:Nat):Int)+1;omega
 have T:je s i.toNat a.brs.length=0:=by omega
 have hrr:0<=(qb s i.toNat).1/\(qb s i.toNat).1<a.brs.length:=by unfold je at T;split at T<;>omega
 obtain⟨b,hb⟩:=Δ hrr.1;have B:b<a.brs.length:=by omega
 have J:=λq (hq:a.ok q)=>uO hq B;have U:=Z.2.1 a.brs[b] (ε B);have Y:a.brs.getD b 0=a.brs[b]:=by rw[qqk,δ B];rfl
 have hun:y7 (qu S s u) s a i.toNat c.toNat=(qM S s (20- u).toNat a.brs[b] (qb s i.toNat).2.2 c.toNat).bind λr=> .ok (.mk 0 (mkS []) [r.1] [] b,r.2):=by unfold y7 xq;rw[if_pos T,zb];simp only[hb,γ,Y];rfl
 rw[hun];simp only[hb,γ];refine⟨⟨by omega,by omega⟩,(J p ha).1,a.brs[b],λq hq=>(J q hq.2).2,⟨by omega,by omega⟩,⟨S,⟨x,s,((qb s i.toNat).2.2:Nat),c⟩,a.brs[b],u+1⟩,rfl,rfl,rfl,rfl,rfl,rfl,rfl,rfl,⟨by show(25- (u+1)).toNat<n;omega,C,⟨by show(0:Int)<=(((qb s i.toNat).2.2:Nat):Int);omega,by show(((qb s i.toNat).2.2:Nat):Int)<=s.size;omega,h.2.2⟩,⟨V,X⟩,by show 1<=u+1;omega,by show u+1<=21;omega⟩,λq hq=>hq.1,?_⟩;rintro⟨r,e',i',G⟩ ⟨g1,_,⟨g2,g3⟩,⟨g4,g5⟩,g6⟩ _;obtain⟨g7,g8⟩:=g1 U;have g2:((qb s i.toNat).2.2:Nat)<=i':=g2;have g4:c<=G:=g4;have g5:G<=2001:=g5;have g7:jJ (qM S s (21- (u+1)).toNat a.brs[b] (((qb s i.toNat).2.2:Nat):Int).toNat c.toNat) r.pv i' G e':=g7;rw[show(21- (u+1)).toNat=(20- u).toNat by omega,γ]at g7;simp only[true_and,and_true];refine⟨λA=>⟨⟨zV,e',i',G⟩,rfl,rfl,rfl,rfl,rfl,rfl,rfl,rfl,rfl,rfl,rfl,rfl,⟨?_,⟨by show i<=i';omega,g3⟩,⟨g4,g5⟩,λg=>absurd g A⟩,λq _=>jc q⟩,λhe b2 s2 _=>⟨⟨.mk 0 (mkS []) (Ε ⟨b2,s2+0,Ξ⟩,1,1) [r] (Ξ,0,0) [] b,0,i',G⟩,rfl,rfl,rfl,rfl,rfl,rfl,rfl,rfl,rfl,rfl,rfl,rfl,⟨?_,⟨by show i<=i';omega,g3⟩,⟨g4,g5⟩,λ_=>g6 he⟩,λq hq=> ?_⟩⟩
 ·revert g7;cases qM S s (20- u).toNat a.brs[b] (qb s i.toNat).2.2 c.toNat with
  |no k=>exactλg=>g
  |ok w=>exactλg=>absurd g.1 A
 ·revert g7;cases qM S s (20- u).toNat a.brs[b] (qb s i.toNat).2.2 c.toNat with
  |no k=>intro g;have g:e'=k+1:=g;have he:e'=0:=he;omega
  |ok w=>exactλ⟨q1,q2,q3,q4⟩=>⟨rfl,by rw[qqf,ι,ι,q2],q3,q4⟩
 ·unfold υ;exact⟨⟨rfl,Κ _, .inr ⟨_,rfl,rfl,hq.2⟩⟩,qV,vQ hq.1.2⟩
def qy(ks:List Ck) (j:Nat):List MapEntry:=match ks with
 | []=>[]
 |k::l=>⟨.string k, .int .i64 (j:Nat),j⟩::qy l (j+1)
def qF(k:Ck):List Value:=[.string k]
def Wc(b r q m:Nat) (fs:List GV) (ks:List Ck):List (Nat×AO):=[(b, .cells 139 (Ε 0) Β [.ssl r 0 fs.length 5 (r+1), .ssl q 0 ks.length 1 (q+1), .map m]),(r, .row 36 0 (qa θ fs)),(q, .row 9 0 (qa qF ks)),(m, .mrow (qy ks 0) ks.length)]
def xM(k:Ck) (v:PV) (p:Ck×PV):Ck×PV:=if p.1=k then(k,v)else p
def zK(mp:Bool) (ks:List Ck) (vs:List PV) (st:zH):Prop:=if mp=ξ then ks.Nodup/\ks.length=vs.length/\st.1.length=st.2.length/\st.1.Pairwise (λa b=>qdf a b=ξ)/\(st.1.zip st.2).Perm (ks.zip vs)else ks=[]/\st=([],vs)
def agI(mp:Bool) (R:Rs (zH×Nat×Nat)) (ks:List Ck) (vs:List PV) (n c e:Int):Prop:=match R with
 | .no k=>e=k+1
 | .ok r=>e=0/\zK mp ks vs r.1/\n=r.2.1/\c=r.2.2
abbrev KW:=xj×List GV×List Ck
abbrev wA:=List GV×List Ck×Int×Int×Int
def itM(S:List AT) (x:SV) (a:AT) (fs:List GV):PF:=⟨ξ,λp=>(qd S x p/\a.ok p)/\ν fs p,λ_ _ h e=>⟨⟨yG h e.1.1,qzv h e.1.2⟩,GV.oks_mono h e.2⟩⟩
def Ci:KW->Prop:=λ⟨⟨S,⟨x,s,i,c⟩,a,h⟩,fs,ks⟩=>zp S/\a∈S/\ux a/\qZ ⟨x,s,i,c⟩/\(0<=c/\c<=2000)/\(1<=h/\h<=20)/\(fs.length:Int)<=c/\(ks.length:Int)<=c/\∃st,zK (decide (a.k=13)) ks (ι fs) st
def z75:KW->wA->Prop:=λ⟨⟨S,⟨x,s,i,c⟩,a,B⟩,fs,ks⟩ ⟨u,A,e',i',h⟩=>(∀st,zK (decide (a.k=13)) ks (ι fs) st->agI (decide (a.k=13)) (yi (qu S s B a.it) s (decide (a.k=13)) st i.toNat c.toNat) A (ι u) i' h e')/\(i<=i'/\i'<=s.size)/\(c<=h/\h<=2001)/\(e'=0->c+1<=h/\h<=2000)/\(u.length:Int)<=h/\(A.length:Int)<=h
def La:CtR where
 σ:=KW
 args:=λ⟨⟨S,⟨x,s,i,c⟩,a,B⟩,fs,ks⟩=>[.ptr 1 0,a.av, .ptr 2 0, .sv (.int .i64 B)]
 h:=λ⟨⟨S,⟨x,s,i,c⟩,a,B⟩,fs,ks⟩=>jw x s i c++Wc 2 3 5 7 fs ks
 m:=8
 pre:=λz=>Ci z
 mem:=λ⟨⟨S,⟨x,s,i,c⟩,a,B⟩,fs,ks⟩=>itM S x a fs
 β:=λ_=>wA
 post:=λz b=>z75 z b
 pm:=λ_ ⟨u,A,e',i',C⟩=>yh u
 r:=λ_ ⟨u,A,e',i',C⟩=> .sv (.int .i64 e')
 h':=λ⟨⟨S,⟨x,s,i,c⟩,a,B⟩,fs,ks⟩ ⟨u,A,e',i',C⟩=>jw x s i' C++Wc 2 8 10 7 u A
 m':=12
def Vl:KW->Nat:=λ⟨⟨S,_,a,h⟩,_⟩=>(25- h).toNat
def zwf:KW->WayF:=λ_=>{}
def Y4:CtR where
 σ:=List GV×List Ck
 args:=λ_=>[.ptr 2 0]
 h:=λ⟨fs,ks⟩=>Wc 2 3 5 7 fs ks
 m:=8
 pre:=λ⟨fs,ks⟩=>fs.length<=2001/\ks.length<=2001/\∃mp st,zK mp ks (ι fs) st
 mem:=λ⟨fs,ks⟩=>yh fs
 β:=λ_=>GV
 post:=λ⟨fs,ks⟩ r=>∀mp st,zK mp ks (ι fs) st->r.pv= .mk 0 (mkS []) st.2 st.1 0
 pm:=λ_ r=>vM r
 r:=λ_ r=>r.av
 h':=λ_ _=>[]
 m':=8
def WA(S:List AT) (a:AT) (s:Ck) (h i c:Int) (F:Nat) (i1 c1:Int) (fs:List GV) (ks:List Ck):Prop:=(i<=i1/\i1<=s.size)/\(c<=c1/\c1<=2000)/\((fs.length:Int)<=c1/\(ks.length:Int)<=c1)/\s.size<F+i1/\∃st,zK (decide (a.k=13)) ks (ι fs) st/\vH (qu S s h a.it) s (decide (a.k=13)) F st i1.toNat c1.toNat=zr S a h s i c
def Cp(h sz en:Int):Prop:=sz= -1/\en= -1\/0<=sz/\en=h+(if 9223372036854775807- h<sz then 9223372036854775807- h else sz)
def Ny(S:List AT) (a:AT) (s:Ck) (u i c:Int) (F:Nat) (h A en cnt:Int) (j:Nat) (i1 c1:Int) (fs:List GV) (ks:List Ck):Prop:=(j:Int)<=cnt/\(i<=i1/\(0<=h/\h<=i1)/\i1<=s.size)/\(c<=c1/\c1<=2000)/\((fs.length:Int)<=c1/\(ks.length:Int)<=c1)/\s.size<F+h/\∃sz st,Cp h sz en/\zK (decide (a.k=13)) ks (ι fs) st/\(jR (qu S s u a.it) s (decide (a.k=13)) (cnt- j).toNat st i1.toNat c1.toNat).bind (jy S a u s F h sz)=zr S a u s i c
def k08(h:T AO) (id:Nat):Option Nat:=match h.get id with
 |some (.cells _ _ _ [_,_, .map m])=>Ε m
 |_=>Ξ
def CW :xj->WayF:=λ⟨S,⟨x,s,i,c⟩,a,G⟩=>{
  ann :=λid A H=>match Vo A 8 with
    | some B=>match k08 H B with
      | some m=>match id with
        |0=>Ε {σ:=Nat×Int×Int×List GV×List Ck,pre:=λ⟨F,i1,c1,fs,ks⟩=>WA S a s G i c F i1 c1 fs ks,mem:=λ⟨F,i1,c1,fs,ks⟩=>yh fs,t:=λ_=>[],h:=λ⟨F,i1,c1,fs,ks⟩=>jw x s i1 c1++Wc B 40 42 m fs ks,more:=60,μ:=λ⟨F,i1,c1,fs,ks⟩=>(s.size+1- i1).toNat,keep:=[0,2,4,6,7,8]}
        | _=>match jO A 30,jO A 10,Ay H 1 with
          |some C,Ε en,Ε (_,_,u,J)=>Ε {σ:=Nat×Nat×Int×Int×List GV×List Ck,pre:=λ⟨F,j,i1,c1,fs,ks⟩=>Ny S a s G i c F u J en C j i1 c1 fs ks,mem:=λ⟨F,j,i1,c1,fs,ks⟩=>yh fs,t:=λ⟨F,j,i1,c1,fs,ks⟩=>[(31, .sv (.int .i64 (j:Nat)))],h:=λ⟨F,j,i1,c1,fs,ks⟩=>jw x s i1 c1++Wc B 40 42 m fs ks,more:=60,μ:=λ⟨F,j,i1,c1,fs,ks⟩=>C.toNat- j,keep:=[0,2,4,6,7,8,10,30]}
          |_,_,_=>Ξ
      |none=>Ξ
    |none=>Ξ}
section
def zxi(x y:UInt8) (a b:List UInt8):qqd (x::a) (y::b)=ξ↔x.toNat<y.toNat\/x=y/\qqd a b=true:=by rw[qqd,Bool.or_eq_true,φ,decide_eq_true_eq,beq_iff_eq];rfl
def zvb(b:List UInt8):qqd b []=false:=by cases b<;>rfl
def zcr:∀{a b c:List UInt8},qqd a b=ξ->qqd b c=ξ->qqd a c=ξ
  |a,b,[],_,h=>by rw[zvb]at h;cases h
  |a,[],z::c,h,_=>by rw[zvb]at h;cases h
  | [],y::b,z::c,_,_=>rfl
  | x ::a,y::b,z::c,A,u=>by
    rw[zxi]at A u⊢;rcases A with A|⟨rfl,A⟩
    · rcases u with u|⟨rfl,u⟩
      · exact .inl (by omega)
      · exact .inl A
    · rcases u with u|⟨rfl,u⟩
      · exact .inl u
      · exact .inr ⟨rfl,zcr A u⟩
def Pe{a b c:Ck} (h:qdf a b=ξ) (u:qdf b c=ξ):qdf a c=true:=zcr h u
def P7(a:Ck):qdf a a=false:=(QI a a).1 (.inr rfl)
def CO{a b:Ck} (h:qdf a b=ξ):a≠b:=λe=>by subst e;rw[P7]at h;cases h
abbrev Up(l:List Ck):Prop:=l.Pairwise (λa b=>qdf a b=ξ)
def z9o(k a:Ck) (l:List Ck) (v:PV) (vs:List PV) (w:PV):zC k (a::l) (v::vs) w=if qdf a k=ξ then v::zC k l vs w else if a=k then w::vs else w::v::vs:=by
 unfold zC vS;rw[zU];by_cases h:qdf a k=ξ
 ·rw[if_pos h,if_pos h];simp only[qq6,qqu,List.drop_succ_cons,qzj];split<;>rfl
 ·rw[if_neg h,if_neg h];simp only[List.getElem?_cons_zero,qql,qz1,qqc,decide_eq_true_eq,Option.some.injEq,qzk]
def zqc(k:Ck):qO k []=[k]:=by unfold qO vS;simp[zU]
def zqd(k:Ck) (w:PV):zC k [] [] w=[w]:=by unfold zC vS;simp[zU]
def zjm{k:Ck} {w:PV}:∀{l:List Ck} {vs:List PV},Up l->l.length=vs.length->k∉l->((qO k l).zip (zC k l vs w)).Perm ((k,w)::l.zip vs)/\Up (qO k l)/\(qO k l).length=(zC k l vs w).length
  | [],[],_,_,_=>by rw[zqc,zqd];exact⟨.refl _,by simp,rfl⟩
  | a ::l,v::vs,hu,J,H=>by
    have u:a≠k:=λe=>H (by rw[e];exact qzl);have G:k∉l:=λh=>H (qqt _ h);obtain⟨C,hu⟩:=List.pairwise_cons.1 hu;rw[z44,z9o];by_cases h:qdf a k=ξ
    · rw[if_pos h,if_pos h];obtain⟨i1,i2,i3⟩:=zjm (w:=w) hu (by simpa using J) G;refine⟨?_,List.pairwise_cons.2 ⟨λb A=> ?_,i2⟩,by simp[i3]⟩
      · rw[τ,τ];exact(i1.cons _).trans (.swap _ _ _)
      · rcases z82 A with rfl|A
        · exact h
        · exact C b A
    · rw[if_neg h,if_neg u,if_neg h,if_neg u];have B:qdf k a=true:=by
        rcases(QI k a).2 (by simpa using h)with g|g
        · exact g
        · exact absurd g.symm u
      refine⟨.refl _,List.pairwise_cons.2 ⟨λb A=> ?_,List.pairwise_cons.2 ⟨C,hu⟩⟩,by simpa using J⟩;rcases List.mem_cons.1 A with rfl|A
      · exact B
      · exact Pe B (C b A)
def zjn{k:Ck} {w:PV}:∀{l:List Ck} {vs:List PV},Up l->l.length=vs.length->k∈l->qO k l=l/\l.zip (zC k l vs w)=(l.zip vs).map (xM k w)/\l.length=(zC k l vs w).length
  | a ::l,v::vs,hu,H,G=>by
    obtain⟨C,hu⟩:=List.pairwise_cons.1 hu;rw[z44,z9o];by_cases h:qdf a k=ξ
    · rw[if_pos h,if_pos h];have B:k∈l:=by
        rcases List.mem_cons.1 G with rfl|u
        · rw[P7]at h;cases h
        · exact u
      obtain⟨i1,i2,i3⟩:=zjn (w:=w) hu (by simpa using H) B;refine⟨by rw[i1],?_,by simp[i3]⟩;rw[τ,τ,Ψ,i2];unfold xM;rw[if_neg (show¬a=k from CO h)]
    · have A:a=k:=by
        rcases List.mem_cons.1 G with rfl|u
        · rfl
        · exact absurd (C k u) h
      subst A;rw[if_neg h,if_pos rfl,if_neg h,if_pos rfl];refine⟨rfl,?_,by simpa using H⟩;rw[τ,τ,Ψ];congr 1
      · unfold xM;rw[if_pos rfl]
      · have e:∀p∈l.zip vs,xM a w p=p:=λp hp=>by have:=C p.1 (qq0 (show(p.1,p.2)∈l.zip vs from hp)).1;unfold xM;rw[if_neg (λe=>CO this e.symm)]
        rw[qqv e,qz4]
def kI(k:Ck):List Ck->Nat
 | []=>0
 |a::l=>if k=a then 0 else kI k l+1
def Cj{k:Ck}:∀{l:List Ck},k∈l->∃h:kI k l<l.length,l[kI k l]=k
  | a ::l,h=>by
    by_cases e:k=a
    · exact⟨by simp[kI,e],by simp[kI,e]⟩
    · obtain⟨u,A⟩:=Cj (l:=l) ((List.mem_cons.1 h).resolve_left e);exact⟨by simp[kI,e];exact u,by simp[kI,e];exact A⟩
def zik{k:Ck} {w:PV}:∀{ks:List Ck} {vs:List PV},ks.Nodup->ks.length=vs.length->k∈ks->ks.zip (vs.set (kI k ks) w)=(ks.zip vs).map (xM k w)
  | a ::l,v::vs,h,C,B=>by
    obtain⟨A,h⟩:=List.nodup_cons.1 h;by_cases e:k=a
    · subst e;rw[kI,if_pos rfl,qzk,τ,τ,Ψ];congr 1
      · unfold xM;rw[if_pos rfl]
      · have e:∀p∈l.zip vs,xM k w p=p:=λp hp=>by have u:=(qq0 (show(p.1,p.2)∈l.zip vs from hp)).1;unfold xM;rw[if_neg (λe=>A (by rw[←e];exact u))]
        rw[qqv e,qz4]
    · rw[kI,if_neg e,qzj,τ,τ,Ψ,zik h (by simpa using C) ((List.mem_cons.1 B).resolve_left e)];unfold xM;rw[if_neg (λq=>e q.symm)]
variable {ks:List Ck} {vs:List PV} {st:zH}
def zcj(h:zK ξ ks vs st) (k:Ck):k∈st.1↔k∈ks:=by unfold zK at h;rw[if_pos rfl]at h;obtain⟨_,u,A,_,hp⟩:=h;have:=hp.map Prod.fst;rw[qqo (by omega),qqo (by omega)]at this;exact this.mem_iff
variable {k:Ck}
def zx4{w:PV} (h:zK ξ ks vs st) (B:k∉ks):zK ξ (ks++[k]) (vs++[w]) (qO k st.1,zC k st.1 st.2 w):=by
 have hm:=zcj h k;unfold zK at h⊢;rw[if_pos rfl]at h⊢;obtain⟨C,u,G,H,hp⟩:=h;obtain⟨O,T,U⟩:=zjm (w:=w) H G (λg=>B (hm.1 g));refine⟨?_,by simp[u],U,T,O.trans ?_⟩
 ·rw[List.nodup_append];exact⟨C,by simp,λa J b A=>by simp at A;subst A;exactλe=>B (by rw[←e];exact J)⟩
 ·rw[List.zip_append u];exact((hp.cons _).trans (List.perm_append_singleton _ _).symm)
def zx6{w:PV} (h:zK ξ ks vs st) (G:k∈ks):zK ξ ks (vs.set (kI k ks) w) (qO k st.1,zC k st.1 st.2 w):=by have hm:=zcj h k;unfold zK at h⊢;rw[if_pos rfl]at h⊢;obtain⟨A,B,H,C,hp⟩:=h;obtain⟨u,J,O⟩:=zjn (w:=w) C H (hm.2 G);refine⟨A,by simp[B],by rw[u];exact O,by rw[u];exact C,?_⟩;rw[u];show(st.1.zip (zC k st.1 st.2 w)).Perm _;rw[J,zik A B G];exact hp.map _
def Pc{k:Ck}:∀{ks:List Ck} (j t:Nat),k∈ks->q1k (.string k) (qy ks j) t=Ε (t+kI k ks, .int .i64 ((j+kI k ks:Nat):Int))
  | a ::l,j,t,h=>by
    rw[qy,q1k];show(match decide (k=a)with|true=>_|false=>_)=_;by_cases e:k=a
    · subst e;simp[kI]
    · rw[decide_eq_false e];show q1k (.string k) (qy l (j+1)) (t+1)=_;rw[Pc (j+1) (t+1) ((List.mem_cons.1 h).resolve_left e)];simp only[kI,if_neg e];rw[show t+1+kI k l=t+(kI k l+1)by omega,show j+1+kI k l=j+(kI k l+1)by omega]
def Hx{k:Ck}:∀{ks:List Ck} (j t:Nat),k∉ks->q1k (.string k) (qy ks j) t=Ξ
  | [],j,t,_=>rfl
  | a::l,j,t,h=>by rw[qy,q1k];show(match decide (k=a)with|true=>_|false=>_)=_;rw[decide_eq_false (λe=>h (by rw[e];exact qzl))];exact Hx (j+1) (t+1) λg=>h (qqt _ g)
def zvv:∀(ks:List Ck) (k:Ck) (j:Nat),qy (ks++[k]) j=qy ks j++[⟨.string k, .int .i64 ((j+ks.length:Nat):Int),j+ks.length⟩]
  | [],k,j=>rfl
  | a::l,k,j=>by rw[Λ,qy,zvv l k (j+1),qy,Λ,qqy,show j+1+l.length=j+(l.length+1)by omega]
def jjl(h:k∈ks):qk9 (.string k) (qy ks 0)=true:=by unfold qk9;rw[Pc _ _ h]
def j9j(h:k∉ks):qk9 (.string k) (qy ks 0)=false:=by unfold qk9;rw[Hx _ _ h]
def zvw(z:Value) (h:k∈ks):qil (.string k) (qy ks 0) z= .int .i64 (kI k ks:Nat):=by unfold qil;rw[Pc _ _ h,qqa]
def zyy(z:Value) (h:k∉ks):qil (.string k) (qy ks 0) z=z:=by unfold qil;rw[Hx _ _ h]
def j9k(h:k∉ks):qd3 (.string k) (.int .i64 (ks.length:Nat)) (qy ks 0) ks.length=qy (ks++[k]) 0/\qd2 (.string k) (qy ks 0) ks.length=(ks++[k]).length:=by unfold qd3 qd2;rw[Hx _ _ h,zvv];simp
def z67:∀(ks:List Ck) (j:Nat),∀e∈qy ks j,kOK .string e.key
  | a::l,j,e,h=>by
    rw[qy]at h;rcases List.mem_cons.1 h with rfl|h
    · exact trivial
    · exact z67 l (j+1) e h
def Ln(k:Ck):(qF k).length=1:=rfl
def zjy(fs:List GV) (r:GV) (z:List Value) (u:z.length=5):spl (qa θ fs++z) (0+fs.length*5) r.cells=qa θ (fs++[r]):=by have h:=PI r.cells (qa θ fs) z [] (by rw[u];rfl);rw[qqh,qv zn]at h;rw[qqa,h,qqh,zu];show _=_++(r.cells++[]);rw[qqh]
end
open Go.Proofs.YtniogjgfomaicaaGreat.Rv
def vz(n:Int):Ck:=⟨(Go.Proofs.YtniogjgfomaicaaGreat.Rv.venc (zg n)).toArray⟩
def jE(n:Int):Nat->Ck
 |0=>mkS []
 |j+1=>jE n j++mkS [((n / 2 ^ (8*j)) % 256).toNat]
def ju(ks:List Ck) (i:Nat):Ck:=match ks[i]? with
 |some k=>vz k.size++k
 |none=>mkS []
mutual
def PV.enc(S:List AT) (t:Int):PV->Ck->Bool×Ck
  | .mk n s l ks b,B=>match S[t.toNat]? with
    |none=>(Β,B)
    | some a=>
      let r:Bool×Ck:=
        if a.k=2 then(ξ,B++jE n 1)else
        if a.k=3\/a.k=4\/a.k=10 then(ξ,B++vz (ζ .i64 n))else
        if a.k=5 then(ξ,B++jE n 4)else
        if a.k=6 then(ξ,B++jE n 8)else
        if a.k=7\/a.k=8 then(ξ,B++vz s.size++s)else
        if a.k=11 then(ξ,B++s)else
        if a.k=14 then PV.encL S (qG a b) ks 0 l (B++vz b)else
        if a.k=9 then PV.encL S (qG a b) ks 0 l B else
        if a.k=12\/a.k=13 then
          let q:=PV.encL S (qG a b) ks 0 l (if 0<l.length then B++vz l.length else B)
          if q.1=ξ then(ξ,q.2++vz 0)else q
        else(ξ,B)
      (r.1&&decide (r.2.size<=5000),r.2)
def PV.encL(S:List AT) (f:Nat->Int) (ks:List Ck) (i:Nat):List PV->Ck->Bool×Ck
 | [],B=>(ξ,B)
 |v::l,B=>if(PV.enc S (f i) v (B++ju ks i)).1=ξ then PV.encL S f ks (i+1) l (PV.enc S (f i) v (B++ju ks i)).2 else(Β,(PV.enc S (f i) v (B++ju ks i)).2)
end
def u7(k:Int):Bool:=decide (k=3\/k=4\/k=10)
def Q7(k:Int):Bool:=decide (k=7\/k=8)
def k06(k:Int):Bool:=decide (k=12\/k=13)
def bsM(B:Ck):List SV->PF
 | [x]=>⟨ξ,λp=>x.2.1=B.size/\qgn p x.1 x.2.1 x.2.2 (q18 B),λ_ _ h e=>⟨e.1,q4n h e.2⟩⟩
 |_=>{}
def kX(S:List AT) (t:Int) (v:PV):Int×Ck:=if t<0\/S.length<=t then(1,mkS [])else if qqb S t v=Β then(7,mkS [])else if(PV.enc S t v (mkS [])).1=ξ then(0,(PV.enc S t v (mkS [])).2)else(3,mkS [])
def PO(a b:Ck):q18 (a++b)=q18 a++q18 b:=by unfold q18;rw[qq2,qze,qq1]
def jr(a b:Ck):(a++b).size=a.size+b.size:=qq3
def j8e(c:Nat) (h:c<256):q18 (mkS [c])=[.int .u8 (c:Nat)]:=by simp[q18,mkS];omega
def zaj(c:Nat):(mkS [c]).size=1:=rfl
def PP{a b:Ck} (h:q18 a=q18 b):a=b:=by
 unfold q18 at h;apply qzm;apply Array.toList_inj.mp;refine List.map_inj_right (f:=λb:UInt8=>qzr .u8 (b.toNat:Nat)) (λx y e=> ?_)|>.mp h
 injection e with _ e
 exact UInt8.toNat_inj.mp (by omega)
def z35(b:Ck):b++mkS []=b:=by apply PP;rw[PO];show _++[]=_;rw[qqh]
def HG(n:Int):∀j,(jE n j).size=j
 |0=>rfl
 |j+1=>by rw[jE,jr,HG n j,zaj]
def yK(n:Int) (h: -9223372036854775808<=n) (u:n<9223372036854775808):(vz n).size<=10:=by have:=Go.Proofs.YtniogjgfomaicaaGreat.Rv.venc_ten (zg n) (fB h u);simpa[vz,ByteArray.size]using this
section
def zws:∀{l:List PV} {i:Nat} (h:i<l.length),l[i].wt<=qqe l
  |v::l,0,h=>by rw[qqe];show v.wt<=_;omega
  | v::l,i+1,h=>by have h':i<l.length:=(by simpa using h);have:=zws h';rw[qqe];show l[i].wt<=_;omega
def zvr:∀{l:List Ck} {i:Nat} (h:i<l.length),l[i].size+10<=qz l
  |v::l,0,h=>by rw[qz];show v.size+10<=_;omega
  | v::l,i+1,h=>by have h':i<l.length:=(by simpa using h);have:=zvr h';rw[qz];show l[i].size+10<=_;omega
def GV.wt_eq(v:GV):v.pv.wt=30+0*v.s.size+qz v.ks+qqe (ι v.l):=by rw[qzn,qzx]
variable {v:GV}
def GV.wt_at{i:Nat} (hi:i<v.l.length):30+qz v.ks+v.l[i].pv.wt<=v.pv.wt:=by have:=zws (l:=ι v.l) (i:=i) (by rw[Γ];exact hi);rw[Lt hi]at this;have e:=GV.wt_eq v;omega
def GV.wt_len(v:GV):30*v.l.length<=v.pv.wt:=by have:=PL (ι v.l);rw[Γ]at this;rw[GV.wt_eq];omega
def GV.ss_s(h:v.pv.sz):v.s.size<=1000001:=by have u:=h.2;rw[qzn,PV.ss]at u;exact u.1
def zfv{j:Nat} (h:j<v.l.length):SizeOf.sizeOf v.l[j]<SizeOf.sizeOf v:=by
 have u:=zk2 h;have:SizeOf.sizeOf v.l<SizeOf.sizeOf v:=by cases v;simp[GV.l];omega
 omega
def zyh{ks:List Ck} {j:Nat} (h:j<ks.length):ju ks j=vz (ks[j].size:Nat)++ks[j]:=by unfold ju;rw[δ h]
end
section
def zjb{a:AT} {n:Nat} {ks:List Ck} {b:Int} (h:vj a n ks b=ξ):(a.k≠13->ks=[])/\(a.k=9->n=a.fs.length)/\(a.k=14->0<=b/\b<a.brs.length/\n=1)/\(a.k=13->n=ks.length):=by
 unfold vj at h;split at h
 ·cases h
 rename_i A;refine⟨λu=>List.length_eq_zero_iff.1 (by omega),λu=> ?_,λu=> ?_,λu=> ?_⟩
 ·rw[if_pos u]at h;simpa using h
 ·rw[if_neg (by omega),if_pos u]at h;simpa using h
 ·rw[if_neg (by omega),if_neg (by omega),if_pos u,φ]at h;simpa using h.1
variable {S:List AT}
def j95{t:Int} {a:AT} {v:GV} (hs:S[t.toNat]? =Ε a) (h:qqb S t v.pv=ξ) (hq:qp a.k=ξ):vj a v.l.length v.ks v.b=ξ/\qqr S (qG a v.b) 0 (ι v.l)=true:=by
 rw[qzn,qqb,Γ]at h;split at h
 ·cases h
 rw[hs]at h;have u:=hq;unfold qp at u;rw[decide_eq_true_eq]at u;have A:zo a.k=false:=by unfold zo;exact decide_eq_false (by omega)
 have B:q8 a.k=false:=by unfold q8;exact decide_eq_false (by omega)
 simp only[A,B,hq,if_true,qzo,if_false,φ]at h;exact⟨h.1.1.1,h.1.1.2⟩
def Pb{t:Int} {v:PV} (h:qqb S t v=ξ):0<=t/\t<S.length:=by
 obtain⟨n,s,l,ks,b⟩:=v;rw[qqb]at h;split at h
 ·cases h
 ·omega
def z32(n:Int): -9223372036854775808<=ζ .i64 n/\ζ .i64 n<9223372036854775808:=by simp[ζ,qqn,qqi];omega
end
mutual
def PV.fb(S:List AT) (t:Int):PV->Ck
  | .mk n s l ks b=>match S[t.toNat]? with
    |none=>mkS []
    | some a=>
      if a.k=2 then jE n 1 else
      if a.k=3\/a.k=4\/a.k=10 then vz (ζ .i64 n)else
      if a.k=5 then jE n 4 else
      if a.k=6 then jE n 8 else
      if a.k=7\/a.k=8 then vz s.size++s else
      if a.k=11 then s else
      if a.k=14 then vz b++PV.fbL S (qG a b) ks 0 l else
      if a.k=9 then PV.fbL S (qG a b) ks 0 l else
      if a.k=12\/a.k=13 then(if 0<l.length then vz l.length else mkS [])++PV.fbL S (qG a b) ks 0 l++vz 0
      else mkS []
def PV.fbL(S:List AT) (f:Nat->Int) (ks:List Ck) (i:Nat):List PV->Ck
 | []=>mkS []
 |v::l=>ju ks i++PV.fb S (f i) v++PV.fbL S f ks (i+1) l
end
def Au:Ct where
 σ:=Int×Int
 args:=λ⟨n,k⟩=>[.sv (.int .u64 n), .sv (.int .i64 k)]
 h:=λ_=>[]
 m:=1
 pre:=λ⟨n,k⟩=>(0<=k/\k<=8)/\0<=n/\n<18446744073709551616
 r:=λ⟨n,k⟩=> .sv (.string (jE n k.toNat))
 h':=λ_=>[]
 m':=2
 g:=λ_=>Ξ
def fH:Int×Int->WayF:=λ⟨n,k⟩=>{
 ann:=λ_ _ _=>Ε {σ:=Nat,pre:=λj=>(j:Int)<=k,t:=λj=>[(0, .sv (.int .u64 (n / (2 ^ (8*j):Nat)))),(5, .sv (.string (jE n j))),(6, .sv (.int .i64 (j:Int)))],h:=λ_=>[],more:=0,μ:=λj=>k.toNat- j,keep:=[1]}}
def CC:Ct where
 σ:=yd
 args:=λ⟨S,x,t,v⟩=>[kh x, .sv (.int .i64 t),v.av]
 h:=λ_=>[]
 m:=1
 pre:=λ⟨S,x,t,v⟩=>small S/\v.pv.sz/\v.pv.wt<90000000000000/\qqb S t v.pv=ξ
 mem:=λ⟨S,x,t,v⟩=>O3 S x v
 r:=λ⟨S,x,t,v⟩=> .sv (.string (PV.fb S t v.pv))
 h':=λ_=>[]
 m':=2
 g:=λ_=>Ξ
def R'(l:Nat):Ck:=if 0<l then vz l else mkS []
def jjz:yd->WayF:=λ⟨S,x,t,v⟩=>{
 cut:=λi t _=>match i with
  |8=>xN u7 24 18 [1,3,5,7,18] t
  |15=>xN Q7 42 18 [1,3,5,7,18] t
  |29=>xN k06 99 18 [1,3,5,7,18] t
  |32=>Ε {σ:=Unit,t:=λ_=>[(10, .sv (.string (R' v.l.length)))],h:=λ_=>[],more:=0,μ:=λ_=>0,keep:=[1,3,5,7,18]}
  |_=>Ξ
 ann:=λid _ _=>match id with
  |1=>Ε {σ:=Nat×Ck,pre:=λ⟨j,C⟩=>j<=v.l.length/\C++PV.fbL S (qG (qe S t) v.b) v.ks j ((ι v.l).drop j)=PV.fbL S (qG (qe S t) v.b) v.ks 0 (ι v.l),t:=λ⟨j,C⟩=>[(8, .sv (.string C)),(9, .sv (.int .i64 (j:Int)))],h:=λ_=>[],more:=0,μ:=λ⟨j,C⟩=>v.l.length- j,keep:=[1,3,5,7,18]}
  |_=>Ε {σ:=Nat×Ck,pre:=λ⟨j,C⟩=>j<=v.l.length/\C++PV.fbL S (qG (qe S t) v.b) v.ks j ((ι v.l).drop j)=R' v.l.length++PV.fbL S (qG (qe S t) v.b) v.ks 0 (ι v.l),t:=λ⟨j,C⟩=>[(10, .sv (.string C)),(11, .sv (.int .i64 (j:Int)))],h:=λ_=>[],more:=0,μ:=λ⟨j,C⟩=>v.l.length- j,keep:=[1,3,5,7,18]}}
def zcs:Ct where
 σ:=yd
 args:=λ⟨S,x,t,v⟩=>[kh x, .sv (.int .i64 t),v.av]
 h:=λ_=>[]
 m:=1
 pre:=λ⟨S,x,t,v⟩=>small S/\QG S/\v.pv.sz/\v.pv.wt<90000000000000
 mem:=λ⟨S,x,t,v⟩=>O3 S x v
 r:=λ⟨S,x,t,v⟩=> .tup [.tsl 1, .sv (.int .i64 (kX S t v.pv).1)]
 h':=λ_=>[]
 m':=2
 g:=λ⟨S,x,t,v⟩=>Ε {β:=Unit,ks:=[1],pre:=λ_=>True,mem:=λ_ xs=>bsM (kX S t v.pv).2 xs}
def zei:yd->WayF:=λ_=>{pubE:=[26]}
section
variable {S:List AT} {t:Int}
def Yh{a:AT} {n:Int} {s:Ck} {l:List PV} {ks:List Ck} {b:Int} (hs:S[t.toNat]? =Ε a) (h:qqb S t (.mk n s l ks b)=ξ) (hq:qp a.k=ξ):vj a l.length ks b=ξ/\qqr S (qG a b) 0 l=true:=by
 rw[qqb]at h;split at h
 ·cases h
 rw[hs]at h;have u:=hq;unfold qp at u;rw[decide_eq_true_eq]at u;have A:zo a.k=false:=by unfold zo;exact decide_eq_false (by omega)
 have B:q8 a.k=false:=by unfold q8;exact decide_eq_false (by omega)
 simp only[A,B,hq,if_true,qzo,if_false,φ]at h;exact⟨h.1.1.1,h.1.1.2⟩
def zd9{v:PV} (h:qqb S t v=ξ):∃a,S[t.toNat]? =Ε a/\a∈S:=by have hr:=Pb h;exact⟨S[t.toNat]'(by omega),δ (by omega),ε _⟩
def H0{r:Bool×Ck} {B F:Ck} (u:r.1=ξ->r.2=B++F) (A:(B++F).size<=5000->r.1=ξ):((r.1&&decide (r.2.size<=5000))=ξ↔(B++F).size<=5000)/\((r.1&&decide (r.2.size<=5000))=ξ->r.2=B++F):=by
 rw[φ,decide_eq_true_eq];refine⟨⟨λh=> ?_,λh=>⟨A h,?_⟩⟩,λh=>u h.1⟩
 ·rw[←u h.1];exact h.2
 ·rw[u (A h)];exact h
def KZ{C B F:Ck} (h:C=B++F):((((ξ,C):Bool×Ck).1&&decide (((ξ,C):Bool×Ck).2.size<=5000))=ξ↔(B++F).size<=5000)/\((((ξ,C):Bool×Ck).1&&decide (((ξ,C):Bool×Ck).2.size<=5000))=ξ->((ξ,C):Bool×Ck).2=B++F):=H0 (λ_=>h) λ_=>rfl
mutual
def zvj{S:List AT}:∀(v:PV) (t:Int) (B:Ck),qqb S t v=ξ->((PV.enc S t v B).1=ξ↔(B++PV.fb S t v).size<=5000)/\((PV.enc S t v B).1=ξ->(PV.enc S t v B).2=B++PV.fb S t v)
  | .mk n s l ks b,t,B,h=>by
    obtain⟨a,hs,_⟩:=zd9 h;have hq:=Yh (a:=a) hs h;rw[PV.enc,PV.fb,hs];dsimp only;by_cases G:a.k=2
    · rw[if_pos G,if_pos G];exact KZ rfl
    rw[if_neg G,if_neg G];by_cases H:a.k=3\/a.k=4\/a.k=10
    · rw[if_pos H,if_pos H];exact KZ rfl
    rw[if_neg H,if_neg H];by_cases J:a.k=5
    · rw[if_pos J,if_pos J];exact KZ rfl
    rw[if_neg J,if_neg J];by_cases O:a.k=6
    · rw[if_pos O,if_pos O];exact KZ rfl
    rw[if_neg O,if_neg O];by_cases T:a.k=7\/a.k=8
    · rw[if_pos T,if_pos T];exact KZ η
    rw[if_neg T,if_neg T];by_cases u:a.k=11
    · rw[if_pos u,if_pos u];exact KZ rfl
    rw[if_neg u,if_neg u];by_cases A:a.k=14
    · rw[if_pos A,if_pos A];have C:=encL_fb l (qG a b) ks 0 (B++vz b) (hq (by unfold qp;exact decide_eq_true (by omega))).2;rw[η]at C;exact H0 C.1 C.2
    rw[if_neg A,if_neg A];by_cases U:a.k=9
    · rw[if_pos U,if_pos U];have C:=encL_fb l (qG a b) ks 0 B (hq (by unfold qp;exact decide_eq_true (by omega))).2;exact H0 C.1 C.2
    rw[if_neg U,if_neg U];by_cases hA:a.k=12\/a.k=13
    · rw [if_pos hA,if_pos hA];have C:=λX=>encL_fb l (qG a b) ks 0 X (hq (by unfold qp;exact decide_eq_true (by omega))).2;have e:(if 0<l.length then B++vz l.length else B)=B++(if 0<l.length then vz l.length else mkS []):=by
        split
        · rfl
        · rw[z35]
      rw[e];generalize (if 0<l.length then vz l.length else mkS [])=L;obtain⟨Y,Z⟩:=C (B++L);refine H0 (λh=> ?_) λh=> ?_
      · by_cases V:(PV.encL S (qG a b) ks 0 l (B++L)).1=ξ
        · rw[if_pos V];show(PV.encL S (qG a b) ks 0 l (B++L)).2++vz 0=_;rw[Y V];simp only[η]
        · rw[if_neg V]at h;exact absurd h V
      · rw[if_pos (Z (by have e2:B++(L++PV.fbL S (qG a b) ks 0 l++vz 0)=(B++L++PV.fbL S (qG a b) ks 0 l)++vz 0:=(by simp only[η]);rw[e2,jr]at h;omega))]
    · rw[if_neg hA,if_neg hA];exact KZ (z35 B).symm
def encL_fb{S:List AT}:∀(l:List PV) (f:Nat->Int) (ks:List Ck) (i:Nat) (B:Ck),qqr S f i l=ξ->((PV.encL S f ks i l B).1=ξ->(PV.encL S f ks i l B).2=B++PV.fbL S f ks i l)/\((B++PV.fbL S f ks i l).size<=5000->(PV.encL S f ks i l B).1=ξ)
  | [],f,ks,i,B,h=>by rw[PV.encL,PV.fbL];exact⟨λ_=>(z35 B).symm,λ_=>rfl⟩
  | v ::l,f,ks,i,B,h=>by
    rw[qqr,φ]at h;obtain⟨e1,e2⟩:=zvj v (f i) (B++ju ks i) h.1;rw[PV.encL,PV.fbL];have A:B++(ju ks i++PV.fb S (f i) v++PV.fbL S f ks (i+1) l)=B++ju ks i++PV.fb S (f i) v++PV.fbL S f ks (i+1) l:=(by simp only[η]);rw[A];by_cases u:(PV.enc S (f i) v (B++ju ks i)).1=ξ
    · rw[if_pos u,e2 u];exact encL_fb l f ks (i+1) _ h.2
    · rw[if_neg u];refine⟨λh=>(by cases h),λh=>absurd (e1.2 ?_) u⟩;rw[jr]at h;omega
end
def zyi(ks:List Ck) (i:Nat) (h:qz ks<90000000000000):(ju ks i).size+qz (ks.drop (i+1))<=qz (ks.drop i):=by
 by_cases hi:i<ks.length
 ·rw[zyh hi,qq4 hi,qz,jr];have:=zit (ε hi);have:=yK (ks[i].size:Int) (by omega) (by omega);omega
 ·rw[qqp (by omega),qqp (by omega)];have:ju ks i=mkS []:=by unfold ju;rw[qzc (by omega)]
  rw[this];decide
mutual
def zi4{S:List AT}:∀(v:PV) (t:Int),v.sz->v.wt<90000000000000->qqb S t v=ξ->small S->(PV.fb S t v).size<=50000*v.wt
  | .mk n s l ks b,t,Z,hw,h,hS=>by
    obtain⟨a,hs,ha⟩:=zd9 h;have hq:=Yh (a:=a) hs h;have C:=Z.2;have B:=Z.1;rw[PV.ss]at C;rw[PV.sm]at B;have J:=λhi=>fbL_size l (qG a b) ks 0 (Ka.1 B.2.2.2.2.2) (zk5.1 C.2) (by rw[qzx]at hw;omega) (by rw[qzx]at hw;omega) hi hS;rw[qz1]at J;rw[qzx]at hw⊢;have hll:=PL l;rw[PV.fb,hs];dsimp only;have G:=λm (h1: -9223372036854775808<=m) H=>yK m h1 H;have O:=HG n;by_cases H:a.k=2
    · rw[if_pos H,O];omega
    rw[if_neg H];by_cases T:a.k=3\/a.k=4\/a.k=10
    · rw[if_pos T];have:=G _ (z32 n).1 (z32 n).2;omega
    rw[if_neg T];by_cases U:a.k=5
    · rw[if_pos U,O];omega
    rw[if_neg U];by_cases V:a.k=6
    · rw[if_pos V,O];omega
    rw[if_neg V];by_cases X:a.k=7\/a.k=8
    · rw[if_pos X,jr];have:=G (s.size:Int) (by omega) (by omega);omega
    rw[if_neg X];by_cases A:a.k=11
    · rw[if_pos A];omega
    rw[if_neg A];have hbl:=(hS.2 a ha);by_cases u:a.k=14
    · rw[if_pos u,jr];obtain⟨ho,hf⟩:=hq (by unfold qp;exact decide_eq_true (by omega));obtain⟨o1,o2,o3,o4⟩:=zjb ho;have:=o3 u;have:=G b (by omega) (by omega);have:=J hf;omega
    rw[if_neg u];by_cases Y:a.k=9
    · rw[if_pos Y];have:=J (hq (by unfold qp;exact decide_eq_true (by omega))).2;omega
    rw[if_neg Y];by_cases hA:a.k=12\/a.k=13
    · rw[if_pos hA,jr,jr];have:=J (hq (by unfold qp;exact decide_eq_true (by omega))).2;have:=G 0 (by omega) (by omega);have:=G (l.length:Int) (by omega) (by omega);have e:(if 0<l.length then vz l.length else mkS []).size<=10:=by
        split
        · assumption
        · decide
      omega
    · rw[if_neg hA];show 0<=_;omega
def fbL_size{S:List AT}:∀(l:List PV) (f:Nat->Int) (ks:List Ck) (i:Nat),(∀v∈l,v.sm)->(∀v∈l,v.ss)->qqe l<90000000000000->qz ks<90000000000000->qqr S f i l=ξ->small S->(PV.fbL S f ks i l).size<=qz (ks.drop i)+50000*qqe l
  | [],f,ks,i,_,_,_,_,_,_=>by rw[PV.fbL];show 0<=_;omega
  | v::l,f,ks,i,A,B,hw,C,h,hS=>by rw[qqr,φ]at h;rw[qqe]at hw⊢;have G:=zi4 v (f i) ⟨A v (.head _),B v (.head _)⟩ (by omega) h.1 hS;have a2:=fbL_size l f ks (i+1) (λu hu=>A u (.tail _ hu)) (λu hu=>B u (.tail _ hu)) (by omega) C h.2 hS;have a3:=zyi ks i C;rw[PV.fbL,jr,jr];omega
end
def zi3{v:PV} (A:¬(t<0\/S.length<=t)) (h:qqb S t v=ξ):kX S t v=if(PV.fb S t v).size<=5000 then(0,PV.fb S t v)else(3,mkS []):=by
 unfold kX;rw[if_neg A,if_neg (by rw[h];decide)];obtain⟨e1,e2⟩:=zvj v t (mkS []) h;have e0:mkS []++PV.fb S t v=PV.fb S t v:=by apply PP;rw[PO];rfl
 rw[e0]at e1 e2;by_cases u:(PV.enc S t v (mkS [])).1=ξ
 ·rw[if_pos u,if_pos (e1.1 u),e2 u]
 ·rw[if_neg u,if_neg λg=>u (e1.2 g)]
end
def jQ:List Ck->Ck
 | []=>mkS []
 |a::l=>a++jQ l
def z9j:∀(l m:List Ck),jQ (l++m)=jQ l++jQ m
 | [],m=>by rw[jQ,qqc];apply PP;rw[PO];rfl
 |a::l,m=>by rw[Λ,jQ,jQ,z9j l m,η]
inductive Blk:List Ck->Ck->Prop
 |nil:Blk [] (vz 0)
 |pos {I J:List Ck} {R:Ck} (hI:I≠[]) (h:Blk J R):Blk (I++J) (vz (I.length:Nat)++jQ I++R)
 |neg {I J:List Ck} {R:Ck} (hI:I≠[]) (h:Blk J R):Blk (I++J) (vz (-(I.length:Nat))++vz ((jQ I).size:Nat)++jQ I++R)
mutual
def PV.bl(S:List AT) (t:Int):PV->Ck->Prop
  | .mk n s l ks b,B=>match S[t.toNat]? with
    |none=>False
    |some a=>if qp a.k=ξ then∃I:List Ck,PV.blL S (qG a b) ks 0 l I/\(if a.k=14 then B=vz b++jQ I else if a.k=9 then B=jQ I else Blk I B)else B=PV.fb S t (.mk n s l ks b)
def PV.blL(S:List AT) (f:Nat->Int) (ks:List Ck) (i:Nat):List PV->List Ck->Prop
 | [],I=>I=[]
 |v::l,I=>∃c J,I=(ju ks i++c)::J/\PV.bl S (f i) v c/\PV.blL S f ks (i+1) l J
end
def zhd{S:List AT} {f:Nat->Int} {ks:List Ck}:∀{l:List PV} {i:Nat} {I:List Ck},PV.blL S f ks i l I->I.length=l.length
  | [],i,I,h=>by rw[PV.blL]at h;rw[h];rfl
  | v::l,i,I,h=>by rw[PV.blL]at h;obtain⟨c,J,rfl,_,u⟩:=h;rw[qqy,qqy,zhd u]
open Go.Proofs.YtniogjgfomaicaaGreat.Rv
def zo2(a b:Ck):(a++b).data.toList=a.data.toList++b.data.toList:=by rw[qq2,qze]
def j8i{a b:Ck} (h:a.data.toList=b.data.toList):a=b:=by apply qzm;exact Array.toList_inj.mp h
open Go.Proofs.YtniogjgfomaicaaGreat.Rv
def H1(i:Nat):ju [] i=mkS []:=by unfold ju;simp
def H5(b:Ck):mkS []++b=b:=by apply j8i;rw[zo2];rfl
section
mutual
def PV.sh(S:List AT) (t:Int):PV->Prop
  | .mk n s l ks b=>match S[t.toNat]? with
    |none=>False
    |some a=>if qp a.k=ξ then PV.shL S (qG a b) 0 l else(PV.fb S t (.mk n s l ks b)).size<=5000
def PV.shL(S:List AT) (f:Nat->Int) (i:Nat):List PV->Prop
 | []=>True
 |v::l=>PV.sh S (f i) v/\PV.shL S f (i+1) l
end
def PV.fitz(S:List AT) (t:Int) (v:PV):Prop:=qqb S t v=ξ/\PV.sh S t v
def z87{S:List AT} {f:Nat->Int}:∀{l:List PV} {i:Nat},(∀(j:Nat) (h:j<l.length),PV.sh S (f (i+j)) l[j])->PV.shL S f i l
  | [],i,h=>by rw[PV.shL];trivial
  | v::l,i,h=>by rw[PV.shL];refine⟨h 0 (by simp),z87 λj u=> ?_⟩;have:=h (j+1) (by simp;omega);rw[show i+1+j=i+(j+1)by omega];simpa using this
variable {S:List AT}
def zk1{f:Nat->Int} {t:Int} (u:∀i,f i=t) {l:List PV} (h:∀v∈l,PV.sh S t v):PV.shL S f 0 l:=z87 λj A=>by rw[u];exact h _ (ε A)
variable {i:Nat}
def X5(hi:i<S.length) {n:Int} {s:Ck} {l:List PV} {ks:List Ck} {b:Int} (u:qp S[i].k=ξ) (h:PV.shL S (qG S[i] b) 0 l):PV.sh S i (.mk n s l ks b):=by rw[PV.sh,γ,δ hi];dsimp only;rw[if_pos u];exact h
def CQ(hi:i<S.length) {v:PV} (u:qp S[i].k=Β) (h:(PV.fb S i v).size<=5000):PV.sh S i v:=by obtain⟨n,s,l,ks,b⟩:=v;rw[PV.sh,γ,δ hi];dsimp only;rw[if_neg (by rw[u];decide)];exact h
def k0g(n:Int): -9223372036854775808<=ζ .i64 n/\ζ .i64 n<9223372036854775808:=by simp[ζ,qqn,qqi];omega
def zvk(hi:i<S.length) {n:Int} (u:zo S[i].k=ξ) (h:vi S[i] n=ξ):PV.fitz S i (.mk n (mkS []) [] [] 0):=by
 refine⟨j93 hi u h,CQ hi ?_ ?_⟩
 ·unfold zo at u;have:=of_decide_eq_true u;unfold qp;exact decide_eq_false (by omega)
 ·unfold zo at u;have:=of_decide_eq_true u;have w:=k0g n;have v:=yK _ w.1 w.2;have e0:(mkS []).size=0:=rfl;rw[PV.fb,γ,δ hi];dsimp only
  (repeat' split)<;>first| (rw[HG];omega)|omega
def PZ(hi:i<S.length) {s:Ck} (u:q8 S[i].k=ξ) (h:yV S[i] s=ξ) (A:if S[i].k=11 then s.size<=5000 else s.size<=4990):PV.fitz S i (.mk 0 s [] [] 0):=by
 refine⟨j94 hi u h,CQ hi ?_ ?_⟩
 ·unfold q8 at u;have:=of_decide_eq_true u;unfold qp;exact decide_eq_false (by omega)
 ·unfold q8 at u;have:=of_decide_eq_true u;have v:=yK (s.size:Int);have e0:(mkS []).size=0:=rfl;rw[PV.fb,γ,δ hi];dsimp only
  (repeat' split)<;>first|omega|skip
  ·rw[qq3];rw[if_neg (by omega)]at A;have:=v (by omega) (by omega);omega
  ·rw[if_pos (by assumption)]at A;exact A
def zdc(hi:i<S.length) (u:S[i].k=9) {l:List PV} (G:l.length=S[i].fs.length) (h:∀(j:Nat) (A:j<l.length) (B:j<S[i].fs.length),PV.fitz S (S[i].fs[j]).ty l[j]):PV.fitz S i (.mk 0 (mkS []) l [] 0):=by
 refine⟨zox hi u G λj A B=>(h j A B).1,X5 hi (by unfold qp;exact decide_eq_true (.inl u)) (z87 λj C=> ?_)⟩;have e:qG S[i] 0 (0+j)=(S[i].fs[j]'(by omega)).ty:=by unfold qG;rw[if_pos u,qqa,δ (by omega)]
 rw[e];exact(h j C (by omega)).2
def zdd(hi:i<S.length) (A:S[i].k=14) {b:Nat} (B:b<S[i].brs.length) {v:PV} (h:PV.fitz S (S[i].brs.getD b 0) v):PV.fitz S i (.mk 0 (mkS []) [v] [] b):=by
 refine⟨zoy hi A B h.1,X5 hi (by unfold qp;exact decide_eq_true (by omega)) (z87 λj u=> ?_)⟩;obtain rfl:j=0:=by simp at u;exact u
 have e:qG S[i] (b:Int) (0+0)=S[i].brs.getD b 0:=by unfold qG;rw[if_neg (by omega),if_pos A,γ]
 rw[e];exact h.2
def zda(hi:i<S.length) (A:S[i].k=12) {l:List PV} (h:∀v∈l,PV.fitz S S[i].it v):PV.fitz S i (.mk 0 (mkS []) l [] 0):=
 ⟨zov hi A λv u=>(h v u).1,X5 hi (by unfold qp;exact decide_eq_true (by omega)) (zk1 (λj=>by unfold qG;rw[if_neg (by omega),if_neg (by omega)]) λv u=>(h v u).2)⟩
def zdb(hi:i<S.length) (B:S[i].k=13) {l:List PV} {ks:List Ck} (C:ks.length=l.length) (u:yN ks=ξ) (h:∀v∈l,PV.fitz S S[i].it v):PV.fitz S i (.mk 0 (mkS []) l ks 0):=
 ⟨zow hi B C u λv A=>(h v A).1,X5 hi (by unfold qp;exact decide_eq_true (by omega)) (zk1 (λj=>by unfold qG;rw[if_neg (by omega),if_neg (by omega)]) λv A=>(h v A).2)⟩
end
def Vu:yd->Prop:=λ⟨S,x,t,v⟩=>qp (qe S t).k=Β/\1<=(qe S t).k/\(qe S t).k<=14
def Cb:Ct:={CC with pre:=λs=>CC.pre s/\Vu s}
def CX:yd->WayF:=λz=>{
 cut:=λi t h=>match i with
  |19=>Ε {σ:=Unit,t:=λ_=>[(56, .bool Β),(18, .int .i64 1)],h:=λ_=>[],more:=0,μ:=λ_=>0,keep:=[1,3,5,6,7]}
  |29=>Ξ
  |32=>Ξ
  |_=>(jjz z).cut i t h}
def Ya:Ct:={zcs with pre:=λs=>zcs.pre s/\Vu s}
abbrev uq:=List AT×SV×Int×GV×SV×List Int×Int
def bkM(S:List AT) (x:SV) (v:GV) (y:SV) (L:List Int):PF:=⟨ξ,λp=>(qd S x p/\v.ok p)/\qc qj y L p,λ_ _ h e=>⟨⟨yG h e.1.1,GV.ok_mono h e.1.2⟩,ji h e.2⟩⟩
def Yn:uq->Prop:=λ⟨S,x,t,v,y,L,n⟩=>zp S/\qqb S t v.pv=ξ/\PV.sh S t v.pv/\v.pv.sn/\v.pv.wt<90000000000000/\0<=n/\n<=L.length/\z8 L
def xQ:uq->Ck×Int->Prop:=λ⟨S,x,t,v,y,L,n⟩ ⟨r,n'⟩=>PV.bl S t v.pv r/\r.size+20<=400*v.pv.wt/\n<=n'/\n'<=L.length
def Jh:CtR where
 σ:=uq
 args:=λ⟨S,x,t,v,y,L,n⟩=>[.ptr 1 0,kh x, .sv (.int .i64 t),v.av]
 h:=λ⟨S,x,t,v,y,L,n⟩=>jf y n
 m:=2
 pre:=λz=>Yn z
 mem:=λ⟨S,x,t,v,y,L,n⟩=>bkM S x v y L
 β:=λ_=>Ck×Int
 post:=λz b=>xQ z b
 pm:=λ_ _=>{}
 r:=λ_ ⟨r,n'⟩=> .sv (.string r)
 h':=λ⟨S,x,t,v,y,L,n⟩ ⟨r,n'⟩=>jf y n'
 m':=2
def Z7:uq->Nat:=λ⟨S,x,t,v,y,L,n⟩=>SizeOf.sizeOf v
def KV(I:List Ck) (out:Ck):Prop:=∀J R,Blk J R->Blk (I++J) (out++R)
def XS(S:List AT) (a:AT) (v:GV) (L:List Int) (n:Int) (j:Nat) (h:Int) (out:Ck):Prop:=j<=v.l.length/\(n<=h/\h<=L.length)/\∃I,PV.blL S (qG a v.b) [] 0 ((ι v.l).take j) I/\out=jQ I/\out.size<=400*qqe ((ι v.l).take j)
def xn(S:List AT) (a:AT) (v:GV) (L:List Int) (n:Int) (i:Nat) (h:Int) (out:Ck):Prop:=i<=v.l.length/\(n<=h/\h<=L.length)/\∃I,PV.blL S (λ_=>a.it) v.ks 0 ((ι v.l).take i) I/\KV I out/\out.size<=400*(qqe ((ι v.l).take i)+qz (v.ks.take i))
def xm(S:List AT) (a:AT) (v:GV) (L:List Int) (n:Int) (i:Nat) (c:Int) (m:Nat) (u:Int) (h:Ck):Prop:=(i<=m/\(m:Int)<=i+c/\(i:Int)+c<=v.l.length)/\(n<=u/\u<=L.length)/\∃K,PV.blL S (λ_=>a.it) v.ks i (((ι v.l).drop i).take (m- i)) K/\h=jQ K/\h.size+20*(m- i)<=400*(qqe (((ι v.l).drop i).take (m- i))+qz ((v.ks.drop i).take (m- i)))
def Q6(k:Int):Bool:=decide (k=12\/k=13)
def wBk:uq->WayF:=λ⟨S,x,t,v,y,L,n⟩=>{
  spl:=λi=>match i with
    |5=>Ε 15
    |10=>Ε 14
    |23=>Ε 10
    |_=>Ξ
  flo:=λi=>match i with
    |10=>Ε (14,[0])
    |23=>Ε (10,[0])
    |_=>Ξ
  cut:=λi B _=>match i with
    |14=>xN Q6 70 24 [0,2,5,7,9,10,24,70] B
    |_=>Ξ
  ann :=λid B C=>match id with
    |1=>Ε {σ:=Nat×Int×Ck,pre:=λ⟨j,u,out⟩=>XS S (qe S t) v L n j u out,t:=λ⟨j,u,out⟩=>[(11, .sv (.int .i64 (j:Nat))),(10, .sv (.string out))],h:=λ⟨j,u,out⟩=>jf y u,more:=60,μ:=λ⟨j,u,out⟩=>v.l.length- j,keep:=[0,2,5,7,9]}
    |3=>Ε {σ:=Nat×Int×Ck,pre:=λ⟨j,u,out⟩=>xn S (qe S t) v L n j u out,t:=λ⟨j,u,out⟩=>[(12, .sv (.int .i64 (j:Nat))),(10, .sv (.string out))],h:=λ⟨j,u,out⟩=>jf y u,more:=60,μ:=λ⟨j,u,out⟩=>v.l.length- j,keep:=[0,2,5,7,9]}
    | _=>match jO B 12,jO B 13 with
      |some i,Ε c=>Ε {σ:=Nat×Int×Ck,pre:=λ⟨m,u,A⟩=>xm S (qe S t) v L n i.toNat c m u A,t:=λ⟨m,u,A⟩=>[(15, .sv (.int .i64 (m:Nat))),(14, .sv (.string A))],h:=λ⟨m,u,A⟩=>jf y u,more:=60,μ:=λ⟨m,u,A⟩=>(i+c- m).toNat,keep:=[0,2,5,7,9,10,12,13]}
      |_,_=>Ξ}
section
variable (g:Int) (d:SV) (e:List AT) (c:GV) (h:SV) (f:List Int) (G:Int) (L:Nat) (I:Int) (K:Ck) (i:Option Addr) (k:Nat) (D:Int) (m:Option Addr) (o p:Nat) (t:Bool) (u:Ck) (q:Int) (v:Option Addr) (r w:Nat) (z:Option Addr) (A B H:Nat) (a E:Nat×Int×Ck) (J:List Int) (R:Prop) (C:uq) (N:Ck×Int) (x32:Ck) (x33:Int) (x34:Nat->Option Obj) (x35:Nat×Int×Ck) (x36:yd)
 abbrev kW:=True/\(qd e d x34/\υ c x34)/\qc qj h f x34
 def Rb:=((-9223372036854775808:Int)<=g/\g<9223372036854775808)
 abbrev vZ:=(↑(π c).2.1:Int)
 def D_:=(∀j,kW d e c h f j->q37 j (adr (π c).1 ((0:Nat)*5)) [int u64 g,string K,slice i L k,slice m o p,int i64 G])
 abbrev D7:=slice (π c).1 (π c).2.1 (π c).2.2
 def D2:=C.2.1.1=d.1/\C.2.1.2.1=d.2.1/\C.2.1.2.2=d.2.2/\C.2.2.1=g/\Ζ C.2.2.2.1=G/\Η C.2.2.2.1=K/\(π C.2.2.2.1).1=i/\(π C.2.2.2.1).2.1=L/\(π C.2.2.2.1).2.2=k/\(ς C.2.2.2.1).1=m/\(ς C.2.2.2.1).2.1=o/\(ς C.2.2.2.1).2.2=p/\Ο C.2.2.2.1=I/\C.2.2.2.2.1.1=h.1/\C.2.2.2.2.1.2.1=h.2.1/\C.2.2.2.2.1.2.2=h.2.2/\R
 def D3:=(qd C.1 C.2.1 x34/\υ C.2.2.2.1 x34)/\qc qj C.2.2.2.2.1 C.2.2.2.2.2.1 x34
 abbrev v7:=List.toArray (Proofs.YtniogjgfomaicaaGreat.Rv.venc (zg g))
 def Xj:=d.1=C.2.2.2.2.1.1/\d.2.1=C.2.2.2.2.1.2.1/\d.2.2=C.2.2.2.2.1.2.2/\R
 def dL:=size (χ (v7 g))+size N.1<=9223372036854775807/\∃(j:Ck×Int),j.1=χ (v7 g)++N.1/\Xj d (j.2=N.2/\xQ (e,h,G,c,d,f,I) j/\True) C
 def yM:=d.1=d.1/\d.2.1=d.2.1/\d.2.2=d.2.2/\R
 def xg:=Ζ c=Ζ c/\Η c=Η c/\(π c).1=(π c).1/\(π c).2.1=(π c).2.1/\(π c).2.2=(π c).2.2/\(ς c).1=(ς c).1/\(ς c).2.1=(ς c).2.1/\(ς c).2.2=(ς c).2.2/\Ο c=Ο c/\yM d (g=g/\K=K/\i=i/\L=L/\k=k/\G=G/\m=m/\o=o/\p=p/\t=t/\u=u/\I=I/\v=v/\r=r/\w=w/\z=z/\A=A/\B=B/\(∀j,kW d e c h f j->kW d e c h f j)/\R)
 def M8:=(0<=(↑a.1:Int)/\(↑a.1:Int)<(vZ c))/\(π c).1≠noA/\R
 def M6:=(∀j,kW d e c h f j->q37 j (adr (π c).1 (toNat (↑a.1:Int)*5)) [int u64 g,string K,slice i L k,slice m o p,int i64 G])
 def M5:=D2 g d h G L I K i k m o p (C.2.2.2.2.2.2=a.2.1/\(Z7 C<r/\Yn C)/\(∀j,kW d e c h f j->D3 C j)/\R) C
 abbrev M':=Jb ((↑a.1:Int)+1)
 def Ra:=length (GV.l c)- a.1<length (GV.l c)- E.1/\True
 def dK:=size a.2.2+size N.1<=9223372036854775807/\M' a/\∃(j:Nat×Int×Ck),(↑j.1:Int)=(↑a.1:Int)+1/\g=g/\j.2.2=a.2.2++N.1/\Xj d (j.2.1=N.2/\xg G h e c d f I L D K i k m o p t u v r w z A B (XS e (qe e g) c f q j.1 j.2.1 j.2.2/\Ra c j a)) C
 def D0:=(0<=(↑a.1:Int)/\(↑a.1:Int)<(↑L:Int))/\i≠noA/\∃(j:Int),(∀Q,kW d e c h f Q->q37 Q (Addr.add (adr i (toNat (↑a.1:Int)*9)) 2) [int i64 j])/\M8 c a (∃(M:Int),∃S,∃T,∃(Y:Nat),∃(i6:Nat),∃i7,∃(i8:Nat),∃(i9:Nat),∃(O:Int),M6 M d e c h f O Y S T i6 i7 i8 i9 a/\∃(Z:uq),M5 j d e c h f M Y O S T i6 i7 i8 i9 k a (∀(i12:Ck×Int),xQ Z i12->dK g h e c d f G o I K m p D v r w t u q i L A z B H a Z i12) Z)
 def dH:=(D0 g d e c h f G L I K i k D m o p t u q v r w z A B H a)/\D0 g d e c h f G L I K i k D m o p t u q v r w z A B H a
 def dG:=Ji ((↑a.1:Int)<(vZ c)) (dH g d e c h f G L I K i k D m o p t u q v r w z A B H a) (∃(i32:Ck×Int),i32.1=a.2.2/\yM h (i32.2=a.2.1/\xQ (e,d,g,c,h,f,q) i32/\True))
 def dD:=(∃(j:Nat×Int×Ck),(↑j.1:Int)=0/\g=g/\j.2.2=mkS []/\yM d (j.2.1=G/\xg I h e c d f D L q K i k m o p t u v r w z A B (XS e (qe e g) c f G j.1 j.2.1 j.2.2/\True)))/\∀(Q:Nat×Int×Ck),XS e (qe e g) c f G Q.1 Q.2.1 Q.2.2->dG g h e c d f I r D K v H q i L k t u G m o p z w A B Q
 def M7:=(1:Int)+qo f a.2.1 ((vZ c)- (↑a.1:Int))=1+qo f a.2.1 ((vZ c)- (↑a.1:Int))/\g=g/\(↑a.1:Int)=(↑a.1:Int)/\a.2.2=a.2.2/\R
 abbrev uU:=(1:Int)+qo f a.2.1 ((vZ c)- (↑a.1:Int))
 abbrev M_:=Jb ((↑a.1:Int)+(uU c f a))
 def D8:=(0<=(↑a.1:Int)/\(↑a.1:Int)<(↑(ς c).2.1:Int))/\(ς c).1≠noA/\R
 def M9:=(∀j,kW d e c h f j->q37 j (adr (ς c).1 (toNat (↑a.1:Int)*1)) [string K])
 def Xk:=Rb g/\size a.2.2+size (χ (v7 g))<=9223372036854775807/\R
 abbrev D9:=slice (ς c).1 (ς c).2.1 (ς c).2.2
 def D4:=xm e (qe e g) c f G (toNat (↑a.1:Int)) (uU c J a) E.1 E.2.1 E.2.2/\toNat ((↑a.1:Int)+(uU c J a)- (↑E.1:Int))<toNat ((↑a.1:Int)+(uU c J a)- (↑x35.1:Int))/\True
 def dI:=size (a.2.2++χ (v7 g)++K)+size N.1<=9223372036854775807/\M' a/\∃(j:Nat×Int×Ck),(↑j.1:Int)=(↑a.1:Int)+1/\M7 G c f E (j.2.2=a.2.2++χ (v7 g)++K++N.1/\Xj d (j.2.1=N.2/\xg I h e c d J D L q u i k m o p t x32 v r w z A B (D4 G e c J x33 E j f a)) C)
 def D6:=M8 c a (∃(j:Int),∃Q,∃M,∃(S:Nat),∃(T:Nat),∃Y,∃(i6:Nat),∃(i7:Nat),∃(i8:Int),M6 j d e c h f i8 S Q M T Y i6 i7 a/\∃(i9:uq),M5 g d e c h f j S i8 Q M T Y i6 i7 L a (∀(O:Ck×Int),xQ i9 O->dI G h e c d J I k D K i o g m p r t u q v w A z B H a E f i9 O x32 x33) i9)
 def dB:=D8 c a (∃j,M9 d e c h f j a/\∃(M:Int),M=(↑(size j):Int)/\Xk M a (D8 c a (∃S,M9 d e c h f S a/\size (a.2.2++χ (v7 M))+size S<=9223372036854775807/\AV.sv (D9 c)=AV.sv (D9 c)/\∃Y,M9 d e c h f Y a/\AV.sv (string Y)=AV.sv (string S)/\(D6 g d e c h f M L G S i k I m o p t K D v r w z A B H a E J u q)/\D6 g d e c h f M L G S i k I m o p t K D v r w z A B H a E J u q)))
 def dJ:=size a.2.2+size N.1<=9223372036854775807/\M' a/\∃(j:Nat×Int×Ck),(↑j.1:Int)=(↑a.1:Int)+1/\M7 g c f E (j.2.2=a.2.2++N.1/\Xj d (j.2.1=N.2/\xg G h e c d J I L D K i k m o p t u v r w z A B (D4 g e c J q E j f a)) C)
 def D5:=M8 c a (∃(j:Int),∃Q,∃M,∃(S:Nat),∃(T:Nat),∃Y,∃(i6:Nat),∃(i7:Nat),∃(i8:Int),M6 j d e c h f i8 S Q M T Y i6 i7 a/\∃(i9:uq),M5 g d e c h f j S i8 Q M T Y i6 i7 L a (∀(O:Ck×Int),xQ i9 O->dJ G h e c d J I k g K i o D m p r t u q v w A z B H a E f i9 O) i9)
 def dE:=(D5 g d e c h f G L I K i k D m o p t u q v r w z A B H a E J)/\D5 g d e c h f G L I K i k D m o p t u q v r w z A B H a E J
 def rW:=Ji (g=13) (dB G d e c h f I L g K i k D m o p t u q v r w z A B H a E J) (dE G d e c h f I L g K i k D m o p t u q v r w z A B H a E J)
 def rV:=M_ c f a/\Ji ((↑E.1:Int)<(↑a.1:Int)+(uU c f a)) (rW g d e c h J G L I K i k D m o p t u q v r w z A B H E a f) (∃(i67:List Int),(2:Int)=2/\yM h (E.2.1=E.2.1/\(0<=E.2.1/\E.2.1<=(↑(length i67):Int)/\(0:Int)<2/\(2:Int)<1000000/\z8 i67)/\(∀i68,kW d e c h J i68->qc qj (h.1,h.2.1,h.2.2) i67 i68)/\Ji (qo i67 E.2.1 (2:Int)=0) (∃(i69:Int),i69=ζ i64 ((0:Int)- (uU c f a))/\∃(i70:Int),i70=i69/\Xk i70 a (∃(i71:Int),i71=(↑(size E.2.2):Int)/\Rb i71/\size (a.2.2++χ (v7 i70))+size (χ (v7 i71))<=9223372036854775807/\size (a.2.2++χ (v7 i70)++χ (v7 i71))+size E.2.2<=9223372036854775807/\M_ c f a/\∃(W:Nat×Int×Ck),I=I/\(↑W.1:Int)=(↑a.1:Int)+(uU c f a)/\W.2.2=a.2.2++χ (v7 i70)++χ (v7 i71)++E.2.2/\yM h (W.2.1=qh i67 E.2.1/\xg g d e c h J G k D K i o m p r t u v w A z B H (xn e (qe e I) c J q W.1 W.2.1 W.2.2/\Ra c W a)))) (∃(i74:Int),i74=1+qo f a.2.1 ((vZ c)- (↑a.1:Int))/\Xk i74 a (size (a.2.2++χ (v7 i74))+size E.2.2<=9223372036854775807/\M_ c f a/\∃(X:Nat×Int×Ck),I=I/\(↑X.1:Int)=(↑a.1:Int)+(uU c f a)/\X.2.2=a.2.2++χ (v7 i74)++E.2.2/\yM h (X.2.1=qh i67 E.2.1/\xg g d e c h J G k D K i o m p r t u v w A z B H (xn e (qe e I) c J q X.1 X.2.1 X.2.2/\Ra c X a))))))
 def rU:=Jb ((vZ c)- (↑a.1:Int))/\∃(j:List Int),(vZ c)- (↑a.1:Int)=(vZ c)- (↑a.1:Int)/\yM d (a.2.1=a.2.1/\(0<=a.2.1/\a.2.1<=(↑(length j):Int)/\0<(vZ c)- (↑a.1:Int)/\(vZ c)- (↑a.1:Int)<1000000/\z8 j)/\(∀Q,kW h e c d f Q->qc qj (d.1,d.2.1,d.2.2) j Q)/\((-9223372036854775808:Int)<=1+qo j a.2.1 ((vZ c)- (↑a.1:Int))/\(1:Int)+qo j a.2.1 ((vZ c)- (↑a.1:Int))<=9223372036854775807)/\(∃(M:Nat×Int×Ck),(↑M.1:Int)=(↑a.1:Int)/\M7 g c j a (M.2.2=mkS []/\yM d (M.2.1=qh j a.2.1/\xg G h e c d f I L D K i k m o p t u v r w z A B (xm e (qe e g) c f q (toNat (↑a.1:Int)) (uU c j a) M.1 M.2.1 M.2.2/\True))))/\∀(T:Nat×Int×Ck),xm e (qe e g) c f q (toNat (↑a.1:Int)) (uU c j a) T.1 T.2.1 T.2.2->rV G h e c d j I H g K i L D m k o t u q v p r z w A B a T f)
 def rT:=Ji ((↑a.1:Int)<(vZ c)) (rU g d e c h f G L I K i k D m o p t u q v r w z A B H a) (∃(i82:Int),i82=0/\Xk i82 a (∃(i83:Ck×Int),i83.1=a.2.2++χ (v7 i82)/\yM d (i83.2=a.2.1/\xQ (e,h,g,c,d,f,q) i83/\True)))
 def rS:=(∃(j:Nat×Int×Ck),g=g/\(↑j.1:Int)=0/\j.2.2=mkS []/\yM d (j.2.1=G/\xg I h e c d f D L q K i k m o p t u v r w z A B (xn e (qe e g) c f G j.1 j.2.1 j.2.2/\True)))/\∀(M:Nat×Int×Ck),xn e (qe e g) c f G M.1 M.2.1 M.2.2->rT g d e c h f I L D K i k q m o p t u G v r w z A B H M
 abbrev Xl:=(kX x36.1 x36.2.2.1 (qqf x36.2.2.2)).2
 def rR:=(Q6 g=ξ->rS G d e c h f I L g K i k D m o p t u q v r w z A B H)/\(Q6 g=Β->∃(F:yd),F.2.1.1=h.1/\F.2.1.2.1=h.2.1/\F.2.1.2.2=h.2.2/\F.2.2.1=G/\Ζ F.2.2.2=Ζ c/\Η F.2.2.2=Η c/\(π F.2.2.2).1=(π c).1/\(π F.2.2.2).2.1=(π c).2.1/\(π F.2.2.2).2.2=(π c).2.2/\(ς F.2.2.2).1=(ς c).1/\(ς F.2.2.2).2.1=(ς c).2.1/\(ς F.2.2.2).2.2=(ς c).2.2/\Ο F.2.2.2=Ο c/\((small F.1/\QG F.1/\PV.sz (qqf F.2.2.2)/\qzx (qqf F.2.2.2)<90000000000000)/\Vu F)/\(∀i88,kW h e c d f i88->qd F.1 F.2.1 i88/\υ F.2.2.2 i88)/\∀(i89:Unit),True->∀(i90:Option Addr) (i91 i92:Nat),(∃i93,(kW h e c d f i93)/\i91=size (Xl F)/\qgn i93 i90 i91 i92 (q18 (Xl F)))->∃i94,size i94=i91/\(∀i95,(kW h e c d f i95)/\i91=size (Xl F)/\qgn i95 i90 i91 i92 (q18 (Xl F))->qgm i95 i90 (q18 i94))/\∃(i96:Ck×Int),i96.1=i94/\yM d (i96.2=I/\xQ (e,h,G,c,d,f,I) i96/\True))
 def rQ:=(Ji (g=12) (∃(j:Unit),G=G/\g=g/\Q6 g=decide (g=12)/\yM d (I=I/\xg g h e c d f D L q K i k m o p t u v r w z A B (True/\True))) (∃(M:Unit),G=G/\g=g/\Q6 g=decide (g=13)/\yM d (I=I/\xg g h e c d f D L q K i k m o p t u v r w z A B (True/\True))))/\∀(T:Unit),True->rR g d e c h f G L I K i k D m o p t u q v r w z A B H
 def rP:=Ji (g=9) (dD G d e c h f I L g K i k D m o p t u q v r w z A B H) (rQ g d e c h f G L I K i k D m o p t u q v r w z A B H)
 def rO:=(0<=g/\g<(↑d.2.1:Int))/\d.1≠noA/\∃(j:Int),∃Q,∃M,∃(S:Nat),∃(T:Nat),∃(Y:Int),∃i6,∃(i7:Nat),∃(i8:Nat),∃(i9:Bool),∃O,∃(Z:Int),∃i12,∃(i13:Nat),∃(i14:Nat),∃U,∃(i16:Nat),∃(i17:Nat),(∀i18,kW d e c h f i18->q37 i18 (adr d.1 (toNat g*10)) [int i64 j,string Q,slice M S T,int i64 Y,slice i6 i7 i8,bool i9,string O,int i64 Z,slice i12 i13 i14,slice U i16 i17])/\Ji (j=14) (∃(i19:Int),i19=Ο c/\Rb i19/\(0<=Ο c/\Ο c<(↑i16:Int))/\U≠noA/\∃(i20:Int),(∀i21,kW d e c h f i21->q37 i21 (adr U (toNat (Ο c)*1)) [int i64 i20])/\((0:Int)<=0/\0<(vZ c))/\(π c).1≠noA/\∃(i22:Int),∃i23,∃i24,∃(i25:Nat),∃(i26:Nat),∃i27,∃(i28:Nat),∃(i29:Nat),∃(i30:Int),D_ i22 d e c h f i30 i25 i23 i24 i26 i27 i28 i29/\AV.agg [AV.sv (slice d.1 d.2.1 d.2.2)]=AV.agg [AV.sv (slice d.1 d.2.1 d.2.2)]/\AV.sv (slice U i16 i17)=AV.sv (slice U i16 i17)/\AV.sv (int i64 (Ο c))=AV.sv (int i64 (Ο c))/\∃(i32:Int),(∀i33,kW d e c h f i33->q37 i33 (adr U (toNat (Ο c)*1)) [int i64 i32])/\AV.sv (int i64 i32)=AV.sv (int i64 i20)/\AV.sv (D7 c)=AV.sv (D7 c)/\∃(i34:Int),∃i35,∃i36,∃(i37:Nat),∃(i38:Nat),∃i39,∃(i40:Nat),∃(i41:Nat),∃(i42:Int),D_ i34 d e c h f i42 i37 i35 i36 i38 i39 i40 i41/\AV.agg [AV.sv (int u64 i34),AV.sv (string i35),AV.sv (slice i36 i37 i38),AV.sv (slice i39 i40 i41),AV.sv (int i64 i42)]=AV.agg [AV.sv (int u64 i22),AV.sv (string i23),AV.sv (slice i24 i25 i26),AV.sv (slice i27 i28 i29),AV.sv (int i64 i30)]/\∃(V:uq),D2 i20 d h i22 i25 i30 i23 i24 i26 i27 i28 i29 (V.2.2.2.2.2.2=G/\(Z7 V<L/\Yn V)/\(∀i45,kW d e c h f i45->D3 V i45)/\∀(i46:Ck×Int),xQ V i46->dL i19 h e c d f g G V i46) V) (rP j h e c d f g S G Q M T Y i6 i7 i8 i9 O Z i12 i13 i14 U i16 i17 L)
end
def zxe(k:Nat) (S:List AT) (x:SV) (t:Int) (v:GV) (y:SV) (L:List Int) (n:Int):qk3 P (qf5 [(25,Lb),(23,Q4),(26,Ya)]) (qg7 [(11,Jh.below Z7 k)]) Tryz.f11 (Jh.below Z7 (k+1)) (wBk) ⟨S,x,t,v,y,L,n⟩=(Z7 (S,x,t,v,y,L,n)<k+1/\Yn (S,x,t,v,y,L,n)->(∃(p:Pub),kW x S v y L p)->rO t x S v y L n k):=by kernel_rfl
def j8m:=λk S x t v y L n=>Ω (zxe k S x t v y L n) (by delta Ji Jb Jt Jf kW Rb vZ D_ D7 D2 D3 v7 Xj dL yM xg M8 M6 M5 M' Ra dK D0 dH dG dD M7 uU M_ D8 M9 Xk D9 D4 dI D6 dB dJ D5 dE rW rV rU rT rS Xl rR rQ rP rO;exact rfl)
section
def O'{S:List AT} {f:Nat->Int} {ks:List Ck}:∀{l:List PV} {i:Nat} {I:List Ck} {v:PV} {c:Ck},PV.blL S f ks i l I->PV.bl S (f (i+l.length)) v c->PV.blL S f ks i (l++[v]) (I++[ju ks (i+l.length)++c])
  | [],i,I,v,c,h,u=>by rw[PV.blL]at h;subst h;rw[qqc,qqc,PV.blL];exact⟨c,[],rfl,u,by rw[PV.blL]⟩
  | w::l,i,I,v,c,h,u=>by rw[PV.blL]at h;obtain⟨d,J,rfl,A,B⟩:=h;rw[Λ,Λ,PV.blL];have e:i+(w::l).length=i+1+l.length:=(by simp;omega);rw[e]at u⊢;exact⟨d,_,rfl,A,O' B u⟩
def zcq{S:List AT} {f:Nat->Int} {ks:List Ck}:∀{l m:List PV} {i:Nat} {I J:List Ck},PV.blL S f ks i l I->PV.blL S f ks (i+l.length) m J->PV.blL S f ks i (l++m) (I++J)
  | [],m,i,I,J,h,hm=>by rw[PV.blL]at h;subst h;exact hm
  | w::l,m,i,I,J,h,hm=>by rw[PV.blL]at h;obtain⟨d,K,rfl,u,A⟩:=h;rw[Λ,Λ,PV.blL];have e:i+(w::l).length=i+1+l.length:=(by simp;omega);rw[e]at hm;exact⟨d,_,rfl,u,zcq A hm⟩
def z9k(c:Ck):jQ [c]=c:=by rw[jQ,jQ,z35]
def z76(I:List Ck) (c:Ck):jQ (I++[c])=jQ I++c:=by rw[z9j,z9k]
def znu:KV [] (mkS []):=λJ R h=>by rw[qqc,H5];exact h
variable {out:Ck}
def znv{I K:List Ck} (h:KV I out) (u:K≠[]):KV (I++K) (out++vz (K.length:Nat)++jQ K):=λJ R A=>by have:=h _ _ (Blk.pos u A);rw[←qzs]at this;rw[η,η];rw[η]at this;exact this
def znt{I K:List Ck} (h:KV I out) (u:K≠[]):KV (I++K) (out++vz (-(K.length:Nat))++vz ((jQ K).size:Nat)++jQ K):=λJ R A=>by have:=h _ _ (Blk.neg u A);rw[←qzs]at this;rw[η,η,η];rw[η,η]at this;exact this
variable {I:List Ck}
def zns(h:KV I out):Blk I (out++vz 0):=by have:=h _ _ Blk.nil;rw[qqh]at this;exact this
variable {l:List PV}
def z9u{j:Nat} (h:j<l.length):l.take (j+1)=l.take j++[l[j]]:=by rw[qqm,δ h];rfl
def zrj{j:Nat} (h:j<l.length):qqe (l.take (j+1))=qqe (l.take j)+qzx l[j]:=by rw[z9u h,z21,Kb]
def Un:∀(l m:List Ck),qz (l++m)=qz l+qz m
 | [],m=>by rw[qqc,qz,qqa]
 |k::l,m=>by rw[Λ,qz,qz,Un l m];omega
def zqp{S:List AT} {t:Int} {a:AT} {N:Int} {s:Ck} {l:List PV} {ks:List Ck} {b:Int} (hs:S[t.toNat]? =Ε a) (hq:qp a.k=ξ) (h:PV.sh S t (.mk N s l ks b)):PV.shL S (qG a b) 0 l:=by rw[PV.sh,hs]at h;dsimp only at h;rw[if_pos hq]at h;exact h
def CP{S:List AT} {f:Nat->Int}:∀{l:List PV} {i:Nat},PV.shL S f i l->∀(j:Nat) (u:j<l.length),PV.sh S (f (i+j)) l[j]
  |v::l,i,h,0,_=>by rw[PV.shL]at h;exact h.1
  | v::l,i,h,j+1,u=>by rw[PV.shL]at h;have:=CP h.2 j (by simpa using u);rw[show i+(j+1)=i+1+j by omega];exact this
variable {S:List AT} {t:Int} {a:AT}
def j00{v:PV} (hs:S[t.toNat]? =Ε a) (hq:qp a.k=Β) (h:PV.sh S t v):(PV.fb S t v).size<=5000:=by obtain⟨N,s,l,ks,b⟩:=v;rw[PV.sh,hs]at h;dsimp only at h;rw[if_neg (by rw[hq];decide)]at h;exact h
def zxf{v:PV} (hs:S[t.toNat]? =Ε a) (hq:qp a.k=Β):PV.bl S t v (PV.fb S t v):=by obtain⟨N,s,l,ks,b⟩:=v;rw[PV.bl,hs];dsimp only;rw[if_neg (by rw[hq];decide)]
variable {N:Int} {s:Ck} {b:Int}
def j8o(hs:S[t.toNat]? =Ε a) (u:a.k=9) (h:PV.blL S (qG a b) [] 0 l I):PV.bl S t (.mk N s l [] b) (jQ I):=by rw[PV.bl,hs];dsimp only;rw[if_pos (by unfold qp;exact decide_eq_true (.inl u))];exact⟨I,h,by rw[if_neg (by omega),if_pos u]⟩
def j8p{w:PV} {c:Ck} (hs:S[t.toNat]? =Ε a) (u:a.k=14) (h:PV.bl S (qG a b 0) w c):PV.bl S t (.mk N s [w] [] b) (vz b++c):=by rw[PV.bl,hs];dsimp only;rw[if_pos (by unfold qp;exact decide_eq_true (by omega))];refine⟨[ju [] 0++c],by rw[PV.blL];exact⟨c,[],rfl,h,by rw[PV.blL]⟩,?_⟩;rw[if_pos u,z9k,H1,H5]
def j8n{ks:List Ck} {B:Ck} (hs:S[t.toNat]? =Ε a) (A:a.k=12\/a.k=13) (h:PV.blL S (λ_=>a.it) ks 0 l I) (C:Blk I B):PV.bl S t (.mk N s l ks b) B:=by
 have u:qG a b=λ_=>a.it:=by funext j;unfold qG;rw[if_neg (by omega),if_neg (by omega)]
 rw[PV.bl,hs];dsimp only;rw[if_pos (by unfold qp;exact decide_eq_true (by omega)),u];exact⟨I,h,by rw[if_neg (by omega),if_neg (by omega)];exact C⟩
end
section
def zd6{S:List AT} {f:Nat->Int}:∀{l:List PV} {i:Nat},qqr S f i l=ξ->∀(j:Nat) (u:j<l.length),qqb S (f (i+j)) l[j]=ξ
  |v::l,i,h,0,_=>by rw[qqr,φ]at h;exact h.1
  | v::l,i,h,j+1,u=>by rw[qqr,φ]at h;have:=zd6 h.2 j (by simpa using u);rw[show i+(j+1)=i+1+j by omega];exact this
def Uz{l:List GV} {j:Nat} (h:j<l.length) (h':j<(ι l).length):(ι l)[j]=l[j].pv:=by simp only[qqg,qqx]
variable {a:AT}
def k04{p:Pub} (h:a.ok p) {j:Nat} (A:j<a.fs.length):q37 p ((adr a.f.1 (j*9)).add 2) [.int .i64 a.fs[j].ty]:=λi v hi=>by
  have u:=(w_ h A).2;cases i with
  | zero=>
    simp at hi;subst hi;have:=u 2 _ (show a.fs[j].cells[2]? =Ε (.int .i64 a.fs[j].ty)from rfl);rw[qz3,qz5];exact this
  |succ i=>simp at hi
def PB{n:Nat} {ks:List Ck} {b:Int} (h:vj a n ks b=ξ):(a.k≠13->ks=[])/\(a.k≠14->b=0)/\(a.k=9->n=a.fs.length)/\(a.k=14->0<=b/\b<a.brs.length/\n=1)/\(a.k=13->n=ks.length):=by
 unfold vj at h;split at h
 ·cases h
 rename_i u;refine⟨λg=> ?_,λg=> ?_,λg=> ?_,λg=> ?_,λg=> ?_⟩
 ·cases ks with
  |nil=>rfl
  |cons _ _=>exact absurd (.inl ⟨by simp,g⟩) u
 ·by_cases A:b=0
  ·exact A
  ·exact absurd (.inr ⟨A,g⟩) u
 ·rw[if_pos g]at h;exact of_decide_eq_true h
 ·rw[if_neg (by omega),if_pos g]at h;exact of_decide_eq_true h
 ·rw[if_neg (by omega),if_neg (by omega),if_pos g,φ]at h;exact of_decide_eq_true h.1
def zi2{α:Type} {l:List α} {i m:Nat} (u:i<=m) (h:m<l.length):(l.drop i).take (m+1- i)=(l.drop i).take (m- i)++[l[m]]:=by rw[show m+1- i=(m- i)+1 by omega,qqm,List.getElem?_drop,show i+(m- i)=m by omega,δ h];rfl
def wrn{c:Nat} (h:c<1000000):ζ .i64 (0- (c:Int))= -(c:Int):=by simp[ζ,qqn,qqi];omega
variable {S:List AT} {v:GV} {L:List Int}
def zco{n:Int} {i:Nat} {c:Int} {m:Nat} {T n':Int} {G r:Ck} (h:xm S a v L n i c m T G) (hm:(m:Int)<i+c) (B:m<v.l.length) (J:v.ks=[]\/v.ks.length=v.l.length) (O:∀k∈v.ks,k.size<9223372036854775808) (h1:T<=n') (X:n'<=L.length) (Y:PV.bl S a.it v.l[m].pv r) (hr:r.size+20<=400*v.l[m].pv.wt):xm S a v L n i c (m+1) n' (G++(ju v.ks m++r)):=by
 obtain⟨⟨U,r2,r3⟩,⟨r4,r5⟩,K,r6,r7,V⟩:=h;have C:m<(ι v.l).length:=by rw[Γ];exact B
 have hlen:(((ι v.l).drop i).take (m- i)).length=m- i:=by rw[Ρ,qzw];omega
 have A:=zi2 U C;rw[Uz B C]at A;refine⟨⟨by omega,by omega,r3⟩,⟨by omega,X⟩,K++[ju v.ks m++r],?_,by rw[z76,r7],?_⟩
 ·rw[A];have:=O' (v:=v.l[m].pv) (c:=r) r6 Y;rw[hlen,show i+(m- i)=m by omega]at this;exact this
 ·rw[A,z21,Kb,jr,jr];rcases J with e|e
  ·rw[e,H1];rw[e]at V;simp only[List.drop_nil,List.take_nil,qz]at V⊢;show G.size+(0+r.size)+20*(m+1- i)<=_;omega
  ·have u:m<v.ks.length:=(by omega);have hk:=O _ (ε u);have Z:=yK (v.ks[m].size:Int) (by omega) (by omega);rw[zi2 U u,Un,qz,qz];have H:ju v.ks m=vz (v.ks[m].size:Int)++v.ks[m]:=(by unfold ju;rw[δ u]);rw[H,jr];omega
def zcp{n:Int} {i:Nat} {c:Nat} {X n2 n':Int} {out A hd:Ck} (h:xn S a v L n i X out) (U:xm S a v L n i c (i+c) n2 A) (hc:0<c) (O:n<=n') (T:n'<=L.length) (V:hd=vz (c:Nat)\/hd=vz (-((c:Nat):Int))++vz (A.size:Nat)) (hz:hd.size<=20):xn S a v L n (i+c) n' (out++hd++A):=by
 obtain⟨r1,_,I,Y,H,r6⟩:=h;obtain⟨⟨_,_,s3⟩,_,K,C,J,Z⟩:=U;rw[show i+c- i=c by omega]at C Z;have hlen:((ι v.l).take i).length=i:=by rw[Ρ,Γ];omega
 have B:=zhd C;rw[Ρ,qzw,Γ]at B;have u:K.length=c:=by omega
 have G:K≠[]:=λe=>by rw[e]at u;have:(0:Nat)=c:=u;omega
 refine⟨by omega,⟨O,T⟩,I++K,?_,?_,?_⟩
 ·rw[qq5];exact zcq Y (by rw[hlen,qqa];exact C)
 ·rcases V with e|e
  ·have:=znv H G;rw[u,←J]at this;rw[e];exact this
  ·have:=znt H G;rw[u,←J]at this;rw[e,←η];exact this
 ·rw[qq5,qq5,z21,Un,jr,jr];omega
def j8k{n U V n':Int} {i0 w:Nat} {out h:Ck} (hO:xn S a v L n i0 U out) (J:xm S a v L n i0 ((w+1:Nat):Int) (i0+(w+1)) V h) (hw:w+1<1000000) (hi:i0+(w+1)<=v.l.length) (Y:v.l.length<=1000) (G:n<=n') (H:n'<=L.length) (Z:out.size<100000000000000000) (X:h.size<100000000000000000):∃r:Int,r=ζ .i64 (0- ((w+1:Nat):Int))/\∃u:Int,u=r/\(-9223372036854775808<=u/\u<9223372036854775808)/\out.size+(vz u).size<=9223372036854775807/\∃B:Int,B=(h.size:Int)/\(-9223372036854775808<=B/\B<9223372036854775808)/\(out++vz u).size+(vz B).size<=9223372036854775807/\(out++vz u++vz B).size+h.size<=9223372036854775807/\(-9223372036854775808<=(i0:Int)+((w+1:Nat):Int)/\(i0:Int)+((w+1:Nat):Int)<=9223372036854775807)/\∃A:Nat×Int×Ck,(A.1:Int)=(i0:Int)+((w+1:Nat):Int)/\A.2.2=out++vz u++vz B++h/\A.2.1=n'/\xn S a v L n A.1 A.2.1 A.2.2/\v.l.length- A.1<v.l.length- i0:=by have O:=yK (-((w+1:Nat):Int)) (by omega) (by omega);have T:=yK (h.size:Int) (by omega) (by omega);have C:=zcp (n':=n') (c:=w+1) (hd:=vz (-((w+1:Nat):Int))++vz (h.size:Nat)) hO J (by omega) G H (.inr rfl) (by rw[jr];omega);rw[← @ByteArray.append_assoc out]at C;refine⟨_,(wrn hw).symm,_,rfl,⟨by omega,by omega⟩,by omega,_,rfl,⟨by omega,by omega⟩,by rw[jr];omega,by rw[jr,jr];omega,⟨by omega,by omega⟩,⟨i0+(w+1),n',_⟩,by show((i0+(w+1):Nat):Int)=_;omega,rfl,rfl,C,by show v.l.length- (i0+(w+1))<_;omega⟩
def jj2 (k:Nat) (he0:q4p P 26 Ya) (hb0:q1p P 11 (Jh.below Z7 k)):q1p P 11 (Jh.below Z7 (k+1)):=by
 refine zh (qcl (qgj zdr (qgj Kf (qgj he0 qjq)))) (qdd (qgi hb0 qjp)) (W:=wBk) Tryz.func11 λ⟨S,(x:SV),(t:Int),v,(y:SV),L,(n:Int)⟩=>(j8m k S x t v y L n).mpr ?_;rintro⟨hmu,hok,A,hsh,hsn,hwt,hn0,hn1,hL⟩ ⟨p,_,⟨hx,J⟩,hy⟩;have hmu:SizeOf.sizeOf v<k+1:=hmu;have hr:=Pb A;obtain⟨i,rfl⟩:=Δ hr.1;have hi:i<S.length:=by omega
 have xs:x.2.1=S.length:=hx.1.1;have htp:=λq (hq:qd S x q)=>y_ hq hi;have Y:=λq (hq:qd S x q)=>hq.2 S[i] (ε hi);have B:=hok.2.1 S[i] (ε hi);have hrg:=hok.2.2 S[i] (ε hi);have sm:=hok.1.2 S[i] (ε hi);have hs:S[((i:Nat):Int).toNat]? =Ε S[i]:=by rw[γ,δ hi]
 have hat:qe S ((i:Nat):Int)=S[i]:=by unfold qe;rw[hs];rfl
 obtain⟨_,_,fl,bl⟩:=yH (Y p hx);have xl:=GV.x_len J;have yl:=GV.y_len J;have wl:=GV.wt_len v;have G:=qzn v;have hso:=hsn;rw[G]at hso;obtain⟨_,_,V,_,_,hsnl⟩:=CS hso;rw[Γ]at V;simp only[qB,exists_const,forall_const,γ,xs,xl,yl,hat];have hkid:∀(j:Nat) (Z:j<v.l.length) (U:Int),qp S[i].k=ξ->n<=U->U<=L.length->SizeOf.sizeOf v.l[j]<k/\Yn (S,x,qG S[i] v.b j,v.l[j],y,L,U):=λj Z U hq h1 h2=>by
  have h3:=zfv Z;have h4:=GV.wt_at Z;rw[G]at A hsh;obtain⟨_,hfl⟩:=Yh hs A hq;have hl:=zqp hs hq hsh;have u:j<(ι v.l).length:=by rw[Γ];exact Z
  have f1:=zd6 hfl j u;have f2:=CP hl j u;rw[Uz Z u,qqa]at f1 f2;exact⟨by omega,hok,f1,f2,hsnl _ (by rw[qqg];exact List.mem_map_of_mem (ε Z)),by omega,by omega,h2,hL⟩
 have X:∀(j:Nat) (Z:j<v.l.length) q,(qd S x q/\v.ok q)/\qc qj y L q->(qd S x q/\v.l[j].ok q)/\qc qj y L q:=λj Z q hq=>⟨⟨hq.1.1,GV.ok_at hq.1.2 Z⟩,hq.2⟩;have hcell:=λ(j:Nat) (Z:j<v.l.length) q (hq:(qd S x q/\v.ok q)/\qc qj y L q)=>(Χ hq.1.2 Z).2;refine⟨⟨by omega,by omega⟩,(htp p hx).1,S[i].k,S[i].nm,S[i].al.1,S[i].al.2.1,S[i].al.2.2,S[i].it,S[i].sy.1,S[i].sy.2.1,S[i].sy.2.2,S[i].hd,S[i].df,S[i].sz,S[i].f.1,S[i].f.2.1,S[i].f.2.2,S[i].br.1,S[i].br.2.1,S[i].br.2.2,λq hq=>(htp q hq.1.1).2,λk14=> ?_,λk14=>⟨λk9=> ?_,λk9=>⟨⟨λh=>by unfold Q6;exact j6 (by omega),λh=>by unfold Q6;exact j6 (by omega)⟩,λkq=> ?_,λkq=> ?_⟩⟩⟩
 ·have hq:qp S[i].k=true:=by unfold qp;exact decide_eq_true (by omega)
  have H:=A;rw[G]at H;obtain⟨q1,q2,q3,q4,q5⟩:=PB (Yh hs H hq).1;obtain⟨b0,b1,hl1⟩:=q4 k14;rw[Γ]at hl1;have hks:=q1 (by omega);obtain⟨m,hbm⟩:=Δ b0;have hml:m<S[i].brs.length:=by omega
  have hba:=λq (hq:S[i].ok q)=>uO hq hml;have h0:0<v.l.length:=by omega
  have T:qG S[i] v.b 0=S[i].brs[m]:=by unfold qG;rw[if_neg (by omega),if_pos k14,hbm,γ,qqk,δ hml];rfl
  have B:=hkid 0 h0 n hq (ρ _) hn1;rw[T]at B;have hpv:ι v.l=[v.l[0].pv]:=by apply List.ext_getElem (by rw[Γ,hl1];rfl);intro j h1 h2;have:j=0:=(by simp at h2;exact h2);subst this;rw[Uz h0];rfl
  have hw0:=GV.wt_at h0;have hvz:=yK v.b (by omega) (by omega);simp only[hbm,γ]at hvz⊢;refine⟨(m:Int),rfl,⟨by omega,by omega⟩,⟨by omega,by omega⟩,(hba p (Y p hx)).1,S[i].brs[m],λq hq=>(hba q (Y q hq.1.1)).2,⟨by omega,by omega⟩,(Χ J h0).1,v.l[0].n,v.l[0].s,v.l[0].x.1,v.l[0].x.2.1,v.l[0].x.2.2,v.l[0].y.1,v.l[0].y.2.1,v.l[0].y.2.2,v.l[0].b,λq hq=>(Χ hq.1.2 h0).2,S[i].brs[m],λq hq=>(hba q (Y q hq.1.1)).2,rfl,v.l[0].n,v.l[0].s,v.l[0].x.1,v.l[0].x.2.1,v.l[0].x.2.2,v.l[0].y.1,v.l[0].y.2.1,v.l[0].y.2.2,v.l[0].b,λq hq=>(Χ hq.1.2 h0).2,rfl,⟨S,x,S[i].brs[m],v.l[0],y,L,n⟩,rfl,xs,rfl,rfl,rfl,rfl,rfl,rfl,rfl,rfl,rfl,rfl,rfl,rfl,rfl,rfl,rfl,B,X 0 h0,?_⟩;rintro⟨r,n'⟩ ⟨p1,p2,p3,p4⟩;have p2:r.size+20<=400*v.l[0].pv.wt:=p2;refine⟨by show(vz ((m:Nat):Int)).size+r.size<=_;omega,⟨vz ((m:Nat):Int)++r,n'⟩,rfl,rfl,rfl,rfl,rfl,?_,by show(vz ((m:Nat):Int)++r).size+20<=_;rw[jr];omega,p3,p4⟩;show PV.bl S i v.pv (vz ((m:Nat):Int)++r);rw[G,hpv,hks,hbm];rw[←hbm];exact j8p hs k14 (by rw[T];exact p1)
 ·have hq:qp S[i].k=true:=by unfold qp;exact decide_eq_true (by omega)
  have H:=A;rw[G]at H;obtain⟨q1,q2,q3,q4,q5⟩:=PB (Yh hs H hq).1;have hl9:=q3 k9;rw[Γ]at hl9;have hks:=q1 (by omega);refine⟨⟨⟨0,n,mkS []⟩,rfl,rfl,rfl,by omega,⟨ρ _,hn1⟩,[],by rw[qql,PV.blL],rfl,by rw[qql,qqe];exact Κ _⟩,?_⟩;rintro⟨j,U,out⟩ ⟨r1,⟨r2,r3⟩,I,r4,r5,r6⟩;simp only at r1 r2 r3 r4 r5 r6⊢;refine⟨λhlt=> ?_,λhge=> ?_⟩
  ·have u:j<v.l.length:=(by omega);have hjf:j<S[i].fs.length:=(by omega);have hjp:j<(ι v.l).length:=(by rw[Γ];exact u);have T:qG S[i] v.b j=S[i].fs[j].ty:=(by unfold qG;rw[if_pos k9,δ hjf]);have B:=hkid j u U hq r2 r3;rw[T]at B;have hw0:=GV.wt_at u;have hwv:=GV.wt_eq v;have hfa:=λq (hq:S[i].ok q)=>w_ hq hjf;have hws:=zrj hjp;have hwt2:=Ul (ι v.l) (j+1);rw[Uz u hjp]at hws;refine⟨?xa,?xb⟩;case xa|xb=>
    refine⟨⟨by omega,by omega⟩,(hfa p (Y p hx)).1,S[i].fs[j].ty,λq hq=>k04 (Y q hq.1.1) hjf,⟨by omega,by omega⟩,(Χ J u).1,v.l[j].n,v.l[j].s,v.l[j].x.1,v.l[j].x.2.1,v.l[j].x.2.2,v.l[j].y.1,v.l[j].y.2.1,v.l[j].y.2.2,v.l[j].b,λq hq=>(Χ hq.1.2 u).2,⟨S,x,S[i].fs[j].ty,v.l[j],y,L,U⟩,rfl,xs,rfl,rfl,rfl,rfl,rfl,rfl,rfl,rfl,rfl,rfl,rfl,rfl,rfl,rfl,rfl,B,X j u,?_⟩;rintro⟨r,n'⟩ ⟨p1,p2,p3,p4⟩;have p1:PV.bl S S[i].fs[j].ty v.l[j].pv r:=p1;have p2:r.size+20<=400*v.l[j].pv.wt:=p2;have p3:U<=n':=p3;refine⟨by show out.size+r.size<=_;omega,⟨by omega,by omega⟩,⟨j+1,n',out++r⟩,by show((j+1:Nat):Int)=_;omega,rfl,rfl,rfl,rfl,rfl,⟨by show j+1<=_;omega,⟨qz6 r2 p3,p4⟩,I++[r],?_,by rw[z76,r5],?_⟩,by show v.l.length- (j+1)<v.l.length- j;omega⟩
    ·have hlen:((ι v.l).take j).length=j:=(by rw[Ρ];omega);have:=O' (v:=v.l[j].pv) (c:=r) r4 (by rw[hlen,qqa,T];exact p1);rw[H1,H5]at this;show PV.blL S (qG S[i] v.b) [] 0 ((ι v.l).take (j+1)) (I++[r]);rw[z9u hjp,Uz u hjp];exact this
    ·show(out++r).size<=_;rw[jr];show _<=400*qqe ((ι v.l).take (j+1));omega
  ·have Z:j=v.l.length:=(by omega);have ht:(ι v.l).take j=ι v.l:=Ι (by rw[Γ];omega);rw[ht]at r4 r6;have hwv:=GV.wt_eq v;refine⟨⟨out,U⟩,rfl,rfl,?_,by show out.size+20<=_;omega,r2,r3⟩;show PV.bl S i v.pv out;rw[G,hks,r5];exact j8o hs k9 r4
 ·unfold Q6 at kq;have kq:=of_decide_eq_true kq;have hq:qp S[i].k=true:=by unfold qp;exact decide_eq_true (by omega)
  have H:=A;rw[G]at H;obtain⟨q1,q2,q3,q4,q5⟩:=PB (Yh hs H hq).1;rw[Γ]at q5;have hks:v.ks=[]\/v.ks.length=v.l.length:=by
   by_cases h:S[i].k=13
   ·exact .inr (q5 h).symm
   ·exact .inl (q1 h)
  have hso2:=hsn;rw[G]at hso2;obtain⟨_,_,_,_,hkz,_⟩:=CS hso2;have T:∀j,qG S[i] v.b j=S[i].it:=λj=>by unfold qG;rw[if_neg (by omega),if_neg (by omega)]
  have hwv:=GV.wt_eq v;refine⟨⟨⟨0,n,mkS []⟩,rfl,rfl,rfl,Α _,⟨ρ _,hn1⟩,[],by rw[qql,PV.blL],znu,Α _⟩,?_⟩;rintro⟨i0,U,out⟩ hO;have hO:xn S S[i] v L n i0 U out:=hO;obtain⟨r1,⟨r2,r3⟩,I,r4,r5,r6⟩:=id hO;have hwtk:=Ul (ι v.l) i0;have hkzs:qz (v.ks.take i0)+qz (v.ks.drop i0)=qz v.ks:=by rw[←Un,qzd]
  simp only at r1 r2 r3 r4 r5 r6⊢;refine⟨λhlt=> ?_,λhge=> ?_⟩
  ·have hm0:(0:Int)<(v.l.length:Nat)- (i0:Nat):=(by omega);obtain⟨u1,u2⟩:=yJ (n:=U) hL hm0;obtain⟨u3,u4,_⟩:=yI r3;refine⟨⟨by omega,by omega⟩,L,⟨by omega,r3,by omega,by omega,hL⟩,λq hq=>hq.2,?_⟩;generalize qo L U ((v.l.length:Nat)- (i0:Nat))=w at*;obtain⟨w,rfl⟩:=Δ u1;generalize hn2:qh L U=n2 at*;have hc:(1:Int)+(w:Nat)=((w+1:Nat):Int):=(by omega);rw[hc];have hN0:xm S S[i] v L n i0 ((w+1:Nat):Int) i0 n2 (mkS []):=⟨⟨Κ _,by omega,by omega⟩,⟨qz6 r2 u3,u4⟩,[],by rw[qz7,qql,PV.blL],rfl,by rw[qz7];exact Α _⟩;refine⟨⟨by omega,by omega⟩,⟨⟨i0,n2,mkS []⟩,rfl,rfl,rfl,hN0⟩,?_⟩;rintro⟨m,n3,cc⟩ hN;have hN:xm S S[i] v L n i0 ((w+1:Nat):Int) m n3 cc:=hN;obtain⟨⟨s1,s2,s3⟩,⟨s4,s5⟩,K,s6,s7,s8⟩:=id hN;simp only at s1 s2 s3 s4 s5 s6 s7 s8⊢;have hNb:qqe (((ι v.l).drop i0).take (m- i0))<=qqe ((ι v.l).drop i0):=by have:=Ul ((ι v.l).drop i0) (m- i0);omega
   have hKb:qz ((v.ks.drop i0).take (m- i0))<=qz (v.ks.drop i0):=by have:qz ((v.ks.drop i0).take (m- i0))+qz ((v.ks.drop i0).drop (m- i0))=qz (v.ks.drop i0):=(by rw[←Un,qzd]);omega
   refine⟨⟨by omega,by omega⟩,λhml=> ?_,λhmg=> ?_⟩
   ·have C:m<v.l.length:=(by omega);have B:=hkid m C n3 hq s4 s5;rw[T]at B;have hw0:=GV.wt_at C;refine⟨λk13=> ?_,λk13=> ?_⟩
    ·have hkl:=q5 k13;have hmk:m<v.ks.length:=(by omega);have hy3:=λq (hq:v.ok q)=>CU (show qc qn v.y v.ks q by rw[GV.ok_eq]at hq;exact hq.2.1) hmk;have hk9:=hkz _ (ε hmk);have hkat:=zvr hmk;have hvz:=yK (v.ks[m].size:Int) (by omega) (by omega);have hkB:ju v.ks m=vz (v.ks[m].size:Int)++v.ks[m]:=(by unfold ju;rw[δ hmk]);refine⟨⟨by omega,by omega⟩,(hy3 p J).1,v.ks[m],λq hq=>(hy3 q hq.1.2).2,(v.ks[m].size:Int),rfl,⟨by omega,by omega⟩,by show cc.size+(vz (v.ks[m].size:Int)).size<=_;omega,⟨by omega,by omega⟩,(hy3 p J).1,v.ks[m],λq hq=>(hy3 q hq.1.2).2,by show(cc++vz (v.ks[m].size:Int)).size+v.ks[m].size<=_;rw[jr];omega,v.ks[m],λq hq=>(hy3 q hq.1.2).2,rfl,?xa,?xb⟩;case xa|xb=>
      refine⟨⟨by omega,by omega⟩,(Χ J C).1,v.l[m].n,v.l[m].s,v.l[m].x.1,v.l[m].x.2.1,v.l[m].x.2.2,v.l[m].y.1,v.l[m].y.2.1,v.l[m].y.2.2,v.l[m].b,λq hq=>(Χ hq.1.2 C).2,⟨S,x,S[i].it,v.l[m],y,L,n3⟩,rfl,xs,rfl,rfl,rfl,rfl,rfl,rfl,rfl,rfl,rfl,rfl,rfl,rfl,rfl,rfl,rfl,B,X m C,?_⟩;rintro⟨r,n'⟩ ⟨p1,p2,p3,p4⟩;have p1:PV.bl S S[i].it v.l[m].pv r:=p1;have p2:r.size+20<=400*v.l[m].pv.wt:=p2;have p3:n3<=n':=p3;have O:=zco hN (by omega) C hks hkz p3 p4 p1 p2;have hcat:cc++(ju v.ks m++r)=cc++vz (v.ks[m].size:Int)++v.ks[m]++r:=(by rw[hkB,←η,←η]);rw[hcat]at O;refine⟨by show(cc++vz (v.ks[m].size:Int)++v.ks[m]).size+r.size<=_;rw[jr,jr];omega,⟨by omega,by omega⟩,⟨m+1,n',cc++vz (v.ks[m].size:Int)++v.ks[m]++r⟩,by show((m+1:Nat):Int)=_;omega,rfl,rfl,rfl,rfl,rfl,O,?_⟩;show((i0:Int)+((w+1:Nat):Int)- ((m+1:Nat):Int)).toNat<((i0:Int)+((w+1:Nat):Int)- ((m:Nat):Int)).toNat;omega
    ·have hke:=q1 k13;have hkB:ju v.ks m=mkS []:=(by rw[hke,H1]);refine⟨?xa,?xb⟩;case xa|xb=>
      refine⟨⟨by omega,by omega⟩,(Χ J C).1,v.l[m].n,v.l[m].s,v.l[m].x.1,v.l[m].x.2.1,v.l[m].x.2.2,v.l[m].y.1,v.l[m].y.2.1,v.l[m].y.2.2,v.l[m].b,λq hq=>(Χ hq.1.2 C).2,⟨S,x,S[i].it,v.l[m],y,L,n3⟩,rfl,xs,rfl,rfl,rfl,rfl,rfl,rfl,rfl,rfl,rfl,rfl,rfl,rfl,rfl,rfl,rfl,B,X m C,?_⟩;rintro⟨r,n'⟩ ⟨p1,p2,p3,p4⟩;have p1:PV.bl S S[i].it v.l[m].pv r:=p1;have p2:r.size+20<=400*v.l[m].pv.wt:=p2;have p3:n3<=n':=p3;have O:=zco hN (by omega) C hks hkz p3 p4 p1 p2;rw[hkB,H5]at O;refine⟨by show cc.size+r.size<=_;omega,⟨by omega,by omega⟩,⟨m+1,n',cc++r⟩,by show((m+1:Nat):Int)=_;omega,rfl,rfl,rfl,rfl,rfl,O,?_⟩;show((i0:Int)+((w+1:Nat):Int)- ((m+1:Nat):Int)).toNat<((i0:Int)+((w+1:Nat):Int)- ((m:Nat):Int)).toNat;omega
   ·have hme:m=i0+(w+1):=(by omega);subst hme;obtain⟨u5,u6,_⟩:=yI s5;have hz1:=yK ((w+1:Nat):Int) (by omega) (by omega);have hz2:=yK (-((w+1:Nat):Int)) (by omega) (by omega);have hz3:=yK (cc.size:Int) (by omega) (by omega);refine⟨L,⟨by omega,s5,by decide,by decide,hL⟩,λq hq=>hq.2,λh0=> ?_,λh0=> ?_⟩
    ·exact j8k hO hN (by omega) (by omega) V (by omega) u6 (by omega) (by omega)
    ·have O:=zcp (n':=qh L n3) (hd:=vz ((w+1:Nat):Int)) hO hN (by omega) (by omega) u6 (.inl rfl) (by omega);refine⟨((w+1:Nat):Int),rfl,⟨by omega,by omega⟩,by show out.size+(vz ((w+1:Nat):Int)).size<=_;omega,by show(out++vz ((w+1:Nat):Int)).size+cc.size<=_;rw[jr];omega,⟨by omega,by omega⟩,⟨i0+(w+1),qh L n3,out++vz ((w+1:Nat):Int)++cc⟩,by show((i0+(w+1):Nat):Int)=_;omega,rfl,rfl,O,by show v.l.length- (i0+(w+1))<v.l.length- i0;omega⟩
  ·have Z:i0=v.l.length:=(by omega);have ht:(ι v.l).take i0=ι v.l:=Ι (by rw[Γ];omega);have hkt:qz (v.ks.take i0)<=qz v.ks:=(by omega);rw[ht]at r4 r6;have hz0:=yK 0 (by decide) (by decide);refine⟨0,rfl,⟨by decide,by decide⟩,by show out.size+(vz 0).size<=_;omega,⟨out++vz 0,U⟩,rfl,rfl,?_,by show(out++vz 0).size+20<=_;rw[jr];omega,r2,r3⟩;show PV.bl S i v.pv (out++vz 0);rw[G];exact j8n hs kq r4 (zns r5)
 ·have hnq:qp S[i].k=false:=by unfold Q6 at kq;have kq:=of_decide_eq_false kq;unfold qp;exact decide_eq_false (by omega)
  have hsz5:=j00 hs hnq hsh;have hE:kX S ((i:Nat):Int) v.pv=(0,PV.fb S i v.pv):=by rw[zi3 (by omega) A,if_pos hsz5]
  refine⟨⟨S,x,(i:Nat),v⟩,rfl,xs,rfl,rfl,rfl,rfl,rfl,xl,rfl,rfl,yl,rfl,rfl,⟨⟨hok.1,hok.2.1,hsn.sz,hwt⟩,by show qp (qe S ((i:Nat):Int)).k=Β/\_;rw[hat];exact⟨hnq,B⟩⟩,λq hq=>hq.1,?_⟩;rintro a n8 c ⟨p8,hp8⟩;have e8:n8=(kX S ((i:Nat):Int) v.pv).2.size:=hp8.2.1;rw[hE]at e8;refine⟨PV.fb S i v.pv,e8.symm,λq hq=> ?_,⟨PV.fb S i v.pv,n⟩,rfl,rfl,zxf hs hnq,?_,ρ _,hn1⟩
  ·have h2:=hq.2.2.2;have h2:qgm q a (q18 (kX S ((i:Nat):Int) v.pv).2):=h2;rw[hE]at h2;exact h2
  ·have:=zwr v.pv;show(PV.fb S i v.pv).size+20<=_;omega
def zva(he:q4p P 26 Ya):∀k,q1p P 11 (Jh.below Z7 k)
 |0=>CtR.below_zero (by decide) (by decide) (Sen.enters_of Tryz.func11 (by kernel_rfl)) λs=>rfl
 |k+1=>jj2 k he (zva he k)
def j8j(he:q4p P 26 Ya):q1p P 11 Jh:=CtR.of_below (zva he)
end
section
variable (m:Int) (g:SV) (e:Ck) (p q:Int) (c:AT) (h:List AT) (A:Nat) (d:Nat×Int×Int×List GV×List Ck) (i:Nat×Nat×Int×Int×List GV×List Ck) (j:wA) (v:KW) (w:Prop) (o:zm) (z:Nat->Option Obj)
 abbrev ZV:=g.1=g.1/\g.2.1=g.2.1/\g.2.2=g.2.2/\e=e/\w
 def Wx:=AT.k c=AT.k c/\AT.nm c=AT.nm c/\(AT.al c).1=(AT.al c).1/\(AT.al c).2.1=(AT.al c).2.1/\(AT.al c).2.2=(AT.al c).2.2/\AT.it c=AT.it c/\(AT.sy c).1=(AT.sy c).1/\(AT.sy c).2.1=(AT.sy c).2.1/\(AT.sy c).2.2=(AT.sy c).2.2/\AT.hd c=AT.hd c/\AT.df c=AT.df c/\AT.sz c=AT.sz c/\(AT.f c).1=(AT.f c).1/\(AT.f c).2.1=(AT.f c).2.1/\(AT.f c).2.2=(AT.f c).2.2/\(AT.br c).1=(AT.br c).1/\(AT.br c).2.1=(AT.br c).2.1/\(AT.br c).2.2=(AT.br c).2.2/\w
 def uV:=(True/\qd h g z/\Φ c z)/\ν d.2.2.2.1 z
 abbrev uh:=(qR e (toNat d.2.1)).2
 def Re:=Ζ o.1=0/\Η o.1=mkS []/\(π o.1).1=noA/\(π o.1).2.1=0/\(π o.1).2.2=0/\(ς o.1).1=noA/\(ς o.1).2.1=0/\(ς o.1).2.2=0/\Ο o.1=0/\w
 abbrev YN:=(↑(uh e d).2.2:Int)
 def Xm:=(jJ (ko (qu h e m) e c (toNat p) (toNat q)) (qqf o.1) o.2.2.1 o.2.2.2 o.2.1/\Jn e p q o)
 def Ed:=(uh e d).1=(uh e d).1/\(qR e (toNat d.2.1)).1=(qR e (toNat d.2.1)).1/\w
 abbrev Eb:=Ny h c e m p q i.1 (YN e d) d.2.2.1 (uh e d).1 (qR e (toNat d.2.1)).1 i.2.1 i.2.2.1 i.2.2.2.1 i.2.2.2.2.1 i.2.2.2.2.2
 def x3:=(uV g c h d z)/\ν i.2.2.2.2.1 z
 def Ec:=g.1=v.1.2.1.1.1/\g.2.1=v.1.2.1.1.2.1/\g.2.2=v.1.2.1.1.2.2/\e=v.1.2.1.2.1/\w
 def sg:=Jb ((↑i.2.1:Int)+1)/\∃(a:Nat×Nat×Int×Int×List GV×List Ck),(↑a.2.1:Int)=(↑i.2.1:Int)+1/\m=m/\Ed e d (Ec g e v (a.2.2.1=j.2.2.2.1/\a.2.2.2.1=j.2.2.2.2/\length a.2.2.2.2.1=length j.1/\length a.2.2.2.2.2=length j.2.1/\Wx c (qy a.2.2.2.2.2 (0:Nat)=qy j.2.1 0/\length a.2.2.2.2.2=length j.2.1/\qa θ a.2.2.2.2.1=qa θ j.1/\qa qF a.2.2.2.2.2=qa qF j.2.1/\(∀l,(x3 g c h d i l)/\ν j.1 l->uV g c h d l)/\(∀t,(x3 g c h d i t)/\ν j.1 t->ν a.2.2.2.2.1 t)/\Eb m e p q c h d a/\toNat (qR e (toNat d.2.1)).1- a.2.1<toNat (qR e (toNat d.2.1)).1- i.2.1/\True)))
 def se:=((!decide (j.2.2.1=0))=ξ->∃(a:zm),Re (a.2.1=j.2.2.1/\Ec g e v (a.2.2.1=j.2.2.2.1/\a.2.2.2=j.2.2.2.2/\Xm m e p q c h a/\(∀l,(x3 g c h d i l)/\ν j.1 l->υ a.1 l)/\True)) a)/\((!decide (j.2.2.1=0))=Β->sg m g e p q c h d i j v)
 def Ea:=∃(a:Nat×Int×Int×List GV×List Ck),m=m/\ZV g e (a.2.1=i.2.2.1/\a.2.2.1=i.2.2.2.1/\length a.2.2.2.1=length i.2.2.2.2.1/\length a.2.2.2.2=length i.2.2.2.2.2/\Wx c (qy a.2.2.2.2 (0:Nat)=qy i.2.2.2.2.2 0/\length a.2.2.2.2=length i.2.2.2.2.2/\qa θ a.2.2.2.1=qa θ i.2.2.2.2.1/\qa qF a.2.2.2.2=qa qF i.2.2.2.2.2/\(∀l,x3 g c h d i l->True/\qd h g l/\Φ c l)/\(∀t,x3 g c h d i t->ν a.2.2.2.1 t)/\WA h c e m p q a.1 a.2.1 a.2.2.1 a.2.2.2.1 a.2.2.2.2/\toNat ((↑(size e):Int)+1- a.2.1)<toNat ((↑(size e):Int)+1- d.2.1)/\True))
 def sf:=((!decide (i.2.2.1=(uh e d).1))=ξ->∃(a:zm),Re (a.2.1=2/\ZV g e (a.2.2.1=i.2.2.1/\a.2.2.2=i.2.2.2.1/\Xm m e p q c h a/\(∀l,x3 g c h d i l->υ a.1 l)/\True)) a)/\((!decide (i.2.2.1=(uh e d).1))=Β->Ea m g e p q c h d i)
 def sd:=Ji (0<=(uh e d).1) (sf m g e p q c h d i) (Ea m g e p q c h d i)
 def sb:=Ji ((↑i.2.1:Int)<(qR e (toNat d.2.1)).1) (∃(a:KW),AT.k a.1.2.2.1=AT.k c/\AT.nm a.1.2.2.1=AT.nm c/\(AT.al a.1.2.2.1).1=(AT.al c).1/\(AT.al a.1.2.2.1).2.1=(AT.al c).2.1/\(AT.al a.1.2.2.1).2.2=(AT.al c).2.2/\AT.it a.1.2.2.1=AT.it c/\(AT.sy a.1.2.2.1).1=(AT.sy c).1/\(AT.sy a.1.2.2.1).2.1=(AT.sy c).2.1/\(AT.sy a.1.2.2.1).2.2=(AT.sy c).2.2/\AT.hd a.1.2.2.1=AT.hd c/\AT.df a.1.2.2.1=AT.df c/\AT.sz a.1.2.2.1=AT.sz c/\(AT.f a.1.2.2.1).1=(AT.f c).1/\(AT.f a.1.2.2.1).2.1=(AT.f c).2.1/\(AT.f a.1.2.2.1).2.2=(AT.f c).2.2/\(AT.br a.1.2.2.1).1=(AT.br c).1/\(AT.br a.1.2.2.1).2.1=(AT.br c).2.1/\(AT.br a.1.2.2.1).2.2=(AT.br c).2.2/\a.1.2.2.2=m/\a.1.2.1.1.1=g.1/\a.1.2.1.1.2.1=g.2.1/\a.1.2.1.1.2.2=g.2.2/\a.1.2.1.2.1=e/\a.1.2.1.2.2.1=i.2.2.1/\a.1.2.1.2.2.2=i.2.2.2.1/\qa θ a.2.1=qa θ i.2.2.2.2.1/\qy a.2.2 (0:Nat)=qy i.2.2.2.2.2 0/\length a.2.2=length i.2.2.2.2.2/\qa qF a.2.2=qa qF i.2.2.2.2.2/\length a.2.1=length i.2.2.2.2.1/\length a.2.2=length i.2.2.2.2.2/\(Vl a<A+1/\Ci a)/\(∀l,x3 g c h d i l->(qd a.1.1 a.1.2.1.1 l/\Φ a.1.2.2.1 l)/\ν a.2.1 l)/\∀(t:wA),z75 a t->(∃r,(x3 g c h d i r)/\ν t.1 r)->se m g e p q c h d i t a) (sd m g e p q c h d i)
 def sa:=(∃(a:Nat×Nat×Int×Int×List GV×List Ck),(↑a.2.1:Int)=0/\m=m/\Ed e d (ZV g e (a.2.2.1=(YN e d)/\a.2.2.2.1=d.2.2.1/\length a.2.2.2.2.1=length d.2.2.2.1/\length a.2.2.2.2.2=length d.2.2.2.2/\Wx c (qy a.2.2.2.2.2 (0:Nat)=qy d.2.2.2.2 0/\length a.2.2.2.2.2=length d.2.2.2.2/\qa θ a.2.2.2.2.1=qa θ d.2.2.2.1/\qa qF a.2.2.2.2.2=qa qF d.2.2.2.2/\(∀l,uV g c h d l->uV g c h d l)/\(∀t,uV g c h d t->ν a.2.2.2.2.1 t)/\Eb m e p q c h d a/\True))))/\∀(r:Nat×Nat×Int×Int×List GV×List Ck),Ny h c e m p q r.1 (YN e d) d.2.2.1 (uh e d).1 (qR e (toNat d.2.1)).1 r.2.1 r.2.2.1 r.2.2.2.1 r.2.2.2.2.1 r.2.2.2.2.2->(∃u,x3 g c h d r u)->sb m g e p q c h A d r
 def r_:=Ji ((qR e (toNat d.2.1)).1=0) (∃(a:List GV×List Ck),qa θ a.1=qa θ d.2.2.2.1/\qy a.2 (0:Nat)=qy d.2.2.2.2 0/\length a.2=length d.2.2.2.2/\qa qF a.2=qa qF d.2.2.2.2/\length a.1=length d.2.2.2.1/\length a.2=length d.2.2.2.2/\(length a.1<=2001/\length a.2<=2001/\∃(l:Bool),∃(t:zH),zK l a.2 (ι a.1) t)/\(∀r,uV g c h d r->ν a.1 r)/\∀(u:GV),(∀(E:Bool) (B:zH),zK E a.2 (ι a.1) B->qqf u=PV.mk 0 (mkS []) B.2 B.1 0)->(∃D,(uV g c h d D)/\υ u D)->∃(i8:zm),Ζ i8.1=Ζ u/\Η i8.1=Η u/\(π i8.1).1=(π u).1/\(π i8.1).2.1=(π u).2.1/\(π i8.1).2.2=(π u).2.2/\(ς i8.1).1=(ς u).1/\(ς i8.1).2.1=(ς u).2.1/\(ς i8.1).2.2=(ς u).2.2/\Ο i8.1=Ο u/\i8.2.1=0/\ZV g e (i8.2.2.1=(YN e d)/\i8.2.2.2=d.2.2.1/\Xm m e p q c h i8/\(∀C,(uV g c h d C)/\υ u C->υ i8.1 C)/\True)) (sa m g e p q c h A d)
 def rZ:=ZV g e (d.2.1=d.2.1/\d.2.2.1=d.2.2.1/\qZ ((g.1,g.2.1,g.2.2),e,d.2.1,d.2.2.1)/\((!decide ((uh e d).2.1=0))=ξ->∃(a:zm),Re (a.2.1=(uh e d).2.1/\ZV g e (a.2.2.1=(YN e d)/\a.2.2.2=d.2.2.1/\Xm m e p q c h a/\(∀l,uV g c h d l->υ a.1 l)/\True)) a)/\((!decide ((uh e d).2.1=0))=Β->r_ m g e p q c h A d))
 def rY:=(∃(a:Nat×Int×Int×List GV×List Ck),m=m/\ZV g e (a.2.1=p/\a.2.2.1=q/\length a.2.2.2.1=0/\length a.2.2.2.2=0/\Wx c (qy a.2.2.2.2 (0:Nat)=[]/\length a.2.2.2.2=nat_lit 0/\(∀l,True/\qd h g l/\Φ c l->True/\qd h g l/\Φ c l)/\(∀t,True/\qd h g t/\Φ c t->ν a.2.2.2.1 t)/\WA h c e m p q a.1 a.2.1 a.2.2.1 a.2.2.2.1 a.2.2.2.2/\True)))/\∀(r:Nat×Int×Int×List GV×List Ck),WA h c e m p q r.1 r.2.1 r.2.2.1 r.2.2.2.1 r.2.2.2.2->(∃u,uV g c h r u)->rZ m g e p q c h A r
end
def zob(n:Nat) (S:List AT) (x:SV) (s:Ck) (i c:Int) (a:AT) (h:Int):qk3 P (qf5 [(81,Cc)]) (qg7 [(83,La.below Vl (n+1)),(82,Y4)]) Tryz.f43 ((uk ux ko).below v_ (n+1)) (CW) ⟨S,⟨x,s,i,c⟩,a,h⟩=(v_ (S,(x,s,i,c),a,h)<n+1/\zp S/\a∈S/\ux a/\qZ (x,s,i,c)/\(0<=c/\c<=2000)/\1<=h/\h<=20->(∃(p:Pub),True/\qd S x p/\Φ a p)->rY h x s i c a S n):=by kernel_rfl
def zxg:=λn S x s i c a h=>Ω (zob n S x s i c a h) (by delta Ji Jb Jt Jf ZV Wx uV uh Re YN Xm Ed Eb x3 Ec sg se Ea sf sd sb sa r_ rZ rY;exact rfl)
section
variable (p:Int) (i j:SV) (u v W:Int) (g:AT) (o:List AT) (m:Ck) (H:Nat) (c:Nat×Int×Int×Int×List GV) (a:zi) (d:Nat×Int×Int×Int×Int×List GV) (e:Nat×Nat×Int×Int×Int×List GV) (l:vG) (q:zD) (G:Prop) (B:Nat->Option Obj) (M:zi) (O:Nat×Int×Int×Int×List GV) (E:(Option Addr×Nat×Nat)×(Option Addr×Nat×Nat)×Int×Int×Int×Int) (Q:Nat×Nat×Int×Int×Int×List GV) (U:Option Addr)
 abbrev KG:=True/\qd o i B/\Φ g B/\j.2.1=size m/\qgn B j.1 j.2.1 j.2.2 (q18 m)
 def uW:=i.1=i.1/\i.2.1=i.2.1/\i.2.2=i.2.2/\G
 def KF:=AT.k g=AT.k g/\AT.nm g=AT.nm g/\(AT.al g).1=(AT.al g).1/\(AT.al g).2.1=(AT.al g).2.1/\(AT.al g).2.2=(AT.al g).2.2/\AT.it g=AT.it g/\(AT.sy g).1=(AT.sy g).1/\(AT.sy g).2.1=(AT.sy g).2.1/\(AT.sy g).2.2=(AT.sy g).2.2/\AT.hd g=AT.hd g/\AT.df g=AT.df g/\AT.sz g=AT.sz g/\(AT.f g).1=(AT.f g).1/\(AT.f g).2.1=(AT.f g).2.1/\(AT.f g).2.2=(AT.f g).2.2/\(AT.br g).1=(AT.br g).1/\(AT.br g).2.1=(AT.br g).2.1/\(AT.br g).2.2=(AT.br g).2.2/\G
 def vB:=(KG i j g o m B)/\ν c.2.2.2.2 B
 def Em:=a.1.1=i.1/\a.1.2.1=i.2.1/\a.1.2.2=i.2.2/\a.2.1.1=j.1/\a.2.1.2.1=j.2.1/\a.2.1.2.2=j.2.2/\G
 def Rh:=a.2.1.2.1=size a.2.2.1/\qgn B a.2.1.1 a.2.1.2.1 a.2.1.2.2 (q18 a.2.2.1)
 abbrev kk:=qN a.2.2.1 a.2.2.2.1 a.2.2.2.2.2
 def Xn:=length c.2.2.2.2<=H/\qgm B U (take (length c.2.2.2.2*nat_lit 5) (qa θ c.2.2.2.2))
 def El:=Ζ q.1=0/\Η q.1=mkS []/\(π q.1).1=U/\(π q.1).2.1=length c.2.2.2.2/\(π q.1).2.2=H/\(ς q.1).1=noA/\(ς q.1).2.1=0/\(ς q.1).2.2=0/\Ο q.1=0/\G
 def Rj:=i.1=a.1.1/\i.2.1=a.1.2.1/\i.2.2=a.1.2.2/\j.1=a.2.1.1/\j.2.1=a.2.1.2.1/\j.2.2=a.2.1.2.2/\G
 def Eg:=∀(h r A:Nat) (C:Option Addr) (V N:Nat),(∃i6,(vB i j g o m c i6)/\Xn N c i6 C)->∃(S:zD),El N c S (Rj i j a (S.2.1=(kk a).2.1/\S.2.2.1=a.2.2.2.2.1/\S.2.2.2=(kk a).2.2/\z17 (ko (qu o m p) m g (toNat u) (toNat v)) m u v 0 S/\(∀i8,(vB i j g o m c i8)/\Xn N c i8 C->υ S.1 i8)/\True)) C
 def Ri:=E.2.2.2.2.2=2/\E.1.1=a.1.1/\E.1.2.1=a.1.2.1/\E.1.2.2=a.1.2.2/\E.2.1.1=a.2.1.1/\E.2.1.2.1=a.2.1.2.1/\E.2.1.2.2=a.2.1.2.2/\G
 def Eo:=E.2.2.1=(kk a).2.1/\E.2.2.2.1=a.2.2.2.2.1/\E.2.2.2.2.1=(kk a).2.2/\True/\G
 def Rg:=KF g (length d.2.2.2.2.2=length c.2.2.2.2/\qa θ d.2.2.2.2.2=qa θ c.2.2.2.2/\(∀h,vB i j g o m c h->vB i j g o m c h)/\(∀r,vB i j g o m c r->ν d.2.2.2.2.2 r)/\J1 o g p m u v d.1 d.2.1 d.2.2.1 d.2.2.2.1 a.2.2.2.2.1 d.2.2.2.2.1 ([],ι d.2.2.2.2.2)/\True)
 abbrev Ee:=qD a.2.2.1 a.2.2.2.1/\(∀h,vB i j g o m c h->Rh a h)/\Ji ((kk a).1<0) (∃(r:(Option Addr×Nat×Nat)×(Option Addr×Nat×Nat)×Int×Int×Int×Int),Ri a (Eo a (∃(A:Nat×Int×Int×Int×Int×List GV),A.2.2.1=(kk a).1/\p=p/\A.2.1=u/\i.1=r.1.1/\i.2.1=r.1.2.1/\i.2.2=r.1.2.2/\j.1=r.2.1.1/\j.2.1=r.2.1.2.1/\j.2.2=r.2.1.2.2/\A.2.2.2.1=r.2.2.1/\M.2.2.2.2.1=r.2.2.2.1/\(A.2.2.2.2.1=if r.2.2.2.2.1=0 then r.2.2.2.2.2 else r.2.2.2.2.1)/\Rg p i j v W g o m c M A) r) r) (∃(N:Nat×Int×Int×Int×Int×List GV),N.2.2.1=(kk a).1/\p=p/\N.2.1=u/\Rj i j a (N.2.2.2.1=(kk a).2.1/\M.2.2.2.2.1=a.2.2.2.2.1/\N.2.2.2.2.1=(kk a).2.2/\Rg p i j v W g o m c M N))
 abbrev Er:=V7 o g p m u v e.1 a.2.2.2.2.1 d.2.1 d.2.2.1 d.2.2.2.1 e.2.1 e.2.2.1 e.2.2.2.1 e.2.2.2.2.1 ([],ι e.2.2.2.2.2)
 def x4:=((vB i j g o m c B)/\ν d.2.2.2.2.2 B)/\ν e.2.2.2.2.2 B
 abbrev Rl:=Jb (p+1)
 def dV:=qd l.1 l.2.1.1 B/\l.2.1.2.1.2.1=size l.2.1.2.2.1/\qgn B l.2.1.2.1.1 l.2.1.2.1.2.1 l.2.1.2.1.2.2 (q18 l.2.1.2.2.1)
 def Eh:=(yz l<H/\zp l.1/\qD l.2.1.2.2.1 l.2.1.2.2.2.1/\(0<=l.2.1.2.2.2.2.1/\l.2.1.2.2.2.2.1<=2000)/\0<=l.2.1.2.2.2.2.2/\(0<=l.2.2.1/\l.2.2.1<(↑(length l.1):Int))/\1<=l.2.2.2/\l.2.2.2<=21)/\(∀h,x4 i j g o m c d e h->dV l h)/\G
 abbrev En:=qM l.1 l.2.1.2.2.1 (toNat ((21:Int)- l.2.2.2)) l.2.2.1 (toNat l.2.1.2.2.2.1) (toNat l.2.1.2.2.2.2.1)
 abbrev Ep:=Jb ((↑e.2.1:Int)+1)
 def Ej:=(↑e.2.1:Int)=(↑Q.2.1:Int)+1/\d.2.2.1=d.2.2.1/\p=p/\d.2.1=d.2.1/\d.2.2.2.1=d.2.2.2.1/\i.1=l.2.1.1.1/\i.2.1=l.2.1.1.2.1/\i.2.2=l.2.1.1.2.2/\j.1=l.2.1.2.1.1/\j.2.1=l.2.1.2.1.2.1/\j.2.2=l.2.1.2.1.2.2/\e.2.2.1=q.2.1/\e.2.2.2.1=q.2.2.1/\e.2.2.2.2.1=q.2.2.2/\G
 def Ei:=(∀h,(x4 i j g o m c d e h)/\υ q.1 h->(vB i j g o m c h)/\ν d.2.2.2.2.2 h)/\(∀r,(x4 i j g o m c d e r)/\υ q.1 r->ν Q.2.2.2.2.2 r)/\Er p u v g o m a d Q/\toNat d.2.1- Q.2.1<toNat d.2.1- e.2.1/\True
 def dN:=length (qa θ e.2.2.2.2.2)=length e.2.2.2.2.2*5/\(length e.2.2.2.2.2+nat_lit 1)*80<=140737488355328/\Ep e/\∃(h:Nat×Nat×Int×Int×Int×List GV),Ej p i j d h l q (KF g (length h.2.2.2.2.2=length e.2.2.2.2.2+nat_lit 1/\qa θ h.2.2.2.2.2=qa θ e.2.2.2.2.2++[int u64 (Ζ q.1),string (Η q.1),slice (π q.1).1 (π q.1).2.1 (π q.1).2.2,slice (ς q.1).1 (ς q.1).2.1 (ς q.1).2.2,int i64 (Ο q.1)]/\Ei p i j u v g o m c a d e q h)) e
 def Rf:=Rl p/\∃(h:vG),h.2.2.1=AT.it g/\h.2.2.2=p+1/\h.2.1.1.1=i.1/\h.2.1.1.2.1=i.2.1/\h.2.1.1.2.2=i.2.2/\h.2.1.2.1.1=j.1/\h.2.1.2.1.2.1=j.2.1/\h.2.1.2.1.2.2=j.2.2/\h.2.1.2.2.2.1=e.2.2.1/\h.2.1.2.2.2.2.1=e.2.2.2.1/\h.2.1.2.2.2.2.2=e.2.2.2.2.1/\Eh i j g o m H c d e h (∀(A:zD),z17 (En h) h.2.1.2.2.1 h.2.1.2.2.2.1 (h.2.1.2.2.2.2.1+1) h.2.1.2.2.2.2.2 A->(∃C,(x4 i j g o m c d e C)/\υ A.1 C)->dN p i j u v g o m c a d e h A)
 def sx:=(Rf p i j u v g o m H c a d e)/\(Rf p i j u v g o m H c a d e)/\Rf p i j u v g o m H c a d e
 abbrev x5:=kO a.2.2.1 a.2.2.2.1 a.2.2.2.2.2
 def dU:=Ep e/\∃(h:Nat×Nat×Int×Int×Int×List GV),Ej p i j d h l q (KF g (length h.2.2.2.2.2=length e.2.2.2.2.2/\qa θ h.2.2.2.2.2=qa θ e.2.2.2.2.2/\Ei p i j u v g o m c a d e q h)) e
 def dO:=Ji (q.2.2.2=0) (∃(h:GV×Ck×GV),Ζ h.1=0/\Η h.1=mkS []/\False) (dU p i j u v g o m c a d e l q)
 def Ek:=Eh i j g o m H c d e l (∀(h:zD),z17 (En l) l.2.1.2.2.1 l.2.1.2.2.2.1 (l.2.1.2.2.2.2.1+1) l.2.1.2.2.2.2.2 h->(∃r,(x4 i j g o m c d e r)/\υ h.1 r)->dO p i j u v g o m c a d e l h)
 def dS:=Rl p/\∃(h:vG),h.2.2.1=AT.it g/\h.2.2.2=p+1/\h.2.1.1.1=a.1.1/\h.2.1.1.2.1=a.1.2.1/\h.2.1.1.2.2=a.1.2.2/\h.2.1.2.1.1=a.2.1.1/\h.2.1.2.1.2.1=a.2.1.2.1/\h.2.1.2.1.2.2=a.2.1.2.2/\h.2.1.2.2.2.1=(x5 a).2.1/\h.2.1.2.2.2.2.1=a.2.2.2.2.1/\h.2.1.2.2.2.2.2=(x5 a).2.2/\Ek p i j u v g o m H c M d e h
 abbrev sw:=Ji (AT.k g=12) (sx p i j u v g o m H c a d e) (∃(w:zi),Em i j w (w.2.2.2.1=e.2.2.1/\w.2.2.2.2.1=e.2.2.2.1/\w.2.2.2.2.2=e.2.2.2.2.1/\qD w.2.2.1 w.2.2.2.1/\(∀T,x4 i j g o m c d e T->Rh w T)/\(x5 w).1=(x5 w).1/\size (x5 w).1<9223372036854775808/\((!qP (x5 w).1)=ξ->∃(t:(Option Addr×Nat×Nat)×(Option Addr×Nat×Nat)×Int×Int×Int×Int),Ri w (t.2.2.1=(x5 w).2.1/\t.2.2.2.1=w.2.2.2.2.1/\t.2.2.2.2.1=(x5 w).2.2/\True/\Rl p/\∃(z:vG),z.2.2.1=AT.it g/\z.2.2.2=p+1/\z.2.1.1.1=t.1.1/\z.2.1.1.2.1=t.1.2.1/\z.2.1.1.2.2=t.1.2.2/\z.2.1.2.1.1=t.2.1.1/\z.2.1.2.1.2.1=t.2.1.2.1/\z.2.1.2.1.2.2=t.2.1.2.2/\z.2.1.2.2.2.1=t.2.2.1/\z.2.1.2.2.2.2.1=t.2.2.2.1/\(z.2.1.2.2.2.2.2=if t.2.2.2.2.1=0 then t.2.2.2.2.2 else t.2.2.2.2.1)/\Ek p i j u v g o m H c a d e z) t)/\((!qP (x5 w).1)=Β->dS p i j u v g o m H c w d e a)))
 abbrev Ef:=KF g (length c.2.2.2.2=length e.2.2.2.2.2/\qa θ c.2.2.2.2=qa θ e.2.2.2.2.2/\(∀h,x4 i j g o m O d e h->KG i j g o m h)/\(∀r,x4 i j g o m O d e r->ν c.2.2.2.2 r)/\Zy o g p m u v c.1 c.2.1 c.2.2.1 c.2.2.2.1 ([],ι c.2.2.2.2)/\(((2:Nat)*toNat ((2001:Int)- c.2.2.1)+if c.2.2.2.1=0 then 1 else 0)<2*toNat ((2001:Int)- O.2.2.1)+if O.2.2.2.1=0 then 1 else 0)/\True)
 def Rk:=∃(h:Nat×Int×Int×Int×List GV),p=p/\uW i (uW j (h.2.1=e.2.2.1/\h.2.2.1=e.2.2.2.1/\h.2.2.2.1=e.2.2.2.2.1/\Ef p i j u v g o m h d e c))
 def dR:=Jb (e.2.2.1- d.2.2.2.1)/\((!decide (e.2.2.1- d.2.2.2.1=d.2.2.1))=ξ->∃(h:Nat×Int×Int×Int×List GV),p=p/\uW i (uW j (h.2.1=e.2.2.1/\h.2.2.1=e.2.2.2.1/\h.2.2.2.1=2/\Ef p i j u v g o m h d e c)))/\((!decide (e.2.2.1- d.2.2.2.1=d.2.2.1))=Β->Rk p i j u v g o m c d e)
 def dQ:=Ji (0<=d.2.2.1) (dR p i j u v g o m c d e) (Rk p i j u v g o m c d e)
 def SX:=Ji (e.2.2.2.2.1=0) (dQ p i j u v g o m c d e) (Rk p i j u v g o m c d e)
 def su:=Ji (e.2.2.2.2.1=0) (sw p i j u v g o m H c a d e) (SX p i j u v g o m c d e)
 def sr:=Ji ((↑e.2.1:Int)<d.2.1) (su p i j u v g o m H c a d e) (SX p i j u v g o m c d e)
 def sq:=(∃(h:Nat×Nat×Int×Int×Int×List GV),(↑h.2.1:Int)=0/\d.2.2.1=d.2.2.1/\p=p/\d.2.1=d.2.1/\d.2.2.2.1=d.2.2.2.1/\uW i (uW j (h.2.2.1=d.2.2.2.1/\h.2.2.2.1=a.2.2.2.2.1/\h.2.2.2.2.1=d.2.2.2.2.1/\KF g (length h.2.2.2.2.2=length d.2.2.2.2.2/\qa θ h.2.2.2.2.2=qa θ d.2.2.2.2.2/\(∀r,(vB i j g o m c r)/\ν d.2.2.2.2.2 r->(vB i j g o m c r)/\ν d.2.2.2.2.2 r)/\(∀A,(vB i j g o m c A)/\ν d.2.2.2.2.2 A->ν h.2.2.2.2.2 A)/\Er p u v g o m a d h/\True))))/\∀(C:Nat×Nat×Int×Int×Int×List GV),V7 o g p m u v C.1 a.2.2.2.2.1 d.2.1 d.2.2.1 d.2.2.2.1 C.2.1 C.2.2.1 C.2.2.2.1 C.2.2.2.2.1 ([],ι C.2.2.2.2.2)->(∃V,x4 i j g o m c d C V)->sr p i j u v g o m H c a d C
 abbrev so:=(Ji ((kk a).1<0) (∃(h:Int),h=ζ i64 ((0:Int)- (kk a).1)/\Ji (h<0) (∃(r:(Option Addr×Nat×Nat)×(Option Addr×Nat×Nat)×Int×Int×Int×Int),Ri a (Eo a (∃(A:zi),A.1.1=r.1.1/\A.1.2.1=r.1.2.1/\A.1.2.2=r.1.2.2/\A.2.1.1=r.2.1.1/\A.2.1.2.1=r.2.1.2.1/\A.2.1.2.2=r.2.1.2.2/\A.2.2.2.1=r.2.2.1/\A.2.2.2.2.1=r.2.2.2.1/\(A.2.2.2.2.2=if r.2.2.2.2.1=0 then r.2.2.2.2.2 else r.2.2.2.2.1)/\Ee p i j h u v g o m c A a) r) r) (∃(D:zi),D.1.1=a.1.1/\D.1.2.1=a.1.2.1/\D.1.2.2=a.1.2.2/\D.2.1.1=a.2.1.1/\D.2.1.2.1=a.2.1.2.1/\D.2.1.2.2=a.2.1.2.2/\D.2.2.2.1=(kk a).2.1/\D.2.2.2.2.1=a.2.2.2.2.1/\D.2.2.2.2.2=(kk a).2.2/\Ee p i j h u v g o m c D a)) (∃(L:Nat×Int×Int×Int×Int×List GV),L.2.2.1= -1/\p=p/\L.2.1=(kk a).1/\Rj i j a (L.2.2.2.1=(kk a).2.1/\a.2.2.2.2.1=a.2.2.2.2.1/\L.2.2.2.2.1=(kk a).2.2/\Rg p i j u v g o m c a L)))/\∀(t:Nat×Int×Int×Int×Int×List GV),J1 o g p m u v t.1 t.2.1 t.2.2.1 t.2.2.2.1 a.2.2.2.2.1 t.2.2.2.2.1 ([],ι t.2.2.2.2.2)->(∃z,(vB i j g o m c z)/\ν t.2.2.2.2.2 z)->sq p i j u v g o m H c a t
 def sk:=Ji ((kk a).1=0) (Eg p i j u v g o m c a) (so p i j u v g o m H c a)
 def sj:=Ji (c.2.2.2.1=0) (∃(h:zi),Em i j h (h.2.2.2.1=c.2.1/\h.2.2.2.2.1=c.2.2.1/\h.2.2.2.2.2=c.2.2.2.1/\qD h.2.2.1 h.2.2.2.1/\(∀r,vB i j g o m c r->Rh h r)/\((!decide ((kk h).2.2=0))=ξ->Eg p i j u v g o m c h)/\((!decide ((kk h).2.2=0))=Β->sk p i j u v g o m H c h))) (∀(X Y Z:Nat) (I:Option Addr) (i118 J:Nat),(∃R,(vB i j g o m c R)/\Xn J c R I)->∃(F:zD),El J c F (uW i (uW j (F.2.1=c.2.1/\F.2.2.1=c.2.2.1/\F.2.2.2=c.2.2.2.1/\z17 (ko (qu o m p) m g (toNat u) (toNat v)) m u v 0 F/\(∀K,(vB i j g o m c K)/\Xn J c K I->υ F.1 K)/\True))) I)
 def si:=(∃(h:Nat×Int×Int×Int×List GV),p=p/\uW i (uW j (h.2.1=u/\h.2.2.1=v/\h.2.2.2.1=W/\KF g (length h.2.2.2.2=0/\(∀r,KG i j g o m r->KG i j g o m r)/\(∀A,KG i j g o m A->ν h.2.2.2.2 A)/\Zy o g p m u v h.1 h.2.1 h.2.2.1 h.2.2.2.1 ([],ι h.2.2.2.2)/\True))))/\∀(C:Nat×Int×Int×Int×List GV),Zy o g p m u v C.1 C.2.1 C.2.2.1 C.2.2.2.1 ([],ι C.2.2.2.2)->(∃V,vB i j g o m C V)->sj p i j u v g o m H C
end
def zzp(c:Nat) (S:List AT) (x y:SV) (D:Ck) (n all e:Int) (a:AT) (h:Int):qk3 P (qf5 [(55,ZF),(57,Kc),(58,Uw),(59,uP)]) (qg7 [(31,wB.below yz c),(24,Q5)]) Tryz.f62 ((Jj Az).below x8 (c+1)) (Hu ξ) ⟨S,⟨x,y,D,n,all,e⟩,a,h⟩=(x8 (S,(x,y,D,n,all,e),a,h)<c+1/\zp S/\a∈S/\Az a/\qD D n/\(0<=all/\all<=2000)/\e=0/\1<=h/\h<=20->(∃(p:Pub),KG x y a S D p)->si h x y n all e a S D c):=by kernel_rfl
def j9u:=λc S x y D n all e a h=>Ω (zzp c S x y D n all e a h) (by delta Ji Jb Jt Jf KG uW KF vB Em Rh kk Xn El Rj Eg Ri Eo Rg Ee Er x4 Rl dV Eh En Ep Ej Ei dN Rf sx x5 dU dO Ek dS sw Ef Rk dR dQ SX su sr sq so sk sj si;exact rfl)
section
def Zf(g:Nat->Nat->zG) (D:Ck) (mp:Bool) (F h:Nat) (sz:Int) (r:zH×Nat×Nat):Y1:=if Qh h sz r.2.1=ξ then .no 1 else vH g D mp F r.1 r.2.1 r.2.2
variable {g:Nat->Nat->zG} {D:Ck} {mp:Bool} {st:zH}
def P'{F n c:Nat} {B:Y1} (J:n<=D.size) (U:D.size<F+n) (h:vH g D mp F st n c=B):
  ((qb D n).2.1≠0->B= .no ((qb D n).2.1- 1))/\((qb D n).2.1=0->(qb D n).1=0->B= .ok (st,(qb D n).2.2,c))/\
  ((qb D n).2.1=0->0<(qb D n).1->∃A,D.size<A+(qb D n).2.2/\(jR g D mp (qb D n).1.toNat st (qb D n).2.2 c).bind (Zf g D mp A (qb D n).2.2 (-1))=B)/\
  ((qb D n).2.1=0->(qb D n).1= -9223372036854775808->B= .no 1)/\
  ((qb D n).2.1=0->(qb D n).1<0->(qb D n).1≠ -9223372036854775808->((qb D (qb D n).2.2).2.1≠0->B= .no ((qb D (qb D n).2.2).2.1- 1))/\((qb D (qb D n).2.2).2.1=0->(qb D (qb D n).2.2).1<0->B= .no 1)/\
   ((qb D (qb D n).2.2).2.1=0->0<=(qb D (qb D n).2.2).1->∃A,D.size<A+(qb D (qb D n).2.2).2.2/\(jR g D mp (-(qb D n).1).toNat st (qb D (qb D n).2.2).2.2 c).bind (Zf g D mp A (qb D (qb D n).2.2).2.2 (qb D (qb D n).2.2).1)=B)):=by
 have f1:=yu D n J;have f2:=yu D (qb D n).2.2 f1.2.2.2.2.1;obtain⟨A,rfl⟩:∃A,F=A+1:=⟨F- 1,by omega⟩;rw[vH]at h;unfold Cr uz at h;generalize qb D n=T at*;obtain⟨v,e,O⟩:=T;simp only at f1 f2 h⊢;refine⟨λhe=> ?_,λhe G=> ?_,λhe G=> ?_,λhe G=> ?_,λhe G C=>⟨λu=> ?_,λu H=> ?_,λu H=> ?_⟩⟩
 ·rw[if_neg he,jl,jl]at h;exact h.symm
 ·rw[if_pos he,zb]at h;simp only at h;rw[if_pos (show 0<=v by omega),zb]at h;simp only at h;rw[if_pos G]at h;exact h.symm
 ·rw[if_pos he,zb]at h;simp only at h;rw[if_pos (show 0<=v by omega),zb]at h;simp only at h;rw[if_neg (show¬v=0 by omega)]at h;exact⟨A,by omega,h⟩
 ·rw[if_pos he,zb]at h;simp only at h;rw[if_neg (show¬0<=v by omega),if_pos G,jl]at h;exact h.symm
 ·rw[if_pos he,zb]at h;simp only at h;rw[if_neg (show¬0<=v by omega),if_neg C,if_neg u,jl,jl]at h;exact h.symm
 ·rw[if_pos he,zb]at h;simp only at h;rw[if_neg (show¬0<=v by omega),if_neg C,if_pos u,zb]at h;simp only at h;rw[if_pos H,jl]at h;exact h.symm
 ·rw[if_pos he,zb]at h;simp only at h;rw[if_neg (show¬0<=v by omega),if_neg C,if_pos u,zb]at h;simp only at h;rw[if_neg (show¬(qb D O).1<0 by omega),zb]at h;simp only at h;rw[if_neg (show¬ -v=0 by omega)]at h;exact⟨A,by omega,h⟩
def P2{α:Type} {k n c:Nat} {K:zH×Nat×Nat->Rs α} (h:0<k):(jR g D mp k st n c).bind K=(yi g D mp st n c).bind λr=>(jR g D mp (k- 1) r.1 r.2.1 r.2.2).bind K:=by obtain⟨j,rfl⟩:∃j,k=j+1:=⟨k- 1,by omega⟩;rw[jR,LP];rfl
def HL:ζ .i64 (0 - -9223372036854775808)= -9223372036854775808:=by decide
end
def jj9{S:List AT} {a:AT} {B:Int} {s:Ck} {mp:Bool} {F n c:Nat} {st:zH} {G:Y1} (hm:decide (a.k=13)=mp) (hz:s.size<100000000000000000) (Z:n<=s.size) (Y:s.size<F+n) (h:vH (qu S s B a.it) s mp F st n c=G):
  ((qR s n).2.2.1≠0->∃k:Nat,(qR s n).2.2.1=k+1/\G= .no k)/\((qR s n).2.2.1=0->(qR s n).1=0->G= .ok (st,(qR s n).2.2.2,c))/\
  ((qR s n).2.2.1=0->(qR s n).1≠0->1<=(qR s n).1/\∃u sz,s.size<u+(qR s n).2.2.2/\Cp ((qR s n).2.2.2:Nat) sz (qR s n).2.1/\(jR (qu S s B a.it) s mp (qR s n).1.toNat st (qR s n).2.2.2 c).bind (jy S a B s u ((qR s n).2.2.2:Nat) sz)=G)/\
  (n<=(qR s n).2.2.2/\(qR s n).2.2.2<=s.size)/\((qR s n).2.2.1=0->n<(qR s n).2.2.2)/\(qR s n).1<9223372036854775808:=by
 have hh:=P' Z Y h;have f1:=yu s n Z;have f2:=yu s (qb s n).2.2 f1.2.2.2.2.1;have key:∀(u V:Nat) (sz:Int),(λr=>Zf (qu S s B a.it) s mp u V sz r)=jy S a B s u ((V:Nat):Int) sz:=λu V sz=>by funext r;unfold jy Zf;rw[hm,γ]
 obtain⟨a1,a2,a3,a4,a5⟩:=hh;clear h Y;unfold qR;by_cases X:(qb s n).2.1≠0\/0<=(qb s n).1
 ·rw[if_pos X];refine⟨λhe=>⟨(qb s n).2.1- 1,?_,a1 ?_⟩,λhe J=>a2 (by have:(((qb s n).2.1:Nat):Int)=0:=he;omega) J,λhe J=> ?_,⟨f1.2.2.2.1,f1.2.2.2.2.1⟩,λhe=>f1.2.2.2.2.2 (by have:(((qb s n).2.1:Nat):Int)=0:=he;omega),f1.2.1⟩
  ·have he:(((qb s n).2.1:Nat):Int)≠0:=he;show(((qb s n).2.1:Nat):Int)=(((qb s n).2.1- 1:Nat):Int)+1;omega
  ·have he:(((qb s n).2.1:Nat):Int)≠0:=he;omega
  ·have he:(qb s n).2.1=0:=by have:(((qb s n).2.1:Nat):Int)=0:=he;omega
   have J:(qb s n).1≠0:=J;have h0:0<(qb s n).1:=(by omega);obtain⟨u,O,T⟩:=a3 he h0;refine⟨by show 1<=(qb s n).1;omega,u, -1,O, .inl ⟨rfl,rfl⟩,?_⟩;rw[←key];exact T
 rw[if_neg X];have he:(qb s n).2.1=0:=by omega
 have C:(qb s n).1<0:=by omega
 by_cases H:(qb s n).1= -9223372036854775808
 ·rw[if_pos H];exact⟨λ_=>⟨1,rfl,a4 he H⟩,λg=>absurd (show(2:Int)=0 from g) (by decide),λg=>absurd (show(2:Int)=0 from g) (by decide),⟨f1.2.2.2.1,f1.2.2.2.2.1⟩,λg=>absurd (show(2:Int)=0 from g) (by decide),by show(0:Int)<_;decide⟩
 rw[if_neg H];obtain⟨O,T,b3⟩:=a5 he C H;by_cases A:(qb s (qb s n).2.2).2.1≠0
 ·rw[if_pos A];refine⟨λ_=>⟨(qb s (qb s n).2.2).2.1- 1,?_,O A⟩,λg=> ?_,λg=> ?_,⟨by show n<=(qb s (qb s n).2.2).2.2;omega,f2.2.2.2.2.1⟩,λg=> ?_,by show(0:Int)<_;decide⟩
  ·show(((qb s (qb s n).2.2).2.1:Nat):Int)=(((qb s (qb s n).2.2).2.1- 1:Nat):Int)+1;omega
  all_goals
   have g:(((qb s (qb s n).2.2).2.1:Nat):Int)=0:=g;omega
 rw[if_neg A];have A:(qb s (qb s n).2.2).2.1=0:=by omega
 by_cases U:(qb s (qb s n).2.2).1<0
 ·rw[if_pos U];exact⟨λ_=>⟨1,rfl,T A U⟩,λg=>absurd (show(2:Int)=0 from g) (by decide),λg=>absurd (show(2:Int)=0 from g) (by decide),⟨by show n<=(qb s (qb s n).2.2).2.2;omega,f2.2.2.2.2.1⟩,λg=>absurd (show(2:Int)=0 from g) (by decide),by show(0:Int)<_;decide⟩
 rw[if_neg U];obtain⟨u,c1,c2⟩:=b3 A (by omega);refine⟨λg=>absurd rfl g,λ_ g=> ?_,λ_ _=>⟨by show 1<= -(qb s n).1;omega,u,(qb s (qb s n).2.2).1,c1, .inr ⟨by omega,rfl⟩,?_⟩,⟨by show n<=(qb s (qb s n).2.2).2.2;omega,f2.2.2.2.2.1⟩,λ_=> ?_,by show -(qb s n).1<_;omega⟩
 ·have g: -(qb s n).1=0:=g;omega
 ·rw[←key];exact c2
 ·have:=f1.2.2.2.2.2 he;show n<(qb s (qb s n).2.2).2.2;omega
def zxh(n:Nat) (hi0:q1p P 83 (La.below Vl (n+1))) (hv0:q1p P 82 Y4):q1p P 43 ((uk ux ko).below v_ (n+1)):=by
  refine zh (qcl (qgj zy9 qjq)) (qdd (qgi hi0 (qgi hv0 qjp))) (W:=CW) Tryz.func43 λ⟨S,⟨(x:SV),s,(i:Int),(c:Int)⟩,a,(A:Int)⟩=>(zxg n S x s i c a A).mpr ?_;rintro⟨T,hok,haS,hk,h,⟨hc0,hc1⟩,hp1,hp2⟩ ⟨p,_,hx,ha⟩;have T:(25- A).toNat<n+1:=T;have hi:=h.1;have hi2:=h.2.1;have V:=h.2.2;simp only[qB,exists_const,forall_const,γ];have Z:zK (decide (a.k=13)) [] (ι []) ([],[]):=by
    unfold zK;rw[ι];split
    · exact⟨List.nodup_nil,rfl,rfl,List.Pairwise.nil, .refl _⟩
    · exact⟨rfl,rfl⟩
  refine⟨⟨⟨s.size+1- i.toNat,i,c,[],[]⟩,rfl,rfl,rfl,rfl,rfl,rfl,λq _=>GV.oks_iff.2 λw hw=>(by cases hw),⟨ρ _,hi2⟩,⟨ρ _,hc1⟩,⟨by show((0:Nat):Int)<=c;omega,by show((0:Nat):Int)<=c;omega⟩,(by show(s.size:Int)<((s.size+1- i.toNat:Nat):Int)+i;omega),([],[]),Z,rfl⟩,?_⟩;rintro⟨F,i1,c1,fs,ks⟩ ⟨⟨r1,r2⟩,⟨r3,r4⟩,⟨r5,r6⟩,r7,st,r8,r9⟩ ⟨p1,hp1',hfs⟩;simp only at r1 r2 r3 r4 r5 r6 r7 r8 r9 hfs⊢;have hd1:qZ ((x.1,x.2.1,x.2.2),s,i1,c1):=⟨by omega,r2,V⟩;obtain⟨h1,h2,h3,⟨h4,h5⟩,h6,h7⟩:=jj9 rfl V (show i1.toNat<=s.size by omega) (show s.size<F+i1.toNat by omega) r9;have rw0:zr S a A s i c=vH (qu S s A a.it) s (decide (a.k=13)) (s.size+1- i.toNat) ([],[]) i.toNat c.toNat:=rfl;have no:∀(e' i' G:Int) (v:PV),(∃k:Nat,e'=k+1/\zr S a A s i c= .no k)->jJ (ko (qu S s A) s a i.toNat c.toNat) v i' G e':=λe' i' G v ⟨k,u,C⟩=>by show jJ ((zr S a A s i c).bind _) _ _ _ _;rw[C,jl];exact u
  generalize qR s i1.toNat=H at*;obtain⟨J,en,er,pos⟩:=H;simp only at h1 h2 h3 h4 h5 h6 h7⊢;have hpos:i1<=pos:=by omega
  refine⟨hd1,λhe=>⟨⟨zV,er,(pos:Int),c1⟩,rfl,rfl,rfl,rfl,rfl,rfl,rfl,rfl,rfl,rfl,rfl,rfl,⟨no _ _ _ _ (h1 he),⟨by show i<=(pos:Int);omega,by show(pos:Int)<=s.size;omega⟩,⟨r3,by show c1<=2001;omega⟩,λg=>absurd g he⟩,λq _=>jc q⟩,λhe=>⟨λhc=> ?_,λhc=> ?_⟩⟩
  · have hR:=h2 he hc;refine⟨⟨fs,ks⟩,rfl,rfl,rfl,rfl,rfl,rfl,⟨by show fs.length<=2001;omega,by show ks.length<=2001;omega,_,st,r8⟩,λq hq=>hq.2,?_⟩;intro b hb _;have hb:=hb _ _ r8;refine⟨⟨b,0,(pos:Int),c1⟩,rfl,rfl,rfl,rfl,rfl,rfl,rfl,rfl,rfl,rfl,rfl,rfl,⟨?_,⟨by show i<=(pos:Int);omega,by show(pos:Int)<=s.size;omega⟩,⟨r3,by show c1<=2001;omega⟩,λ_=>r4⟩,λq hq=>hq.2⟩;show jJ ((zr S a A s i c).bind _) _ _ _ _;rw[hR,zb];exact⟨rfl,hb,rfl,by show c1=((c1.toNat:Nat):Int);omega⟩
  obtain⟨hc1',F',sz,g1,g2,g3⟩:=h3 he hc;have hlt:=h6 he;clear h1 h2 h3 h6;refine⟨⟨⟨F',0,(pos:Int),c1,fs,ks⟩,rfl,rfl,rfl,rfl,rfl,rfl,rfl,rfl,rfl,λq hq=>hq.2,⟨by show((0:Nat):Int)<=J;omega,⟨by show i<=(pos:Int);omega,⟨by show(0:Int)<=(pos:Int);omega,ρ _⟩,by show(pos:Int)<=s.size;omega⟩,⟨r3,r4⟩,⟨r5,r6⟩,by show(s.size:Int)<F'+(pos:Int);omega,sz,st,g2,r8,?_⟩⟩,?_⟩
  · show(jR _ _ _ (J- ((0:Nat):Int)).toNat st ((pos:Int).toNat) c1.toNat).bind _=_;rw[show J- ((0:Nat):Int)=J by omega,γ];exact g3
  rintro⟨Y,j,i2,c2,gs,ls⟩ ⟨t1,⟨t2,⟨t3,t4⟩,t5⟩,⟨t6,t7⟩,⟨t8,t9⟩,t10,z,B,t11,t12,t13⟩ ⟨p2,hp2',hgs⟩;simp only at t1 t2 t3 t4 t5 t6 t7 t8 t9 t10 t11 t12 t13 hgs⊢;clear g1 g2 g3;have nxt:jy S a A s Y pos z (B,i2.toNat,c2.toNat)=zr S a A s i c->¬(0<=en/\i2≠en)->WA S a s A i c Y i2 c2 gs ls/\(s.size+1- i2).toNat<(s.size+1- i1).toNat:=λu C=>by
    refine⟨⟨⟨t2,t5⟩,⟨t6,t7⟩,⟨t8,t9⟩,by omega,B,t12,?_⟩,by omega⟩;unfold jy at u;rw[if_neg ?_]at u
    · exact u
    · unfold Qh;rw[φ,decide_eq_true_eq,decide_eq_true_eq,γ,qqj (by omega)];rintro⟨q3,q4⟩;rcases t11 with⟨X,_⟩|⟨_,q6⟩
      · omega
      · apply C;split at q6<;>omega
  refine⟨λhlt2=> ?_,λhge=> ?_⟩
  · refine⟨⟨⟨S,⟨x,s,i2,c2⟩,a,A⟩,gs,ls⟩,?_⟩;simp only[true_and,and_true,eq_self];refine⟨⟨T,hok,haS,hk,⟨by show 0<=i2;omega,t5,V⟩,⟨by show 0<=c2;omega,t7⟩,⟨hp1,hp2⟩,t8,t9,B,t12⟩,λq hq=>⟨hq.1.1,hq.2⟩,?_⟩;rintro⟨fs',ks',e',i',G⟩ ⟨w1,⟨w2,w3⟩,⟨w4,w5⟩,w6,w7,w8⟩ _;have w1:=w1 B t12;have w2:i2<=i':=w2;have w4:c2<=G:=w4;rw[P2 (by omega)]at t13;refine⟨λU=>⟨⟨zV,e',i',G⟩,rfl,rfl,rfl,rfl,rfl,rfl,rfl,rfl,rfl,rfl,rfl,rfl,⟨no _ _ _ _ ?_,⟨by show i<=i';omega,w3⟩,⟨by show c<=G;omega,w5⟩,λg=>absurd g U⟩,λq _=>jc q⟩,λO=> ?_⟩
    · revert w1 t13;cases yi (qu S s A a.it) s (decide (a.k=13)) B i2.toNat c2.toNat with
      |no k=>exactλC u=>⟨k,u,by rw[jl]at C;exact C.symm⟩
      |ok r=>exactλ_ u=>absurd u.1 U
    · have O:e'=0:=O;obtain⟨w9,w10⟩:=w6 O;have w9:c2+1<=G:=w9;refine⟨⟨by omega,by omega⟩,⟨Y,j+1,i',G,fs',ks'⟩,by show((j+1:Nat):Int)=_;omega,rfl,rfl,rfl,rfl,rfl,rfl,rfl,rfl,λq hq=>hq.1.1,λq hq=>hq.2,⟨by show((j+1:Nat):Int)<=J;omega,⟨by show i<=i';omega,⟨t3,by show(pos:Int)<=i';omega⟩,w3⟩,⟨by show c<=G;omega,w10⟩,⟨w7,w8⟩,t10,?_⟩,by show J.toNat- (j+1)<J.toNat- j;omega⟩;revert w1 t13;cases yi (qu S s A a.it) s (decide (a.k=13)) B i2.toNat c2.toNat with
      |no k=>intro _ u;have u:e'=k+1:=u;omega
      | ok r=>
        rintro X ⟨_,C,q3,q4⟩;rw[zb,show(J- (j:Int)).toNat- 1=(J- ((j+1:Nat):Int)).toNat by omega]at X;refine⟨z,r.1,t11,C,?_⟩;show(jR _ _ _ _ r.1 i'.toNat G.toNat).bind _=_;rw[show i'.toNat=r.2.1 by omega,show G.toNat=r.2.2 by omega];exact X
  · rw [show(J- (j:Int)).toNat=0 by omega,jR,zb]at t13;refine⟨λh0=>⟨λU=>⟨⟨zV,2,i2,c2⟩,rfl,rfl,rfl,rfl,rfl,rfl,rfl,rfl,rfl,rfl,rfl,rfl,⟨no _ _ _ _ ⟨1,rfl,?_⟩,⟨t2,t5⟩,⟨t6,by show c2<=2001;omega⟩,λg=>absurd (show(2:Int)=0 from g) (by decide)⟩,λq _=>jc q⟩,λheq=> ?_⟩,λh0=> ?_⟩
    · unfold jy at t13;rw[if_pos ?_]at t13
      · exact t13.symm
      · unfold Qh;rw[φ,decide_eq_true_eq,decide_eq_true_eq,γ,qqj (by omega)];rcases t11 with⟨_,X⟩|⟨X,q6⟩
        · omega
        · refine⟨X,?_⟩;split at q6<;>omega
    · obtain⟨u,C⟩:=nxt t13 (λg=>g.2 heq);exact⟨⟨Y,i2,c2,gs,ls⟩,rfl,rfl,rfl,rfl,rfl,rfl,rfl,rfl,λq hq=>hq.1.1,λq hq=>hq.2,u,C⟩
    · obtain⟨u,C⟩:=nxt t13 (λg=>h0 g.1);exact⟨⟨Y,i2,c2,gs,ls⟩,rfl,rfl,rfl,rfl,rfl,rfl,rfl,rfl,λq hq=>hq.1.1,λq hq=>hq.2,u,C⟩
def Z4(a b:Ck):Int:=if qdf a b=ξ then -1 else if qdf b a=ξ then 1 else 0
set_option maxHeartbeats 1000000 in
def zim(x:Ck) (w:World):
  Calls Tryz.prog 129 #[.string x] w λe h=>e= .returned (.bool Β)/\h=w:=by
 go_enter Tryz.func129,Tryz.ntmps129
 go_wp2
 go_ret
 exact⟨by simp,rfl⟩
set_option maxHeartbeats 1000000 in
def zav(x y:Ck) (w:World):
  Calls Tryz.prog 114 #[.string x, .string y] w λe h=>e= .returned (.int .i64 (Z4 x y))/\h=w:=by
 have A:∀args w,(callFunc 129 args).run Tryz.prog w= .ok (.enter 129 args) w:=Sen.enters_of Tryz.func129 (by kernel_rfl)
 go_enter Tryz.func114,Tryz.ntmps114
 go_wp2_with (go_at_fn 129;refine(zim _ _).mono ?_;rintro e h ⟨rfl,hw⟩;rw[hw])
 all_goals (go_ret)
 all_goals (refine⟨?_,rfl⟩;show Ending.returned (qzr .i64 _)=Ending.returned (qzr .i64 _);unfold Z4 qdf;have u:=Pn y.toList x.toList;simp_all<;>first|done|exact u.resolve_right (λe=>absurd e.symm (by assumption)))
def j92(args:Array Value) (w:World):(callFunc 114 args).run Tryz.prog w= .ok (.enter 114 args) w:=Sen.enters_of Tryz.func114 (by kernel_rfl) args w
def ZH(a b:Ck):Go.Proofs.ltOf Z4 a b=qdf a b:=by
 unfold Go.Proofs.ltOf Z4;by_cases h:qdf a b=ξ
 ·simp[h]
 ·by_cases g:qdf b a=ξ
  ·simp[h,g]
  ·simp[h,g]
def zzv{a b c:Ck} (h:qdf a b=Β) (u:qdf b c=Β):qdf a c=false:=by
 rcases(QI b a).2 h with h|rfl
 ·rcases(QI c b).2 u with u|rfl
  ·exact(QI c a).1 (.inl (Pe u h))
  ·exact(QI _ _).1 (.inl h)
 ·exact u
def zxt:Go.Sort.SWO (Go.Proofs.ltOf Z4):=by
 refine⟨λx=> ?_,λx y z=> ?_,λx y z=> ?_⟩
 ·rw[ZH];exact P7 x
 ·rw[ZH,ZH,ZH];exact Pe
 ·rw[ZH,ZH,ZH];exact zzv
def zw1(o:AO):∃h,q0o [(1,o)] .e=Ε h/\h.get 1=Ε o/\∀i,i≠1->h.get i=none:=by refine⟨_,rfl,rfl,λi hi=> ?_⟩;have e:T.put 64 1 (Ε o) T.e=Ε (T.n (T.n T.e (Ε o) T.e) Ξ T.e):=rfl;have:=T.get_put _ _ _ _ _ e i;rw[if_neg hi,T.get_e]at this;exact this
def V_(ks:List Ck):Prop:=ks.Pairwise (λa b=>qdf b a=Β)
def CE:CtR where
 σ:=List Ck
 args:=λks=>[.ssl 1 0 ks.length 1 2, .fn 114 []]
 h:=λks=>[(1, .row 9 0 (qa qF ks))]
 m:=3
 pre:=λks=>1<=ks.length/\ks.length<=1000000
 β:=λ_=>List Ck
 post:=λks u=>u.Perm ks/\V_ u
 r:=λ_ _=> .tup []
 h':=λ_ u=>[(1, .row 9 0 (qa qF u))]
 m':=3
def XX(fs:List GV) (ks:List Ck) (j:Nat) (gs:List GV) (ls:List Ck):Prop:=j<=ks.length/\ls.Perm ks/\V_ ls/\gs.length=j/\gs.map Ε=(ls.take j).map (λk=>fs[kI k ks]?)
def fG:Y4.σ->WayF:=λ⟨fs,ks⟩=>{
 pubE:=[1000002]
 ann:=λid u B=>match Vo u 3 with
  |some A=>Ε {σ:=Nat×List GV×List Ck,pre:=λ⟨j,gs,ls⟩=>XX fs ks j gs ls,mem:=λ⟨j,gs,ls⟩=>yh gs,t:=λ⟨j,gs,ls⟩=>[(27, .sv (.int .i64 (j:Nat)))],h:=λ⟨j,gs,ls⟩=>[(A, .cells 36 (Ε 0) Β [.sv (.int .u64 0), .sv (.string (mkS [])), .ssl 40 0 gs.length 5 41, .ssl 42 0 (ls.take j).length 1 43, .sv (.int .i64 0)]),(40, .row 36 0 (qa θ gs)),(42, .row 9 0 (qa qF (ls.take j))),(5, .row 9 0 (qa qF ls))],more:=60,μ:=λ⟨j,gs,ls⟩=>ks.length- j,keep:=[0,2,3,25,26]}
  |none=>Ξ}
def z64:∀ks:List Ck,qa qF ks=ks.map ω
 | []=>rfl
 |k::l=>by rw[qa,z64 l];rfl
def zjl(off:Nat) (d:Array Ck) (pre rest:List Value) (ks:List Ck) (hp:pre.length=off) (hs:d.size=ks.length):Go.Sort.putCells ω off d ⟨pre++(qa qF ks++rest)⟩=⟨pre++(qa qF d.toList++rest)⟩:=by
  rw[z64,z64];apply Array.ext_getElem?;intro k;unfold Go.Sort.putCells;rw[Array.getElem?_mapIdx];have e1:(⟨pre++(ks.map ω++rest)⟩:Array Value)[k]? =(pre++(ks.map ω++rest))[k]? :=qqs ..
  have e2:(⟨pre++(d.toList.map ω++rest)⟩:Array Value)[k]? =(pre++(d.toList.map ω++rest))[k]? :=qqs ..
  rw[e1,e2];rcases qqq k pre.length with h|h
  · rw[Ν h,Ν h];rw[δ h];simp only[qqz];rw[if_neg (by omega)]
  · rw [Μ h,Μ h];rcases qqq (k- pre.length) ks.length with g|g
    · rw[Ν (by simpa using g),Ν (by simp;omega),qqw,qqw,δ g];have g2:k- pre.length<d.size:=(by omega);simp only[qqz];rw[if_pos (by omega),←hp,getElem!_pos d _ g2,Array.getElem?_toList,Array.getElem?_eq_getElem g2];rfl
    · rw[Μ (by simpa using g),Μ (by simp;omega)];simp only[Θ,qzf,hs];cases hr:rest[k- pre.length- ks.length]? with
      |none=>rfl
      | some v=>
        simp only[qqz];rw[if_neg (by omega)]
def zk4(w:World) (b off n:Nat) (d:Array Ck) (os:Array Obj):(∀k,k≠b->k<w.heap.size->(Go.Proofs.sortWorld ω w b off n d os).heap[k]? =w.heap[k]?)/\(∀c e fr,w.heap[b]? =Ε (.cells c e fr)->(Go.Proofs.sortWorld ω w b off n d os).heap[b]? =Ε (.cells (Go.Sort.putCells ω off d c) e fr))/\w.heap.size<=(Go.Proofs.sortWorld ω w b off n d os).heap.size/\Same w (Go.Proofs.sortWorld ω w b off n d os):=by
 unfold Go.Proofs.sortWorld;have hs:(Go.Sort.putRow ω (Go.Sort.ahead w n) b off d).heap.size=w.heap.size:=by rw[Go.Sort.size_putRow];rfl
 refine⟨λk B A=> ?_,λc e fr u=> ?_,?_,⟨rfl,rfl,rfl⟩⟩
 ·rw[Go.Sort.heap_grow_old _ _ (by rw[hs];exact A)];show(w.heap.modify b _)[k]? =_;rw[qq8,if_neg (λe=>B e.symm)]
 ·have A:b<w.heap.size:=by
   rcases qqq b w.heap.size with h|h
   ·exact h
   ·rw[qq7 h]at u;cases u
  rw[Go.Sort.heap_grow_old _ _ (by rw[hs];exact A)];show(w.heap.modify b _)[b]? =_;rw[qq8,if_pos rfl,u];rfl
 ·rw[Go.Sort.size_grow,hs];omega
def jam{d:Array Ck} {n:Nat} (G:d.size=n) (h:Go.Sort.SortedIn (Go.Proofs.ltOf Z4) 0 n d):V_ d.toList:=by
 unfold V_;rw[List.pairwise_iff_getElem];intro i j hi C A;have u:i<d.size:=by simpa using hi
 have B:j<d.size:=by simpa using C
 have:=h i j (Α _) A (by omega);rw[ZH,getElem!_pos d j B,getElem!_pos d i u]at this;exact this
def GM{ks:List Ck} {u:Array Ck} (h:Go.Sort.PermIn 0 ks.toArray.size ks.toArray u):u.toList.Perm ks/\u.size=ks.length:=by
 obtain⟨A,_,B⟩:=h;have A:u.size=ks.length:=by simpa using A
 refine⟨?_,A⟩;have e1:(u.extract 0 ks.toArray.size).toList=u.toList:=by
  have:ks.toArray.size=u.size:=by rw[A];simp
  rw[this];simp
 have e2:(ks.toArray.extract 0 ks.toArray.size).toList=ks:=by simp
 rw[e1,e2]at B;exact B
def j05:q1p P 113 CE:=by
 refine⟨Κ _,by decide,Sen.enters_of Tryz.func113 (by kernel_rfl),λ(ks:List Ck)=> ?_⟩;obtain⟨h0,e0,g0,n0⟩:=zw1 (.row 9 0 (qa qF ks));refine⟨h0,e0,λF I w vs hv hs low zf hp _ fr hz=> ?_⟩;obtain⟨hp1,hp2⟩:1<=ks.length/\ks.length<=1000000:=hp;cases hv with|cons hv1 u=>
 cases u with|cons u hv3=>
 cases hv3;cases u with|fn u=>
 cases u;cases hv1 with
 |ssl0 hz0=>omega
 | @ssl _ _ _ _ _ b s t c o x Y k2 k3 k4 k5 k6=>
 have hc0:c≠0:=by omega
 have ho:o=s:=by omega
 subst ho;obtain⟨ob,O,hO⟩:=hs.obj 1 _ b (o,t) g0 Y;have V:=hs.fr 1 _ b (o,t) g0 Y;cases hO with| @row _ _ pre _ rest G q1 q2 q3=>
 have q1:pre.length=o:=q1;have hbl:b<w.heap.size:=by
  rcases qqq b w.heap.size with h|h
  ·exact h
  ·rw[qq7 h]at O;cases O
 have hH:Go.Sort.Holds ω w b o ks.toArray:=by
  intro j hj;have hj':j<ks.length:=by simpa using hj
  constructor
  ·simp only[World.cell?,O];show(pre++(qa qF ks++rest)).toArray[o+j]? =_;rw[z64,qqs,Μ (by omega),Ν (by rw[Θ];omega),show o+j- pre.length=j by omega,qqw,δ hj',getElem!_pos ks.toArray j hj];rfl
  ·simp only[World.frozen?,O];have e:t=ks.length+rest.length:=by have:(qa qF ks++rest).length=t:=q2;rw[z64,ψ,Θ]at this;omega
   have:=q3 j (Α _) (by show j<t;omega);simp only[decide_eq_false_iff_not,Bool.and_eq_false_iff];have h2:¬(G.1<=o+j/\o+j<G.2):=this;simp;omega
 have U:Go.Proofs.CmpLays1 Tryz.prog 114 #[] ω Z4 b o ks.toArray.size w:=by refine Go.Proofs.CmpReads.lays λm os dk hd x y=>(zav x y _).mono ?_;rintro e w' ⟨rfl,rfl⟩;exact⟨rfl,0,rfl⟩
 have B:=Tryz.slices_SortFunc ω (λ_=>rfl) Z4 zxt 114 #[] b o c ks.toArray w j92 U hH hbl (by simp;omega);have X:(ks.toArray.size:Nat)=ks.length:=by simp
 rw[X]at B;refine B.mono ?_;rintro e w' ⟨rfl,C,n,os,hP,hS,rfl⟩;rw[←X]at hP;obtain⟨p1,p2⟩:=GM hP;obtain⟨h1,e1,g1,Z⟩:=zw1 (.row 9 0 (qa qF C.toList));obtain⟨z1,z2,z3,z4⟩:=zk4 w b o n C os;refine⟨C.toList,h1,⟨p1,jam p2 hS⟩,e1,_,I,rfl, .tup .nil,⟨In.le_refl I,λ_ _ h=> .inl h,⟨λid o2 b' t2 h hi=> ?_,λid id' o1 o2 b1 t1 t2 H J i1 i2=> ?_,λid o2 b' t2 h hi hF=> ?_⟩,λb' T=> ?_,z3,z4⟩,trivial⟩
 ·by_cases hid:id=1
  ·subst hid;rw[g1]at h;cases h;rw[Y]at hi;cases hi;refine⟨_,z2 _ _ _ O,?_⟩;rw[zjl o C pre rest ks q1 p2];refine .row q1 ?_ q3;have:(qa qF ks++rest).length=t:=q2;rw[z64,ψ,Θ]at this;show(qa qF C.toList++rest).length=t;rw[z64,ψ,Θ,qzf,p2];exact this
  ·rw[Z _ hid]at h;cases h
 ·by_cases hid:id=1
  ·by_cases A:id'=1
   ·rw[hid,A]
   ·rw[Z _ A]at J;cases J
  ·rw[Z _ hid]at H;cases H
 ·by_cases hid:id=1
  ·subst hid;rw[g1]at h;cases h;rw[Y]at hi;cases hi;have h:ξ=false:=(V hF).1;cases h
  ·rw[Z _ hid]at h;cases h
 ·refine z1 b' (λe=> ?_) (low _ T);subst e;have h:ξ=false:=(V T).1;cases h
section
variable (e:List Ck) (c:List GV) (Q:List Ck) (a:Nat×List GV×List Ck) (v:Nat->Option Obj) (E:Nat) (F:Option Addr) (R:Nat) (S:Option Addr) (H:Prop) (A:GV)
 abbrev S2:=(True/\ν c v)/\length c<=E/\qgm v F (take (length c*nat_lit 5) (qa θ c))
 def S0:=Ο A=0/\(∀(g:Bool) (l:zH),zK g e (ι c) l->qqf A=PV.mk 0 (mkS []) l.2 l.1 0)/\H
 def SZ:=length e=length e/\(↑(length e):Int)=(↑(length e):Int)/\qa θ c=qa θ c/\qy e (0:Nat)=qy e 0/\length e=length e/\H
 def sD:=(0<=(↑a.1:Int)/\(↑a.1:Int)<(↑(length e):Int))/\∃g,qga (qa qF a.2.2) (nat_lit 0+toNat (↑a.1:Int)*nat_lit 1) [string g]/\length (qa qF (take a.1 a.2.2))=length (take a.1 a.2.2)*1/\(length (take a.1 a.2.2)+nat_lit 1)*16<=140737488355328/\kOK Τ (string g)/\(∀(l:MapEntry),l∈qy e 0->kOK Τ (MapEntry.key l))/\∃(p:Int),qil (string g) (qy e 0) (int i64 0)=int i64 p/\(0<=p/\p<(↑(length c):Int))/\∃(j:Int),∃w,∃z,∃(B:Nat),∃(i:Nat),∃i8,∃(G:Nat),∃(k:Nat),∃(h:Int),qga (qa θ c) (nat_lit 0+toNat p*nat_lit 5) [int u64 j,string w,slice z B i,slice i8 G k,int i64 h]/\length (qa θ a.2.1)=length a.2.1*5/\(length a.2.1+nat_lit 1)*80<=140737488355328/\Jb ((↑a.1:Int)+1)/\∃(d:Nat×List GV×List Ck),(↑d.1:Int)=(↑a.1:Int)+1/\SZ e c (qa qF d.2.2=qa qF a.2.2/\(0:Int)=0/\mkS []=mkS []/\length d.2.1=length a.2.1+nat_lit 1/\length (take d.1 d.2.2)=length (take a.1 a.2.2)+nat_lit 1/\(0:Int)=0/\length c=length c/\length e=length e/\qa θ d.2.1=qa θ a.2.1++[int u64 j,string w,slice z B i,slice i8 G k,int i64 h]/\qa qF (take d.1 d.2.2)=qa qF (take a.1 a.2.2)++[string g]/\(∀q,(True/\ν c q)/\ν a.2.1 q->True/\ν c q)/\(∀r,(True/\ν c r)/\ν a.2.1 r->ν d.2.1 r)/\XX c e d.1 d.2.1 d.2.2/\length e- d.1<length e- a.1/\True)
 def S1:=((True/\ν c v)/\ν a.2.1 v)/\length a.2.1<=E/\qgm v F (take (length a.2.1*nat_lit 5) (qa θ a.2.1))
 def SY:=(S1 c a v E F)/\length (take a.1 a.2.2)<=R/\qgm v S (take (length (take a.1 a.2.2)*nat_lit 1) (qa qF (take a.1 a.2.2)))
 def sC:=Ji ((↑a.1:Int)<(↑(length e):Int)) (sD e c a) (∀(I i16 J:Nat) (m:Option Addr) (K o:Nat),(∃C,S1 c a C o m)->∀(L M N:Nat) (t:Option Addr) (O u:Nat),(∃D,SY c a D o m u t)->∃(f:GV),Ζ f=0/\Η f=mkS []/\(π f).1=m/\(π f).2.1=length a.2.1/\(π f).2.2=o/\(ς f).1=t/\(ς f).2.1=length (take a.1 a.2.2)/\(ς f).2.2=u/\S0 e c ((∀i32,SY c a i32 o m u t->υ f i32)/\True) f)
 def sB:=(∃(g:Nat×List GV×List Ck),(↑g.1:Int)=0/\SZ e c (qa qF g.2.2=qa qF Q/\(0:Int)=0/\mkS []=mkS []/\length g.2.1=0/\length (take g.1 g.2.2)=0/\(0:Int)=0/\length c=length c/\length e=length e/\(∀l,True/\ν c l->True/\ν c l)/\(∀p,True/\ν c p->ν g.2.1 p)/\XX c e g.1 g.2.1 g.2.2/\True))/\∀(j:Nat×List GV×List Ck),XX c e j.1 j.2.1 j.2.2->(∃w,(True/\ν c w)/\ν j.2.1 w)->sC e c j
 def sA:=Ji ((↑(length e):Int)=0) (∀(g l p:Nat) (j:Option Addr) (w z:Nat),(∃B,S2 c B z j)->∃(i:GV),Ζ i=0/\Η i=mkS []/\(π i).1=j/\(π i).2.1=length c/\(π i).2.2=z/\(ς i).1=noA/\(ς i).2.1=0/\(ς i).2.2=0/\S0 e c ((∀k,S2 c k z j->υ i k)/\True) i) (∃(h:List Ck),length h=length e/\qa qF h=qa qF e/\(1<=length h/\length h<=1000000)/\∀(d:List Ck),List.Perm d h/\V_ d->sB e c d)
end
def j9b(fs:List GV) (ks:List Ck):qk3 P (qf5 []) (qg7 [(113,CE)]) Tryz.f82 Y4 (fG) ⟨fs,ks⟩=((length fs<=2001/\length ks<=2001/\∃(mp:Bool),∃(st:zH),zK mp ks (ι fs) st)->(∃(p:Pub),True/\ν fs p)->sA ks fs):=by kernel_rfl
def jjc:=λfs ks=>Ω (j9b fs ks) (by delta Ji Jb Jt Jf S2 S0 SZ sD S1 SY sC sB sA;exact rfl)
section
variable (g:AT) (l:SV) (i:Ck) (j o:Int) (d:List Ck) (e:List GV) (m:List AT) (p:Int) (w:Nat) (a:zm) (c:ur) (t:Prop) (A:Int) (r:wA) (v:Nat->Option Obj)
 abbrev KL:=True/\(qd m l v/\Φ g v)/\ν e v
 def Ez:=l.1=l.1/\l.2.1=l.2.1/\l.2.2=l.2.2/\t
 def Ey:=qy r.2.1 (0:Nat)=qy d 0/\length r.2.1=length d/\length r.1=length e/\length r.2.1=length d/\t
 def Ro:=Ey d e (qa θ r.1=qa θ e/\qa qF r.2.1=qa qF d/\t) r
 abbrev EB:=Jb (j+1)
 def Ew:=c.2.2.1=AT.it g/\c.2.2.2=j+1/\c.2.1.1.1=l.1/\c.2.1.1.2.1=l.2.1/\c.2.1.1.2.2=l.2.2/\c.2.1.2.1=i/\t
 def Et:=c.2.1.2.2.2=j/\(wv c<w/\zp c.1/\qZ (c.2.1.1,c.2.1.2.1,c.2.1.2.2.1,c.2.1.2.2.2)/\(0<=c.2.1.2.2.2/\c.2.1.2.2.2<=2000)/\1<=c.2.2.2/\c.2.2.2<=21)/\(∀h,KL g l e m h->qd c.1 c.2.1.1 h)/\t
 abbrev Ev:=qM c.1 c.2.1.2.1 (toNat ((21:Int)- c.2.2.2)) c.2.2.1 (toNat c.2.1.2.2.1) (toNat c.2.1.2.2.2)
 def KH:=l.1=c.2.1.1.1/\l.2.1=c.2.1.1.2.1/\l.2.2=c.2.1.1.2.2/\i=c.2.1.2.1/\r.2.2.2.1=a.2.2.1/\r.2.2.2.2=a.2.2.2/\t
 def KI:=z75 ((m,(l,i,j,o),g,p),e,d) r/\(∀h,(KL g l e m h)/\υ a.1 h->ν r.1 h)/\True
 abbrev KM:=(qJ i (toNat j)).1
 abbrev ui:=string (KM i j)
 def Rp:=(∀(h:MapEntry),h∈qy d 0->kOK Τ (MapEntry.key h))
 abbrev QW:=(π a.1).2.1
 abbrev QX:=(π a.1).2.2
 abbrev QY:=(ς a.1).2.1
 abbrev QZ:=(ς a.1).2.2
 def S5:=(0<=j/\j<(↑(length e):Int))/\nat_lit 0+toNat j*nat_lit 5+length [int u64 (Ζ a.1),string (Η a.1),slice (π a.1).1 (QW a) (QX a),slice (ς a.1).1 (QY a) (QZ a),int i64 (Ο a.1)]<=length (qa θ e)/\∃(h:wA),h.2.2.1=0/\KH l i a c (Ey d e (qa θ h.1=spl (qa θ e) (nat_lit 0+toNat j*nat_lit 5) [int u64 (Ζ a.1),string (Η a.1),slice (π a.1).1 (QW a) (QX a),slice (ς a.1).1 (QY a) (QZ a),int i64 (Ο a.1)]/\qa qF h.2.1=qa qF d/\KI g l i o p d e m A a h) h) h
 def Ex:=Rp d/\length (qa qF d)=length d*1/\(length d+nat_lit 1)*16<=140737488355328/\t
 abbrev Xq:=qa θ e++[int u64 0,string (mkS []),slice noA 0 0,slice noA 0 0,int i64 0]
 def Es:=(0:Nat)+toNat (↑(length e):Int)*5+length [int u64 (Ζ a.1),string (Η a.1),slice (π a.1).1 (QW a) (QX a),slice (ς a.1).1 (QY a) (QZ a),int i64 (Ο a.1)]<=length (Xq e)
 def Wy:=length (qa θ e)=length e*5/\(length e+nat_lit 1)*80<=140737488355328/\(0<=(↑(length e):Int)/\(↑(length e):Int)<(↑(length e+nat_lit 1):Int))/\Es e a/\Es e a/\slice c.2.1.1.1 c.2.1.1.2.1 c.2.1.1.2.2=slice c.2.1.1.1 c.2.1.1.2.1 c.2.1.1.2.2/\string c.2.1.2.1=string c.2.1.2.1/\int i64 a.2.2.1=int i64 a.2.2.1/\int i64 a.2.2.2=int i64 a.2.2.2/\t
 abbrev KJ:=int i64 (↑(length e):Int)
 def Xp:=int u64 (Ζ a.1)=int u64 (Ζ a.1)/\string (Η a.1)=string (Η a.1)/\slice (π a.1).1 (QW a) (QX a)=slice (π a.1).1 (QW a) (QX a)/\slice (ς a.1).1 (QY a) (QZ a)=slice (ς a.1).1 (QY a) (QZ a)/\int i64 (Ο a.1)=int i64 (Ο a.1)/\t
 def Rr:=length e+nat_lit 1=length e+nat_lit 1
 def Rm:=int i64 (AT.k g)=int i64 (AT.k g)/\string (AT.nm g)=string (AT.nm g)/\slice (AT.al g).1 (AT.al g).2.1 (AT.al g).2.2=slice (AT.al g).1 (AT.al g).2.1 (AT.al g).2.2/\int i64 (AT.it g)=int i64 (AT.it g)/\slice (AT.sy g).1 (AT.sy g).2.1 (AT.sy g).2.2=slice (AT.sy g).1 (AT.sy g).2.1 (AT.sy g).2.2/\bool (AT.hd g)=bool (AT.hd g)/\string (AT.df g)=string (AT.df g)/\int i64 (AT.sz g)=int i64 (AT.sz g)/\slice (AT.f g).1 (AT.f g).2.1 (AT.f g).2.2=slice (AT.f g).1 (AT.f g).2.1 (AT.f g).2.2/\slice (AT.br g).1 (AT.br g).2.1 (AT.br g).2.2=slice (AT.br g).1 (AT.br g).2.1 (AT.br g).2.2/\t
 abbrev Rq:=(0:Nat)+toNat (↑(length e):Int)*5
 def Xo:=spl (Xq e) (Rq e) [int u64 (Ζ a.1),string (Η a.1),slice (π a.1).1 (QW a) (QX a),slice (ς a.1).1 (QY a) (QZ a),int i64 (Ο a.1)]=spl (Xq e) (Rq e) [int u64 (Ζ a.1),string (Η a.1),slice (π a.1).1 (QW a) (QX a),slice (ς a.1).1 (QY a) (QZ a),int i64 (Ο a.1)]
 def Rn:=qa θ r.1=spl (Xq e) (Rq e) [int u64 (Ζ a.1),string (Η a.1),slice (π a.1).1 (QW a) (QX a),slice (ς a.1).1 (QY a) (QZ a),int i64 (Ο a.1)]
 def sG:=kOK Τ (ui i j)/\Ex d (Wy e a c (AO.mrow (qd3 (ui i j) (KJ e) (qy d 0) (length d)) (qd2 (ui i j) (qy d 0) (length d))=AO.mrow (qd3 (ui i j) (KJ e) (qy d 0) (length d)) (qd2 (ui i j) (qy d 0) (length d))/\qa qF d++[string (KM i j)]=qa qF d++[string (KM i j)]/\Xp a (Rr e/\length d+nat_lit 1=length d+nat_lit 1/\Rm g (Xo e a/\string (KM i j)=string (KM i j)/\∃(q:wA),q.2.2.1=0/\KH l i a c (qy q.2.1 (0:Nat)=qd3 (ui i j) (KJ e) (qy d 0) (length d)/\length q.2.1=qd2 (ui i j) (qy d 0) (length d)/\length q.1=length e+nat_lit 1/\length q.2.1=length d+nat_lit 1/\Rn e a q/\qa qF q.2.1=qa qF d++[string (KM i j)]/\KI g l i j o d e m p a q) q))))
 def EA:=AO.mrow (qy d 0) (length d)=AO.mrow (qy d 0) (length d)
 def Eu:=Rr e/\length d=length d/\Rm g (∃(h:wA),h.2.2.1=0/\KH l i a c (qy h.2.1 (0:Nat)=qy d 0/\length h.2.1=length d/\length h.1=length e+nat_lit 1/\length h.2.1=length d/\Rn e a h/\qa qF h.2.1=qa qF d/\KI g l i j o d e m p a h) h)
 def sI:=Wy e a c (EA d/\Xo e a/\qa qF d=qa qF d/\Xp a (Eu g l i j o d e m p a c))
 def S3:=Ji (AT.k g=13) (sG g l i j o d e m p a c) (sI g l i j o d e m p a c)
 def d_:=kOK Τ (ui i j)/\Rp d/\∃(q:Int),qil (ui i j) (qy d 0) (int i64 0)=int i64 q/\(qk9 (ui i j) (qy d 0)=ξ->Ji (AT.k g=13) (S5 g l i q j d e m o a c p) (S3 g l i j o d e m p a c))/\(qk9 (ui i j) (qy d 0)=Β->S3 g l i j o d e m p a c)
 def dY:=((!decide (a.2.1=0))=ξ->∃(h:wA),h.2.2.1=a.2.1/\KH l i a c (Ro d e (KI g l i j o d e m p a h) h) h)/\((!decide (a.2.1=0))=Β->d_ g l i j o d e m p a c)
 def dW:=EB j/\∃(h:ur),Ew g l i j h (h.2.1.2.2.1=(qJ i (toNat o)).2.2/\Et g l p e m w h (∀(u:zm),z31 h.1 (Ev h) h.2.1.2.1 h.2.1.2.2.1 h.2.1.2.2.2 h.2.2.1 u->(∃z,(KL g l e m z)/\υ u.1 z)->dY g l i o p d e m j u h))
 def sK:=Ez l (i=i/\j=j/\o=o/\qZ ((l.1,l.2.1,l.2.2),i,j,o)/\((!decide (vP (qJ i (toNat j))=0))=ξ->∃(h:wA),h.2.2.1=vP (qJ i (toNat j))/\Ez l (i=i/\h.2.2.2.1=(qJ i (toNat j)).2.2/\h.2.2.2.2=o/\Ro d e (z75 ((m,(l,i,j,o),g,p),e,d) h/\(∀q,KL g l e m q->ν h.1 q)/\True) h))/\((!decide (vP (qJ i (toNat j))=0))=Β->dW g l i p j d e m o w))
 def sH:=kOK Τ (string (mkS []))/\Ex d (Wy e a c (AO.mrow (qd3 (string (mkS [])) (KJ e) (qy d 0) (length d)) (qd2 (string (mkS [])) (qy d 0) (length d))=AO.mrow (qd3 (string (mkS [])) (KJ e) (qy d 0) (length d)) (qd2 (string (mkS [])) (qy d 0) (length d))/\Xp a (qa qF d++[string (mkS [])]=qa qF d++[string (mkS [])]/\Rr e/\length d+nat_lit 1=length d+nat_lit 1/\Rm g (Xo e a/\∃(q:wA),q.2.2.1=0/\KH l i a c (qy q.2.1 (0:Nat)=qd3 (string (mkS [])) (KJ e) (qy d 0) (length d)/\length q.2.1=qd2 (string (mkS [])) (qy d 0) (length d)/\length q.1=length e+nat_lit 1/\length q.2.1=length d+nat_lit 1/\Rn e a q/\qa qF q.2.1=qa qF d++[string (mkS [])]/\KI g l i j o d e m p a q) q))))
 def sJ:=Wy e a c (EA d/\Xp a (qa qF d=qa qF d/\Xo e a/\Eu g l i j o d e m p a c))
 def S4:=Ji (AT.k g=13) (sH g l i j o d e m p a c) (sJ g l i j o d e m p a c)
 def ec:=kOK Τ (string (mkS []))/\Rp d/\∃(q:Int),qil (string (mkS [])) (qy d 0) (int i64 0)=int i64 q/\(qk9 (string (mkS [])) (qy d 0)=ξ->Ji (AT.k g=13) (S5 g l i q j d e m o a c p) (S4 g l i j o d e m p a c))/\(qk9 (string (mkS [])) (qy d 0)=Β->S4 g l i j o d e m p a c)
 def dZ:=((!decide (a.2.1=0))=ξ->∃(h:wA),h.2.2.1=a.2.1/\KH l i a c (Ro d e (KI g l i j o d e m p a h) h) h)/\((!decide (a.2.1=0))=Β->ec g l i j o d e m p a c)
 def dX:=EB j/\∃(h:ur),Ew g l i j h (h.2.1.2.2.1=o/\Et g l p e m w h (∀(u:zm),z31 h.1 (Ev h) h.2.1.2.1 h.2.1.2.2.1 h.2.1.2.2.2 h.2.2.1 u->(∃z,(KL g l e m z)/\υ u.1 z)->dZ g l i o p d e m j u h))
 def sF:=Ji (AT.k g=13) (sK g l i j o d e m p w) (dX g l i p j d e m o w)
end
def zio(n:Nat) (S:List AT) (x:SV) (s:Ck) (i c:Int) (a:AT) (h:Int) (fs:List GV) (ks:List Ck):qk3 P (qf5 [(88,HX)]) (qg7 [(27,uQ.below wv n)]) Tryz.f83 (La.below Vl (n+1)) (zwf) ⟨⟨S,⟨x,s,i,c⟩,a,h⟩,fs,ks⟩=(Vl ((S,(x,s,i,c),a,h),fs,ks)<n+1/\Ci ((S,(x,s,i,c),a,h),fs,ks)->(∃(p:Pub),KL a x fs S p)->sF a x s i c ks fs S h n):=by kernel_rfl
def zpg:=λn S x s i c a h fs ks=>Ω (zio n S x s i c a h fs ks) (by delta Ji Jb Jt Jf KL Ez Ey Ro EB Ew Et Ev KH KI KM ui Rp QW QX QY QZ S5 Ex Xq Es Wy KJ Xp Rr Rm Rq Xo Rn sG EA Eu sI S3 d_ dY dW sK sH sJ S4 ec dZ dX sF;exact rfl)
section
variable {ks:List Ck} {vs:List PV} {st:zH}
def zh3{mp:Bool} (h:zK mp ks vs st):mp=ξ->ks.length=vs.length/\ks.Nodup:=λe=>by subst e;unfold zK at h;rw[if_pos rfl]at h;exact⟨h.2.1,h.1⟩
def HM(h:zK Β ks vs st):ks=[]/\st=([],vs):=by unfold zK at h;rw[if_neg (by decide)]at h;exact h
def P1{S:List AT} {x:SV} {s:Ck} {i c:Int} {a:AT} {u:Int} {fs:List GV} {ks:List Ck} {e' i' h:Int} (A:∀st,∃k:Nat,e'=k+1/\yi (qu S s u a.it) s (decide (a.k=13)) st i.toNat c.toNat= .no k) (C:i<=i'/\i'<=s.size) (G:c<=h/\h<=2001) (H:(fs.length:Int)<=h) (J:(ks.length:Int)<=h):z75 ⟨⟨S,⟨x,s,i,c⟩,a,u⟩,fs,ks⟩ (fs,ks,e',i',h):=by
 refine⟨λst _=> ?_,C,G,λg=> ?_,H,J⟩
 ·obtain⟨k,B,O⟩:=A st;rw[O];exact B
 ·obtain⟨k,B,_⟩:=A ([],[]);have g:e'=0:=g;omega
def Px{S:List AT} {x:SV} {s:Ck} {i c:Int} {a:AT} {C:Int} {fs u:List GV} {ks A:List Ck} {i' h:Int} (G:∀st,zK (decide (a.k=13)) ks (ι fs) st->∃r,yi (qu S s C a.it) s (decide (a.k=13)) st i.toNat c.toNat= .ok r/\zK (decide (a.k=13)) A (ι u) r.1/\i'=r.2.1/\h=r.2.2) (H:i<=i'/\i'<=s.size) (J:c+1<=h/\h<=2000) (O:(u.length:Int)<=h) (T:(A.length:Int)<=h):z75 ⟨⟨S,⟨x,s,i,c⟩,a,C⟩,fs,ks⟩ (u,A,0,i',h):=by refine⟨λst B=> ?_,H,⟨by show c<=h;omega,by show h<=2001;omega⟩,λ_=>J,O,T⟩;obtain⟨r,U,V,X,Y⟩:=G st B;rw[U];exact⟨rfl,V,X,Y⟩
def zzm(fs:List GV) (j:Nat) (r:GV):ι (fs.set j r)=(ι fs).set j r.pv:=by rw[qqg,qqg,List.map_set]
def zz9{fs:List GV} {j:Nat} {r:GV} {p:Pub} (h:ν fs p) (hr:r.ok p):ν (fs.set j r) p:=GV.oks_iff.2 λv u=>(List.mem_or_eq_of_mem_set u).elim (GV.oks_iff.1 h v) (λe=>e ▸ hr)
def zph(n:Nat) (hv:q1p P 27 (uQ.below wv n)):q1p P 83 (La.below Vl (n+1)):=by
  refine zh (qcl (qgj z9w qjq)) (qdd (qgi hv qjp)) (W:=zwf) Tryz.func83 λ⟨⟨S,⟨(x:SV),s,(i:Int),(c:Int)⟩,a,(A:Int)⟩,fs,ks⟩=>(zpg n S x s i c a A fs ks).mpr ?_;rintro⟨hmu,hok,haS,V,h,⟨hc0,hc1⟩,⟨hp1,hp2⟩,hfl,hkl,st0,Y⟩ ⟨p,_,⟨hx,ha⟩,hfs⟩;have hmu:(25- A).toNat<n+1:=hmu;have hi:=h.1;have hi2:=h.2.1;have hit:=(hok.2.2 a haS).2.2.1 V;have hpv:=Γ fs;simp only[qB,exists_const,forall_const,γ];refine⟨λO=> ?_,λO=> ?_⟩
  · have B:decide (a.k=13)=true:=decide_eq_true O;have u:=Y;rw[B]at u;obtain⟨hln,hnd⟩:=zh3 u rfl;rw[hpv]at hln;have ht:=Yd (D:=s) (i:=i.toNat) (by omega);have hve:0<=vP (qJ s i.toNat):=(by unfold vP;split<;>omega);have U:∀st,yi (qu S s A a.it) s ξ st i.toNat c.toNat=(vu (qJ s i.toNat) (vP (qJ s i.toNat))).bind λk=>(qu S s A a.it k.2 c.toNat).bind λr=> .ok ((qO k.1 st.1,zC k.1 st.1 st.2 r.1),r.2):=λst=>(by unfold yi;rw[if_pos rfl];rfl);generalize qJ s i.toNat=T at*;obtain⟨k,er,m⟩:=T;generalize vP (k,er,m)=E at*;simp only at ht U⊢;unfold vu at U;refine⟨h,λhe=>⟨⟨fs,ks,E,m,c⟩,rfl,rfl,rfl,rfl,rfl,rfl,rfl,rfl,rfl,P1 (λst=>⟨(E- 1).toNat,by omega,by rw[B,U,if_neg he,jl]⟩) ⟨by omega,by omega⟩ ⟨ρ _,by omega⟩ hfl hkl,λq hq=>hq.2⟩,λhe=>⟨⟨by omega,by omega⟩,⟨S,⟨x,s,m,c⟩,a.it,A+1⟩,rfl,rfl,rfl,rfl,rfl,rfl,rfl,rfl,⟨by show(25- (A+1)).toNat<n;omega,hok,⟨by show 0<=m;omega,by show m<=s.size;omega,h.2.2⟩,⟨hc0,hc1⟩,by show 1<=A+1;omega,by show A+1<=21;omega⟩,λq hq=>hq.1.1,?_⟩⟩;rintro⟨r,e',i',C⟩ ⟨g1,_,⟨g2,g3⟩,⟨g4,g5⟩,g6⟩ _;obtain⟨g7,g8⟩:=g1 hit;have g2:m<=i':=g2;have g8:c+1<=C:=g8;have g5:C<=2001:=g5;have g7:jJ (qM S s (21- (A+1)).toNat a.it m.toNat c.toNat) r.pv i' C e':=g7;rw[show(21- (A+1)).toNat=(20- A).toNat by omega]at g7;simp only[if_pos he,zb]at U;have hG:qu S s A a.it m.toNat c.toNat=qM S s (20- A).toNat a.it m.toNat c.toNat:=rfl;rw[←hG]at g7;simp only[true_and,and_true];generalize qu S s A a.it m.toNat c.toNat=G at*;have J:i<=i'/\i'<=s.size:=⟨by omega,g3⟩;refine⟨λZ=>⟨⟨fs,ks,e',i',C⟩,rfl,rfl,rfl,rfl,rfl,rfl,rfl,rfl,rfl,P1 (λst=> ?_) J ⟨by omega,g5⟩ (by omega) (by omega),λq hq=>hq.1.2⟩,λH=>⟨trivial,z67 ks 0,?_⟩⟩
    · cases G with
      |no j=>exact⟨j,g7,by rw[B,U,jl]⟩
      |ok w=>exact absurd g7.1 Z
    cases G with
    |no j=>have g7:e'=j+1:=g7;have H:e'=0:=H;omega
    | ok w=>
      obtain⟨_,q2,q3,q4⟩:=g7;simp only[zb]at U;have X:c+1<=C/\C<=2000:=⟨g8,g6 H⟩;by_cases V:k∈ks
      · obtain⟨k1,k2⟩:=Cj V;refine⟨(kI k ks:Nat),zvw _ V,λ_=>⟨λ_=>⟨⟨by omega,by omega⟩,by rw[γ,qv zn];show 0+kI k ks*5+5<=_;omega,⟨fs.set (kI k ks) r,ks,0,i',C⟩,rfl,rfl,rfl,rfl,rfl,qzy ..,rfl,by rw[γ];exact HI zn fs (kI k ks) (by omega) r,rfl,Px (λst u=>⟨_,by rw[B];exact U st,?_,q3,q4⟩) J X (by rw[qzy];omega) (by omega),λq hq=>zz9 hq.1.2 hq.2⟩,λg=>absurd O g⟩,λg=>by rw[jjl V]at g;cases g⟩;rw[B]at u⊢;rw[zzm,q2];exact zx6 u V
      · obtain⟨k1,k2⟩:=j9k V;refine⟨0,zyy _ V,λg=>(by rw[j9j V]at g;cases g),λ_=>⟨λ_=>⟨trivial,z67 ks 0,qv Ln ks,by omega,qv zn fs,by omega,⟨by omega,by omega⟩,by rw[ψ,qv zn];show 0+fs.length*5+5<=fs.length*5+5;omega,by rw[ψ,qv zn];show 0+fs.length*5+5<=fs.length*5+5;omega,⟨fs++[r],ks++[k],0,i',C⟩,rfl,rfl,rfl,?_,?_,by simp,by simp,(zjy fs r _ rfl).symm,by rw[zu];rfl,Px (λst u=>⟨_,by rw[B];exact U st,?_,q3,q4⟩) J X (by rw[ψ];show((fs.length+1:Nat):Int)<=C;omega) (by rw[ψ];show((ks.length+1:Nat):Int)<=C;omega),λq hq=>uJ hq.1.2 (vQ hq.2)⟩,λg=>absurd O g⟩⟩
        · rw[←hln];exact k1.symm
        · exact k2.symm
        · rw[B]at u⊢;rw[Wg,q2];exact zx4 u V
  · have B:decide (a.k=13)=false:=decide_eq_false O;have u:=Y;rw[B]at u;obtain⟨rfl,_⟩:=HM u;have U:∀st,yi (qu S s A a.it) s Β st i.toNat c.toNat=(qu S s A a.it i.toNat c.toNat).bind λr=> .ok ((st.1,st.2++[r.1]),r.2):=λst=>(by unfold yi;rw[if_neg (by decide)]);refine⟨⟨by omega,by omega⟩,⟨S,⟨x,s,i,c⟩,a.it,A+1⟩,rfl,rfl,rfl,rfl,rfl,rfl,rfl,rfl,⟨by show(25- (A+1)).toNat<n;omega,hok,h,⟨hc0,hc1⟩,by show 1<=A+1;omega,by show A+1<=21;omega⟩,λq hq=>hq.1.1,?_⟩;rintro⟨r,e',i',C⟩ ⟨g1,_,⟨g2,g3⟩,⟨g4,g5⟩,g6⟩ _;obtain⟨g7,g8⟩:=g1 hit;have g2:i<=i':=g2;have g8:c+1<=C:=g8;have g5:C<=2001:=g5;have g7:jJ (qM S s (21- (A+1)).toNat a.it i.toNat c.toNat) r.pv i' C e':=g7;rw[show(21- (A+1)).toNat=(20- A).toNat by omega]at g7;have hG:qu S s A a.it i.toNat c.toNat=qM S s (20- A).toNat a.it i.toNat c.toNat:=rfl;rw[←hG]at g7;simp only[true_and,and_true];have J:i<=i'/\i'<=s.size:=⟨by omega,g3⟩;generalize qu S s A a.it i.toNat c.toNat=G at*;refine⟨λZ=>⟨⟨fs,[],e',i',C⟩,rfl,rfl,rfl,rfl,rfl,rfl,rfl,rfl,rfl,P1 (λst=> ?_) J ⟨by omega,g5⟩ (by omega) (by show((0:Nat):Int)<=C;omega),λq hq=>hq.1.2⟩,λH=>⟨trivial,z67 [] 0,0,rfl,λg=>absurd g (by decide),λ_=>⟨λg=>absurd g O,λ_=> ?_⟩⟩⟩
    · cases G with
      |no j=>exact⟨j,g7,by rw[B,U,jl]⟩
      |ok w=>exact absurd g7.1 Z
    cases G with
    |no j=>have g7:e'=j+1:=g7;have H:e'=0:=H;omega
    | ok w=>
      obtain⟨_,q2,q3,q4⟩:=g7;simp only[zb]at U;have X:c+1<=C/\C<=2000:=⟨g8,g6 H⟩;refine⟨qv zn fs,by omega,⟨by omega,by omega⟩,by rw[ψ,qv zn];show 0+fs.length*5+5<=fs.length*5+5;omega,by rw[ψ,qv zn];show 0+fs.length*5+5<=fs.length*5+5;omega,⟨fs++[r],[],0,i',C⟩,rfl,rfl,rfl,rfl,rfl,by simp,rfl,(zjy fs r _ rfl).symm,rfl,Px (λst u=>⟨_,by rw[B];exact U st,?_,q3,q4⟩) J X (by rw[ψ];show((fs.length+1:Nat):Int)<=C;omega) (by show((0:Nat):Int)<=C;omega),λq hq=>uJ hq.1.2 (vQ hq.2)⟩;rw[B]at u⊢;obtain⟨_,rfl⟩:=HM u;unfold zK;rw[if_neg (by decide)];exact⟨rfl,by rw[Wg,q2]⟩
end
section
def zwx:∀{ks:List Ck} {vs:List PV},ks.Nodup->∀{k:Ck} {v:PV},(k,v)∈ks.zip vs->vs[kI k ks]? =Ε v
  | [],_,_,k,v,h=>by simp at h
  |a::l,[],_,k,v,h=>by simp at h
  | a ::l,w::vs,C,k,v,h=>by
    obtain⟨u,B⟩:=List.nodup_cons.1 C;rw[τ]at h;rcases List.mem_cons.1 h with h|h
    · cases h;simp[kI]
    · have A:=(qq0 h).1;rw[kI,if_neg (λe=>u (by rw[←e];exact A)),qq6];exact zwx B h
def zj6{α β:Type} {f:α->Option β}:∀{l:List α} {m:List β},l.length=m.length->(∀p∈l.zip m,f p.1=Ε p.2)->m.map Ε=l.map f
  | [],[],_,_=>rfl
  | a::l,b::m,h,g=>by rw[Ψ,Ψ,g (a,b) (by simp),zj6 (by simpa using h) λp hp=>g p (by rw[τ];exact qqt _ hp)]
def some_inj{α:Type}:∀{l m:List α},l.map Ε=m.map Ε->l=m
  | [],[],_=>rfl
  | [],_::_,h=>by cases h
  |_::_,[],h=>by cases h
  | a::l,b::m,h=>by rw[Ψ,Ψ]at h;obtain⟨u,A⟩:=List.cons.inj h;cases u;rw[some_inj A]
variable {st:zH}
def zx3{fs gs:List GV} {ks ls:List Ck} (h:zK ξ ks (ι fs) st) (hp:ls.Perm ks) (hu:V_ ls) (H:gs.map Ε=ls.map (λk=>fs[kI k ks]?)):st.1=ls/\st.2=ι gs:=by
 unfold zK at h;rw[if_pos rfl]at h;obtain⟨B,O,C,G,A⟩:=h;have J:st.1.Perm ks:=by have:=A.map Prod.fst;rwa [qqo (by omega),qqo (by omega)]at this
 have e1:st.1=ls:=by
  refine List.Perm.eq_of_pairwise (le:=λa b=>qdf b a=Β) (λa b _ _ p q=> ?_) (G.imp λ{a b} p=> ?_) hu (J.trans hp.symm)
  ·rcases(QI a b).2 p with p|p
   ·rw[q]at p;cases p
   ·exact p
  ·exact(QI a b).1 (.inl p)
 refine⟨e1,some_inj ?_⟩;rw[zj6 (f:=λk=>(ι fs)[kI k ks]?) C λp u=>zwx B (A.mem_iff.1 u),e1,qqg,qqg,qq9];have:gs.map (Ε∘qqf)=(gs.map Ε).map (Option.map qqf):=by rw[qq9];rfl
 rw[this,H,qq9];refine qqv λk _=> ?_;simp
variable {vs:List PV} {mp:Bool}
def zck{ks:List Ck} (h:zK mp ks vs st) (u:ks.length≠0):mp=true:=by
 cases mp with
 |true=>rfl
 |false=>rw[(HM h).1]at u;exact absurd rfl u
def zx5(h:zK mp [] vs st):st.1=[]/\st.2=vs:=by
  cases mp with
  |false=>rw[(HM h).2];exact⟨rfl,rfl⟩
  | true=>
    unfold zK at h;rw[if_pos rfl]at h;obtain⟨_,u,H,_,B⟩:=h;have u:vs.length=0:=u.symm;have e:vs=[]:=Υ u;subst e;have A:=B.length_eq;rw[List.length_zip]at A;have e0:(List.zip ([]:List Ck) ([]:List PV)).length=0:=rfl;rw[e0]at A;have C:st.1.length=0:=(by omega);have G:st.2.length=0:=(by omega);exact⟨Υ C,Υ G⟩
def j97{fs:List GV} {ls:List Ck} {a b:Option Addr} {c d:Nat} {q:Pub} (A:ν fs q) (B:fs.length<=c) (h:qgm q a (qzt (fs.length*5) (qa θ fs))) (C:ls.length<=d) (u:qgm q b (qzt (ls.length*1) (qa qF ls))):(GV.mk 0 (mkS []) (a,fs.length,c) fs (b,ls.length,d) ls 0).ok q:=by rw[Ι (by rw[qv zn];exact Κ _)]at h;rw[Ι (by rw[qv Ln];exact Κ _)]at u;unfold υ;exact⟨⟨rfl,B,h⟩,⟨rfl,C,u⟩,A⟩
def zw7{α:Type} {f:α->List Value} {e:Nat} (u:∀x,(f x).length=e) {l:List α} {i:Nat} (hi:i<l.length):qga (qa f l) (0+i*e) (f l[i]):=λj v h=>by
 have A:j<e:=by
  rcases qqq j e with g|g
  ·exact g
  ·rw[qzc (by rw[u];exact g)]at h;cases h
 rw[qqa,ZE u l i hi j A];exact h
def zy7{fs gs:List GV} {ks ls:List Ck} {j m:Nat} (h:gs.map Ε=(ls.take j).map (λk=>fs[kI k ks]?)) (u:j<ls.length) (hm:m<fs.length) (e:kI ls[j] ks=m):(gs++[fs[m]]).map Ε=(ls.take (j+1)).map (λk=>fs[kI k ks]?):=by rw[qqm,δ u,qq1,qq1,h];simp[e,hm]
def jjd:q1p P 82 Y4:=by
 refine zh (qcl qjq) (qdd (qgi j05 qjp)) (W:=fG) Tryz.func82 λ⟨fs,ks⟩=>(jjc fs ks).mpr ?_;rintro⟨hf,hkl,mp0,st0,u⟩ ⟨p,_,hp⟩;simp only[qB,exists_const,forall_const,γ];refine⟨λO a c _=> ?_,λO=> ?_⟩
 ·have O:ks=[]:=Υ (by omega);subst O;refine⟨.mk 0 (mkS []) (a,fs.length,c) fs (Ξ,0,0) [] 0,rfl,rfl,rfl,rfl,rfl,rfl,rfl,rfl,rfl,λmp st h=> ?_,λq hq=>z60 hq.1 hq.2.1 hq.2.2⟩;obtain⟨e1,e2⟩:=zx5 h;rw[qqf,e1,e2]
 ·have C:ks.length≠0:=by omega
  have U:=zck u C;rw[U]at u;have T:=(zh3 u rfl).1;rw[Γ]at T;refine⟨ks,rfl,rfl,⟨by omega,by omega⟩,?_⟩;rintro ls ⟨V,Y⟩;refine⟨⟨(0,[],ls),rfl,rfl,rfl,rfl,λq _=>GV.oks_iff.2 λw hw=>(by cases hw),⟨Α _,V,Y,rfl,rfl⟩⟩,?_⟩;rintro⟨j,gs,ls⟩ ⟨r1,G,Z,r4,H⟩ ⟨p2,hp2,J⟩;simp only at r1 G Z r4 H J⊢;have hll:=G.length_eq;refine⟨λhlt=> ?_,λhge a c _ b d _=> ?_⟩
  ·have A:j<ls.length:=(by omega);have B:ls[j]∈ks:=G.mem_iff.1 (ε A);obtain⟨k1,k2⟩:=Cj B;have hm:kI ls[j] ks<fs.length:=(by omega);refine⟨⟨by omega,by omega⟩,ls[j],zw7 Ln A,by rw[qv Ln],by rw[Ρ];omega,trivial,z67 ks 0,(kI ls[j] ks:Nat),zvw _ B,⟨by omega,by omega⟩,fs[kI ls[j] ks].n,fs[kI ls[j] ks].s,fs[kI ls[j] ks].x.1,fs[kI ls[j] ks].x.2.1,fs[kI ls[j] ks].x.2.2,fs[kI ls[j] ks].y.1,fs[kI ls[j] ks].y.2.1,fs[kI ls[j] ks].y.2.2,fs[kI ls[j] ks].b,by rw[γ];exact zw7 zn hm,qv zn gs,by omega,⟨by omega,by omega⟩,(j+1,gs++[fs[kI ls[j] ks]],ls),by show((j+1:Nat):Int)=_;omega,rfl,by simp,by simp only[Ρ];omega,by rw[zu];rfl,?_,λq hq=>hq.1,λq hq=>uJ hq.2 (vQ (GV.oks_iff.1 hq.1 _ (ε hm))),⟨by show j+1<=_;omega,G,Z,by simp[r4],zy7 H A hm rfl⟩,by show ks.length- (j+1)<_;omega⟩;show qa qF (ls.take (j+1))=_;rw[qqm,δ A,zu];rfl
  ·have A:j=ks.length:=(by omega);have X:ls.take j=ls:=Ι (by omega);rw[X]at H;refine⟨.mk 0 (mkS []) (a,gs.length,c) gs (b,ls.length,d) ls 0,rfl,rfl,rfl,rfl,rfl,rfl,by rw[X];rfl,rfl,rfl,λmp st h=> ?_,λq hq=> ?_⟩
   ·rw[zck h C]at h;obtain⟨e1,e2⟩:=zx3 h G Z H;rw[qqf,e1,e2]
   ·have h5:=hq.2.2;have h4:=hq.2.1;rw[X]at h4 h5;exact j97 hq.1.1.2 hq.1.2.1 hq.1.2.2 h4 h5
end
end
end Go.Proofs.YtniogjgfomaicaaGreat.Wd
