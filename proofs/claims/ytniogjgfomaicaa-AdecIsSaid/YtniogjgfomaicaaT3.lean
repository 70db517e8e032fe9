/-
  What the functions do: contracts, and their questions answered. No condition but what its theorems ask.
-/
import Derived.Test.YtniogjgfomaicaaT2
import Derived.Test.YtniogjgfomaicaaSh
import Derived.WalkKit
import Derived.ProofKit
import Derived.OpenShut
import Derived.ShutString
import Derived.ChangeOld
import Derived.Lib.SmallJoins
namespace Go.Proofs.Ytniogjgfomaicaa.Wd
open Go.Proofs.Ytniogjgfomaicaa.Eng Go.Proofs.Ytniogjgfomaicaa.Sen Go.RowKit
set_option linter.defProp false
set_option linter.unusedVariables false
set_option linter.unusedSimpArgs false
set_option maxRecDepth 1000000
open Go.Value (int string slice bool)
open Go.IntKind (i64 u64 u8 u32 i32)
open _root_.List (length take drop)
open _root_.ByteArray (size)
open _root_.Int (toNat)
noncomputable section
section
variable (x0:VlB) (x1:List AT) (x2:SV) (x3:GJ) (x4:Int×GV) (x5:Prop) (x6:(Option Addr×Nat×Nat)×Int)
 def j3e:= !(decide (0<=x6.2)&&decide (x6.2<(↑x6.1.2.1:Int)))
 def j3d:=GV.n x4.2=0/\GV.s x4.2=mkS []/\(GV.x x4.2).1=noA/\(GV.x x4.2).2.1=0/\(GV.x x4.2).2.2=0/\(GV.y x4.2).1=noA/\(GV.y x4.2).2.1=0/\(GV.y x4.2).2.2=0/\GV.b x4.2=0/\x5
 def jcf:=((!decide (x0.2.1=0))=true->∃(i0:Int×GV),j3d i0 (i0.1=x0.2.1/\True/\(∀i1,(True/\z0a x1 x2 i1/\GJ.ok x3 i1)/\GV.ok x0.2.2 i1->GV.ok i0.2 i1)/\True))/\((!decide (x0.2.1=0))=false->∃(i2:Int×GV),GV.n i2.2=GV.n x0.2.2/\GV.s i2.2=GV.s x0.2.2/\(GV.x i2.2).1=(GV.x x0.2.2).1/\(GV.x i2.2).2.1=(GV.x x0.2.2).2.1/\(GV.x i2.2).2.2=(GV.x x0.2.2).2.2/\(GV.y i2.2).1=(GV.y x0.2.2).1/\(GV.y i2.2).2.1=(GV.y x0.2.2).2.1/\(GV.y i2.2).2.2=(GV.y x0.2.2).2.2/\GV.b i2.2=GV.b x0.2.2/\i2.1=0/\True/\(∀i3,(True/\z0a x1 x2 i3/\GJ.ok x3 i3)/\GV.ok x0.2.2 i3->GV.ok i2.2 i3)/\True)
end
def zam(S:List AT) (x:SV) (t:Int) (g:GJ):qm3 P (qh2 [(14,j08)]) (qi5 [(37,cVl)]) Try.f19 z71 (λ_=>{}) ⟨S,x,t,g⟩=(z0v S/\GJ.wf g->(∃(p:Pub),True/\z0a S x p/\GJ.ok g p)->∃(s:(Option Addr×Nat×Nat)×Int),s.1.1=x.1/\s.1.2.1=x.2.1/\s.1.2.2=x.2.2/\s.2=t/\True/\((j3e s)=true->∃(b:Int×GV),j3d b (b.1=1/\True/\(∀(p:Pub),True/\z0a S x p/\GJ.ok g p->GV.ok b.2 p)/\True))/\((j3e s)=false->∃(s:VlS),s.2.2.2.1=t/\GJ.k s.2.2.2.2.1=GJ.k g/\GJ.n s.2.2.2.2.1=GJ.n g/\GJ.s s.2.2.2.2.1=GJ.s g/\(GJ.y s.2.2.2.2.1).1=(GJ.y g).1/\(GJ.y s.2.2.2.2.1).2.1=(GJ.y g).2.1/\(GJ.y s.2.2.2.2.1).2.2=(GJ.y g).2.2/\(GJ.x s.2.2.2.2.1).1=(GJ.x g).1/\(GJ.x s.2.2.2.2.1).2.1=(GJ.x g).2.1/\(GJ.x s.2.2.2.2.1).2.2=(GJ.x g).2.2/\s.2.2.2.2.2=1/\s.2.1.1=x.1/\s.2.1.2.1=x.2.1/\s.2.1.2.2=x.2.2/\s.2.2.1=0/\(z0v s.1/\(0<=s.2.2.2.1/\s.2.2.2.1<(↑(length s.1):Int))/\GJ.wf s.2.2.2.2.1/\(0<=s.2.2.1/\s.2.2.1<=2000)/\1<=s.2.2.2.2.2/\s.2.2.2.2.2<=21)/\(∀(p:Pub),True/\z0a S x p/\GJ.ok g p->z0a s.1 s.2.1 p/\GJ.ok s.2.2.2.2.1 p)/\∀(b:VlB),z0l s.2.2.1 b->(∃(p:Pub),(True/\z0a S x p/\GJ.ok g p)/\GV.ok b.2.2 p)->jcf b S x g)):=by kernel_rfl
def zdx:=λS x t g=>Eq.trans (zam S x t g) (by delta j3e j3d jcf;exact rfl)
section
variable (x0:SV) (x1:List AT) (x2 x3:Nat) (x4:Int×GV) (x5:Prop) (x6:Option Addr) (x7:Nat)
 abbrev zsl:=x0.1=x0.1/\x0.2.1=x0.2.1/\x0.2.2=x0.2.2/\x5
 def zzq:=zsl x0 ((∀i0,True/\z0a x1 x0 i0->True/\z0a x1 x0 i0)/\x5)
 abbrev zk9:=(↑x2:Int)<(↑x0.2.1:Int)
 def zsm:=(∀i0,True/\z0a x1 x0 i0->q3p i0 (Addr.add (adr x0.1 (toNat (↑x2:Int)*10)) 8) [slice x6 x3 x7])
 abbrev zk8:=Jb ((↑x2:Int)+1)
 def jco:=zk8 x2/\∃(i0:Nat),(↑x3:Int)=(↑x3:Int)/\(↑i0:Int)=(↑x2:Int)+1/\zzq x0 x1 (True/\(100:Nat)- i0<100- x2/\True)
 def jcm:=zk8 x2/\∃(i0:Nat),(↑x3:Int)=(↑x3:Int)/\(↑i0:Int)=(↑x2:Int)+1/\zsl x0 ((∀i1,(True/\z0a x1 x0 i1)/\GV.ok x4.2 i1->True/\z0a x1 x0 i1)/\True/\(100:Nat)- i0<100- x2/\True)
 def jcl:=((!decide (x4.1=0))=true->∃(i0:Int×Int×Int),i0.1=x4.1/\i0.2.1=(↑x2:Int)/\i0.2.2=(↑x3:Int)/\True/\True)/\((!decide (x4.1=0))=false->jcm x0 x1 x3 x2 x4)
 def jck:=(0<=(↑x2:Int)/\zk9 x0 x2)/\x0.1≠noA/\∃i0,∃(i1:Nat),∃(i2:Nat),zsm x0 x1 x2 i1 i0 i2/\(0<=(↑x3:Int)/\(↑x3:Int)<(↑i1:Int))/\i0≠noA/\∃i4,∃i5,∃(i6:Nat),∃(i7:Nat),∃(i8:Int),∃(i9:Bool),∃(i10:Int),∃(i11:Int),∃i12,∃i13,∃(i14:Nat),∃(i15:Nat),∃i16,∃(i17:Nat),∃(i18:Nat),(∀i19,True/\z0a x1 x0 i19->q3p i19 (adr i0 (toNat (↑x3:Int)*9)) [string i4,slice i5 i6 i7,int i64 i8,bool i9,int i64 i10,int i64 i11,string i12,slice i13 i14 i15,slice i16 i17 i18])/\((!i9)=true->jco x0 x1 x3 x2)/\((!i9)=false->∃(i22:List AT×(Option Addr×Nat×Nat)×Int×GJ),i22.2.1.1=x0.1/\i22.2.1.2.1=x0.2.1/\i22.2.1.2.2=x0.2.2/\i22.2.2.1=i8/\GJ.k i22.2.2.2=i10/\GJ.n i22.2.2.2=i11/\GJ.s i22.2.2.2=i12/\(GJ.y i22.2.2.2).1=i13/\(GJ.y i22.2.2.2).2.1=i14/\(GJ.y i22.2.2.2).2.2=i15/\(GJ.x i22.2.2.2).1=i16/\(GJ.x i22.2.2.2).2.1=i17/\(GJ.x i22.2.2.2).2.2=i18/\(z0v i22.1/\GJ.wf i22.2.2.2)/\(∀i23,True/\z0a x1 x0 i23->z0a i22.1 i22.2.1 i23/\GJ.ok i22.2.2.2 i23)/\∀(i24:Int×GV),True->(∃i25,(True/\z0a x1 x0 i25)/\GV.ok i24.2 i25)->jcl x0 x1 x2 x3 i24)
 def jcn:=zk8 x2/\∃(i0:Nat),(↑i0:Int)=(↑x2:Int)+1/\zzq x0 x1 (i0<=length x1/\length x1- i0<length x1- x2/\True)
 def jcj:=(0<=(↑x2:Int)/\zk9 x0 x2)/\x0.1≠noA/\∃i0,∃(i1:Nat),∃(i2:Nat),zsm x0 x1 x2 i1 i0 i2/\Ji ((↑x3:Int)<(↑i1:Int)) (jck x0 x1 x2 x3) (jcn x0 x1 x2)
 def jci:=(∃(i0:Nat),(↑x2:Int)=(↑x2:Int)/\(↑i0:Int)=0/\zzq x0 x1 (True/\True))/\∀(i2:Nat),True->jcj x0 x1 x2 i2
 def jch:=Ji (zk9 x0 x2) (jci x0 x1 x2) (∃(i38:Int×Int×Int),i38.1=0/\i38.2.1=0/\i38.2.2=0/\True/\True)
 def jcg:=(∃(i0:Nat),(↑i0:Int)=0/\zzq x0 x1 (i0<=length x1/\True))/\∀(i2:Nat),i2<=length x1->jch x0 x1 i2
end
def z9z(S:List AT) (x:SV):qm3 P (qh2 []) (qi5 [(19,z71)]) Try.f12 z4t (ze4) ⟨S,x⟩=(z0v S->(∃(p:Pub),True/\z0a S x p)->jcg x S):=by kernel_rfl
def zbq:=λS x=>Eq.trans (z9z S x) (by delta Ji Jb Jt Jf zsl zzq zk9 zsm zk8 jco jcm jcl jck jcn jcj jci jch jcg;exact rfl)
def zaf(x:SV) (L:List Int) (n:Int):qm1 P (qh2 []) (qi5 [(18,z1h)]) Try.f11 z4y (λ_=>{}) ⟨x,L,n⟩=(zae (x,L,n)->(∃(p:Pub),True/\slP byV x L p)->∃(s:ByteArray×TrS),s.1=mkS [84,111,112]/\s.2.2.2.2.1=0/\s.2.1.1=x.1/\s.2.1.2.1=x.2.1/\s.2.1.2.2=x.2.2/\s.2.2.2.1=n/\z00 txV s.2.2.2.2.2=[string (mkS [84,111,112])]/\length s.2.2.2.2.2=nat_lit 1/\(size s.1<100/\z2r 3 s.2)/\(∀(p:Pub),True/\slP byV x L p->slP byV s.2.1 s.2.2.1 p)/\∀(b:TrB),z0y s.2.2.1 s.2.2.2.1 s.2.2.2.2.2 b->(∃(p:Pub),(True/\slP byV x L p)/\GJ.ok b.1 p)->∃(b_1:GJ×Int),GJ.k b_1.1=GJ.k b.1/\GJ.n b_1.1=GJ.n b.1/\GJ.s b_1.1=GJ.s b.1/\(GJ.y b_1.1).1=(GJ.y b.1).1/\(GJ.y b_1.1).2.1=(GJ.y b.1).2.1/\(GJ.y b_1.1).2.2=(GJ.y b.1).2.2/\(GJ.x b_1.1).1=(GJ.x b.1).1/\(GJ.x b_1.1).2.1=(GJ.x b.1).2.1/\(GJ.x b_1.1).2.2=(GJ.x b.1).2.2/\x.1=s.2.1.1/\x.2.1=s.2.1.2.1/\x.2.2=s.2.1.2.2/\b_1.2=b.2.1/\(GJ.wf b_1.1/\n<=b_1.2/\b_1.2<=(↑(length L):Int))/\(∀(p:Pub),(True/\slP byV x L p)/\GJ.ok b.1 p->GJ.ok b_1.1 p)/\True):=by kernel_rfl
section
variable (x0:List AT×(Option Addr×Nat×Nat)×Int) (x1:SV) (x2:RcS) (x3:GJ×Int) (x4:Int) (x5:List Int) (x6:List AT×(Option Addr×Nat×Nat)×Bool×Int) (x7:Prop)
 def j3g:=x6.2.1.1=x0.2.1.1/\x6.2.1.2.1=x0.2.1.2.1/\x6.2.1.2.2=x0.2.1.2.2/\x7
 def j3f:=x1.1=x2.1.1/\x1.2.1=x2.1.2.1/\x1.2.2=x2.1.2.2/\x6.2.2.2=x3.2/\(z0v x6.1/\(x6.2.2.1=true->x6.1≠[])/\x4<=x6.2.2.2/\x6.2.2.2<=(↑(length x5):Int))/\(∀i0,((True/\slP byV x1 x5 i0)/\GJ.ok x3.1 i0)/\z0a x0.1 x0.2.1 i0->z0a x6.1 x6.2.1 i0)/\True
 def jcp:=((!decide (x0.2.2=0))=true->∃(i0:List AT×(Option Addr×Nat×Nat)×Bool×Int),j3g x0 i0 (i0.2.2.1=false/\j3f x0 x1 x2 x3 x4 x5 i0))/\((!decide (x0.2.2=0))=false->∃(i2:List AT×Option Addr×Nat×Nat),i2.2.1=x0.2.1.1/\i2.2.2.1=x0.2.1.2.1/\i2.2.2.2=x0.2.1.2.2/\z0v i2.1/\(∀i3,((True/\slP byV x1 x5 i3)/\GJ.ok x3.1 i3)/\z0a x0.1 x0.2.1 i3->z0a i2.1 i2.2 i3)/\∀(i4:Int×Int×Int),True->∃(i5:List AT×(Option Addr×Nat×Nat)×Bool×Int),j3g x0 i5 (i5.2.2.1=decide (i4.1=0)/\j3f x0 x1 x2 x3 x4 x5 i5))
end
def zfw(x:SV) (L:List Int) (n:Int):qm3 P (qh2 []) (qi5 [(11,z4y),(10,zbl),(12,z4t)]) Try.f6 zmd (λ_=>{}) ⟨x,L,n⟩=(zae (x,L,n)->(∃(p:Pub),True/\slP byV x L p)->∃(s:RcS),s.1.1=x.1/\s.1.2.1=x.2.1/\s.1.2.2=x.2.2/\s.2.2=n/\zae s/\(∀(p:Pub),True/\slP byV x L p->slP byV s.1 s.2.1 p)/\∀(b:GJ×Int),GJ.wf b.1/\s.2.2<=b.2/\b.2<=(↑(length s.2.1):Int)->(∃(p:Pub),(True/\slP byV x L p)/\GJ.ok b.1 p)->∃(s_1:GJ),GJ.k s_1=GJ.k b.1/\GJ.n s_1=GJ.n b.1/\GJ.s s_1=GJ.s b.1/\(GJ.y s_1).1=(GJ.y b.1).1/\(GJ.y s_1).2.1=(GJ.y b.1).2.1/\(GJ.y s_1).2.2=(GJ.y b.1).2.2/\(GJ.x s_1).1=(GJ.x b.1).1/\(GJ.x s_1).2.1=(GJ.x b.1).2.1/\(GJ.x s_1).2.2=(GJ.x b.1).2.2/\GJ.wf s_1/\(∀(p:Pub),(True/\slP byV x L p)/\GJ.ok b.1 p->GJ.ok s_1 p)/\∀(b_1:List AT×(Option Addr×Nat×Nat)×Int),z0v b_1.1/\(b_1.2.2=0->b_1.1≠[])->(∃(p:Pub),((True/\slP byV x L p)/\GJ.ok b.1 p)/\z0a b_1.1 b_1.2.1 p)->jcp b_1 x s b n L):=by kernel_rfl
def zm7:=λx L n=>Eq.trans (zfw x L n) (by delta j3g j3f jcp;exact rfl)
def zdy:q22 P 19 z71:=by
 refine qlb mixed (qee (qih zcd qlq)) (qf7 (qig zvc qlp)) (W:=λ_=>{}) Try.func19 (by kernel_rfl) (show 1<=1 by decide) (show 1<=1 by decide) (λs=>by kernel_rfl) λ⟨S,(x:SV),(t:Int),g⟩=>(zdx S x t g).mpr ?_
 rintro⟨hS,hg⟩ ⟨p,_,hx,hgo⟩
 have sl:x.2.1=S.length:=hx.1.1
 simp only[sbS,exists_const,forall_const,Int.toNat_natCast]
 refine⟨⟨x,t⟩,rfl,rfl,rfl,rfl,λh=>⟨⟨1,zV⟩,rfl,rfl,rfl,rfl,rfl,rfl,rfl,rfl,rfl,rfl,λq hq=>z1d q⟩,λh=> ?_⟩
 simp only[sl,Bool.and_eq_true,decide_eq_true_eq]at h
 refine⟨⟨S,x,0,t,g,1⟩,rfl,rfl,rfl,rfl,rfl,rfl,rfl,rfl,rfl,rfl,rfl,rfl,rfl,rfl,rfl,⟨hS,h,hg,⟨(by show(0:Int)<=0;decide),(by show(0:Int)<=2000;decide)⟩,(by show(1:Int)<=1;decide),(by show(1:Int)<=21;decide)⟩,λq hq=>hq,?_⟩
 rintro⟨a,e,v⟩ _ _
 exact⟨λ_=>⟨⟨e,zV⟩,rfl,rfl,rfl,rfl,rfl,rfl,rfl,rfl,rfl,rfl,λq hq=>z1d q⟩,λ_=>⟨⟨0,v⟩,rfl,rfl,rfl,rfl,rfl,rfl,rfl,rfl,rfl,rfl,λq hq=>hq.2⟩⟩
def zbr:q22 P 12 z4t:=by
  refine qlb mixed (qee qlq) (qf7 (qig zdy qlp)) (W:=ze4) Try.func12 (by kernel_rfl) (show 1<=1 by decide) (show 1<=1 by decide) (λs=>by kernel_rfl) λ⟨S,(x:SV)⟩=>(zbq S x).mpr ?_
  rintro hS ⟨p,_,hx⟩
  have sl:x.2.1=S.length:=hx.1.1
  have h60:=hS.1
  simp only[sbS,exists_const,forall_const,Int.toNat_natCast,sl]
  refine⟨⟨0,rfl,Nat.zero_le _⟩,?_⟩
  rintro j hj
  refine⟨λhlt=>⟨⟨0,rfl⟩,λk=> ?_⟩,λhge=>⟨⟨0,0,0⟩,rfl,rfl,rfl⟩⟩
  have hjl:j<S.length:=by omega
  have hat:=λq (hq:z0a S x q)=>z9e hq hjl
  have hao:=λq (hq:z0a S x q)=>hq.2 S[j] (List.getElem_mem hjl)
  have hgd:=hS.2 S[j] (List.getElem_mem hjl)
  generalize S[j]=a at*
  obtain⟨_,_,fl,_⟩:=z1w (hao p hx)
  have hf30:=hgd.2.2.2.2.2.2.2.1
  have c8:∀q,z0a S x q->q3p q ((adr x.1 (j*10)).add 8) [.slice a.f.1 a.fs.length a.f.2.2]:=λq hq i v hi=>by
    cases i with
    | zero=>
      rw[←fl]at hi
      have:=(hat q hq).2 8 v hi
      rw[Addr.add_add];exact this
    |succ i=>simp at hi
  refine⟨⟨by omega,by omega⟩,(hat p hx).1,a.f.1,a.fs.length,a.f.2.2,c8,λhk=>⟨⟨by omega,by omega⟩,(hat p hx).1,a.f.1,a.fs.length,a.f.2.2,c8,⟨by omega,by omega⟩,?_⟩,λhk=>⟨⟨by omega,by omega⟩,j+1,by omega,by omega,by omega⟩⟩
  have hkl:k<a.fs.length:=by omega
  have hff:=hgd.2.2.2.2.1 _ (List.getElem_mem hkl)
  have fok:=λq (hq:z0a S x q)=>(hao q hq).2.2.2.2 a.fs[k] (List.getElem_mem hkl)
  have fat:=λq (hq:z0a S x q)=>z8o (hao q hq) hkl
  have hk100:k<100:=by omega
  generalize a.fs[k]=f at*
  refine⟨(fat p hx).1,f.nm,f.al.1,f.al.2.1,f.al.2.2,f.ty,f.hd,f.df.k,f.df.n,f.df.s,f.df.y.1,f.df.y.2.1,f.df.y.2.2,f.df.x.1,f.df.x.2.1,f.df.x.2.2,λq hq=>(fat q hq).2,λ_=>⟨⟨by omega,by omega⟩,k+1,by omega,by omega⟩,λ_=>⟨⟨S,x,f.ty,f.df⟩,rfl,sl,rfl,rfl,rfl,rfl,rfl,rfl,rfl,rfl,rfl,rfl,rfl,⟨hS,hff.2⟩,λq hq=>⟨hq,(fok q hq).2⟩,?_⟩⟩
  rintro⟨e,v⟩ _
  exact⟨λ_=>⟨⟨e,j,k⟩,rfl,rfl,rfl⟩,λ_=>⟨⟨by omega,by omega⟩,k+1,by omega,λq hq=>hq.1,by omega⟩⟩
def zag:q22 P 11 z4y:=by
 refine qla mixed (qee qlq) (qf7 (qig zhm qlp)) (W:=λ_=>{}) Try.func11 (by kernel_rfl) (show 1<=2 by decide) (show 2<=2 by decide) (λs=>by kernel_rfl) λ⟨(x:SV),L,(n:Int)⟩=>(zaf x L n).mpr ?_
 rintro⟨hn0,hn1,hL⟩ ⟨p,_,hx⟩
 simp only[sbS,exists_const,forall_const,Int.toNat_natCast]
 refine⟨⟨mkS [84,111,112],x,L,n,0,[mkS [84,111,112]]⟩,rfl,rfl,rfl,rfl,rfl,rfl,rfl,rfl,⟨(by show(3:Nat)<100;decide),⟨hn0,hn1,hL,(by show(0:Int)<=0;decide),(by show(0:Int)<=3;decide),(by show((1:Nat):Int)<=n+1;omega),λt ht=>(by simp at ht;subst ht;show 3<100;decide)⟩⟩,λq hq=>hq,?_⟩
 rintro⟨g,n',N'⟩ ⟨hw,h1,h2,_⟩ _
 exact⟨⟨g,n'⟩,rfl,rfl,rfl,rfl,rfl,rfl,rfl,rfl,rfl,rfl,rfl,rfl,rfl,⟨hw,h1,h2⟩,λq hq=>hq.2⟩
def zm8:q22 P 6 zmd:=by
 refine qlb mixed (qee qlq) (qf7 (qig zag (qig zgm (qig zbr qlp)))) (W:=λ_=>{}) Try.func6 (by kernel_rfl) (show 1<=2 by decide) (show 2<=2 by decide) (λs=>by kernel_rfl) λ⟨(x:SV),L,(n:Int)⟩=>(zm7 x L n).mpr ?_
 rintro⟨hn0,hn1,hL⟩ ⟨p,_,hx⟩
 simp only[sbS,exists_const,forall_const,Int.toNat_natCast]
 refine⟨⟨x,L,n⟩,rfl,rfl,rfl,rfl,⟨hn0,hn1,hL⟩,λq hq=>hq,?_⟩
 rintro⟨g,n'⟩ ⟨hw,h1,h2⟩ _
 refine⟨g,rfl,rfl,rfl,rfl,rfl,rfl,rfl,rfl,rfl,hw,λq hq=>hq.2,?_⟩
 rintro⟨S,y,e⟩ ⟨hS,hne⟩ _
 simp only at hS hne⊢
 refine⟨λhe=>⟨⟨S,y,false,n'⟩,rfl,rfl,rfl,rfl,trivial,trivial,trivial,rfl,⟨hS,λh=>(by cases h),h1,h2⟩,λq hq=>hq.2⟩,λhe=>⟨⟨S,y⟩,rfl,rfl,rfl,hS,λq hq=>hq.2,?_⟩⟩
 rintro⟨e2,t,i⟩
 exact⟨⟨S,y,decide (e2=0),n'⟩,rfl,rfl,rfl,rfl,trivial,trivial,trivial,rfl,⟨hS,λ_=>hne he,h1,h2⟩,λq hq=>hq.2⟩
section
def z59:∀{l:List PV},PV.sms l↔∀v∈l,v.sm
 | []=>by unfold PV.sms;simp
 |v::l=>by unfold PV.sms;rw[z59 (l:=l)];simp
def z3k{S:List AT} {f:Nat->Int}:∀{l:List PV} {i:Nat},(∀(j:Nat) (h:j<l.length),PV.fits S (f (i+j)) l[j]=true)->PV.fitL S f i l=true
  | [],i,h=>by rw[PV.fitL]
  | v ::l,i,h=>by
    rw[PV.fitL]
    have h0:=h 0 (by simp)
    have:=z3k (S:=S) (f:=f) (l:=l) (i:=i+1) λj hj=>by
      have:=h (j+1) (by simp;omega)
      rw[show i+1+j=i+(j+1)by omega];simpa using this
    rw[this]
    simpa using h0
variable {S:List AT}
def z8m{f:Nat->Int} {t:Int} (hf:∀i,f i=t) {l:List PV} (h:∀v∈l,PV.fits S t v=true):PV.fitL S f 0 l=true:=
 z3k λj hj=>by rw[hf];exact h _ (List.getElem_mem hj)
variable {i:Nat}
def zu4(hi:i<S.length) {n:Int} (hk:isN S[i].k=true) (h:okN S[i] n=true):PV.fits S i (.mk n (mkS []) [] [] 0)=true:=by
 rw[PV.fits,if_neg (by omega)]
 simp only[Int.toNat_natCast,List.getElem?_eq_getElem hi]
 rw[if_pos hk,h];rfl
def zu5(hi:i<S.length) {s:ByteArray} (hk:isT S[i].k=true) (h:okT S[i] s=true):PV.fits S i (.mk 0 s [] [] 0)=true:=by
 have hn:isN S[i].k=false:=by
  unfold isT at hk;have:=of_decide_eq_true hk
  unfold isN;exact decide_eq_false (by omega)
 rw[PV.fits,if_neg (by omega)]
 simp only[Int.toNat_natCast,List.getElem?_eq_getElem hi]
 rw[if_neg (by rw[hn];decide),if_pos hk,h];rfl
def z8n(hi:i<S.length) {l:List PV} {ks:List ByteArray} {b:Int} (hk:isQ S[i].k=true) (h:okP S[i] l.length ks b=true) (hl:PV.fitL S (z2j S[i] b) 0 l=true):PV.fits S i (.mk 0 (mkS []) l ks b)=true:=by
 have hq:=hk
 unfold isQ at hq;have hq:=of_decide_eq_true hq
 have hn:isN S[i].k=false:=by unfold isN;exact decide_eq_false (by omega)
 have ht:isT S[i].k=false:=by unfold isT;exact decide_eq_false (by omega)
 rw[PV.fits,if_neg (by omega)]
 simp only[Int.toNat_natCast,List.getElem?_eq_getElem hi]
 rw[if_neg (by rw[hn];decide),if_neg (by rw[ht];decide),if_pos hk,h,hl];rfl
def zge(hi:i<S.length) (hk:S[i].k=9) {l:List PV} (hl:l.length=S[i].fs.length) (h:∀(j:Nat) (h1:j<l.length) (h2:j<S[i].fs.length),PV.fits S (S[i].fs[j]).ty l[j]=true):PV.fits S i (.mk 0 (mkS []) l [] 0)=true:=by
 refine z8n hi (by unfold isQ;exact decide_eq_true (.inl hk)) ?_ (z3k λj hj=> ?_)
 ·unfold okP
  rw[if_neg (by simp),if_pos hk];exact decide_eq_true hl
 ·have e:z2j S[i] 0 (0+j)=(S[i].fs[j]'(by omega)).ty:=by
   unfold z2j
   rw[if_pos hk,Nat.zero_add,List.getElem?_eq_getElem (by omega)]
  rw[e];exact h j hj (by omega)
def zgf(hi:i<S.length) (hk:S[i].k=14) {b:Nat} (hb:b<S[i].brs.length) {v:PV} (h:PV.fits S (S[i].brs.getD b 0) v=true):PV.fits S i (.mk 0 (mkS []) [v] [] b)=true:=by
 refine z8n hi (by unfold isQ;exact decide_eq_true (by omega)) ?_ (z3k λj hj=> ?_)
 ·unfold okP
  rw[if_neg (by simp[hk]),if_neg (by omega),if_pos hk];exact decide_eq_true ⟨by omega,by omega,rfl⟩
 ·obtain rfl:j=0:=by simp at hj;exact hj
  have e:z2j S[i] (b:Int) (0+0)=S[i].brs.getD b 0:=by
   unfold z2j
   rw[if_neg (by omega),if_pos hk,Int.toNat_natCast]
  rw[e];exact h
def zgc(hi:i<S.length) (hk:S[i].k=12) {l:List PV} (h:∀v∈l,PV.fits S S[i].it v=true):PV.fits S i (.mk 0 (mkS []) l [] 0)=true:=by
 refine z8n hi (by unfold isQ;exact decide_eq_true (by omega)) ?_ (z8m (λj=> ?_) h)
 ·unfold okP
  rw[if_neg (by simp),if_neg (by omega),if_neg (by omega),if_neg (by omega)]
 ·unfold z2j
  rw[if_neg (by omega),if_neg (by omega)]
def zgd(hi:i<S.length) (hk:S[i].k=13) {l:List PV} {ks:List ByteArray} (hl:ks.length=l.length) (hks:z2i ks=true) (h:∀v∈l,PV.fits S S[i].it v=true):PV.fits S i (.mk 0 (mkS []) l ks 0)=true:=by
 refine z8n hi (by unfold isQ;exact decide_eq_true (by omega)) ?_ (z8m (λj=> ?_) h)
 ·unfold okP
  rw[if_neg (by omega),if_neg (by omega),if_neg (by omega),if_pos hk,hks,decide_eq_true hl.symm];rfl
 ·unfold z2j
  rw[if_neg (by omega),if_neg (by omega)]
def hdL(a:ByteArray):List ByteArray->Bool
 | []=>true
 |j::_=>qfa a j
def zck(a:ByteArray) (l:List ByteArray):z2i (a::l)=(vld a&&hdL a l&&z2i l):=by
 cases l with
 |nil=>rw[z2i,hdL,z2i];simp
 |cons j l=>rw[z2i,hdL]
def z66(k a:ByteArray) (l:List ByteArray):qb3 k (a::l)=if qfa a k=true then a::qb3 k l else if a=k then a::l else k::a::l:=by
 unfold qb3 z18
 rw[kIx]
 by_cases h:qfa a k=true
 ·rw[if_pos h,if_pos h]
  simp only[List.getElem?_cons_succ,List.take_succ_cons,List.drop_succ_cons]
  split<;>rfl
 ·rw[if_neg h,if_neg h]
  simp only[List.getElem?_cons_zero,List.take_zero,List.drop_zero,List.nil_append,decide_eq_true_eq,Option.some.injEq]
variable {k:ByteArray} {ks:List ByteArray}
def z92{l:List PV} {w v:PV} (h:v∈z2f k ks l w):v=w\/v∈l:=by
 unfold z2f at h
 split at h
 ·rcases List.mem_or_eq_of_mem_set h with h|h
  ·exact .inr h
  ·exact .inl h
 ·rcases List.mem_append.1 h with h|h
  ·exact .inr (List.mem_of_mem_take h)
  ·rcases List.mem_cons.1 h with h|h
   ·exact .inl h
   ·exact .inr (List.mem_of_mem_drop h)
def z56{x:ByteArray} (h:x∈qb3 k ks):x=k\/x∈ks:=by
 unfold qb3 at h
 split at h
 ·exact .inr h
 ·rcases List.mem_append.1 h with h|h
  ·exact .inr (List.mem_of_mem_take h)
  ·rcases List.mem_cons.1 h with h|h
   ·exact .inl h
   ·exact .inr (List.mem_of_mem_drop h)
end
section
def zmc(x y:UInt8) (a b:List UInt8):Op.bytesLess (x::a) (y::b)=true↔x.toNat<y.toNat\/x=y/\Op.bytesLess a b=true:=by
 rw[Op.bytesLess,Bool.or_eq_true,Bool.and_eq_true,decide_eq_true_eq,beq_iff_eq]
 rfl
def zkp(b:List UInt8):Op.bytesLess b []=false:=by cases b<;>rfl
def z8a:∀{a b c:List UInt8},Op.bytesLess a b=true->Op.bytesLess b c=true->Op.bytesLess a c=true
  |a,b,[],_,h=>by rw[zkp]at h;cases h
  |a,[],z::c,h,_=>by rw[zkp]at h;cases h
  | [],y::b,z::c,_,_=>rfl
  | x ::a,y::b,z::c,h1,h2=>by
    rw[zmc]at h1 h2⊢
    rcases h1 with h1|⟨rfl,h1⟩
    · rcases h2 with h2|⟨rfl,h2⟩
      · exact .inl (by omega)
      · exact .inl h1
    · rcases h2 with h2|⟨rfl,h2⟩
      · exact .inl h2
      · exact .inr ⟨rfl,z8a h1 h2⟩
def z58{a b c:ByteArray} (h1:qfa a b=true) (h2:qfa b c=true):qfa a c=true:=z8a h1 h2
def zdc(a:ByteArray):qfa a a=false:=(z1a a a).1 (.inr rfl)
def zuv{a b:ByteArray} (h:qfa a b=true):a≠b:=λe=>by subst e;rw[zdc]at h;cases h
abbrev Up(l:List ByteArray):Prop:=l.Pairwise (λa b=>qfa a b=true)
def z67(k a:ByteArray) (l:List ByteArray) (v:PV) (vs:List PV) (w:PV):z2f k (a::l) (v::vs) w=if qfa a k=true then v::z2f k l vs w else if a=k then w::vs else w::v::vs:=by
 unfold z2f z18
 rw[kIx]
 by_cases h:qfa a k=true
 ·rw[if_pos h,if_pos h]
  simp only[List.getElem?_cons_succ,List.take_succ_cons,List.drop_succ_cons,List.set_cons_succ]
  split<;>rfl
 ·rw[if_neg h,if_neg h]
  simp only[List.getElem?_cons_zero,List.take_zero,List.drop_zero,List.nil_append,decide_eq_true_eq,Option.some.injEq,List.set_cons_zero]
def zhh(k:ByteArray):qb3 k []=[k]:=by unfold qb3 z18;simp[kIx]
def zhi(k:ByteArray) (w:PV):z2f k [] [] w=[w]:=by unfold z2f z18;simp[kIx]
def z79{k:ByteArray} {w:PV}:∀{l:List ByteArray} {vs:List PV},Up l->l.length=vs.length->k∉l->((qb3 k l).zip (z2f k l vs w)).Perm ((k,w)::l.zip vs)/\Up (qb3 k l)/\(qb3 k l).length=(z2f k l vs w).length
  | [],[],_,_,_=>by rw[zhh,zhi];exact⟨.refl _,by simp,rfl⟩
  | a ::l,v::vs,hu,hl,hk=>by
    have hak:a≠k:=λe=>hk (by rw[e];exact List.mem_cons_self)
    have hkl:k∉l:=λh=>hk (List.mem_cons_of_mem _ h)
    obtain⟨ha,hu⟩:=List.pairwise_cons.1 hu
    rw[z66,z67]
    by_cases h:qfa a k=true
    · rw[if_pos h,if_pos h]
      obtain⟨i1,i2,i3⟩:=z79 (w:=w) hu (by simpa using hl) hkl
      refine⟨?_,List.pairwise_cons.2 ⟨λb hb=> ?_,i2⟩,by simp[i3]⟩
      · rw[List.zip_cons_cons,List.zip_cons_cons]
        exact(i1.cons _).trans (.swap _ _ _)
      · rcases z56 hb with rfl|hb
        · exact h
        · exact ha b hb
    · rw[if_neg h,if_neg hak,if_neg h,if_neg hak]
      have hka:qfa k a=true:=by
        rcases(z1a k a).2 (by simpa using h)with g|g
        · exact g
        · exact absurd g.symm hak
      refine⟨.refl _,List.pairwise_cons.2 ⟨λb hb=> ?_,List.pairwise_cons.2 ⟨ha,hu⟩⟩,by simpa using hl⟩
      rcases List.mem_cons.1 hb with rfl|hb
      · exact hka
      · exact z58 hka (ha b hb)
def z7a{k:ByteArray} {w:PV}:∀{l:List ByteArray} {vs:List PV},Up l->l.length=vs.length->k∈l->qb3 k l=l/\l.zip (z2f k l vs w)=(l.zip vs).map (rpl k w)/\l.length=(z2f k l vs w).length
  | a ::l,v::vs,hu,hl,hk=>by
    obtain⟨ha,hu⟩:=List.pairwise_cons.1 hu
    rw[z66,z67]
    by_cases h:qfa a k=true
    · rw[if_pos h,if_pos h]
      have hkl:k∈l:=by
        rcases List.mem_cons.1 hk with rfl|h2
        · rw[zdc]at h;cases h
        · exact h2
      obtain⟨i1,i2,i3⟩:=z7a (w:=w) hu (by simpa using hl) hkl
      refine⟨by rw[i1],?_,by simp[i3]⟩
      rw[List.zip_cons_cons,List.zip_cons_cons,List.map_cons,i2]
      unfold rpl
      rw[if_neg (show¬a=k from zuv h)]
    · have hak:a=k:=by
        rcases List.mem_cons.1 hk with rfl|h2
        · rfl
        · exact absurd (ha k h2) h
      subst hak
      rw[if_neg h,if_pos rfl,if_neg h,if_pos rfl]
      refine⟨rfl,?_,by simpa using hl⟩
      rw[List.zip_cons_cons,List.zip_cons_cons,List.map_cons]
      congr 1
      · unfold rpl;rw[if_pos rfl]
      · have e:∀p∈l.zip vs,rpl a w p=p:=λp hp=>by
          have:=ha p.1 (List.of_mem_zip (show(p.1,p.2)∈l.zip vs from hp)).1
          unfold rpl;rw[if_neg (λe=>zuv this e.symm)]
        rw[List.map_congr_left e,List.map_id']
def kI(k:ByteArray):List ByteArray->Nat
 | []=>0
 |a::l=>if k=a then 0 else kI k l+1
def zn0{k:ByteArray}:∀{l:List ByteArray},k∈l->∃h:kI k l<l.length,l[kI k l]=k
  | a ::l,h=>by
    by_cases e:k=a
    · exact⟨by simp[kI,e],by simp[kI,e]⟩
    · obtain⟨h1,h2⟩:=zn0 (l:=l) ((List.mem_cons.1 h).resolve_left e)
      exact⟨by simp[kI,e];exact h1,by simp[kI,e];exact h2⟩
def zcc{k:ByteArray} {w:PV}:∀{ks:List ByteArray} {vs:List PV},ks.Nodup->ks.length=vs.length->k∈ks->ks.zip (vs.set (kI k ks) w)=(ks.zip vs).map (rpl k w)
  | a ::l,v::vs,hn,hl,hk=>by
    obtain⟨ha,hn⟩:=List.nodup_cons.1 hn
    by_cases e:k=a
    · subst e
      rw[kI,if_pos rfl,List.set_cons_zero,List.zip_cons_cons,List.zip_cons_cons,List.map_cons]
      congr 1
      · unfold rpl;rw[if_pos rfl]
      · have e:∀p∈l.zip vs,rpl k w p=p:=λp hp=>by
          have h1:=(List.of_mem_zip (show(p.1,p.2)∈l.zip vs from hp)).1
          unfold rpl;rw[if_neg (λe=>ha (by rw[←e];exact h1))]
        rw[List.map_congr_left e,List.map_id']
    · rw[kI,if_neg e,List.set_cons_succ,List.zip_cons_cons,List.zip_cons_cons,List.map_cons,zcc hn (by simpa using hl) ((List.mem_cons.1 hk).resolve_left e)]
      unfold rpl
      rw[if_neg (λq=>e q.symm)]
variable {ks:List ByteArray} {vs:List PV} {st:StI}
def z86(h:z1z true ks vs st) (k:ByteArray):k∈st.1↔k∈ks:=by
 unfold z1z at h
 rw[if_pos rfl]at h
 obtain⟨_,h1,h2,_,hp⟩:=h
 have:=hp.map Prod.fst
 rw[List.map_fst_zip (by omega),List.map_fst_zip (by omega)]at this
 exact this.mem_iff
variable {k:ByteArray}
def zm1{w:PV} (h:z1z true ks vs st) (hk:k∉ks):z1z true (ks++[k]) (vs++[w]) (qb3 k st.1,z2f k st.1 st.2 w):=by
 have hm:=z86 h k
 unfold z1z at h⊢
 rw[if_pos rfl]at h⊢
 obtain⟨h0,h1,h2,h3,hp⟩:=h
 obtain⟨p1,p2,p3⟩:=z79 (w:=w) h3 h2 (λg=>hk (hm.1 g))
 refine⟨?_,by simp[h1],p3,p2,p1.trans ?_⟩
 ·rw[List.nodup_append]
  exact⟨h0,by simp,λa ha b hb=>by simp at hb;subst hb;exactλe=>hk (by rw[←e];exact ha)⟩
 ·rw[List.zip_append h1]
  exact((hp.cons _).trans (List.perm_append_singleton _ _).symm)
def zm3{w:PV} (h:z1z true ks vs st) (hk:k∈ks):z1z true ks (vs.set (kI k ks) w) (qb3 k st.1,z2f k st.1 st.2 w):=by
 have hm:=z86 h k
 unfold z1z at h⊢
 rw[if_pos rfl]at h⊢
 obtain⟨h0,h1,h2,h3,hp⟩:=h
 obtain⟨p1,p2,p3⟩:=z7a (w:=w) h3 h2 (hm.2 hk)
 refine⟨h0,by simp[h1],by rw[p1];exact p3,by rw[p1];exact h3,?_⟩
 rw[p1]
 show(st.1.zip (z2f k st.1 st.2 w)).Perm _
 rw[p2,zcc h0 h1 hk]
 exact hp.map _
def z55{k:ByteArray}:∀{ks:List ByteArray} (j t:Nat),k∈ks->q1w (.string k) (meK ks j) t=some (t+kI k ks, .int .i64 ((j+kI k ks:Nat):Int))
  | a ::l,j,t,h=>by
    rw[meK,q1w]
    show(match decide (k=a)with|true=>_|false=>_)=_
    by_cases e:k=a
    · subst e
      simp[kI]
    · rw[decide_eq_false e]
      show q1w (.string k) (meK l (j+1)) (t+1)=_
      rw[z55 (j+1) (t+1) ((List.mem_cons.1 h).resolve_left e)]
      simp only[kI,if_neg e]
      rw[show t+1+kI k l=t+(kI k l+1)by omega,show j+1+kI k l=j+(kI k l+1)by omega]
def z2d{k:ByteArray}:∀{ks:List ByteArray} (j t:Nat),k∉ks->q1w (.string k) (meK ks j) t=none
  | [],j,t,_=>rfl
  | a::l,j,t,h=>by
    rw[meK,q1w]
    show(match decide (k=a)with|true=>_|false=>_)=_
    rw[decide_eq_false (λe=>h (by rw[e];exact List.mem_cons_self))]
    exact z2d (j+1) (t+1) λg=>h (List.mem_cons_of_mem _ g)
def zl3:∀(ks:List ByteArray) (k:ByteArray) (j:Nat),meK (ks++[k]) j=meK ks j++[⟨.string k, .int .i64 ((j+ks.length:Nat):Int),j+ks.length⟩]
  | [],k,j=>rfl
  | a::l,k,j=>by
    rw[List.cons_append,meK,zl3 l k (j+1),meK,List.cons_append,List.length_cons,show j+1+l.length=j+(l.length+1)by omega]
def j1k(h:k∈ks):qmb (.string k) (meK ks 0)=true:=by
 unfold qmb
 rw[z55 _ _ h]
def zum(h:k∉ks):qmb (.string k) (meK ks 0)=false:=by
 unfold qmb
 rw[z2d _ _ h]
def zl4(z:Value) (h:k∈ks):qkl (.string k) (meK ks 0) z= .int .i64 (kI k ks:Nat):=by
 unfold qkl
 rw[z55 _ _ h,Nat.zero_add]
def zn6(z:Value) (h:k∉ks):qkl (.string k) (meK ks 0) z=z:=by
 unfold qkl
 rw[z2d _ _ h]
def zun(h:k∉ks):qex (.string k) (.int .i64 (ks.length:Nat)) (meK ks 0) ks.length=meK (ks++[k]) 0/\qew (.string k) (meK ks 0) ks.length=(ks++[k]).length:=by
 unfold qex qew
 rw[z2d _ _ h,zl3]
 simp
def z3x:∀(ks:List ByteArray) (j:Nat),∀e∈meK ks j,kOK .string e.key
  | a::l,j,e,h=>by
    rw[meK]at h
    rcases List.mem_cons.1 h with rfl|h
    · exact trivial
    · exact z3x l (j+1) e h
def z8v(k:ByteArray):(kyV k).length=1:=rfl
def zdb(fs:List GV) (r:GV) (z:List Value) (hz:z.length=5):spl (z00 GV.cells fs++z) (0+fs.length*5) r.cells=z00 GV.cells (fs++[r]):=by
 have h:=z7b r.cells (z00 GV.cells fs) z [] (by rw[hz];rfl)
 rw[List.append_nil,z01 z0f]at h
 rw[Nat.zero_add,h,List.append_nil,z05]
 show _=_++(r.cells++[])
 rw[List.append_nil]
end
section
def bkK(g:Nat->Nat->RdT) (D:ByteArray) (mp:Bool) (F n1:Nat) (sz:Int) (r:StI×Nat×Nat):RsB:=if bkE n1 sz r.2.1=true then .no 1 else bkX g D mp F r.1 r.2.1 r.2.2
variable {g:Nat->Nat->RdT} {D:ByteArray} {mp:Bool} {st:StI}
def j18{F n c:Nat} {R0:RsB} (hn:n<=D.size) (hF:D.size<F+n) (h:bkX g D mp F st n c=R0):
  ((lgR D n).2.1≠0->R0= .no ((lgR D n).2.1- 1))/\((lgR D n).2.1=0->(lgR D n).1=0->R0= .ok (st,(lgR D n).2.2,c))/\
  ((lgR D n).2.1=0->0<(lgR D n).1->∃F',D.size<F'+(lgR D n).2.2/\(z6s g D mp (lgR D n).1.toNat st (lgR D n).2.2 c).bind (bkK g D mp F' (lgR D n).2.2 (-1))=R0)/\
  ((lgR D n).2.1=0->(lgR D n).1= -9223372036854775808->R0= .no 1)/\
  ((lgR D n).2.1=0->(lgR D n).1<0->(lgR D n).1≠ -9223372036854775808->((lgR D (lgR D n).2.2).2.1≠0->R0= .no ((lgR D (lgR D n).2.2).2.1- 1))/\((lgR D (lgR D n).2.2).2.1=0->(lgR D (lgR D n).2.2).1<0->R0= .no 1)/\
   ((lgR D (lgR D n).2.2).2.1=0->0<=(lgR D (lgR D n).2.2).1->∃F',D.size<F'+(lgR D (lgR D n).2.2).2.2/\(z6s g D mp (-(lgR D n).1).toNat st (lgR D (lgR D n).2.2).2.2 c).bind (bkK g D mp F' (lgR D (lgR D n).2.2).2.2 (lgR D (lgR D n).2.2).1)=R0)):=by
 have f1:=z10 D n hn
 have f2:=z10 D (lgR D n).2.2 f1.2.2.2.2.1
 obtain⟨F',rfl⟩:∃F',F=F'+1:=⟨F- 1,by omega⟩
 rw[bkX]at h
 unfold hdX lgX at h
 generalize lgR D n=T at*
 obtain⟨v,e,n1⟩:=T
 simp only at f1 f2 h⊢
 refine⟨λhe=> ?_,λhe hv=> ?_,λhe hv=> ?_,λhe hv=> ?_,λhe hv hv2=>⟨λhe2=> ?_,λhe2 hz=> ?_,λhe2 hz=> ?_⟩⟩
 ·rw[if_neg he,z1n,z1n]at h;exact h.symm
 ·rw[if_pos he,z0o]at h
  simp only at h
  rw[if_pos (show 0<=v by omega),z0o]at h
  simp only at h
  rw[if_pos hv]at h;exact h.symm
 ·rw[if_pos he,z0o]at h
  simp only at h
  rw[if_pos (show 0<=v by omega),z0o]at h
  simp only at h
  rw[if_neg (show¬v=0 by omega)]at h
  exact⟨F',by omega,h⟩
 ·rw[if_pos he,z0o]at h
  simp only at h
  rw[if_neg (show¬0<=v by omega),if_pos hv,z1n]at h;exact h.symm
 ·rw[if_pos he,z0o]at h
  simp only at h
  rw[if_neg (show¬0<=v by omega),if_neg hv2,if_neg he2,z1n,z1n]at h;exact h.symm
 ·rw[if_pos he,z0o]at h
  simp only at h
  rw[if_neg (show¬0<=v by omega),if_neg hv2,if_pos he2,z0o]at h
  simp only at h
  rw[if_pos hz,z1n]at h;exact h.symm
 ·rw[if_pos he,z0o]at h
  simp only at h
  rw[if_neg (show¬0<=v by omega),if_neg hv2,if_pos he2,z0o]at h
  simp only at h
  rw[if_neg (show¬(lgR D n1).1<0 by omega),z0o]at h
  simp only at h
  rw[if_neg (show¬ -v=0 by omega)]at h
  exact⟨F',by omega,h⟩
def zue{α:Type} {k n c:Nat} {K:StI×Nat×Nat->Rs α} (h:0<k):(z6s g D mp k st n c).bind K=(itX g D mp st n c).bind λr=>(z6s g D mp (k- 1) r.1 r.2.1 r.2.2).bind K:=by
 obtain⟨j,rfl⟩:∃j,k=j+1:=⟨k- 1,by omega⟩
 rw[z6s,j1o];rfl
end
def j1c{S:List AT} {a:AT} {dp:Int} {s:ByteArray} {mp:Bool} {F n c:Nat} {st:StI} {R0:RsB} (hm:decide (a.k=13)=mp) (hz:s.size<100000) (hn:n<=s.size) (hF:s.size<F+n) (h:bkX (gvX S s dp a.it) s mp F st n c=R0):
  ((hdR s n).2.2.1≠0->∃k:Nat,(hdR s n).2.2.1=k+1/\R0= .no k)/\((hdR s n).2.2.1=0->(hdR s n).1=0->R0= .ok (st,(hdR s n).2.2.2,c))/\
  ((hdR s n).2.2.1=0->(hdR s n).1≠0->1<=(hdR s n).1/\∃F' sz,s.size<F'+(hdR s n).2.2.2/\enR ((hdR s n).2.2.2:Nat) sz (hdR s n).2.1/\(z6s (gvX S s dp a.it) s mp (hdR s n).1.toNat st (hdR s n).2.2.2 c).bind (rbK S a dp s F' ((hdR s n).2.2.2:Nat) sz)=R0)/\
  (n<=(hdR s n).2.2.2/\(hdR s n).2.2.2<=s.size)/\((hdR s n).2.2.1=0->n<(hdR s n).2.2.2)/\(hdR s n).1<9223372036854775808:=by
 have hh:=j18 hn hF h
 have f1:=z10 s n hn
 have f2:=z10 s (lgR s n).2.2 f1.2.2.2.2.1
 have key:∀(F' n1:Nat) (sz:Int),(λr=>bkK (gvX S s dp a.it) s mp F' n1 sz r)=rbK S a dp s F' ((n1:Nat):Int) sz:=λF' n1 sz=>by
  funext r
  unfold rbK bkK
  rw[hm,Int.toNat_natCast]
 obtain⟨a1,a2,a3,a4,a5⟩:=hh
 clear h hF
 unfold hdR
 by_cases h1:(lgR s n).2.1≠0\/0<=(lgR s n).1
 ·rw[if_pos h1]
  refine⟨λhe=>⟨(lgR s n).2.1- 1,?_,a1 ?_⟩,λhe hv=>a2 (by have:(((lgR s n).2.1:Nat):Int)=0:=he;omega) hv,λhe hv=> ?_,⟨f1.2.2.2.1,f1.2.2.2.2.1⟩,λhe=>f1.2.2.2.2.2 (by have:(((lgR s n).2.1:Nat):Int)=0:=he;omega),f1.2.1⟩
  ·have he:(((lgR s n).2.1:Nat):Int)≠0:=he
   show(((lgR s n).2.1:Nat):Int)=(((lgR s n).2.1- 1:Nat):Int)+1
   omega
  ·have he:(((lgR s n).2.1:Nat):Int)≠0:=he
   omega
  ·have he:(lgR s n).2.1=0:=by have:(((lgR s n).2.1:Nat):Int)=0:=he;omega
   have hv:(lgR s n).1≠0:=hv
   have h0:0<(lgR s n).1:=by omega
   obtain⟨F',b1,b2⟩:=a3 he h0
   refine⟨by show 1<=(lgR s n).1;omega,F', -1,b1, .inl ⟨rfl,rfl⟩,?_⟩
   rw[←key];exact b2
 rw[if_neg h1]
 have he:(lgR s n).2.1=0:=by omega
 have hneg:(lgR s n).1<0:=by omega
 by_cases h2:(lgR s n).1= -9223372036854775808
 ·rw[if_pos h2]
  exact⟨λ_=>⟨1,rfl,a4 he h2⟩,λg=>absurd (show(2:Int)=0 from g) (by decide),λg=>absurd (show(2:Int)=0 from g) (by decide),⟨f1.2.2.2.1,f1.2.2.2.2.1⟩,λg=>absurd (show(2:Int)=0 from g) (by decide),by show(0:Int)<_;decide⟩
 rw[if_neg h2]
 obtain⟨b1,b2,b3⟩:=a5 he hneg h2
 by_cases h3:(lgR s (lgR s n).2.2).2.1≠0
 ·rw[if_pos h3]
  refine⟨λ_=>⟨(lgR s (lgR s n).2.2).2.1- 1,?_,b1 h3⟩,λg=> ?_,λg=> ?_,⟨by show n<=(lgR s (lgR s n).2.2).2.2;omega,f2.2.2.2.2.1⟩,λg=> ?_,by show(0:Int)<_;decide⟩
  ·show(((lgR s (lgR s n).2.2).2.1:Nat):Int)=(((lgR s (lgR s n).2.2).2.1- 1:Nat):Int)+1
   omega
  all_goals
   have g:(((lgR s (lgR s n).2.2).2.1:Nat):Int)=0:=g
   omega
 rw[if_neg h3]
 have h3:(lgR s (lgR s n).2.2).2.1=0:=by omega
 by_cases h4:(lgR s (lgR s n).2.2).1<0
 ·rw[if_pos h4]
  exact⟨λ_=>⟨1,rfl,b2 h3 h4⟩,λg=>absurd (show(2:Int)=0 from g) (by decide),λg=>absurd (show(2:Int)=0 from g) (by decide),⟨by show n<=(lgR s (lgR s n).2.2).2.2;omega,f2.2.2.2.2.1⟩,λg=>absurd (show(2:Int)=0 from g) (by decide),by show(0:Int)<_;decide⟩
 rw[if_neg h4]
 obtain⟨F',c1,c2⟩:=b3 h3 (by omega)
 refine⟨λg=>absurd rfl g,λ_ g=> ?_,λ_ _=>⟨by show 1<= -(lgR s n).1;omega,F',(lgR s (lgR s n).2.2).1,c1, .inr ⟨by omega,rfl⟩,?_⟩,⟨by show n<=(lgR s (lgR s n).2.2).2.2;omega,f2.2.2.2.2.1⟩,λ_=> ?_,by show -(lgR s n).1<_;omega⟩
 ·have g: -(lgR s n).1=0:=g
  omega
 ·rw[←key];exact c2
 ·have:=f1.2.2.2.2.2 he
  show n<(lgR s (lgR s n).2.2).2.2
  omega
def zmb(n:Nat) (hi0:q22 P 40 (z8d.below ztf (n+1))) (hv0:q22 P 39 cIv):q22 P 21 ((zb6 kdP bvX).below z6t (n+1)):=by
  refine qlb mixed (qee (qih zmu qlq)) (qf7 (qig hi0 (qig hv0 qlp))) (W:=zve) Try.func21 (by kernel_rfl) (show 1<=2 by decide) (show 2<=2 by decide) (λs=>by kernel_rfl) λ⟨S,⟨(x:SV),s,(i:Int),(c:Int)⟩,a,(dp:Int)⟩=>(zma n S x s i c a dp).mpr ?_
  rintro⟨hmu,hok,haS,hk,h,⟨hc0,hc1⟩,hp1,hp2⟩ ⟨p,_,hx,ha⟩
  have hmu:(25- dp).toNat<n+1:=hmu
  have hi:=h.1
  have hi2:=h.2.1
  have hsz:=h.2.2
  simp only[sbS,exists_const,forall_const,Int.toNat_natCast]
  have abs0:z1z (decide (a.k=13)) [] (GV.pvs []) ([],[]):=by
    unfold z1z
    rw[GV.pvs]
    split
    · exact⟨List.nodup_nil,rfl,rfl,List.Pairwise.nil, .refl _⟩
    · exact⟨rfl,rfl⟩
  refine⟨⟨⟨s.size+1- i.toNat,i,c,[],[]⟩,rfl,rfl,rfl,rfl,rfl,rfl,λq _=>GV.oks_iff.2 λw hw=>(by cases hw),⟨Int.le_refl _,hi2⟩,⟨Int.le_refl _,hc1⟩,⟨by show((0:Nat):Int)<=c;omega,by show((0:Nat):Int)<=c;omega⟩,(by show(s.size:Int)<((s.size+1- i.toNat:Nat):Int)+i;omega),([],[]),abs0,rfl⟩,?_⟩
  rintro⟨F,i1,c1,fs,ks⟩ ⟨⟨r1,r2⟩,⟨r3,r4⟩,⟨r5,r6⟩,r7,st,r8,r9⟩ ⟨p1,hp1',hfs⟩
  simp only at r1 r2 r3 r4 r5 r6 r7 r8 r9 hfs⊢
  have hd1:z0h ((x.1,x.2.1,x.2.2),s,i1,c1):=⟨by omega,r2,hsz⟩
  obtain⟨h1,h2,h3,⟨h4,h5⟩,h6,h7⟩:=j1c rfl hsz (show i1.toNat<=s.size by omega) (show s.size<F+i1.toNat by omega) r9
  have rw0:rbR S a dp s i c=bkX (gvX S s dp a.it) s (decide (a.k=13)) (s.size+1- i.toNat) ([],[]) i.toNat c.toNat:=rfl
  have no:∀(e' i' c':Int) (v:PV),(∃k:Nat,e'=k+1/\rbR S a dp s i c= .no k)->agD (bvX (gvX S s dp) s a i.toNat c.toNat) v i' c' e':=λe' i' c' v ⟨k,q1,q2⟩=>by
    show agD ((rbR S a dp s i c).bind _) _ _ _ _
    rw[q2,z1n];exact q1
  generalize hdR s i1.toNat=H at*
  obtain⟨cn,en,er,pos⟩:=H
  simp only at h1 h2 h3 h4 h5 h6 h7⊢
  have hpos:i1<=pos:=by omega
  refine⟨hd1,λhe=>⟨⟨zV,er,(pos:Int),c1⟩,rfl,rfl,rfl,rfl,rfl,rfl,rfl,rfl,rfl,rfl,rfl,rfl,⟨no _ _ _ _ (h1 he),⟨by show i<=(pos:Int);omega,by show(pos:Int)<=s.size;omega⟩,⟨r3,by show c1<=2001;omega⟩,λg=>absurd g he⟩,λq _=>z1d q⟩,λhe=>⟨λhc=> ?_,λhc=> ?_⟩⟩
  · have hR:=h2 he hc
    refine⟨⟨fs,ks⟩,rfl,rfl,rfl,rfl,rfl,rfl,⟨by show fs.length<=2001;omega,by show ks.length<=2001;omega,_,st,r8⟩,λq hq=>hq.2,?_⟩
    intro b hb _
    have hb:=hb _ _ r8
    refine⟨⟨b,0,(pos:Int),c1⟩,rfl,rfl,rfl,rfl,rfl,rfl,rfl,rfl,rfl,rfl,rfl,rfl,⟨?_,⟨by show i<=(pos:Int);omega,by show(pos:Int)<=s.size;omega⟩,⟨r3,by show c1<=2001;omega⟩,λ_=>r4⟩,λq hq=>hq.2⟩
    show agD ((rbR S a dp s i c).bind _) _ _ _ _
    rw[hR,z0o]
    exact⟨rfl,hb,rfl,by show c1=((c1.toNat:Nat):Int);omega⟩
  obtain⟨hc1',F',sz,g1,g2,g3⟩:=h3 he hc
  have hlt:=h6 he
  clear h1 h2 h3 h6
  refine⟨⟨⟨F',0,(pos:Int),c1,fs,ks⟩,rfl,rfl,rfl,rfl,rfl,rfl,rfl,rfl,rfl,λq hq=>hq.2,⟨by show((0:Nat):Int)<=cn;omega,⟨by show i<=(pos:Int);omega,⟨by show(0:Int)<=(pos:Int);omega,Int.le_refl _⟩,by show(pos:Int)<=s.size;omega⟩,⟨r3,r4⟩,⟨r5,r6⟩,by show(s.size:Int)<F'+(pos:Int);omega,sz,st,g2,r8,?_⟩⟩,?_⟩
  · show(z6s _ _ _ (cn- ((0:Nat):Int)).toNat st ((pos:Int).toNat) c1.toNat).bind _=_
    rw[show cn- ((0:Nat):Int)=cn by omega,Int.toNat_natCast]
    exact g3
  rintro⟨F2,j,i2,c2,gs,ls⟩ ⟨t1,⟨t2,⟨t3,t4⟩,t5⟩,⟨t6,t7⟩,⟨t8,t9⟩,t10,z,st2,t11,t12,t13⟩ ⟨p2,hp2',hgs⟩
  simp only at t1 t2 t3 t4 t5 t6 t7 t8 t9 t10 t11 t12 t13 hgs⊢
  clear g1 g2 g3
  have nxt:rbK S a dp s F2 pos z (st2,i2.toNat,c2.toNat)=rbR S a dp s i c->¬(0<=en/\i2≠en)->pbO S a s dp i c F2 i2 c2 gs ls/\(s.size+1- i2).toNat<(s.size+1- i1).toNat:=λq1 q2=>by
    refine⟨⟨⟨t2,t5⟩,⟨t6,t7⟩,⟨t8,t9⟩,by omega,st2,t12,?_⟩,by omega⟩
    unfold rbK at q1
    rw[if_neg ?_]at q1
    · exact q1
    · unfold bkE
      rw[Bool.and_eq_true,decide_eq_true_eq,decide_eq_true_eq,Int.toNat_natCast,Int.toNat_of_nonneg (by omega)]
      rintro⟨q3,q4⟩
      rcases t11 with⟨q5,_⟩|⟨_,q6⟩
      · omega
      · apply q2
        split at q6<;>omega
  refine⟨λhlt2=> ?_,λhge=> ?_⟩
  · refine⟨⟨⟨S,⟨x,s,i2,c2⟩,a,dp⟩,gs,ls⟩,?_⟩
    simp only[true_and,and_true,eq_self]
    refine⟨⟨hmu,hok,haS,hk,⟨by show 0<=i2;omega,t5,hsz⟩,⟨by show 0<=c2;omega,t7⟩,⟨hp1,hp2⟩,t8,t9,st2,t12⟩,λq hq=>⟨hq.1.1,hq.2⟩,?_⟩
    rintro⟨fs',ks',e',i',c'⟩ ⟨w1,⟨w2,w3⟩,⟨w4,w5⟩,w6,w7,w8⟩ _
    have w1:=w1 st2 t12
    have w2:i2<=i':=w2
    have w4:c2<=c':=w4
    rw[zue (by omega)]at t13
    refine⟨λhne=>⟨⟨zV,e',i',c'⟩,rfl,rfl,rfl,rfl,rfl,rfl,rfl,rfl,rfl,rfl,rfl,rfl,⟨no _ _ _ _ ?_,⟨by show i<=i';omega,w3⟩,⟨by show c<=c';omega,w5⟩,λg=>absurd g hne⟩,λq _=>z1d q⟩,λhe0=> ?_⟩
    · revert w1 t13
      cases itX (gvX S s dp a.it) s (decide (a.k=13)) st2 i2.toNat c2.toNat with
      |no k=>exactλq2 q1=>⟨k,q1,by rw[z1n]at q2;exact q2.symm⟩
      |ok r=>exactλ_ q1=>absurd q1.1 hne
    · have he0:e'=0:=he0
      obtain⟨w9,w10⟩:=w6 he0
      have w9:c2+1<=c':=w9
      refine⟨⟨by omega,by omega⟩,⟨F2,j+1,i',c',fs',ks'⟩,by show((j+1:Nat):Int)=_;omega,rfl,rfl,rfl,rfl,rfl,rfl,rfl,rfl,λq hq=>hq.1.1,λq hq=>hq.2,⟨by show((j+1:Nat):Int)<=cn;omega,⟨by show i<=i';omega,⟨t3,by show(pos:Int)<=i';omega⟩,w3⟩,⟨by show c<=c';omega,w10⟩,⟨w7,w8⟩,t10,?_⟩,by show cn.toNat- (j+1)<cn.toNat- j;omega⟩
      revert w1 t13
      cases itX (gvX S s dp a.it) s (decide (a.k=13)) st2 i2.toNat c2.toNat with
      |no k=>intro _ q1;have q1:e'=k+1:=q1;omega
      | ok r=>
        rintro q5 ⟨_,q2,q3,q4⟩
        rw[z0o,show(cn- (j:Int)).toNat- 1=(cn- ((j+1:Nat):Int)).toNat by omega]at q5
        refine⟨z,r.1,t11,q2,?_⟩
        show(z6s _ _ _ _ r.1 i'.toNat c'.toNat).bind _=_
        rw[show i'.toNat=r.2.1 by omega,show c'.toNat=r.2.2 by omega]
        exact q5
  · rw [show(cn- (j:Int)).toNat=0 by omega,z6s,z0o]at t13
    refine⟨λh0=>⟨λhne=>⟨⟨zV,2,i2,c2⟩,rfl,rfl,rfl,rfl,rfl,rfl,rfl,rfl,rfl,rfl,rfl,rfl,⟨no _ _ _ _ ⟨1,rfl,?_⟩,⟨t2,t5⟩,⟨t6,by show c2<=2001;omega⟩,λg=>absurd (show(2:Int)=0 from g) (by decide)⟩,λq _=>z1d q⟩,λheq=> ?_⟩,λh0=> ?_⟩
    · unfold rbK at t13
      rw[if_pos ?_]at t13
      · exact t13.symm
      · unfold bkE
        rw[Bool.and_eq_true,decide_eq_true_eq,decide_eq_true_eq,Int.toNat_natCast,Int.toNat_of_nonneg (by omega)]
        rcases t11 with⟨_,q5⟩|⟨q5,q6⟩
        · omega
        · refine⟨q5,?_⟩
          split at q6<;>omega
    · obtain⟨q1,q2⟩:=nxt t13 (λg=>g.2 heq)
      exact⟨⟨F2,i2,c2,gs,ls⟩,rfl,rfl,rfl,rfl,rfl,rfl,rfl,rfl,λq hq=>hq.1.1,λq hq=>hq.2,q1,q2⟩
    · obtain⟨q1,q2⟩:=nxt t13 (λg=>h0 g.1)
      exact⟨⟨F2,i2,c2,gs,ls⟩,rfl,rfl,rfl,rfl,rfl,rfl,rfl,rfl,λq hq=>hq.1.1,λq hq=>hq.2,q1,q2⟩
def zkr(a b:ByteArray):Int:=if qfa a b=true then -1 else if qfa b a=true then 1 else 0
set_option maxHeartbeats 1000000 in
def zce(x:ByteArray) (w:World):
  Calls Try.prog 77 #[.string x] w λe w'=>e= .returned (.bool false)/\w'=w:=by
 go_enter Try.func77,Try.ntmps77
 go_wp2
 go_ret
 exact⟨by simp,rfl⟩
set_option maxHeartbeats 1000000 in
def z72(x y:ByteArray) (w:World):
  Calls Try.prog 65 #[.string x, .string y] w λe w'=>e= .returned (.int .i64 (zkr x y))/\w'=w:=by
 have e7:∀args w,(callFunc 77 args).run Try.prog w= .ok (.enter 77 args) w:=Sen.enters_of Try.func77 (by kernel_rfl)
 go_enter Try.func65,Try.ntmps65
 go_wp2_with (go_at_fn 77;refine(zce _ _).mono ?_;rintro e w' ⟨rfl,hw⟩;rw[hw])
 all_goals (go_ret)
 all_goals (refine⟨?_,rfl⟩;show Ending.returned (Value.int .i64 _)=Ending.returned (Value.int .i64 _);unfold zkr qfa;have fl:=z6x y.toList x.toList;simp_all<;>first|done|exact fl.resolve_right (λe=>absurd e.symm (by assumption)))
def zu3(args:Array Value) (w:World):(callFunc 65 args).run Try.prog w= .ok (.enter 65 args) w:=Sen.enters_of Try.func65 (by kernel_rfl) args w
def z2x(a b:ByteArray):Go.Proofs.ltOf zkr a b=qfa a b:=by
 unfold Go.Proofs.ltOf zkr
 by_cases h:qfa a b=true
 ·simp[h]
 ·by_cases g:qfa b a=true
  ·simp[h,g]
  ·simp[h,g]
def znv{a b c:ByteArray} (h1:qfa a b=false) (h2:qfa b c=false):qfa a c=false:=by
 rcases(z1a b a).2 h1 with h1|rfl
 ·rcases(z1a c b).2 h2 with h2|rfl
  ·exact(z1a c a).1 (.inl (z58 h2 h1))
  ·exact(z1a _ _).1 (.inl h1)
 ·exact h2
def zmj:Go.Sort.SWO (Go.Proofs.ltOf zkr):=by
 refine⟨λx=> ?_,λx y z=> ?_,λx y z=> ?_⟩
 ·rw[z2x];exact zdc x
 ·rw[z2x,z2x,z2x];exact z58
 ·rw[z2x,z2x,z2x];exact znv
def zl7(o:AO):∃h,q0x [(1,o)] .e=some h/\h.get 1=some o/\∀i,i≠1->h.get i=none:=by
 refine⟨_,rfl,rfl,λi hi=> ?_⟩
 have e:T.put 64 1 (some o) T.e=some (T.n (T.n T.e (some o) T.e) none T.e):=rfl
 have:=T.get_put _ _ _ _ _ e i
 rw[if_neg hi,T.get_e]at this
 exact this
def upS(ks:List ByteArray):Prop:=ks.Pairwise (λa b=>qfa b a=false)
def zty:CtR where
 σ:=List ByteArray
 args:=λks=>[.ssl 1 0 ks.length 1 2, .fn 65 []]
 h:=λks=>[(1, .row 9 0 (z00 kyV ks))]
 m:=3
 pre:=λks=>1<=ks.length/\ks.length<=1000000
 β:=λ_=>List ByteArray
 post:=λks ks'=>ks'.Perm ks/\upS ks'
 r:=λ_ _=> .tup []
 h':=λ_ ks'=>[(1, .row 9 0 (z00 kyV ks'))]
 m':=3
def ivO(fs:List GV) (ks:List ByteArray) (j:Nat) (gs:List GV) (ls:List ByteArray):Prop:=j<=ks.length/\ls.Perm ks/\upS ls/\gs.length=j/\gs.map some=(ls.take j).map (λk=>fs[kI k ks]?)
def j3w:cIv.σ->WayF:=λ⟨fs,ks⟩=>{
 pubE:=[1000002]
 ann:=λid tt hh=>match j1m tt 3 with
  |some vb=>some {σ:=Nat×List GV×List ByteArray,pre:=λ⟨j,gs,ls⟩=>ivO fs ks j gs ls,mem:=λ⟨j,gs,ls⟩=>gsM gs,t:=λ⟨j,gs,ls⟩=>[(27, .sv (.int .i64 (j:Nat)))],h:=λ⟨j,gs,ls⟩=>[(vb, .cells 35 (some 0) false [.sv (.int .u64 0), .sv (.string (mkS [])), .ssl 40 0 gs.length 5 41, .ssl 42 0 (ls.take j).length 1 43, .sv (.int .i64 0)]),(40, .row 35 0 (z00 GV.cells gs)),(42, .row 9 0 (z00 kyV (ls.take j))),(5, .row 9 0 (z00 kyV ls))],more:=60,μ:=λ⟨j,gs,ls⟩=>ks.length- j,keep:=[0,2,3,25,26]}
  |none=>none}
def z3u:∀ks:List ByteArray,z00 kyV ks=ks.map Value.string
 | []=>rfl
 |k::l=>by rw[z00,z3u l];rfl
def zd5(off:Nat) (d:Array ByteArray) (pre rest:List Value) (ks:List ByteArray) (hp:pre.length=off) (hs:d.size=ks.length):Go.Sort.putCells Value.string off d ⟨pre++(z00 kyV ks++rest)⟩=⟨pre++(z00 kyV d.toList++rest)⟩:=by
  rw[z3u,z3u]
  apply Array.ext_getElem?
  intro k
  unfold Go.Sort.putCells
  rw[Array.getElem?_mapIdx]
  have e1:(⟨pre++(ks.map Value.string++rest)⟩:Array Value)[k]? =(pre++(ks.map Value.string++rest))[k]? :=List.getElem?_toArray ..
  have e2:(⟨pre++(d.toList.map Value.string++rest)⟩:Array Value)[k]? =(pre++(d.toList.map Value.string++rest))[k]? :=List.getElem?_toArray ..
  rw[e1,e2]
  rcases Nat.lt_or_ge k pre.length with h|h
  · rw[List.getElem?_append_left h,List.getElem?_append_left h]
    rw[List.getElem?_eq_getElem h]
    simp only[Option.map_some]
    rw[if_neg (by omega)]
  · rw [List.getElem?_append_right h,List.getElem?_append_right h]
    rcases Nat.lt_or_ge (k- pre.length) ks.length with g|g
    · rw[List.getElem?_append_left (by simpa using g),List.getElem?_append_left (by simp;omega),List.getElem?_map,List.getElem?_map,List.getElem?_eq_getElem g]
      have g2:k- pre.length<d.size:=by omega
      simp only[Option.map_some]
      rw[if_pos (by omega),←hp,getElem!_pos d _ g2,Array.getElem?_toList,Array.getElem?_eq_getElem g2]
      rfl
    · rw[List.getElem?_append_right (by simpa using g),List.getElem?_append_right (by simp;omega)]
      simp only[List.length_map,Array.length_toList,hs]
      cases hr:rest[k- pre.length- ks.length]? with
      |none=>rfl
      | some v=>
        simp only[Option.map_some]
        rw[if_neg (by omega)]
def zdf(w:World) (b off n:Nat) (d:Array ByteArray) (os:Array Obj):(∀k,k≠b->k<w.heap.size->(Go.Proofs.sortWorld Value.string w b off n d os).heap[k]? =w.heap[k]?)/\(∀c e fr,w.heap[b]? =some (.cells c e fr)->(Go.Proofs.sortWorld Value.string w b off n d os).heap[b]? =some (.cells (Go.Sort.putCells Value.string off d c) e fr))/\w.heap.size<=(Go.Proofs.sortWorld Value.string w b off n d os).heap.size/\Same w (Go.Proofs.sortWorld Value.string w b off n d os):=by
 unfold Go.Proofs.sortWorld
 have hs:(Go.Sort.putRow Value.string (Go.Sort.ahead w n) b off d).heap.size=w.heap.size:=by rw[Go.Sort.size_putRow];rfl
 refine⟨λk hk hl=> ?_,λc e fr hb=> ?_,?_,⟨rfl,rfl,rfl⟩⟩
 ·rw[Go.Sort.heap_grow_old _ _ (by rw[hs];exact hl)]
  show(w.heap.modify b _)[k]? =_
  rw[Array.getElem?_modify,if_neg (λe=>hk e.symm)]
 ·have hl:b<w.heap.size:=by
   rcases Nat.lt_or_ge b w.heap.size with h|h
   ·exact h
   ·rw[Array.getElem?_eq_none h]at hb;cases hb
  rw[Go.Sort.heap_grow_old _ _ (by rw[hs];exact hl)]
  show(w.heap.modify b _)[b]? =_
  rw[Array.getElem?_modify,if_pos rfl,hb]
  rfl
 ·rw[Go.Sort.size_grow,hs];omega
def zv8{d:Array ByteArray} {n:Nat} (hn:d.size=n) (h:Go.Sort.SortedIn (Go.Proofs.ltOf zkr) 0 n d):upS d.toList:=by
 unfold upS
 rw[List.pairwise_iff_getElem]
 intro i j hi hj hij
 have hi':i<d.size:=by simpa using hi
 have hj':j<d.size:=by simpa using hj
 have:=h i j (Nat.zero_le _) hij (by omega)
 rw[z2x,getElem!_pos d j hj',getElem!_pos d i hi']at this
 exact this
def qd9{ks:List ByteArray} {d':Array ByteArray} (h:Go.Sort.PermIn 0 ks.toArray.size ks.toArray d'):d'.toList.Perm ks/\d'.size=ks.length:=by
 obtain⟨h1,_,h3⟩:=h
 have h1:d'.size=ks.length:=by simpa using h1
 refine⟨?_,h1⟩
 have e1:(d'.extract 0 ks.toArray.size).toList=d'.toList:=by
  have:ks.toArray.size=d'.size:=by rw[h1];simp
  rw[this];simp
 have e2:(ks.toArray.extract 0 ks.toArray.size).toList=ks:=by simp
 rw[e1,e2]at h3
 exact h3
def zo3:q22 P 64 zty:=by
 refine⟨Nat.le_refl _,by decide,Sen.enters_of Try.func64 (by kernel_rfl),λ(ks:List ByteArray)=> ?_⟩
 obtain⟨h0,e0,g0,n0⟩:=zl7 (.row 9 0 (z00 kyV ks))
 refine⟨h0,e0,λF I w vs hv hs low zf hp _ fr hz=> ?_⟩
 obtain⟨hp1,hp2⟩:1<=ks.length/\ks.length<=1000000:=hp
 cases hv with|cons hv1 hv2=>
 cases hv2 with|cons hv2 hv3=>
 cases hv3
 cases hv2 with|fn hv2=>
 cases hv2
 cases hv1 with
 |ssl0 hz0=>omega
 | @ssl _ _ _ _ _ b s t c o x hI k2 k3 k4 k5 k6=>
 have hc0:c≠0:=by omega
 have ho:o=s:=by omega
 subst ho
 obtain⟨ob,hb,hO⟩:=hs.obj 1 _ b (o,t) g0 hI
 have hfr:=hs.fr 1 _ b (o,t) g0 hI
 cases hO with| @row _ _ pre _ rest frz q1 q2 q3=>
 have q1:pre.length=o:=q1
 have hbl:b<w.heap.size:=by
  rcases Nat.lt_or_ge b w.heap.size with h|h
  ·exact h
  ·rw[Array.getElem?_eq_none h]at hb;cases hb
 have hH:Go.Sort.Holds Value.string w b o ks.toArray:=by
  intro j hj
  have hj':j<ks.length:=by simpa using hj
  constructor
  ·simp only[World.cell?,hb]
   show(pre++(z00 kyV ks++rest)).toArray[o+j]? =_
   rw[z3u,List.getElem?_toArray,List.getElem?_append_right (by omega),List.getElem?_append_left (by rw[List.length_map];omega),show o+j- pre.length=j by omega,List.getElem?_map,List.getElem?_eq_getElem hj',getElem!_pos ks.toArray j hj]
   rfl
  ·simp only[World.frozen?,hb]
   have e:t=ks.length+rest.length:=by
    have:(z00 kyV ks++rest).length=t:=q2
    rw[z3u,List.length_append,List.length_map]at this
    omega
   have:=q3 j (Nat.zero_le _) (by show j<t;omega)
   simp only[decide_eq_false_iff_not,Bool.and_eq_false_iff]
   have h2:¬(frz.1<=o+j/\o+j<frz.2):=this
   simp
   omega
 have hcmp:Go.Proofs.CmpLays1 Try.prog 65 #[] Value.string zkr b o ks.toArray.size w:=by
  refine Go.Proofs.CmpReads.lays λm os dk hd x y=>(z72 x y _).mono ?_
  rintro e w' ⟨rfl,rfl⟩
  exact⟨rfl,0,rfl⟩
 have hrun:=Try.slices_SortFunc Value.string (λ_=>rfl) zkr zmj 65 #[] b o c ks.toArray w zu3 hcmp hH hbl (by simp;omega)
 have hsz:(ks.toArray.size:Nat)=ks.length:=by simp
 rw[hsz]at hrun
 refine hrun.mono ?_
 rintro e w' ⟨rfl,d',n,os,hP,hS,rfl⟩
 rw[←hsz]at hP
 obtain⟨p1,p2⟩:=qd9 hP
 obtain⟨h1,e1,g1,n1⟩:=zl7 (.row 9 0 (z00 kyV d'.toList))
 obtain⟨z1,z2,z3,z4⟩:=zdf w b o n d' os
 refine⟨d'.toList,h1,⟨p1,zv8 p2 hS⟩,e1,_,I,rfl, .tup .nil,⟨In.le_refl I,λ_ _ h=> .inl h,⟨λid o2 b' t2 h hi=> ?_,λid id' o1 o2 b1 t1 t2 h1' h2' i1 i2=> ?_,λid o2 b' t2 h hi hF=> ?_⟩,λb' hb'=> ?_,z3,z4⟩,trivial⟩
 ·by_cases hid:id=1
  ·subst hid
   rw[g1]at h;cases h
   rw[hI]at hi;cases hi
   refine⟨_,z2 _ _ _ hb,?_⟩
   rw[zd5 o d' pre rest ks q1 p2]
   refine .row q1 ?_ q3
   have:(z00 kyV ks++rest).length=t:=q2
   rw[z3u,List.length_append,List.length_map]at this
   show(z00 kyV d'.toList++rest).length=t
   rw[z3u,List.length_append,List.length_map,Array.length_toList,p2]
   exact this
  ·rw[n1 _ hid]at h;cases h
 ·by_cases hid:id=1
  ·by_cases hid':id'=1
   ·rw[hid,hid']
   ·rw[n1 _ hid']at h2';cases h2'
  ·rw[n1 _ hid]at h1';cases h1'
 ·by_cases hid:id=1
  ·subst hid
   rw[g1]at h;cases h
   rw[hI]at hi;cases hi
   have h:true=false:=(hfr hF).1
   cases h
  ·rw[n1 _ hid]at h;cases h
 ·refine z1 b' (λe=> ?_) (low _ hb')
  subst e
  have h:true=false:=(hfr hb').1
  cases h
section
variable (x0:List ByteArray) (x1:List GV) (x2:List ByteArray) (x3:Nat×List GV×List ByteArray) (x4:Nat->Option Obj) (x5:Nat) (x6:Option Addr) (x7:Nat) (x8:Option Addr) (x9:Prop) (x10:GV)
 abbrev j3l:=(True/\GV.oks x1 x4)/\length x1<=x5/\qik x4 x6 (take (length x1*nat_lit 5) (z00 GV.cells x1))
 def j3j:=GV.b x10=0/\(∀(i0:Bool) (i1:StI),z1z i0 x0 (GV.pvs x1) i1->GV.pv x10=PV.mk 0 (mkS []) i1.2 i1.1 0)/\x9
 def j3i:=length x0=length x0/\(↑(length x0):Int)=(↑(length x0):Int)/\z00 GV.cells x1=z00 GV.cells x1/\meK x0 (0:Nat)=meK x0 0/\length x0=length x0/\x9
 def jct:=(0<=(↑x3.1:Int)/\(↑x3.1:Int)<(↑(length x0):Int))/\∃i0,qi8 (z00 kyV x3.2.2) (nat_lit 0+toNat (↑x3.1:Int)*nat_lit 1) [string i0]/\length (z00 kyV (take x3.1 x3.2.2))=length (take x3.1 x3.2.2)*1/\(length (take x3.1 x3.2.2)+nat_lit 1)*16<=140737488355328/\kOK TypeDesc.string (string i0)/\(∀(i1:MapEntry),i1∈meK x0 0->kOK TypeDesc.string (MapEntry.key i1))/\∃(i2:Int),qkl (string i0) (meK x0 0) (int i64 0)=int i64 i2/\(0<=i2/\i2<(↑(length x1):Int))/\∃(i3:Int),∃i4,∃i5,∃(i6:Nat),∃(i7:Nat),∃i8,∃(i9:Nat),∃(i10:Nat),∃(i11:Int),qi8 (z00 GV.cells x1) (nat_lit 0+toNat i2*nat_lit 5) [int u64 i3,string i4,slice i5 i6 i7,slice i8 i9 i10,int i64 i11]/\length (z00 GV.cells x3.2.1)=length x3.2.1*5/\(length x3.2.1+nat_lit 1)*80<=140737488355328/\Jb ((↑x3.1:Int)+1)/\∃(i12:Nat×List GV×List ByteArray),(↑i12.1:Int)=(↑x3.1:Int)+1/\j3i x0 x1 (z00 kyV i12.2.2=z00 kyV x3.2.2/\(0:Int)=0/\mkS []=mkS []/\length i12.2.1=length x3.2.1+nat_lit 1/\length (take i12.1 i12.2.2)=length (take x3.1 x3.2.2)+nat_lit 1/\(0:Int)=0/\length x1=length x1/\length x0=length x0/\z00 GV.cells i12.2.1=z00 GV.cells x3.2.1++[int u64 i3,string i4,slice i5 i6 i7,slice i8 i9 i10,int i64 i11]/\z00 kyV (take i12.1 i12.2.2)=z00 kyV (take x3.1 x3.2.2)++[string i0]/\(∀i13,(True/\GV.oks x1 i13)/\GV.oks x3.2.1 i13->True/\GV.oks x1 i13)/\(∀i14,(True/\GV.oks x1 i14)/\GV.oks x3.2.1 i14->GV.oks i12.2.1 i14)/\ivO x1 x0 i12.1 i12.2.1 i12.2.2/\length x0- i12.1<length x0- x3.1/\True)
 def j3k:=((True/\GV.oks x1 x4)/\GV.oks x3.2.1 x4)/\length x3.2.1<=x5/\qik x4 x6 (take (length x3.2.1*nat_lit 5) (z00 GV.cells x3.2.1))
 def j3h:=(j3k x1 x3 x4 x5 x6)/\length (take x3.1 x3.2.2)<=x7/\qik x4 x8 (take (length (take x3.1 x3.2.2)*nat_lit 1) (z00 kyV (take x3.1 x3.2.2)))
 def jcs:=Ji ((↑x3.1:Int)<(↑(length x0):Int)) (jct x0 x1 x3) (∀(i15 i16 i17:Nat) (i18:Option Addr) (i19 i20:Nat),(∃i21,j3k x1 x3 i21 i20 i18)->∀(i22 i23 i24:Nat) (i25:Option Addr) (i26 i27:Nat),(∃i28,j3h x1 x3 i28 i20 i18 i27 i25)->∃(i29:GV),GV.n i29=0/\GV.s i29=mkS []/\(GV.x i29).1=i18/\(GV.x i29).2.1=length x3.2.1/\(GV.x i29).2.2=i20/\(GV.y i29).1=i25/\(GV.y i29).2.1=length (take x3.1 x3.2.2)/\(GV.y i29).2.2=i27/\j3j x0 x1 ((∀i32,j3h x1 x3 i32 i20 i18 i27 i25->GV.ok i29 i32)/\True) i29)
 def jcr:=(∃(i0:Nat×List GV×List ByteArray),(↑i0.1:Int)=0/\j3i x0 x1 (z00 kyV i0.2.2=z00 kyV x2/\(0:Int)=0/\mkS []=mkS []/\length i0.2.1=0/\length (take i0.1 i0.2.2)=0/\(0:Int)=0/\length x1=length x1/\length x0=length x0/\(∀i1,True/\GV.oks x1 i1->True/\GV.oks x1 i1)/\(∀i2,True/\GV.oks x1 i2->GV.oks i0.2.1 i2)/\ivO x1 x0 i0.1 i0.2.1 i0.2.2/\True))/\∀(i3:Nat×List GV×List ByteArray),ivO x1 x0 i3.1 i3.2.1 i3.2.2->(∃i4,(True/\GV.oks x1 i4)/\GV.oks i3.2.1 i4)->jcs x0 x1 i3
 def jcq:=Ji ((↑(length x0):Int)=0) (∀(i0 i1 i2:Nat) (i3:Option Addr) (i4 i5:Nat),(∃i6,j3l x1 i6 i5 i3)->∃(i7:GV),GV.n i7=0/\GV.s i7=mkS []/\(GV.x i7).1=i3/\(GV.x i7).2.1=length x1/\(GV.x i7).2.2=i5/\(GV.y i7).1=noA/\(GV.y i7).2.1=0/\(GV.y i7).2.2=0/\j3j x0 x1 ((∀i10,j3l x1 i10 i5 i3->GV.ok i7 i10)/\True) i7) (∃(i11:List ByteArray),length i11=length x0/\z00 kyV i11=z00 kyV x0/\(1<=length i11/\length i11<=1000000)/\∀(i12:List ByteArray),List.Perm i12 i11/\upS i12->jcr x0 x1 i12)
end
def zuf(fs:List GV) (ks:List ByteArray):qm3 P (qh2 []) (qi5 [(64,zty)]) Try.f39 cIv (j3w) ⟨fs,ks⟩=((length fs<=2001/\length ks<=2001/\∃(mp:Bool),∃(st:StI),z1z mp ks (GV.pvs fs) st)->(∃(p:Pub),True/\GV.oks fs p)->jcq ks fs):=by kernel_rfl
def j1f:=λfs ks=>Eq.trans (zuf fs ks) (by delta Ji Jb Jt Jf j3l j3j j3i jct j3k j3h jcs jcr jcq;exact rfl)
section
variable (x0:AT) (x1:SV) (x2:ByteArray) (x3 x4:Int) (x5:List ByteArray) (x6:List GV) (x7:List AT) (x8:Int) (x9:Nat) (x10:VpB) (x11:VpS) (x12:Prop) (x13:Int) (x14:ItB) (x15:Nat->Option Obj)
 abbrev z83:=True/\(z0a x7 x1 x15/\AT.ok x0 x15)/\GV.oks x6 x15
 def zsu:=x1.1=x1.1/\x1.2.1=x1.2.1/\x1.2.2=x1.2.2/\x12
 def zst:=meK x14.2.1 (0:Nat)=meK x5 0/\length x14.2.1=length x5/\length x14.1=length x6/\length x14.2.1=length x5/\x12
 def zkc:=zst x5 x6 (z00 GV.cells x14.1=z00 GV.cells x6/\z00 kyV x14.2.1=z00 kyV x5/\x12) x14
 abbrev zsw:=Jb (x3+1)
 def zsr:=x11.2.2.1=AT.it x0/\x11.2.2.2=x3+1/\x11.2.1.1.1=x1.1/\x11.2.1.1.2.1=x1.2.1/\x11.2.1.1.2.2=x1.2.2/\x11.2.1.2.1=x2/\x12
 def zso:=x11.2.1.2.2.2=x3/\(zaa x11<x9/\okS x11.1/\z0h (x11.2.1.1,x11.2.1.2.1,x11.2.1.2.2.1,x11.2.1.2.2.2)/\(0<=x11.2.1.2.2.2/\x11.2.1.2.2.2<=2000)/\1<=x11.2.2.2/\x11.2.2.2<=21)/\(∀i0,z83 x0 x1 x6 x7 i0->z0a x11.1 x11.2.1.1 i0)/\x12
 abbrev zsq:=dvX x11.1 x11.2.1.2.1 (toNat ((21:Int)- x11.2.2.2)) x11.2.2.1 (toNat x11.2.1.2.2.1) (toNat x11.2.1.2.2.2)
 def z80:=x1.1=x11.2.1.1.1/\x1.2.1=x11.2.1.1.2.1/\x1.2.2=x11.2.1.1.2.2/\x2=x11.2.1.2.1/\x14.2.2.2.1=x10.2.2.1/\x14.2.2.2.2=x10.2.2.2/\x12
 def z81:=z4m ((x7,(x1,x2,x3,x4),x0,x8),x6,x5) x14/\(∀i0,(z83 x0 x1 x6 x7 i0)/\GV.ok x10.1 i0->GV.oks x14.1 i0)/\True
 abbrev z84:=(txP x2 (toNat x3)).1
 abbrev z3f:=string (z84 x2 x3)
 def zkd:=(∀(i0:MapEntry),i0∈meK x5 0->kOK TypeDesc.string (MapEntry.key i0))
 abbrev z5s:=(GV.x x10.1).2.1
 abbrev z5t:=(GV.x x10.1).2.2
 abbrev z5u:=(GV.y x10.1).2.1
 abbrev z5v:=(GV.y x10.1).2.2
 def j3o:=(0<=x3/\x3<(↑(length x6):Int))/\nat_lit 0+toNat x3*nat_lit 5+length [int u64 (GV.n x10.1),string (GV.s x10.1),slice (GV.x x10.1).1 (z5s x10) (z5t x10),slice (GV.y x10.1).1 (z5u x10) (z5v x10),int i64 (GV.b x10.1)]<=length (z00 GV.cells x6)/\∃(i0:ItB),i0.2.2.1=0/\z80 x1 x2 x10 x11 (zst x5 x6 (z00 GV.cells i0.1=spl (z00 GV.cells x6) (nat_lit 0+toNat x3*nat_lit 5) [int u64 (GV.n x10.1),string (GV.s x10.1),slice (GV.x x10.1).1 (z5s x10) (z5t x10),slice (GV.y x10.1).1 (z5u x10) (z5v x10),int i64 (GV.b x10.1)]/\z00 kyV i0.2.1=z00 kyV x5/\z81 x0 x1 x2 x4 x8 x5 x6 x7 x13 x10 i0) i0) i0
 def zss:=zkd x5/\length (z00 kyV x5)=length x5*1/\(length x5+nat_lit 1)*16<=140737488355328/\x12
 abbrev zfp:=z00 GV.cells x6++[int u64 0,string (mkS []),slice noA 0 0,slice noA 0 0,int i64 0]
 def zsn:=(0:Nat)+toNat (↑(length x6):Int)*5+length [int u64 (GV.n x10.1),string (GV.s x10.1),slice (GV.x x10.1).1 (z5s x10) (z5t x10),slice (GV.y x10.1).1 (z5u x10) (z5v x10),int i64 (GV.b x10.1)]<=length (zfp x6)
 def zzx:=length (z00 GV.cells x6)=length x6*5/\(length x6+nat_lit 1)*80<=140737488355328/\(0<=(↑(length x6):Int)/\(↑(length x6):Int)<(↑(length x6+nat_lit 1):Int))/\zsn x6 x10/\zsn x6 x10/\slice x11.2.1.1.1 x11.2.1.1.2.1 x11.2.1.1.2.2=slice x11.2.1.1.1 x11.2.1.1.2.1 x11.2.1.1.2.2/\string x11.2.1.2.1=string x11.2.1.2.1/\int i64 x10.2.2.1=int i64 x10.2.2.1/\int i64 x10.2.2.2=int i64 x10.2.2.2/\x12
 abbrev z82:=int i64 (↑(length x6):Int)
 def zfo:=int u64 (GV.n x10.1)=int u64 (GV.n x10.1)/\string (GV.s x10.1)=string (GV.s x10.1)/\slice (GV.x x10.1).1 (z5s x10) (z5t x10)=slice (GV.x x10.1).1 (z5s x10) (z5t x10)/\slice (GV.y x10.1).1 (z5u x10) (z5v x10)=slice (GV.y x10.1).1 (z5u x10) (z5v x10)/\int i64 (GV.b x10.1)=int i64 (GV.b x10.1)/\x12
 def zkf:=length x6+nat_lit 1=length x6+nat_lit 1
 def zka:=int i64 (AT.k x0)=int i64 (AT.k x0)/\string (AT.nm x0)=string (AT.nm x0)/\slice (AT.al x0).1 (AT.al x0).2.1 (AT.al x0).2.2=slice (AT.al x0).1 (AT.al x0).2.1 (AT.al x0).2.2/\int i64 (AT.it x0)=int i64 (AT.it x0)/\slice (AT.sy x0).1 (AT.sy x0).2.1 (AT.sy x0).2.2=slice (AT.sy x0).1 (AT.sy x0).2.1 (AT.sy x0).2.2/\bool (AT.hd x0)=bool (AT.hd x0)/\string (AT.df x0)=string (AT.df x0)/\int i64 (AT.sz x0)=int i64 (AT.sz x0)/\slice (AT.f x0).1 (AT.f x0).2.1 (AT.f x0).2.2=slice (AT.f x0).1 (AT.f x0).2.1 (AT.f x0).2.2/\slice (AT.br x0).1 (AT.br x0).2.1 (AT.br x0).2.2=slice (AT.br x0).1 (AT.br x0).2.1 (AT.br x0).2.2/\x12
 abbrev zke:=(0:Nat)+toNat (↑(length x6):Int)*5
 def zfn:=spl (zfp x6) (zke x6) [int u64 (GV.n x10.1),string (GV.s x10.1),slice (GV.x x10.1).1 (z5s x10) (z5t x10),slice (GV.y x10.1).1 (z5u x10) (z5v x10),int i64 (GV.b x10.1)]=spl (zfp x6) (zke x6) [int u64 (GV.n x10.1),string (GV.s x10.1),slice (GV.x x10.1).1 (z5s x10) (z5t x10),slice (GV.y x10.1).1 (z5u x10) (z5v x10),int i64 (GV.b x10.1)]
 def zkb:=z00 GV.cells x14.1=spl (zfp x6) (zke x6) [int u64 (GV.n x10.1),string (GV.s x10.1),slice (GV.x x10.1).1 (z5s x10) (z5t x10),slice (GV.y x10.1).1 (z5u x10) (z5v x10),int i64 (GV.b x10.1)]
 def jcv:=kOK TypeDesc.string (z3f x2 x3)/\zss x5 (zzx x6 x10 x11 (AO.mrow (qex (z3f x2 x3) (z82 x6) (meK x5 0) (length x5)) (qew (z3f x2 x3) (meK x5 0) (length x5))=AO.mrow (qex (z3f x2 x3) (z82 x6) (meK x5 0) (length x5)) (qew (z3f x2 x3) (meK x5 0) (length x5))/\z00 kyV x5++[string (z84 x2 x3)]=z00 kyV x5++[string (z84 x2 x3)]/\zfo x10 (zkf x6/\length x5+nat_lit 1=length x5+nat_lit 1/\zka x0 (zfn x6 x10/\string (z84 x2 x3)=string (z84 x2 x3)/\∃(i1:ItB),i1.2.2.1=0/\z80 x1 x2 x10 x11 (meK i1.2.1 (0:Nat)=qex (z3f x2 x3) (z82 x6) (meK x5 0) (length x5)/\length i1.2.1=qew (z3f x2 x3) (meK x5 0) (length x5)/\length i1.1=length x6+nat_lit 1/\length i1.2.1=length x5+nat_lit 1/\zkb x6 x10 i1/\z00 kyV i1.2.1=z00 kyV x5++[string (z84 x2 x3)]/\z81 x0 x1 x2 x3 x4 x5 x6 x7 x8 x10 i1) i1))))
 def zsv:=AO.mrow (meK x5 0) (length x5)=AO.mrow (meK x5 0) (length x5)
 def zsp:=zkf x6/\length x5=length x5/\zka x0 (∃(i0:ItB),i0.2.2.1=0/\z80 x1 x2 x10 x11 (meK i0.2.1 (0:Nat)=meK x5 0/\length i0.2.1=length x5/\length i0.1=length x6+nat_lit 1/\length i0.2.1=length x5/\zkb x6 x10 i0/\z00 kyV i0.2.1=z00 kyV x5/\z81 x0 x1 x2 x3 x4 x5 x6 x7 x8 x10 i0) i0)
 def jcx:=zzx x6 x10 x11 (zsv x5/\zfn x6 x10/\z00 kyV x5=z00 kyV x5/\zfo x10 (zsp x0 x1 x2 x3 x4 x5 x6 x7 x8 x10 x11))
 def j3m:=Ji (AT.k x0=13) (jcv x0 x1 x2 x3 x4 x5 x6 x7 x8 x10 x11) (jcx x0 x1 x2 x3 x4 x5 x6 x7 x8 x10 x11)
 def zzv:=kOK TypeDesc.string (z3f x2 x3)/\zkd x5/\∃(i1:Int),qkl (z3f x2 x3) (meK x5 0) (int i64 0)=int i64 i1/\(qmb (z3f x2 x3) (meK x5 0)=true->Ji (AT.k x0=13) (j3o x0 x1 x2 i1 x3 x5 x6 x7 x4 x10 x11 x8) (j3m x0 x1 x2 x3 x4 x5 x6 x7 x8 x10 x11))/\(qmb (z3f x2 x3) (meK x5 0)=false->j3m x0 x1 x2 x3 x4 x5 x6 x7 x8 x10 x11)
 def zzt:=((!decide (x10.2.1=0))=true->∃(i0:ItB),i0.2.2.1=x10.2.1/\z80 x1 x2 x10 x11 (zkc x5 x6 (z81 x0 x1 x2 x3 x4 x5 x6 x7 x8 x10 i0) i0) i0)/\((!decide (x10.2.1=0))=false->zzv x0 x1 x2 x3 x4 x5 x6 x7 x8 x10 x11)
 def zzr:=zsw x3/\∃(i0:VpS),zsr x0 x1 x2 x3 i0 (i0.2.1.2.2.1=(txP x2 (toNat x4)).2.2/\zso x0 x1 x8 x6 x7 x9 i0 (∀(i2:VpB),z1u i0.1 (zsq i0) i0.2.1.2.1 i0.2.1.2.2.1 i0.2.1.2.2.2 i0.2.2.1 i2->(∃i3,(z83 x0 x1 x6 x7 i3)/\GV.ok i2.1 i3)->zzt x0 x1 x2 x4 x8 x5 x6 x7 x3 i2 i0))
 def jcz:=zsu x1 (x2=x2/\x3=x3/\x4=x4/\z0h ((x1.1,x1.2.1,x1.2.2),x2,x3,x4)/\((!decide (vlE (txP x2 (toNat x3))=0))=true->∃(i0:ItB),i0.2.2.1=vlE (txP x2 (toNat x3))/\zsu x1 (x2=x2/\i0.2.2.2.1=(txP x2 (toNat x3)).2.2/\i0.2.2.2.2=x4/\zkc x5 x6 (z4m ((x7,(x1,x2,x3,x4),x0,x8),x6,x5) i0/\(∀i1,z83 x0 x1 x6 x7 i1->GV.oks i0.1 i1)/\True) i0))/\((!decide (vlE (txP x2 (toNat x3))=0))=false->zzr x0 x1 x2 x8 x3 x5 x6 x7 x4 x9))
 def jcw:=kOK TypeDesc.string (string (mkS []))/\zss x5 (zzx x6 x10 x11 (AO.mrow (qex (string (mkS [])) (z82 x6) (meK x5 0) (length x5)) (qew (string (mkS [])) (meK x5 0) (length x5))=AO.mrow (qex (string (mkS [])) (z82 x6) (meK x5 0) (length x5)) (qew (string (mkS [])) (meK x5 0) (length x5))/\zfo x10 (z00 kyV x5++[string (mkS [])]=z00 kyV x5++[string (mkS [])]/\zkf x6/\length x5+nat_lit 1=length x5+nat_lit 1/\zka x0 (zfn x6 x10/\∃(i1:ItB),i1.2.2.1=0/\z80 x1 x2 x10 x11 (meK i1.2.1 (0:Nat)=qex (string (mkS [])) (z82 x6) (meK x5 0) (length x5)/\length i1.2.1=qew (string (mkS [])) (meK x5 0) (length x5)/\length i1.1=length x6+nat_lit 1/\length i1.2.1=length x5+nat_lit 1/\zkb x6 x10 i1/\z00 kyV i1.2.1=z00 kyV x5++[string (mkS [])]/\z81 x0 x1 x2 x3 x4 x5 x6 x7 x8 x10 i1) i1))))
 def jcy:=zzx x6 x10 x11 (zsv x5/\zfo x10 (z00 kyV x5=z00 kyV x5/\zfn x6 x10/\zsp x0 x1 x2 x3 x4 x5 x6 x7 x8 x10 x11))
 def j3n:=Ji (AT.k x0=13) (jcw x0 x1 x2 x3 x4 x5 x6 x7 x8 x10 x11) (jcy x0 x1 x2 x3 x4 x5 x6 x7 x8 x10 x11)
 def zzw:=kOK TypeDesc.string (string (mkS []))/\zkd x5/\∃(i1:Int),qkl (string (mkS [])) (meK x5 0) (int i64 0)=int i64 i1/\(qmb (string (mkS [])) (meK x5 0)=true->Ji (AT.k x0=13) (j3o x0 x1 x2 i1 x3 x5 x6 x7 x4 x10 x11 x8) (j3n x0 x1 x2 x3 x4 x5 x6 x7 x8 x10 x11))/\(qmb (string (mkS [])) (meK x5 0)=false->j3n x0 x1 x2 x3 x4 x5 x6 x7 x8 x10 x11)
 def zzu:=((!decide (x10.2.1=0))=true->∃(i0:ItB),i0.2.2.1=x10.2.1/\z80 x1 x2 x10 x11 (zkc x5 x6 (z81 x0 x1 x2 x3 x4 x5 x6 x7 x8 x10 i0) i0) i0)/\((!decide (x10.2.1=0))=false->zzw x0 x1 x2 x3 x4 x5 x6 x7 x8 x10 x11)
 def zzs:=zsw x3/\∃(i0:VpS),zsr x0 x1 x2 x3 i0 (i0.2.1.2.2.1=x4/\zso x0 x1 x8 x6 x7 x9 i0 (∀(i2:VpB),z1u i0.1 (zsq i0) i0.2.1.2.1 i0.2.1.2.2.1 i0.2.1.2.2.2 i0.2.2.1 i2->(∃i3,(z83 x0 x1 x6 x7 i3)/\GV.ok i2.1 i3)->zzu x0 x1 x2 x4 x8 x5 x6 x7 x3 i2 i0))
 def jcu:=Ji (AT.k x0=13) (jcz x0 x1 x2 x3 x4 x5 x6 x7 x8 x9) (zzs x0 x1 x2 x8 x3 x5 x6 x7 x4 x9)
end
def zcg(n:Nat) (S:List AT) (x:SV) (s:ByteArray) (i c:Int) (a:AT) (dp:Int) (fs:List GV) (ks:List ByteArray):qm3 P (qh2 [(45,z50)]) (qi5 [(13,z3s.below zaa n)]) Try.f40 (z8d.below ztf (n+1)) (zll) ⟨⟨S,⟨x,s,i,c⟩,a,dp⟩,fs,ks⟩=(ztf ((S,(x,s,i,c),a,dp),fs,ks)<n+1/\zmz ((S,(x,s,i,c),a,dp),fs,ks)->(∃(p:Pub),z83 a x fs S p)->jcu a x s i c ks fs S dp n):=by kernel_rfl
def zgv:=λn S x s i c a dp fs ks=>Eq.trans (zcg n S x s i c a dp fs ks) (by delta Ji Jb Jt Jf z83 zsu zst zkc zsw zsr zso zsq z80 z81 z84 z3f zkd z5s z5t z5u z5v j3o zss zfp zsn zzx z82 zfo zkf zka zke zfn zkb jcv zsv zsp jcx j3m zzv zzt zzr jcz jcw jcy j3n zzw zzu zzs jcu;exact rfl)
section
variable {ks:List ByteArray} {vs:List PV} {st:StI}
def zbb{mp:Bool} (h:z1z mp ks vs st):mp=true->ks.length=vs.length/\ks.Nodup:=λe=>by
 subst e;unfold z1z at h;rw[if_pos rfl]at h;exact⟨h.2.1,h.1⟩
def z4p(h:z1z false ks vs st):ks=[]/\st=([],vs):=by
 unfold z1z at h;rw[if_neg (by decide)]at h;exact h
def zcf{S:List AT} {x:SV} {s:ByteArray} {i c:Int} {a:AT} {dp:Int} {fs:List GV} {ks:List ByteArray} {e' i' c':Int} (h1:∀st,∃k:Nat,e'=k+1/\itX (gvX S s dp a.it) s (decide (a.k=13)) st i.toNat c.toNat= .no k) (h2:i<=i'/\i'<=s.size) (h3:c<=c'/\c'<=2001) (h4:(fs.length:Int)<=c') (h5:(ks.length:Int)<=c'):z4m ⟨⟨S,⟨x,s,i,c⟩,a,dp⟩,fs,ks⟩ (fs,ks,e',i',c'):=by
 refine⟨λst _=> ?_,h2,h3,λg=> ?_,h4,h5⟩
 ·obtain⟨k,q1,q2⟩:=h1 st
  rw[q2];exact q1
 ·obtain⟨k,q1,_⟩:=h1 ([],[])
  have g:e'=0:=g
  omega
def z76{S:List AT} {x:SV} {s:ByteArray} {i c:Int} {a:AT} {dp:Int} {fs fs':List GV} {ks ks':List ByteArray} {i' c':Int} (h1:∀st,z1z (decide (a.k=13)) ks (GV.pvs fs) st->∃r,itX (gvX S s dp a.it) s (decide (a.k=13)) st i.toNat c.toNat= .ok r/\z1z (decide (a.k=13)) ks' (GV.pvs fs') r.1/\i'=r.2.1/\c'=r.2.2) (h2:i<=i'/\i'<=s.size) (h3:c+1<=c'/\c'<=2000) (h4:(fs'.length:Int)<=c') (h5:(ks'.length:Int)<=c'):z4m ⟨⟨S,⟨x,s,i,c⟩,a,dp⟩,fs,ks⟩ (fs',ks',0,i',c'):=by
 refine⟨λst hst=> ?_,h2,⟨by show c<=c';omega,by show c'<=2001;omega⟩,λ_=>h3,h4,h5⟩
 obtain⟨r,q1,q2,q3,q4⟩:=h1 st hst
 rw[q1];exact⟨rfl,q2,q3,q4⟩
def znq(fs:List GV) (j:Nat) (r:GV):GV.pvs (fs.set j r)=(GV.pvs fs).set j r.pv:=by rw[GV.pvs_map,GV.pvs_map,List.map_set]
def zng{fs:List GV} {j:Nat} {r:GV} {p:Pub} (h:GV.oks fs p) (hr:r.ok p):GV.oks (fs.set j r) p:=GV.oks_iff.2 λv hv=>(List.mem_or_eq_of_mem_set hv).elim (GV.oks_iff.1 h v) (λe=>e ▸ hr)
def zgw(n:Nat) (hv:q22 P 13 (z3s.below zaa n)):q22 P 40 (z8d.below ztf (n+1)):=by
  refine qlb mixed (qee (qih z6e qlq)) (qf7 (qig hv qlp)) (W:=zll) Try.func40 (by kernel_rfl) (show 1<=8 by decide) (show 8<=12 by decide) (λs=>by kernel_rfl) λ⟨⟨S,⟨(x:SV),s,(i:Int),(c:Int)⟩,a,(dp:Int)⟩,fs,ks⟩=>(zgv n S x s i c a dp fs ks).mpr ?_
  rintro⟨hmu,hok,haS,hk,h,⟨hc0,hc1⟩,⟨hp1,hp2⟩,hfl,hkl,st0,hst0⟩ ⟨p,_,⟨hx,ha⟩,hfs⟩
  have hmu:(25- dp).toNat<n+1:=hmu
  have hi:=h.1
  have hi2:=h.2.1
  have hit:=(hok.2.2 a haS).2.2.1 hk
  have hpv:=GV.pvs_len fs
  simp only[sbS,exists_const,forall_const,Int.toNat_natCast]
  refine⟨λk13=> ?_,λk13=> ?_⟩
  · have hmp:decide (a.k=13)=true:=decide_eq_true k13
    have hst:=hst0
    rw[hmp]at hst
    obtain⟨hln,hnd⟩:=zbb hst rfl
    rw[hpv]at hln
    have ht:=z3m (D:=s) (i:=i.toNat) (by omega)
    have hve:0<=vlE (txP s i.toNat):=by unfold vlE;split<;>omega
    have hX:∀st,itX (gvX S s dp a.it) s true st i.toNat c.toNat=(rsT (txP s i.toNat) (vlE (txP s i.toNat))).bind λk=>(gvX S s dp a.it k.2 c.toNat).bind λr=> .ok ((qb3 k.1 st.1,z2f k.1 st.1 st.2 r.1),r.2):=λst=>by unfold itX;rw[if_pos rfl];rfl
    generalize txP s i.toNat=T at*
    obtain⟨k,er,m⟩:=T
    generalize vlE (k,er,m)=E at*
    simp only at ht hX⊢
    unfold rsT at hX
    refine⟨h,λhe=>⟨⟨fs,ks,E,m,c⟩,rfl,rfl,rfl,rfl,rfl,rfl,rfl,rfl,rfl,zcf (λst=>⟨(E- 1).toNat,by omega,by rw[hmp,hX,if_neg he,z1n]⟩) ⟨by omega,by omega⟩ ⟨Int.le_refl _,by omega⟩ hfl hkl,λq hq=>hq.2⟩,λhe=>⟨⟨by omega,by omega⟩,⟨S,⟨x,s,m,c⟩,a.it,dp+1⟩,rfl,rfl,rfl,rfl,rfl,rfl,rfl,rfl,⟨by show(25- (dp+1)).toNat<n;omega,hok,⟨by show 0<=m;omega,by show m<=s.size;omega,h.2.2⟩,⟨hc0,hc1⟩,by show 1<=dp+1;omega,by show dp+1<=21;omega⟩,λq hq=>hq.1.1,?_⟩⟩
    rintro⟨r,e',i',c'⟩ ⟨g1,_,⟨g2,g3⟩,⟨g4,g5⟩,g6⟩ _
    obtain⟨g7,g8⟩:=g1 hit
    have g2:m<=i':=g2
    have g8:c+1<=c':=g8
    have g5:c'<=2001:=g5
    have g7:agD (dvX S s (21- (dp+1)).toNat a.it m.toNat c.toNat) r.pv i' c' e':=g7
    rw[show(21- (dp+1)).toNat=(20- dp).toNat by omega]at g7
    simp only[if_pos he,z0o]at hX
    have hG:gvX S s dp a.it m.toNat c.toNat=dvX S s (20- dp).toNat a.it m.toNat c.toNat:=rfl
    rw[←hG]at g7
    simp only[true_and,and_true]
    generalize gvX S s dp a.it m.toNat c.toNat=G at*
    have hb1:i<=i'/\i'<=s.size:=⟨by omega,g3⟩
    refine⟨λhne=>⟨⟨fs,ks,e',i',c'⟩,rfl,rfl,rfl,rfl,rfl,rfl,rfl,rfl,rfl,zcf (λst=> ?_) hb1 ⟨by omega,g5⟩ (by omega) (by omega),λq hq=>hq.1.2⟩,λhe0=>⟨trivial,z3x ks 0,?_⟩⟩
    · cases G with
      |no j=>exact⟨j,g7,by rw[hmp,hX,z1n]⟩
      |ok w=>exact absurd g7.1 hne
    cases G with
    |no j=>have g7:e'=j+1:=g7;have he0:e'=0:=he0;omega
    | ok w=>
      obtain⟨_,q2,q3,q4⟩:=g7
      simp only[z0o]at hX
      have hcc:c+1<=c'/\c'<=2000:=⟨g8,g6 he0⟩
      by_cases hk:k∈ks
      · obtain⟨k1,k2⟩:=zn0 hk
        refine⟨(kI k ks:Nat),zl4 _ hk,λ_=>⟨λ_=>⟨⟨by omega,by omega⟩,by rw[Int.toNat_natCast,z01 z0f];show 0+kI k ks*5+5<=_;omega,⟨fs.set (kI k ks) r,ks,0,i',c'⟩,rfl,rfl,rfl,rfl,rfl,List.length_set ..,rfl,by rw[Int.toNat_natCast];exact z95 z0f fs (kI k ks) (by omega) r,rfl,z76 (λst hst=>⟨_,by rw[hmp];exact hX st,?_,q3,q4⟩) hb1 hcc (by rw[List.length_set];omega) (by omega),λq hq=>zng hq.1.2 hq.2⟩,λg=>absurd k13 g⟩,λg=>by rw[j1k hk]at g;cases g⟩
        rw[hmp]at hst⊢
        rw[znq,q2]
        exact zm3 hst hk
      · obtain⟨k1,k2⟩:=zun hk
        refine⟨0,zn6 _ hk,λg=>(by rw[zum hk]at g;cases g),λ_=>⟨λ_=>⟨trivial,z3x ks 0,z01 z8v ks,by omega,z01 z0f fs,by omega,⟨by omega,by omega⟩,by rw[List.length_append,z01 z0f];show 0+fs.length*5+5<=fs.length*5+5;omega,by rw[List.length_append,z01 z0f];show 0+fs.length*5+5<=fs.length*5+5;omega,⟨fs++[r],ks++[k],0,i',c'⟩,rfl,rfl,rfl,?_,?_,by simp,by simp,(zdb fs r _ rfl).symm,by rw[z05];rfl,z76 (λst hst=>⟨_,by rw[hmp];exact hX st,?_,q3,q4⟩) hb1 hcc (by rw[List.length_append];show((fs.length+1:Nat):Int)<=c';omega) (by rw[List.length_append];show((ks.length+1:Nat):Int)<=c';omega),λq hq=>z2n hq.1.2 (z1q hq.2)⟩,λg=>absurd k13 g⟩⟩
        · rw[←hln];exact k1.symm
        · exact k2.symm
        · rw[hmp]at hst⊢
          rw[j1n,q2]
          exact zm1 hst hk
  · have hmp:decide (a.k=13)=false:=decide_eq_false k13
    have hst:=hst0
    rw[hmp]at hst
    obtain⟨rfl,_⟩:=z4p hst
    have hX:∀st,itX (gvX S s dp a.it) s false st i.toNat c.toNat=(gvX S s dp a.it i.toNat c.toNat).bind λr=> .ok ((st.1,st.2++[r.1]),r.2):=λst=>by unfold itX;rw[if_neg (by decide)]
    refine⟨⟨by omega,by omega⟩,⟨S,⟨x,s,i,c⟩,a.it,dp+1⟩,rfl,rfl,rfl,rfl,rfl,rfl,rfl,rfl,⟨by show(25- (dp+1)).toNat<n;omega,hok,h,⟨hc0,hc1⟩,by show 1<=dp+1;omega,by show dp+1<=21;omega⟩,λq hq=>hq.1.1,?_⟩
    rintro⟨r,e',i',c'⟩ ⟨g1,_,⟨g2,g3⟩,⟨g4,g5⟩,g6⟩ _
    obtain⟨g7,g8⟩:=g1 hit
    have g2:i<=i':=g2
    have g8:c+1<=c':=g8
    have g5:c'<=2001:=g5
    have g7:agD (dvX S s (21- (dp+1)).toNat a.it i.toNat c.toNat) r.pv i' c' e':=g7
    rw[show(21- (dp+1)).toNat=(20- dp).toNat by omega]at g7
    have hG:gvX S s dp a.it i.toNat c.toNat=dvX S s (20- dp).toNat a.it i.toNat c.toNat:=rfl
    rw[←hG]at g7
    simp only[true_and,and_true]
    have hb1:i<=i'/\i'<=s.size:=⟨by omega,g3⟩
    generalize gvX S s dp a.it i.toNat c.toNat=G at*
    refine⟨λhne=>⟨⟨fs,[],e',i',c'⟩,rfl,rfl,rfl,rfl,rfl,rfl,rfl,rfl,rfl,zcf (λst=> ?_) hb1 ⟨by omega,g5⟩ (by omega) (by show((0:Nat):Int)<=c';omega),λq hq=>hq.1.2⟩,λhe0=>⟨trivial,z3x [] 0,0,rfl,λg=>absurd g (by decide),λ_=>⟨λg=>absurd g k13,λ_=> ?_⟩⟩⟩
    · cases G with
      |no j=>exact⟨j,g7,by rw[hmp,hX,z1n]⟩
      |ok w=>exact absurd g7.1 hne
    cases G with
    |no j=>have g7:e'=j+1:=g7;have he0:e'=0:=he0;omega
    | ok w=>
      obtain⟨_,q2,q3,q4⟩:=g7
      simp only[z0o]at hX
      have hcc:c+1<=c'/\c'<=2000:=⟨g8,g6 he0⟩
      refine⟨z01 z0f fs,by omega,⟨by omega,by omega⟩,by rw[List.length_append,z01 z0f];show 0+fs.length*5+5<=fs.length*5+5;omega,by rw[List.length_append,z01 z0f];show 0+fs.length*5+5<=fs.length*5+5;omega,⟨fs++[r],[],0,i',c'⟩,rfl,rfl,rfl,rfl,rfl,by simp,rfl,(zdb fs r _ rfl).symm,rfl,z76 (λst hst=>⟨_,by rw[hmp];exact hX st,?_,q3,q4⟩) hb1 hcc (by rw[List.length_append];show((fs.length+1:Nat):Int)<=c';omega) (by show((0:Nat):Int)<=c';omega),λq hq=>z2n hq.1.2 (z1q hq.2)⟩
      rw[hmp]at hst⊢
      obtain⟨_,rfl⟩:=z4p hst
      unfold z1z
      rw[if_neg (by decide)]
      exact⟨rfl,by rw[j1n,q2]⟩
end
section
def zlx:∀{ks:List ByteArray} {vs:List PV},ks.Nodup->∀{k:ByteArray} {v:PV},(k,v)∈ks.zip vs->vs[kI k ks]? =some v
  | [],_,_,k,v,h=>by simp at h
  |a::l,[],_,k,v,h=>by simp at h
  | a ::l,w::vs,hn,k,v,h=>by
    obtain⟨ha,hl⟩:=List.nodup_cons.1 hn
    rw[List.zip_cons_cons]at h
    rcases List.mem_cons.1 h with h|h
    · cases h;simp[kI]
    · have hk:=(List.of_mem_zip h).1
      rw[kI,if_neg (λe=>ha (by rw[←e];exact hk)),List.getElem?_cons_succ]
      exact zlx hl h
def zct{α β:Type} {f:α->Option β}:∀{l:List α} {m:List β},l.length=m.length->(∀p∈l.zip m,f p.1=some p.2)->m.map some=l.map f
  | [],[],_,_=>rfl
  | a::l,b::m,h,g=>by
    rw[List.map_cons,List.map_cons,g (a,b) (by simp),zct (by simpa using h) λp hp=>g p (by rw[List.zip_cons_cons];exact List.mem_cons_of_mem _ hp)]
def some_inj{α:Type}:∀{l m:List α},l.map some=m.map some->l=m
  | [],[],_=>rfl
  | [],_::_,h=>by cases h
  |_::_,[],h=>by cases h
  | a::l,b::m,h=>by
    rw[List.map_cons,List.map_cons]at h
    obtain⟨h1,h2⟩:=List.cons.inj h
    cases h1
    rw[some_inj h2]
variable {st:StI}
def zm0{fs gs:List GV} {ks ls:List ByteArray} (h:z1z true ks (GV.pvs fs) st) (hp:ls.Perm ks) (hu:upS ls) (hg:gs.map some=ls.map (λk=>fs[kI k ks]?)):st.1=ls/\st.2=GV.pvs gs:=by
 unfold z1z at h
 rw[if_pos rfl]at h
 obtain⟨h0,h1,h2,h3,h4⟩:=h
 have hk:st.1.Perm ks:=by
  have:=h4.map Prod.fst
  rwa [List.map_fst_zip (by omega),List.map_fst_zip (by omega)]at this
 have e1:st.1=ls:=by
  refine List.Perm.eq_of_pairwise (le:=λa b=>qfa b a=false) (λa b _ _ p q=> ?_) (h3.imp λ{a b} p=> ?_) hu (hk.trans hp.symm)
  ·rcases(z1a a b).2 p with p|p
   ·rw[q]at p;cases p
   ·exact p
  ·exact(z1a a b).1 (.inl p)
 refine⟨e1,some_inj ?_⟩
 rw[zct (f:=λk=>(GV.pvs fs)[kI k ks]?) h2 λp hp'=>zlx h0 (h4.mem_iff.1 hp'),e1,GV.pvs_map,GV.pvs_map,List.map_map]
 have:gs.map (some∘GV.pv)=(gs.map some).map (Option.map GV.pv):=by rw[List.map_map];rfl
 rw[this,hg,List.map_map]
 refine List.map_congr_left λk _=> ?_
 simp
variable {vs:List PV} {mp:Bool}
def z87{ks:List ByteArray} (h:z1z mp ks vs st) (hk:ks.length≠0):mp=true:=by
 cases mp with
 |true=>rfl
 |false=>rw[(z4p h).1]at hk;exact absurd rfl hk
def zm2(h:z1z mp [] vs st):st.1=[]/\st.2=vs:=by
  cases mp with
  |false=>rw[(z4p h).2];exact⟨rfl,rfl⟩
  | true=>
    unfold z1z at h
    rw[if_pos rfl]at h
    obtain⟨_,h1,h2,_,h4⟩:=h
    have h1:vs.length=0:=h1.symm
    have e:vs=[]:=List.eq_nil_of_length_eq_zero h1
    subst e
    have h5:=h4.length_eq
    rw[List.length_zip]at h5
    have e0:(List.zip ([]:List ByteArray) ([]:List PV)).length=0:=rfl
    rw[e0]at h5
    have h6:st.1.length=0:=by omega
    have h7:st.2.length=0:=by omega
    exact⟨List.eq_nil_of_length_eq_zero h6,List.eq_nil_of_length_eq_zero h7⟩
def zu7{fs:List GV} {ls:List ByteArray} {a b:Option Addr} {c d:Nat} {q:Pub} (h1:GV.oks fs q) (h2:fs.length<=c) (h3:qik q a (List.take (fs.length*5) (z00 GV.cells fs))) (h4:ls.length<=d) (h5:qik q b (List.take (ls.length*1) (z00 kyV ls))):(GV.mk 0 (mkS []) (a,fs.length,c) fs (b,ls.length,d) ls 0).ok q:=by
 rw[List.take_of_length_le (by rw[z01 z0f];exact Nat.le_refl _)]at h3
 rw[List.take_of_length_le (by rw[z01 z8v];exact Nat.le_refl _)]at h5
 unfold GV.ok
 exact⟨⟨rfl,h2,h3⟩,⟨rfl,h4,h5⟩,h1⟩
def zlb{α:Type} {f:α->List Value} {e:Nat} (hf:∀x,(f x).length=e) {l:List α} {i:Nat} (hi:i<l.length):qi8 (z00 f l) (0+i*e) (f l[i]):=λj v h=>by
 have hj:j<e:=by
  rcases Nat.lt_or_ge j e with g|g
  ·exact g
  ·rw[List.getElem?_eq_none (by rw[hf];exact g)]at h;cases h
 rw[Nat.zero_add,z1t hf l i hi j hj];exact h
def zmt{fs gs:List GV} {ks ls:List ByteArray} {j m:Nat} (hg:gs.map some=(ls.take j).map (λk=>fs[kI k ks]?)) (hj:j<ls.length) (hm:m<fs.length) (e:kI ls[j] ks=m):(gs++[fs[m]]).map some=(ls.take (j+1)).map (λk=>fs[kI k ks]?):=by
 rw[List.take_add_one,List.getElem?_eq_getElem hj,List.map_append,List.map_append,hg]
 simp[e,hm]
def j1g:q22 P 39 cIv:=by
 refine qlb mixed (qee qlq) (qf7 (qig zo3 qlp)) (W:=j3w) Try.func39 (by kernel_rfl) (show 1<=8 by decide) (show 8<=8 by decide) (λs=>by kernel_rfl) λ⟨fs,ks⟩=>(j1f fs ks).mpr ?_
 rintro⟨hf,hkl,mp0,st0,hst0⟩ ⟨p,_,hp⟩
 simp only[sbS,exists_const,forall_const,Int.toNat_natCast]
 refine⟨λhk a c _=> ?_,λhk=> ?_⟩
 ·have hk:ks=[]:=List.eq_nil_of_length_eq_zero (by omega)
  subst hk
  refine⟨.mk 0 (mkS []) (a,fs.length,c) fs (none,0,0) [] 0,rfl,rfl,rfl,rfl,rfl,rfl,rfl,rfl,rfl,λmp st h=> ?_,λq hq=>zkw hq.1 hq.2.1 hq.2.2⟩
  obtain⟨e1,e2⟩:=zm2 h
  rw[GV.pv,e1,e2]
 ·have hk0:ks.length≠0:=by omega
  have hmp:=z87 hst0 hk0
  rw[hmp]at hst0
  have hln:=(zbb hst0 rfl).1
  rw[GV.pvs_len]at hln
  refine⟨ks,rfl,rfl,⟨by omega,by omega⟩,?_⟩
  rintro ls ⟨hpm,hup⟩
  refine⟨⟨(0,[],ls),rfl,rfl,rfl,rfl,λq _=>GV.oks_iff.2 λw hw=>(by cases hw),⟨Nat.zero_le _,hpm,hup,rfl,rfl⟩⟩,?_⟩
  rintro⟨j,gs,ls⟩ ⟨r1,r2,r3,r4,r5⟩ ⟨p2,hp2,hgs⟩
  simp only at r1 r2 r3 r4 r5 hgs⊢
  have hll:=r2.length_eq
  refine⟨λhlt=> ?_,λhge a c _ b d _=> ?_⟩
  ·have hj:j<ls.length:=by omega
   have hjk:ls[j]∈ks:=r2.mem_iff.1 (List.getElem_mem hj)
   obtain⟨k1,k2⟩:=zn0 hjk
   have hm:kI ls[j] ks<fs.length:=by omega
   refine⟨⟨by omega,by omega⟩,ls[j],zlb z8v hj,by rw[z01 z8v],by rw[List.length_take];omega,trivial,z3x ks 0,(kI ls[j] ks:Nat),zl4 _ hjk,⟨by omega,by omega⟩,fs[kI ls[j] ks].n,fs[kI ls[j] ks].s,fs[kI ls[j] ks].x.1,fs[kI ls[j] ks].x.2.1,fs[kI ls[j] ks].x.2.2,fs[kI ls[j] ks].y.1,fs[kI ls[j] ks].y.2.1,fs[kI ls[j] ks].y.2.2,fs[kI ls[j] ks].b,by rw[Int.toNat_natCast];exact zlb z0f hm,z01 z0f gs,by omega,⟨by omega,by omega⟩,(j+1,gs++[fs[kI ls[j] ks]],ls),by show((j+1:Nat):Int)=_;omega,rfl,by simp,by simp only[List.length_take];omega,by rw[z05];rfl,?_,λq hq=>hq.1,λq hq=>z2n hq.2 (z1q (GV.oks_iff.1 hq.1 _ (List.getElem_mem hm))),⟨by show j+1<=_;omega,r2,r3,by simp[r4],zmt r5 hj hm rfl⟩,by show ks.length- (j+1)<_;omega⟩
   show z00 kyV (ls.take (j+1))=_
   rw[List.take_add_one,List.getElem?_eq_getElem hj,z05]
   rfl
  ·have hj:j=ks.length:=by omega
   have ht:ls.take j=ls:=List.take_of_length_le (by omega)
   rw[ht]at r5
   refine⟨.mk 0 (mkS []) (a,gs.length,c) gs (b,ls.length,d) ls 0,rfl,rfl,rfl,rfl,rfl,rfl,by rw[ht];rfl,rfl,rfl,λmp st h=> ?_,λq hq=> ?_⟩
   ·rw[z87 h hk0]at h
    obtain⟨e1,e2⟩:=zm0 h r2 r3 r5
    rw[GV.pv,e1,e2]
   ·have h5:=hq.2.2
    have h4:=hq.2.1
    rw[ht]at h4 h5
    exact zu7 hq.1.1.2 hq.1.2.1 hq.1.2.2 h4 h5
end
def agT(R:RdT) (v:PV) (n e:Int):Prop:=match R with
 | .no k=>e=k+1/\n=0/\v=zV.pv
 | .ok r=>e=0/\v=r.1/\n=r.2.1
abbrev DdS:=List AT×SV×Int×SV×ByteArray
abbrev DdB:=GV×Int×Int
def z2b(S:List AT) (t:Int) (D:ByteArray) (b:DdB):Prop:=(0<=t/\t<S.length->agT (dvX S D 20 t 0 0) b.1.pv b.2.1 b.2.2)/\(¬(0<=t/\t<S.length)->b.2.2=1/\b.2.1=0/\b.1.pv=zV.pv)/\0<=b.2.1/\b.2.1<=D.size
def z9i:∀c,q22 P 13 (z3s.below zaa c)
 |0=>CtR.below_zero (by decide) (by decide) (Sen.enters_of Try.func13 (by kernel_rfl)) λs=>rfl
 |c+1=>zoe c (zhk c (z9i c)) (zmb c (zgw c (z9i c)) j1g) (zoc c (z9i c))
def zvd:q22 P 13 z3s:=CtR.of_below z9i
def zfy:CtR where
 σ:=DdS
 args:=λ⟨S,x,t,y,D⟩=>[scA x, .sv (.int .i64 t),svA y]
 h:=λ_=>[]
 m:=1
 pre:=λ⟨S,x,t,y,D⟩=>okS S/\D.size<100000
 mem:=λ⟨S,x,t,y,D⟩=>rvM S x y D
 β:=λ_=>DdB
 post:=λ⟨S,x,t,y,D⟩ b=>z2b S t D b
 pm:=λ_ ⟨r,n',e'⟩=>vM r
 r:=λ_ ⟨r,n',e'⟩=> .tup [r.av, .sv (.int .i64 n'), .sv (.int .i64 e')]
 h':=λ_ _=>[]
 m':=1
section
variable (x0:VpB) (x1:List AT) (x2:Int) (x3:ByteArray) (x4 x5:SV) (x6:Nat->Option Obj)
 def zsx:=True/\z0a x1 x4 x6/\x5.2.1=size x3/\qil x6 x5.1 x5.2.1 x5.2.2 (q1h x3)
 def jd1:=AV.sv (int i64 x0.2.2.1)=AV.sv (int i64 x0.2.2.1)/\∃(i0:DdB),GV.n i0.1=GV.n x0.1/\GV.s i0.1=GV.s x0.1/\(GV.x i0.1).1=(GV.x x0.1).1/\(GV.x i0.1).2.1=(GV.x x0.1).2.1/\(GV.x i0.1).2.2=(GV.x x0.1).2.2/\(GV.y i0.1).1=(GV.y x0.1).1/\(GV.y i0.1).2.1=(GV.y x0.1).2.1/\(GV.y i0.1).2.2=(GV.y x0.1).2.2/\GV.b i0.1=GV.b x0.1/\i0.2.1=x0.2.2.1/\i0.2.2=0/\z2b x1 x2 x3 i0/\(∀i1,(zsx x1 x3 x4 x5 i1)/\GV.ok x0.1 i1->GV.ok i0.1 i1)/\True
 def jd0:=((!decide (x0.2.1=0))=true->∃(i0:DdB),GV.n i0.1=0/\GV.s i0.1=mkS []/\(GV.x i0.1).1=noA/\(GV.x i0.1).2.1=0/\(GV.x i0.1).2.2=0/\(GV.y i0.1).1=noA/\(GV.y i0.1).2.1=0/\(GV.y i0.1).2.2=0/\GV.b i0.1=0/\i0.2.1=0/\i0.2.2=x0.2.1/\z2b x1 x2 x3 i0/\(∀i1,(zsx x1 x3 x4 x5 i1)/\GV.ok x0.1 i1->GV.ok i0.1 i1)/\True)/\((!decide (x0.2.1=0))=false->jd1 x0 x1 x2 x3 x4 x5)
end
def zg1(S:List AT) (x:SV) (t:Int) (y:SV) (D:ByteArray):qm3 P (qh2 []) (qi5 [(13,z3s)]) Try.f7 zfy (λ_=>{}) ⟨S,x,t,y,D⟩=(okS S/\size D<100000->(∃(p:Pub),zsx S D x y p)->∃(s:ByteArray),size s=y.2.1/\(∀(p:Pub),zsx S D x y p->qik p y.1 (q1h s))/\∃(s_1:VpS),s_1.2.2.1=t/\s_1.2.2.2=1/\s_1.2.1.1.1=x.1/\s_1.2.1.1.2.1=x.2.1/\s_1.2.1.1.2.2=x.2.2/\s_1.2.1.2.1=s/\s_1.2.1.2.2.1=0/\s_1.2.1.2.2.2=0/\(okS s_1.1/\z0h (s_1.2.1.1,s_1.2.1.2.1,s_1.2.1.2.2.1,s_1.2.1.2.2.2)/\(0<=s_1.2.1.2.2.2/\s_1.2.1.2.2.2<=2000)/\1<=s_1.2.2.2/\s_1.2.2.2<=21)/\(∀(p:Pub),zsx S D x y p->z0a s_1.1 s_1.2.1.1 p)/\∀(b:VpB),z1u s_1.1 (dvX s_1.1 s_1.2.1.2.1 (toNat ((21:Int)- s_1.2.2.2)) s_1.2.2.1 (toNat s_1.2.1.2.2.1) (toNat s_1.2.1.2.2.2)) s_1.2.1.2.1 s_1.2.1.2.2.1 s_1.2.1.2.2.2 s_1.2.2.1 b->(∃(p:Pub),(zsx S D x y p)/\GV.ok b.1 p)->jd0 b S t D x y):=by kernel_rfl
def zml:=λS x t y D=>Eq.trans (zg1 S x t y D) (by delta zsx jd1 jd0;exact rfl)
def zbu:q22 P 7 zfy:=by
 refine qlb mixed (qee qlq) (qf7 (qig zvd qlp)) (W:=λ_=>{}) Try.func7 (by kernel_rfl) (show 1<=1 by decide) (show 1<=1 by decide) (λs=>by kernel_rfl) λ⟨S,(x:SV),(t:Int),(y:SV),D⟩=>(zml S x t y D).mpr ?_
 rintro⟨hok,hD⟩ ⟨p,_,hx,hyl,hy⟩
 have xs:x.2.1=S.length:=hx.1.1
 refine⟨D,hyl.symm,λq hq=>hq.2.2.2.2,⟨S,⟨x,D,0,0⟩,t,1⟩,rfl,rfl,rfl,rfl,rfl,rfl,rfl,rfl,⟨hok,⟨Int.le_refl _,by show(0:Int)<=D.size;omega,hD⟩,⟨by show(0:Int)<=0;decide,by show(0:Int)<=2000;decide⟩,by show(1:Int)<=1;decide,by show(1:Int)<=21;decide⟩,λq hq=>hq.2.1,?_⟩
 rintro⟨r,e',n',c'⟩ ⟨h1,h2,⟨h3,h4⟩,h5,h6⟩ _
 have h1:inT S t->agD (dvX S D 20 t 0 0) r.pv n' c' e'/\(0:Int)+1<=c':=h1
 have h2:¬inT S t->e'=1:=h2
 have h3:(0:Int)<=n':=h3
 have h4:n'<=D.size:=h4
 simp only[sbS,exists_const,forall_const,Int.toNat_natCast,Bool.and_eq_false_iff,Bool.and_eq_true]
 refine⟨λhne=>⟨⟨zV,0,e'⟩,rfl,rfl,rfl,rfl,rfl,rfl,rfl,rfl,rfl,rfl,rfl,⟨λhin=> ?_,λh=>⟨h2 h,rfl,rfl⟩,Int.le_refl _,by show(0:Int)<=D.size;omega⟩,λq _=>z1d q⟩,λhe=>⟨⟨r,n',0⟩,rfl,rfl,rfl,rfl,rfl,rfl,rfl,rfl,rfl,rfl,rfl,⟨λhin=> ?_,λh=> ?_,h3,h4⟩,λq hq=>hq.2⟩⟩
 ·show agT (dvX S D 20 t 0 0) zV.pv 0 e'
  have h1:=(h1 hin).1
  cases hR:dvX S D 20 t 0 0 with
  |no k=>rw[hR]at h1;exact⟨h1,rfl,rfl⟩
  |ok w=>rw[hR]at h1;exact absurd h1.1 hne
 ·show agT (dvX S D 20 t 0 0) r.pv n' 0
  have h1:=(h1 hin).1
  cases hR:dvX S D 20 t 0 0 with
  |no k=>rw[hR]at h1;have h1:e'=k+1:=h1;have he:e'=0:=he;omega
  |ok w=>rw[hR]at h1;exact⟨rfl,h1.2.1,h1.2.2.1⟩
 ·have:=h2 h
  have he:e'=0:=he
  omega
section
def z04{α β:Type} {r:Rs α} {f:α->Rs β} {b:β} (h:r.bind f= .ok b):∃a,r= .ok a/\f a= .ok b:=by
 cases r with
 |no k=>cases h
 |ok a=>exact⟨a,rfl,h⟩
variable {s:ByteArray}
def z1b{n:Int} (hn:0<=n/\n<18446744073709551616) (hs:s.size<9223372036854775808):(PV.mk n s [] [] 0).sm:=by
 unfold PV.sm PV.sms
 exact⟨hn,hs,by decide,by decide,λk h=>by simp at h,trivial⟩
variable {D:ByteArray} {i:Nat}
def z2k{k:Int}:(btP D i k).1.size<=D.size/\((btP D i k).1.size<=k.toNat):=by
 unfold btP
 split
 ·exact⟨Nat.zero_le _,Nat.zero_le _⟩
 ·show(D.extract i (i+k.toNat)).size<=_/\(D.extract i (i+k.toNat)).size<=_
  rw[ByteArray.size_extract];omega
def z7c:(txP D i).1.size<=D.size:=by
 unfold txP
 split
 ·exact Nat.zero_le _
 split
 ·exact Nat.zero_le _
 ·exact z2k.1
def z15{t:ByteArray×Int×Int} {e:Int} {r:ByteArray×Nat} (h:rsT t e= .ok r):r.1=t.1/\e=0/\r.2=t.2.2.toNat:=by
 unfold rsT at h
 split at h
 ·cases h;exact⟨rfl,by assumption,rfl⟩
 ·cases h
def lo8(h:s.size<=8):0<=loS s/\loS s<18446744073709551616:=by
 unfold loS
 have h1:=z8x s.data.toList
 have h2:s.data.toList.length<=8:=h
 have h3:256 ^ s.data.toList.length<=256 ^ 8:=Nat.pow_le_pow_right (by decide) h2
 have h4:256 ^ 8=18446744073709551616:=by decide
 omega
def j1j{a:AT} {r:PV×Nat} (ha:a.sys.length<1000000) (hD:D.size<100000) (h:lfX a D i= .ok r):r.1.sm:=by
 have hz:(mkS []).size<9223372036854775808:=by decide
 unfold lfX at h
 split at h
 ·cases h;exact z1b (by decide) hz
 split at h
 ·obtain⟨t,h1,h2⟩:=z04 h
  obtain⟨e1,_,_⟩:=z15 h1
  split at h2
  ·cases h2
  ·cases h2
   rw[e1]
   exact z1b (lo8 (Nat.le_trans z2k.2 (by decide))) hz
 split at h
 ·obtain⟨t,h1,h2⟩:=z04 h
  split at h2
  ·cases h2
  ·cases h2;exact z1b (by omega) hz
 split at h
 ·obtain⟨t,h1,h2⟩:=z04 h
  cases h2;exact z1b (by omega) hz
 split at h
 ·obtain⟨t,h1,h2⟩:=z04 h
  obtain⟨e1,_,_⟩:=z15 h1
  cases h2
  rw[e1]
  exact z1b (lo8 (Nat.le_trans z2k.2 (by decide))) hz
 split at h
 ·obtain⟨t,h1,h2⟩:=z04 h
  obtain⟨e1,_,_⟩:=z15 h1
  cases h2
  rw[e1]
  exact z1b (lo8 (Nat.le_trans z2k.2 (by decide))) hz
 split at h
 ·obtain⟨t,h1,h2⟩:=z04 h
  obtain⟨e1,_,_⟩:=z15 h1
  cases h2
  have:=z7c (D:=D) (i:=i)
  exact z1b (by decide) (by rw[e1];omega)
 split at h
 ·obtain⟨t,h1,h2⟩:=z04 h
  obtain⟨e1,_,_⟩:=z15 h1
  cases h2
  have:=z7c (D:=D) (i:=i)
  exact z1b (by decide) (by rw[e1];omega)
 split at h
 ·obtain⟨t,h1,h2⟩:=z04 h
  unfold ixX at h1
  split at h1
  ·rename_i hc
   cases h1;cases h2
   unfold chE at hc
   split at hc
   ·cases hc
   ·rename_i hc2
    exact z1b (by show 0<=(lgR D i).1/\(lgR D i).1<_;omega) hz
  ·cases h1
 split at h
 ·obtain⟨t,h1,h2⟩:=z04 h
  obtain⟨e1,_,_⟩:=z15 h1
  cases h2
  have:=z2k (D:=D) (i:=i) (k:=a.sz)
  exact z1b (by decide) (by rw[e1];omega)
 ·cases h
def okG(r:PV×Nat×Nat) (c:Nat):Prop:=r.1.sm/\c<r.2.2/\r.2.2<=2000
def zl8{g:Int->Nat->Nat->RdT} (hg:∀t n c r,g t n c= .ok r->okG r c):∀(ts:List Int) (l:List PV) (n c:Nat) (r:List PV×Nat×Nat),z6u g ts l n c= .ok r->c<=2000->l.length<=c->(∀v∈l,v.sm)->r.1.length<=r.2.2/\(∀v∈r.1,v.sm)/\c<=r.2.2/\r.2.2<=2000
  | [],l,n,c,r,h,hc,hl,hv=>by cases h;exact⟨hl,hv,Nat.le_refl _,hc⟩
  | t ::ts,l,n,c,r,h,hc,hl,hv=>by
    obtain⟨q,h1,h2⟩:=z04 h
    obtain⟨g1,g2,g3⟩:=hg _ _ _ _ h1
    obtain⟨i1,i2,i3,i4⟩:=zl8 hg ts _ _ _ _ h2 g3 (by simp;omega) λv hv'=>by
      rcases List.mem_append.1 hv' with w|w
      · exact hv v w
      · simp at w;subst w;exact g1
    exact⟨i1,i2,by omega,i4⟩
def okI(st:StI) (c:Nat):Prop:=st.1.length<=c/\st.2.length<=c/\(∀v∈st.2,v.sm)/\∀k∈st.1,k.size<9223372036854775808
def znm(k:ByteArray) (ks:List ByteArray):(qb3 k ks).length<=ks.length+1:=by
 unfold qb3
 split
 ·omega
 ·simp;omega
def znn(k:ByteArray) (ks:List ByteArray) (l:List PV) (w:PV):(z2f k ks l w).length<=l.length+1:=by
 unfold z2f
 split
 ·simp
 ·simp;omega
def j1e{g:Nat->Nat->RdT} {mp:Bool} (hD:D.size<100000) (hg:∀n c r,g n c= .ok r->okG r c) {st:StI} {n c:Nat} {r:StI×Nat×Nat} (h:itX g D mp st n c= .ok r) (hc:okI st c):okI r.1 r.2.2/\c<r.2.2/\r.2.2<=2000:=by
 obtain⟨k1,k2,k3,k4⟩:=hc
 unfold itX at h
 split at h
 ·obtain⟨k,h1,h⟩:=z04 h
  obtain⟨q,h2,h⟩:=z04 h
  cases h
  obtain⟨g1,g2,g3⟩:=hg _ _ _ h2
  obtain⟨e1,_,_⟩:=z15 h1
  have s1:=znm k.1 st.1
  have s2:=znn k.1 st.1 st.2 q.1
  have s3:=z7c (D:=D) (i:=n)
  refine⟨⟨by show(qb3 k.1 st.1).length<=q.2.2;omega,by show(z2f k.1 st.1 st.2 q.1).length<=q.2.2;omega,λv hv=> ?_,λx hx=> ?_⟩,g2,g3⟩
  ·rcases z92 hv with rfl|w
   ·exact g1
   ·exact k3 v w
  ·rcases z56 hx with rfl|w
   ·rw[e1];omega
   ·exact k4 x w
 ·obtain⟨q,h2,h⟩:=z04 h
  cases h
  obtain⟨g1,g2,g3⟩:=hg _ _ _ h2
  refine⟨⟨by show st.1.length<=q.2.2;omega,by show(st.2++[q.1]).length<=q.2.2;simp;omega,λv hv=> ?_,k4⟩,g2,g3⟩
  rcases List.mem_append.1 hv with w|w
  ·exact k3 v w
  ·simp at w;subst w;exact g1
def zl0{g:Nat->Nat->RdT} {D:ByteArray} {mp:Bool} (hD:D.size<100000) (hg:∀n c r,g n c= .ok r->okG r c):∀(k:Nat) (st:StI) (n c:Nat) (r:StI×Nat×Nat),z6s g D mp k st n c= .ok r->okI st c->c<=2000->okI r.1 r.2.2/\c<=r.2.2/\r.2.2<=2000
  |0,st,n,c,r,h,hc,h2=>by cases h;exact⟨hc,Nat.le_refl _,h2⟩
  | k+1,st,n,c,r,h,hc,_=>by
    obtain⟨q,h1,h2⟩:=z04 h
    obtain⟨i1,i2,i3⟩:=j1e hD hg h1 hc
    obtain⟨j1,j2,j3⟩:=zl0 hD hg k _ _ _ _ h2 i1 i3
    exact⟨j1,by omega,j3⟩
def ztr{g:Nat->Nat->RdT} {D:ByteArray} {mp:Bool} (hD:D.size<100000) (hg:∀n c r,g n c= .ok r->okG r c):∀(f:Nat) (st:StI) (n c:Nat) (r:StI×Nat×Nat),bkX g D mp f st n c= .ok r->okI st c->c<=2000->okI r.1 r.2.2/\c<=r.2.2/\r.2.2<=2000
  |0,st,n,c,r,h,hc,h2=>by cases h
  | f + 1,st,n,c,r,h,hc,hc2=>by
    obtain⟨q,h1,h2⟩:=z04 h
    split at h2
    · cases h2;exact⟨hc,Nat.le_refl _,hc2⟩
    · obtain⟨p,h3,h4⟩:=z04 h2
      obtain⟨i1,i2,i3⟩:=zl0 hD hg _ _ _ _ _ h3 hc hc2
      split at h4
      · cases h4
      · obtain⟨j1,j2,j3⟩:=ztr hD hg f _ _ _ _ h4 i1 i3
        exact⟨j1,by omega,j3⟩
def j1r{g:Int->Nat->Nat->RdT} {a:AT} (ha:a.sys.length<1000000) (hD:D.size<100000) (hg:∀t n c r,g t n c= .ok r->okG r c) {n c:Nat} {r:PV×Nat×Nat} (h:vaX g D a n c= .ok r) (hc:c<=2000):r.1.sm/\c<=r.2.2/\r.2.2<=2000:=by
 have hz:(mkS []).size<9223372036854775808:=by decide
 unfold vaX at h
 split at h
 ·obtain⟨q,h1,h2⟩:=z04 h
  cases h2
  obtain⟨i1,i2,i3,i4⟩:=zl8 hg _ _ _ _ _ h1 hc (Nat.zero_le _) (λv hv=>by cases hv)
  refine⟨?_,i3,i4⟩
  unfold PV.sm
  exact⟨by decide,hz,by omega,by decide,λk h=>(by cases h),z59.2 i2⟩
 split at h
 ·obtain⟨b,h1,h2⟩:=z04 h
  obtain⟨q,h3,h4⟩:=z04 h2
  cases h4
  obtain⟨g1,g2,g3⟩:=hg _ _ _ _ h3
  refine⟨?_,by show c<=q.2.2;omega,g3⟩
  unfold PV.sm
  exact⟨by decide,hz,by show 1<4611686018427387904;decide,by decide,λk h=>(by cases h),z59.2 λv hv=>by simp at hv;subst hv;exact g1⟩
 split at h
 ·obtain⟨q,h1,h2⟩:=z04 h
  cases h2
  obtain⟨⟨i1,i2,i3,i4⟩,i5,i6⟩:=ztr hD (λn c r=>hg _ n c r) _ _ _ _ _ h1 ⟨Nat.zero_le _,Nat.zero_le _,λv hv=>(by cases hv),λk hk=>(by cases hk)⟩ hc
  refine⟨?_,i5,i6⟩
  unfold PV.sm
  exact⟨by decide,hz,by omega,by omega,i4,z59.2 i3⟩
 ·obtain⟨q,h1,h2⟩:=z04 h
  cases h2
  exact⟨j1j ha hD h1,Nat.le_refl _,hc⟩
def zu1{S:List AT} {D:ByteArray} (hS:small S) (hD:D.size<100000):∀(f:Nat) (t:Int) (n c:Nat) (r:PV×Nat×Nat),dvX S D f t n c= .ok r->okG r c
  |0,t,n,c,r,h=>by cases h
  | f + 1,t,n,c,r,h=>by
    unfold dvX at h
    split at h
    · cases h
    · split at h
      · cases h
      · rename_i a ha
        have hm:a∈S:=List.mem_of_getElem? ha
        obtain⟨h1,h2,h3⟩:=j1r (hS.2 a hm).2.2 hD (zu1 hS hD f) h (by omega)
        exact⟨h1,by omega,h3⟩
end
def muV:GV->Nat:=λv=>SizeOf.sizeOf v
def zmh:Ct:=ctP (GV×GV) (λ⟨v,w⟩=>[v.av,w.av]) (λ⟨v,w⟩=>v.pv.sm/\w.pv.sm) (λ⟨v,w⟩=>vwM v w) λ⟨v,w⟩=> .sv (.bool (PV.same v.pv w.pv))
def j3z:GV×GV->WayF:=λ⟨v,w⟩=>{
 ann:=λid _ _=>match id with
  |0=>some {σ:=Nat,pre:=λj=>j<=v.ks.length/\v.n=w.n/\v.s=w.s/\v.b=w.b/\v.l.length=w.l.length/\v.ks.length=w.ks.length/\v.ks.take j=w.ks.take j,t:=λj=>[(5, .sv (.int .i64 (j:Int)))],h:=λ_=>[],more:=0,μ:=λj=>v.ks.length- j,keep:=[0,1,2,3]}
  |_=>some {σ:=Nat,pre:=λj=>j<=v.l.length/\v.n=w.n/\v.s=w.s/\v.b=w.b/\v.l.length=w.l.length/\v.ks=w.ks/\PV.sames ((GV.pvs v.l).drop j) ((GV.pvs w.l).drop j)=PV.sames (GV.pvs v.l) (GV.pvs w.l),t:=λj=>[(6, .sv (.int .i64 (j:Int)))],h:=λ_=>[],more:=0,μ:=λj=>v.l.length- j,keep:=[0,1,2,3]}}
section
variable (x0 x1:GV) (x2 x3:Nat) (x4:Prop) (x5:Nat->Option Obj)
 abbrev z5w:=True/\GV.ok x0 x5/\GV.ok x1 x5
 def z6o:=PV.same (GV.pv x0) (GV.pv x1)=false/\True
 abbrev z6p:=(↑(GV.x x0).2.1:Int)
 abbrev z6q:=(↑(GV.y x0).2.1:Int)
 def z6r:=GV.n x0=GV.n x0/\GV.s x0=GV.s x0/\(GV.x x0).1=(GV.x x0).1/\(GV.x x0).2.1=(GV.x x0).2.1/\(GV.x x0).2.2=(GV.x x0).2.2/\(GV.y x0).1=(GV.y x0).1/\(GV.y x0).2.1=(GV.y x0).2.1/\(GV.y x0).2.2=(GV.y x0).2.2/\GV.b x0=GV.b x0/\x4
 def zfq:=(∀i0,z5w x0 x1 i0->z5w x0 x1 i0)
 def zsz:=GV.n x0=GV.n x1/\GV.s x0=GV.s x1/\GV.b x0=GV.b x1/\length (GV.l x0)=length (GV.l x1)/\x4
 def zkh:=x2<=length (GV.ks x0)/\zsz x0 x1 (length (GV.ks x0)=length (GV.ks x1)/\take x2 (GV.ks x0)=take x2 (GV.ks x1))
 abbrev zsy:=Jb ((↑x2:Int)+1)
 def j01:=zsy x2/\∃(i0:Nat),z6r x0 (z6r x1 ((↑i0:Int)=(↑x2:Int)+1/\z6r x0 (z6r x1 (zfq x0 x1/\(zkh x0 x1 i0)/\length (GV.ks x0)- i0<length (GV.ks x0)- x2/\True))))
 def zzz:=(0<=(↑x2:Int)/\(↑x2:Int)<(z6q x0))/\(GV.y x0).1≠noA/\∃i0,(∀i1,z5w x0 x1 i1->q3p i1 (adr (GV.y x0).1 (toNat (↑x2:Int)*1)) [string i0])/\(0<=(↑x2:Int)/\(↑x2:Int)<(z6q x1))/\(GV.y x1).1≠noA/\∃i2,(∀i3,z5w x0 x1 i3->q3p i3 (adr (GV.y x1).1 (toNat (↑x2:Int)*1)) [string i2])/\((!decide (i0=i2))=true->z6o x0 x1)/\((!decide (i0=i2))=false->j01 x0 x1 x2)
 def zkg:=x2<=length (GV.l x0)/\zsz x0 x1 (GV.ks x0=GV.ks x1/\PV.sames (drop x2 (GV.pvs (GV.l x0))) (drop x2 (GV.pvs (GV.l x1)))=PV.sames (GV.pvs (GV.l x0)) (GV.pvs (GV.l x1)))
 def j00:=zsy x2/\∃(i0:Nat),z6r x0 (z6r x1 ((↑i0:Int)=(↑x2:Int)+1/\z6r x0 (z6r x1 (zfq x0 x1/\(zkg x0 x1 i0)/\length (GV.l x0)- i0<length (GV.l x0)- x2/\True))))
 def zzy:=(0<=(↑x2:Int)/\(↑x2:Int)<(z6p x0))/\(GV.x x0).1≠noA/\∃(i0:Int),∃i1,∃i2,∃(i3:Nat),∃(i4:Nat),∃i5,∃(i6:Nat),∃(i7:Nat),∃(i8:Int),(∀i9,z5w x0 x1 i9->q3p i9 (adr (GV.x x0).1 (toNat (↑x2:Int)*5)) [int u64 i0,string i1,slice i2 i3 i4,slice i5 i6 i7,int i64 i8])/\(0<=(↑x2:Int)/\(↑x2:Int)<(z6p x1))/\(GV.x x1).1≠noA/\∃(i10:Int),∃i11,∃i12,∃(i13:Nat),∃(i14:Nat),∃i15,∃(i16:Nat),∃(i17:Nat),∃(i18:Int),(∀i19,z5w x0 x1 i19->q3p i19 (adr (GV.x x1).1 (toNat (↑x2:Int)*5)) [int u64 i10,string i11,slice i12 i13 i14,slice i15 i16 i17,int i64 i18])/\∃(i20:GV×GV),GV.n i20.1=i0/\GV.s i20.1=i1/\(GV.x i20.1).1=i2/\(GV.x i20.1).2.1=i3/\(GV.x i20.1).2.2=i4/\(GV.y i20.1).1=i5/\(GV.y i20.1).2.1=i6/\(GV.y i20.1).2.2=i7/\GV.b i20.1=i8/\GV.n i20.2=i10/\GV.s i20.2=i11/\(GV.x i20.2).1=i12/\(GV.x i20.2).2.1=i13/\(GV.x i20.2).2.2=i14/\(GV.y i20.2).1=i15/\(GV.y i20.2).2.1=i16/\(GV.y i20.2).2.2=i17/\GV.b i20.2=i18/\(zna i20<x3/\PV.sm (GV.pv i20.1)/\PV.sm (GV.pv i20.2))/\(∀i21,z5w x0 x1 i21->GV.ok i20.1 i21/\GV.ok i20.2 i21)/\((!PV.same (GV.pv i20.1) (GV.pv i20.2))=true->z6o x0 x1)/\((!PV.same (GV.pv i20.1) (GV.pv i20.2))=false->j00 x0 x1 x2)
 def jda:=Ji ((↑x2:Int)<(z6p x0)) (zzy x0 x1 x2 x3) (PV.same (GV.pv x0) (GV.pv x1)=true/\True)
 def jd9:=(∃(i0:Nat),z6r x0 (z6r x1 ((↑i0:Int)=0/\z6r x0 (z6r x1 (zfq x0 x1/\(zkg x0 x1 i0)/\True)))))/\∀(i2:Nat),zkg x0 x1 i2->jda x0 x1 i2 x2
 def jd8:=Ji ((↑x2:Int)<(z6q x0)) (zzz x0 x1 x2) (jd9 x0 x1 x3)
 def jd7:=(∃(i0:Nat),z6r x0 (z6r x1 ((↑i0:Int)=0/\z6r x0 (z6r x1 (zfq x0 x1/\(zkh x0 x1 i0)/\True)))))/\∀(i2:Nat),zkh x0 x1 i2->jd8 x0 x1 i2 x2
 def jd6:=((!decide ((z6q x0)=(z6q x1)))=true->z6o x0 x1)/\((!decide ((z6q x0)=(z6q x1)))=false->jd7 x0 x1 x2)
 def jd5:=((!decide ((z6p x0)=(z6p x1)))=true->z6o x0 x1)/\((!decide ((z6p x0)=(z6p x1)))=false->jd6 x0 x1 x2)
 def jd4:=((!decide (GV.b x0=GV.b x1))=true->z6o x0 x1)/\((!decide (GV.b x0=GV.b x1))=false->jd5 x0 x1 x2)
 def jd3:=((!decide (GV.s x0=GV.s x1))=true->z6o x0 x1)/\((!decide (GV.s x0=GV.s x1))=false->jd4 x0 x1 x2)
 def jd2:=((!decide (GV.n x0=GV.n x1))=true->z6o x0 x1)/\((!decide (GV.n x0=GV.n x1))=false->jd3 x0 x1 x2)
end
def zo1(n:Nat) (v w:GV):qm2 P (qh2 [(9,zmh.below zna n)]) Try.f9 (zmh.below zna (n+1)) (j3z) ⟨v,w⟩=(zna (v,w)<n+1/\PV.sm (GV.pv v)/\PV.sm (GV.pv w)->(∃(p:Pub),z5w v w p)->jd2 v w n):=by kernel_rfl
def zuy:=λn v w=>Eq.trans (zo1 n v w) (by delta Ji Jb Jt Jf z5w z6o z6p z6q z6r zfq zsz zkh zsy j01 zzz zkg j00 zzy jda jd9 jd8 jd7 jd6 jd5 jd4 jd3 jd2;exact rfl)
section
variable {v:GV} {j:Nat}
def zgq(hj:j<v.l.length) {q:Pub} (h:v.ok q):v.x.1≠noA/\q3p q (adr v.x.1 (j*5)) (v.l[j]).cells:=z0w z0f (by decide) (by rw[GV.ok_eq]at h;exact h.1) hj
def zkx(hj:j<v.l.length) {q:Pub} (h:v.ok q):(v.l[j]).ok q:=GV.oks_at (by rw[GV.ok_eq]at h;exact h.2.2) hj
def z8s(hj:j<v.ks.length) {q:Pub} (h:v.ok q):v.y.1≠noA/\q3p q (adr v.y.1 (j*1)) [.string v.ks[j]]:=z0w z0t (by decide) (by rw[GV.ok_eq]at h;exact h.2.1) hj
def zc8{q:Pub} (h:v.ok q):v.x.2.1=v.l.length/\v.y.2.1=v.ks.length:=by
 rw[GV.ok_eq]at h;exact⟨h.1.1,h.2.1.1⟩
def zd6(hj:j<v.l.length):j<(GV.pvs v.l).length:=by rw[GV.pvs_len];exact hj
def zuo(hj:j<v.l.length):muV v.l[j]<muV v:=by
 have h1:=zdd hj
 have h2:SizeOf.sizeOf v.l<SizeOf.sizeOf v:=by cases v;simp[GV.l];omega
 exact Nat.lt_trans h1 h2
def zla(h:v.pv.sm) {j:Nat} (hj:j<v.l.length):(v.l[j]).pv.sm:=by
 rw[GV.sm_eq]at h
 have:=PV.sms_at h.2.2.2.2.2 (zd6 hj)
 rw[z93 hj]at this;exact this
end
def zuz(n:Nat) (hc:q5k P 9 (zmh.below zna n)):q5k P 9 (zmh.below zna (n+1)):=by
 refine qm5 mixed (qee (qih hc qlq)) (W:=j3z) Try.func9 (by kernel_rfl) (show 1<=1 by decide) (show 1<=1 by decide) (λs=>by kernel_rfl) λ⟨v,w⟩=>(zuy n v w).mpr ?_
 rintro⟨hmu,hv,hw⟩ ⟨p,_,hp,hq⟩
 have hmu:SizeOf.sizeOf v<n+1:=hmu
 obtain⟨hxl,hyl⟩:=zc8 hp
 obtain⟨hxl2,hyl2⟩:=zc8 hq
 have hl:=hv
 have hl2:=hw
 rw[GV.sm_eq]at hl hl2
 have hsame:PV.same v.pv w.pv=(decide (v.n=w.n)&&decide (v.s=w.s)&&decide (v.b=w.b)&&decide (v.ks=w.ks)&&PV.sames (GV.pvs v.l) (GV.pvs w.l)):=by rw[GV.pv_eq v,GV.pv_eq w,PV.same]
 simp only[sbS,Int.toNat_natCast]
 rw[hsame]
 refine⟨λh=>by rw[decide_eq_false h];rfl,λh1=>⟨λh=>by rw[decide_eq_false h];simp,λh2=>⟨λh=>by rw[decide_eq_false h];simp,λh3=>⟨λh=> ?_,λh4=>⟨λh=> ?_,λh5=>⟨⟨0,rfl,by omega,h1,h2,h3,by omega,by omega,by simp⟩,?_⟩⟩⟩⟩⟩⟩
 ·rw[z6b (l:=GV.pvs v.l) (m:=GV.pvs w.l) (by rw[GV.pvs_len,GV.pvs_len];omega)];simp
 ·rw[decide_eq_false (p:=v.ks=w.ks) (λe=>h (by rw[hyl,hyl2,e]))];simp
 rintro j ⟨hj, -, -, -,hll,hkl,ht⟩
 refine⟨λhlt=> ?_,λhge=> ?_⟩
 ·have hj1:j<v.ks.length:=by omega
  have hj2:j<w.ks.length:=by omega
  refine⟨by omega,(z8s hj1 hp).1,v.ks[j],λq hq=>(z8s hj1 hq.1).2,by omega,(z8s hj2 hq).1,w.ks[j],λq hq=>(z8s hj2 hq.2).2,λhne=> ?_,λhe=>⟨by omega,j+1,rfl,⟨by omega,h1,h2,h3,hll,hkl,?_⟩,by omega⟩⟩
  ·rw[decide_eq_false (p:=v.ks=w.ks) (λe=>hne (by simp only[e]))];simp
  ·rw[List.take_succ_eq_append_getElem hj1,List.take_succ_eq_append_getElem hj2,ht,he]
 ·obtain rfl:j=v.ks.length:=by omega
  have hks:v.ks=w.ks:=by
   rw[List.take_length,hkl,List.take_length]at ht;exact ht
  refine⟨⟨0,rfl,by omega,h1,h2,h3,hll,hks,by simp⟩,?_⟩
  rintro i ⟨hi, -, -, -, -, -,hs⟩
  refine⟨λhlt=> ?_,λhge=> ?_⟩
  ·have hi1:i<v.l.length:=by omega
   have hi2:i<w.l.length:=by omega
   have hd:=zai (zd6 hi1) (zd6 hi2)
   rw[z93 hi1,z93 hi2]at hd
   refine⟨by omega,(zgq hi1 hp).1,v.l[i].n,v.l[i].s,v.l[i].x.1,v.l[i].x.2.1,v.l[i].x.2.2,v.l[i].y.1,v.l[i].y.2.1,v.l[i].y.2.2,v.l[i].b,λq hq=>(zgq hi1 hq.1).2,by omega,(zgq hi2 hq).1,w.l[i].n,w.l[i].s,w.l[i].x.1,w.l[i].x.2.1,w.l[i].x.2.2,w.l[i].y.1,w.l[i].y.2.1,w.l[i].y.2.2,w.l[i].b,λq hq=>(zgq hi2 hq.2).2,⟨v.l[i],w.l[i]⟩,?_⟩
   simp only[true_and,eq_self]
   refine⟨⟨?_,zla hv hi1,zla hw hi2⟩,λq hq=>⟨zkx hi1 hq.1,zkx hi2 hq.2⟩,λhb=> ?_,λhb=>⟨by omega,i+1,rfl,⟨by omega,h1,h2,h3,hll,hks,?_⟩,by omega⟩⟩
   ·show SizeOf.sizeOf v.l[i]<n
    have:=zuo hi1
    have:SizeOf.sizeOf v.l[i]<SizeOf.sizeOf v:=this
    omega
   ·rw[←hs,hd,hb];simp
   ·rw[←hs,hd,hb];rfl
  ·obtain rfl:i=v.l.length:=by omega
   rw[List.drop_of_length_le (by rw[GV.pvs_len];exact Nat.le_refl _),List.drop_of_length_le (by rw[GV.pvs_len];omega)]at hs
   rw[←hs,decide_eq_true h1,decide_eq_true h2,decide_eq_true h3,decide_eq_true hks,PV.sames];rfl
def zde:∀n,q5k P 9 (zmh.below zna n)
 |0=>Ct.below_zero (by decide) (by decide) (Sen.enters_of Try.func9 (by kernel_rfl)) λs=>⟨rfl,rfl⟩
 |n+1=>zuz n (zde n)
def zo2:q5k P 9 zmh:=Ct.of_below zde
def cMd:Ct where
 σ:=SV
 args:=λx=>[svA x]
 h:=λ_=>[]
 m:=1
 r:=λ_=> .ptr 1 0
 h':=λx=>pkO x 0
 m':=2
 g:=λ_=>none
def z3h:Ct where
 σ:=Unit
 args:=λ_=>[]
 h:=λ_=>[]
 m:=1
 r:=λ_=> .sv (.bool true)
 h':=λ_=>[]
 m':=1
 g:=λ_=>none
def z9k:z3h.σ->WayF:=λ_=>{pub:=λi k=>match i,k with
 |2,2=>[10,14]
 |_,_=>[]}
def ldM(x:SV) (L:List Int) (y:SV) (D:ByteArray):PF:=⟨true,λp=>slP byV x L p/\(y.2.1=D.size/\qil p y.1 y.2.1 y.2.2 (q1h D)),λ_ _ h e=>⟨z0e h e.1,e.2.1,q5g h e.2.2⟩⟩
def ztw(L:List Int):Prop:=L.length<9223372036854775808/\∀b∈L,0<=b/\b<256
def zh3(x:SV):qm2 P (λ_=>none) Try.f5 cMd (λ_=>{}) x=(True->Prod.fst x=Prod.fst x/\Prod.fst (Prod.snd x)=Prod.fst (Prod.snd x)/\Prod.snd (Prod.snd x)=Prod.snd (Prod.snd x)/\(0:Int)=(0:Int)/\True):=by kernel_rfl
section
variable (x0:Nat->Option Obj) (x1 x2 x3 x4:Nat) (x5 x6:DdB) (x7:DdS) (x8:Int) (x9:Prop)
 abbrev j3p:=True/\q3p x0 (Addr.mk x1 x2 none) [int i64 4,string (mkS []),slice noA 0 0,int i64 0,slice noA 0 0,bool false,string (mkS []),int i64 0,slice noA 0 0,slice noA 0 0,int i64 12,string (mkS []),slice noA 0 0,int i64 0,slice noA 0 0,bool false,string (mkS []),int i64 0,slice noA 0 0,slice noA 0 0]
 def zt0:=(j3p x0 x1 x2)/\q3p x0 (Addr.mk x3 x4 none) [int u8 2,int u8 10,int u8 0,int u8 9]
 def j3r:=x7.2.1.1=some (Addr.mk x1 (x2+nat_lit 0) none)/\x7.2.1.2.1=nat_lit 2/\x7.2.1.2.2=nat_lit 2/\x7.2.2.1=x8/\x9
 def j3q:=z0a x7.1 x7.2.1 x0/\x7.2.2.2.1.2.1=size x7.2.2.2.2/\qil x0 x7.2.2.2.1.1 x7.2.2.2.1.2.1 x7.2.2.2.1.2.2 (q1h x7.2.2.2.2)
 def jde:=((0:Int)<=0/\0<(↑(GV.x x5.1).2.1:Int))/\(GV.x x5.1).1≠noA/\∃(i0:Int),(∀i1,((zt0 i1 x1 x2 x3 x4)/\GV.ok x5.1 i1)/\GV.ok x6.1 i1->q3p i1 (Addr.add (adr (GV.x x5.1).1 ((0:Nat)*5)) 0) [int u64 i0])/\Ji (i0=5) (true=decide (x6.2.2=2)/\True) (true=false/\True)
 def jdd:=Ji ((↑(GV.x x5.1).2.1:Int)=1) (jde x1 x2 x3 x4 x5 x6) (true=false/\True)
 def jdc:=Ji (x5.2.1=3) (jdd x1 x2 x3 x4 x5 x6) (true=false/\True)
 def jdb:=Ji (x5.2.2=0) (jdc x1 x2 x3 x4 x5 x6) (true=false/\True)
end
def z6w(u:Unit):qm4 P (qh2 []) (qi5 [(7,zfy)]) Try.f4 z3h (z9k) u=(True->∀(b s u:Nat),(∃(p:Pub),j3p p b s)->∀(b_1 s_1 u:Nat),(∃(p:Pub),zt0 p b s b_1 s_1)->∃(s_2:DdS),j3r b s s_2 1 (s_2.2.2.2.1.1=some (Addr.mk b_1 (s_1+nat_lit 0) none)/\s_2.2.2.2.1.2.1=nat_lit 4/\s_2.2.2.2.1.2.2=nat_lit 4/\(okS s_2.1/\size s_2.2.2.2.2<100000)/\(∀(p:Pub),zt0 p b s b_1 s_1->j3q p s_2)/\∀(b_2:DdB),z2b s_2.1 s_2.2.2.1 s_2.2.2.2.2 b_2->(∃(p:Pub),(zt0 p b s b_1 s_1)/\GV.ok b_2.1 p)->∃(s_3:DdS),j3r b s s_3 0 (s_3.2.2.2.1.1=noA/\s_3.2.2.2.1.2.1=0/\s_3.2.2.2.1.2.2=0/\(okS s_3.1/\size s_3.2.2.2.2<100000)/\(∀(p:Pub),(zt0 p b s b_1 s_1)/\GV.ok b_2.1 p->j3q p s_3)/\∀(b_3:DdB),z2b s_3.1 s_3.2.2.1 s_3.2.2.2.2 b_3->(∃(p:Pub),((zt0 p b s b_1 s_1)/\GV.ok b_2.1 p)/\GV.ok b_3.1 p)->jdb b s b_1 s_1 b_2 b_3))):=by kernel_rfl
def z9s:=λu=>Eq.trans (z6w u) (by delta Ji Jt Jf j3p zt0 j3r j3q jde jdd jdc jdb;exact rfl)
def zh4:q5k P 5 cMd:=by
 refine qm5 mixed z0p (W:=λ_=>{}) Try.func5 (by kernel_rfl) (by decide) (by decide) (λs=>by kernel_rfl) λ(x:SV)=>(zh3 x).mpr ?_
 simp only[true_and,and_true,eq_self,imp_self,implies_true]
def zms{S:List AT} (h:z0v S):okS S:=⟨⟨by have:=h.1;omega,λe he=>by have:=(h.2 e he).2.2.2.2.2.2.2;omega⟩,λe he=>(h.2 e he).1,λa ha=>⟨λf hf=>((h.2 a ha).2.2.2.2.1 f hf).1,(h.2 a ha).2.2.1,(h.2 a ha).2.1,λk=>by have:=(h.2 a ha).2.2.2.2.2.2.1 k;omega⟩⟩
def tD(k it:Int):AT:=⟨k,mkS [],(none,0,0),[],it,(none,0,0),[],false,mkS [],0,(none,0,0),[],(none,0,0),[]⟩
def SD:List AT:=[tD 4 0,tD 12 0]
def dP:PV:= .mk 0 (mkS []) [.mk 5 (mkS []) [] [] 0] [] 0
def j1q(k it:Int) (p:Pub):(tD k it).ok p:=⟨z06,z06,z06,z06,λf hf=>absurd hf (by simp[tD])⟩
def zkk{p:Pub} {b s:Nat} (h:q3p p ⟨b,s,none⟩ (z00 AT.cells SD)):z0a SD (some ⟨b,s+0,none⟩,2,2) p:=
 ⟨⟨rfl,Nat.le_refl _, .inr ⟨_,rfl,rfl,h⟩⟩,λe he=>by simp[SD]at he;rcases he with rfl|rfl<;>exact j1q _ _ _⟩
def zto:okS SD:=by
 refine⟨⟨by decide,λe he=> ?_⟩,λe he=> ?_,λe he=> ?_⟩
 all_goals simp[SD]at he;rcases he with rfl|rfl
 all_goals first|decide|exact⟨λf hf=>absurd hf (by simp[tD]),λf hf=>absurd hf (by simp[tD]),by decide,by decide⟩
def jdp:dvX SD (mkS [2,10,0,9]) 20 1 0 0= .ok (dP,3,2):=by kernel_rfl
def jdq:dvX SD (mkS []) 20 0 0 0= .no 1:=by kernel_rfl
def z9t:q5k P 4 z3h:=by
  refine qlc mixed (qee qlq) (qf7 (qig zbu qlp)) (W:=z9k) Try.func4 (by kernel_rfl) (show 1<=1 by decide) (show 1<=1 by decide) (λs=>by kernel_rfl) λ(u:Unit)=>(z9s u).mpr ?_
  intro _ b s _ _ b1 s1 _ _
  refine⟨⟨SD,(some ⟨b,s+0,none⟩,2,2),1,(some ⟨b1,s1+0,none⟩,4,4),mkS [2,10,0,9]⟩,rfl,rfl,rfl,rfl,rfl,rfl,rfl,⟨zto,by show 4<100000;decide⟩,λp h=>⟨zkk h.1.2,rfl,Nat.le_refl _, .inr ⟨_,rfl,rfl,h.2⟩⟩,?_⟩
  rintro⟨v,n,e⟩ hv ⟨p,hp⟩
  refine⟨⟨SD,(some ⟨b,s+0,none⟩,2,2),0,(none,0,0),mkS []⟩,rfl,rfl,rfl,rfl,rfl,rfl,rfl,⟨zto,by show 0<100000;decide⟩,λp h=>⟨zkk h.1.1.2,rfl,Nat.le_refl _, .inl ⟨rfl,trivial⟩⟩,?_⟩
  rintro⟨w,m,f⟩ hw _
  have hv:=hv.1 ⟨by show(0:Int)<=1;decide,by show(1:Int)<2;decide⟩
  have hw:=hw.1 ⟨by show(0:Int)<=0;decide,by show(0:Int)<2;decide⟩
  have hv:agT (dvX SD (mkS [2,10,0,9]) 20 1 0 0) v.pv n e:=hv
  have hw:agT (dvX SD (mkS []) 20 0 0 0) w.pv m f:=hw
  rw[jdp]at hv
  rw[jdq]at hw
  obtain⟨v1,v2,v3⟩:=hv
  obtain⟨w1,w2,w3⟩:=hw
  have v2:v.pv=dP:=v2
  have v3:n=3:=v3
  have w1:f=2:=w1
  subst v1 v3 w1
  have hok:v.ok p:=hp.2
  have hl:∃h,v.l=[h]/\h.n=5:=by
    obtain⟨vn,vs,vx,vl,vy,vk,vb⟩:=v
    rw[GV.pv]at v2
    unfold dP at v2
    injection v2 with _ _ q _ _
    rw[GV.pvs_map]at q
    cases vl with
    |nil=>cases q
    | cons h l=>
      cases l with
      |cons _ _=>have:=congrArg List.length q;simp at this
      | nil=>
        refine⟨h,rfl,?_⟩
        obtain⟨hn,hs,hx,hl,hy,hk,hb⟩:=h
        rw[List.map_cons,GV.pv]at q
        injection q with q _
        injection q with q
  obtain⟨h,hl,hn⟩:=hl
  have hlen:v.l.length=1:=by rw[hl];rfl
  have hx:=GV.x_len hok
  have h0:0<v.l.length:=by omega
  have hca:=λq (hq:v.ok q)=>GV.cells_at hq h0
  have he:v.l[0]=h:=by simp only[hl];rfl
  rw[he]at hca
  simp only[decide_eq_true_eq,decide_eq_false_iff_not]
  refine⟨λ_=>⟨λ_=>⟨λ_=>⟨⟨by decide,by omega⟩,(hca p hok).1,h.n,λq hq=> ?_,λ_=>⟨by decide,trivial⟩,λg=>absurd hn g⟩,λg=>absurd (by omega) g⟩,λg=>absurd trivial g⟩,λg=>absurd trivial g⟩
  have c:=(hca q hq.1.2).2
  intro j z hj
  cases j with
  |succ j=>simp at hj
  | zero=>
    have e0:Addr.add (adr v.x.1 (0*5)) 0=adr v.x.1 (0*5):=by unfold Addr.add;rw[if_pos rfl]
    rw[e0]
    exact c 0 z hj
section
open Go.Proofs.Ytniogjgfomaicaa.Rv
def z9f:∀(l:List UInt8) (i acc v k m:Nat),vdec l i acc=some (v,k)->i<k/\(k<=i+m->vdec (l.take m) i acc=some (v,k))
  | [],i,acc,v,k,m,h=>by cases h
  | c ::l,i,acc,v,k,m,h=>by
    rw[vdec]at h
    split at h
    · cases h
    split at h
    · cases h
    split at h
    · obtain⟨rfl,rfl⟩:=Prod.mk.inj (Option.some.inj h)
      refine⟨Nat.lt_succ_self i,λhm=> ?_⟩
      obtain⟨m,rfl⟩:∃m',m=m'+1:=⟨m- 1,by omega⟩
      rw[List.take_succ_cons,vdec,if_neg (by assumption),if_neg (by assumption),if_pos (by assumption)]
    · obtain⟨h1,h2⟩:=z9f l (i+1) _ v k (m- 1) h
      refine⟨by omega,λhm=> ?_⟩
      obtain⟨m,rfl⟩:∃m',m=m'+1:=⟨m- 1,by omega⟩
      rw[List.take_succ_cons,vdec,if_neg (by assumption),if_neg (by assumption),if_neg (by assumption)]
      exact h2 (by omega)
variable {D:ByteArray}
def zcr{i m:Nat} (h:(lgR D i).2.1=0):i<(lgR D i).2.2/\((lgR D i).2.2<=m->lgR (D.extract 0 m) i=lgR D i):=by
  unfold lgR verr at h
  unfold lgR vval verr vlen
  simp only at h⊢
  cases hv:vdec (D.data.toList.drop i) 0 0 with
  |none=>rw[hv]at h;cases h
  | some p=>
    obtain⟨v,k⟩:=p
    obtain⟨h1,h2⟩:=z9f _ _ _ _ _ (m- i) hv
    have h2:k<=0+(m- i)->_:=h2
    refine⟨by show i<i+k;omega,λhm=> ?_⟩
    have hm:i+k<=m:=hm
    have e:(D.extract 0 m).data.toList.drop i=(D.data.toList.drop i).take (m- i):=by
      rw[z63,List.drop_zero,Nat.sub_zero,List.drop_take]
    rw[e,h2 (by omega)]
def zko{i m:Nat} {k:Int} (hm:m<=D.size) (h:(btP D i k).2.1=0):0<=k/\(btP D i k).2.2=i+k/\((btP D i k).1.size:Int)=k/\((i:Int)+k<=m->btP (D.extract 0 m) i k=btP D i k):=by
 unfold btP at h⊢
 split
 ·rename_i hc;rw[if_pos hc]at h;cases h
 ·rename_i hc
  refine⟨by omega,rfl,?_,λhk=> ?_⟩
  ·show((D.extract i (i+k.toNat)).size:Int)=k
   rw[ByteArray.size_extract];omega
  ·have hs:(D.extract 0 m).size=m:=by rw[ByteArray.size_extract];omega
   rw[hs,if_neg (by omega),ByteArray.extract_extract,Nat.zero_add,Nat.zero_add,Nat.min_eq_left (by omega)]
def zld{i m:Nat} (hm:m<=D.size) (h:(txP D i).2.1=0):(i:Int)<(txP D i).2.2/\((txP D i).2.2<=m->txP (D.extract 0 m) i=txP D i):=by
 unfold txP at h⊢
 by_cases h0:(lgR D i).2.1=0
 ·rw[if_neg (by omega)]at h⊢
  obtain⟨g1,g2⟩:=zcr (m:=m) h0
  by_cases h1:5000<(lgR D i).1
  ·rw[if_pos h1]at h;cases h
  ·rw[if_neg h1]at h⊢
   obtain⟨k0,k1,_,k2⟩:=zko hm h
   refine⟨by rw[k1];omega,λhk=> ?_⟩
   rw[k1]at hk
   rw[g2 (by omega),if_neg (by omega),if_neg h1,k2 hk]
 ·rw[if_pos h0]at h
  have h:(((lgR D i).2.1:Nat):Int)=0:=h
  omega
def z53{i m:Nat} {r:Int×Nat} (h:lgX D i= .ok r):i<r.2/\(r.2<=m->lgX (D.extract 0 m) i= .ok r):=by
 unfold lgX at h⊢
 split at h
 ·rename_i h0
  cases h
  obtain⟨g1,g2⟩:=zcr (m:=m) h0
  exact⟨g1,λhm=>by rw[g2 hm,if_pos h0]⟩
 ·cases h
variable {r:ByteArray×Nat}
def z3o{i m:Nat} {k:Int} (hm:m<=D.size) (h:btX D i k= .ok r):i<=r.2/\(r.1.size:Int)=k/\(r.2<=m->btX (D.extract 0 m) i k= .ok r):=by
 unfold btX at h
 obtain⟨e1,e2,e3⟩:=z15 h
 obtain⟨g1,g2,g3,g4⟩:=zko hm e2
 rw[g2]at e3
 refine⟨by omega,by rw[e1];exact g3,λhk=> ?_⟩
 unfold btX
 rw[g4 (by omega)];exact h
def zo9{i m:Nat} (hm:m<=D.size) (h:txX D i= .ok r):i<r.2/\(r.2<=m->txX (D.extract 0 m) i= .ok r):=by
 unfold txX at h
 obtain⟨e1,e2,e3⟩:=z15 h
 obtain⟨g1,g2⟩:=zld hm e2
 refine⟨by omega,λhk=> ?_⟩
 unfold txX
 rw[g2 (by omega)];exact h
def je1{t:ByteArray×Int×Int} (h:vlE t=0):t.2.1=0/\vld t.1=true:=by
 unfold vlE at h
 split at h
 ·cases h
 ·rename_i hc
  refine⟨h,?_⟩
  cases hv:vld t.1 with
  |true=>rfl
  |false=>exact absurd ⟨h,hv⟩ hc
def z5e{i m:Nat} (hm:m<=D.size) (h:vlX D i= .ok r):i<r.2/\vld r.1=true/\(r.2<=m->vlX (D.extract 0 m) i= .ok r):=by
 unfold vlX at h
 obtain⟨e1,e2,e3⟩:=z15 h
 obtain⟨e4,e5⟩:=je1 e2
 obtain⟨g1,g2⟩:=zld hm e4
 refine⟨by omega,by rw[e1];exact e5,λhk=> ?_⟩
 unfold vlX
 rw[g2 (by omega)];exact h
def z52{i m:Nat} {o:Int} {r:Int×Nat} (h:ixX D i o= .ok r):i<r.2/\(0<=r.1/\r.1<o)/\(r.2<=m->ixX (D.extract 0 m) i o= .ok r):=by
 unfold ixX at h
 split at h
 ·rename_i hc
  cases h
  have hc0:=hc
  unfold chE at hc
  split at hc
  ·cases hc
  ·rename_i hc2
   obtain⟨g1,g2⟩:=zcr (m:=m) hc
   refine⟨g1,by show 0<=(lgR D i).1/\(lgR D i).1<o;omega,λhm=> ?_⟩
   unfold ixX
   have e:chE (D.extract 0 m) i o=chE D i o:=by unfold chE;rw[g2 hm]
   rw[e,if_pos hc0,g2 hm]
 ·cases h
def bk2{α β:Type} {r s:Rs α} {f g:α->Rs β} {a:α} {b:β} (h1:s= .ok a) (h2:g a= .ok b):s.bind g= .ok b:=by rw[h1];exact h2
def zuk{a:AT} {i m:Nat} {r:PV×Nat} (hm:m<=D.size) (h:lfX a D i= .ok r):i<=r.2/\(r.2<=m->lfX a (D.extract 0 m) i= .ok r):=by
 unfold lfX at h⊢
 by_cases k1:a.k=1
 ·rw[if_pos k1]at h⊢;cases h;exact⟨Nat.le_refl _,λ_=>rfl⟩
 rw[if_neg k1]at h⊢
 by_cases k2:a.k=2
 ·rw[if_pos k2]at h⊢
  obtain⟨t,h1,h2⟩:=z04 h
  obtain⟨g1,_,g3⟩:=z3o hm h1
  split at h2
  ·cases h2
  ·rename_i hc;cases h2;exact⟨g1,λhk=>by rw[g3 hk,z0o,if_neg hc]⟩
 rw[if_neg k2]at h⊢
 by_cases k3:a.k=3
 ·rw[if_pos k3]at h⊢
  obtain⟨t,h1,h2⟩:=z04 h
  obtain⟨g1,g3⟩:=z53 (m:=m) h1
  split at h2
  ·cases h2
  ·rename_i hc;cases h2;exact⟨Nat.le_of_lt g1,λhk=>by rw[g3 hk,z0o,if_neg hc]⟩
 rw[if_neg k3]at h⊢
 by_cases k4:a.k=4
 ·rw[if_pos k4]at h⊢
  obtain⟨t,h1,h2⟩:=z04 h
  obtain⟨g1,g3⟩:=z53 (m:=m) h1
  cases h2;exact⟨Nat.le_of_lt g1,λhk=>by rw[g3 hk,z0o]⟩
 rw[if_neg k4]at h⊢
 by_cases k5:a.k=5
 ·rw[if_pos k5]at h⊢
  obtain⟨t,h1,h2⟩:=z04 h
  obtain⟨g1,_,g3⟩:=z3o hm h1
  cases h2;exact⟨g1,λhk=>by rw[g3 hk,z0o]⟩
 rw[if_neg k5]at h⊢
 by_cases k6:a.k=6
 ·rw[if_pos k6]at h⊢
  obtain⟨t,h1,h2⟩:=z04 h
  obtain⟨g1,_,g3⟩:=z3o hm h1
  cases h2;exact⟨g1,λhk=>by rw[g3 hk,z0o]⟩
 rw[if_neg k6]at h⊢
 by_cases k7:a.k=7
 ·rw[if_pos k7]at h⊢
  obtain⟨t,h1,h2⟩:=z04 h
  obtain⟨g1,g3⟩:=zo9 hm h1
  cases h2;exact⟨Nat.le_of_lt g1,λhk=>by rw[g3 hk,z0o]⟩
 rw[if_neg k7]at h⊢
 by_cases k8:a.k=8
 ·rw[if_pos k8]at h⊢
  obtain⟨t,h1,h2⟩:=z04 h
  obtain⟨g1,_,g3⟩:=z5e hm h1
  cases h2;exact⟨Nat.le_of_lt g1,λhk=>by rw[g3 hk,z0o]⟩
 rw[if_neg k8]at h⊢
 by_cases k10:a.k=10
 ·rw[if_pos k10]at h⊢
  obtain⟨t,h1,h2⟩:=z04 h
  obtain⟨g1,_,g3⟩:=z52 (m:=m) h1
  cases h2;exact⟨Nat.le_of_lt g1,λhk=>by rw[g3 hk,z0o]⟩
 rw[if_neg k10]at h⊢
 by_cases k11:a.k=11
 ·rw[if_pos k11]at h⊢
  obtain⟨t,h1,h2⟩:=z04 h
  obtain⟨g1,_,g3⟩:=z3o hm h1
  cases h2;exact⟨g1,λhk=>by rw[g3 hk,z0o]⟩
 rw[if_neg k11]at h
 cases h
abbrev ztj(m:Nat) (g g':Nat->Nat->RdT):Prop:=∀n c r,g n c= .ok r->n<=r.2.1/\(r.2.1<=m->g' n c= .ok r)
def zda{m:Nat} {g g':Int->Nat->Nat->RdT} (hg:∀t,ztj m (g t) (g' t)):∀(ts:List Int) (l:List PV) (n c:Nat) (r:List PV×Nat×Nat),z6u g ts l n c= .ok r->n<=r.2.1/\(r.2.1<=m->z6u g' ts l n c= .ok r)
  | [],l,n,c,r,h=>by cases h;exact⟨Nat.le_refl _,λ_=>rfl⟩
  | t::ts,l,n,c,r,h=>by
    obtain⟨q,h1,h2⟩:=z04 h
    obtain⟨g1,g2⟩:=hg _ _ _ _ h1
    obtain⟨i1,i2⟩:=zda hg ts _ _ _ _ h2
    exact⟨by omega,λhk=>bk2 (r:= .no 0) (f:=λ_=> .no 0) (g2 (by omega)) (i2 hk)⟩
def zud{m:Nat} {g g':Nat->Nat->RdT} {mp:Bool} (hm:m<=D.size) (hg:ztj m g g') {st:StI} {n c:Nat} {r:StI×Nat×Nat} (h:itX g D mp st n c= .ok r):n<=r.2.1/\(r.2.1<=m->itX g' (D.extract 0 m) mp st n c= .ok r):=by
 unfold itX at h⊢
 by_cases hp:mp=true
 ·rw[if_pos hp]at h⊢
  obtain⟨k,h1,h⟩:=z04 h
  obtain⟨q,h2,h⟩:=z04 h
  cases h
  obtain⟨g1,_,g2⟩:=z5e hm h1
  obtain⟨i1,i2⟩:=hg _ _ _ h2
  refine⟨by show n<=q.2.1;omega,λhk=> ?_⟩
  have hk:q.2.1<=m:=hk
  rw[g2 (by omega),z0o,i2 hk];rfl
 ·rw[if_neg hp]at h⊢
  obtain⟨q,h2,h⟩:=z04 h
  cases h
  obtain⟨i1,i2⟩:=hg _ _ _ h2
  exact⟨i1,λhk=>by rw[i2 hk];rfl⟩
def zci{m:Nat} {g g':Nat->Nat->RdT} {D:ByteArray} {mp:Bool} (hm:m<=D.size) (hg:ztj m g g'):∀(k:Nat) (st:StI) (n c:Nat) (r:StI×Nat×Nat),z6s g D mp k st n c= .ok r->n<=r.2.1/\(r.2.1<=m->z6s g' (D.extract 0 m) mp k st n c= .ok r)
  |0,st,n,c,r,h=>by cases h;exact⟨Nat.le_refl _,λ_=>rfl⟩
  | k+1,st,n,c,r,h=>by
    obtain⟨q,h1,h2⟩:=z04 h
    obtain⟨i1,i2⟩:=zud hm hg h1
    obtain⟨j1,j2⟩:=zci hm hg k _ _ _ _ h2
    exact⟨by omega,λhk=>bk2 (r:= .no 0) (f:=λ_=> .no 0) (i2 (by omega)) (j2 hk)⟩
def zu9{n m:Nat} {r:Int×Int×Nat} (h:hdX D n= .ok r):n<r.2.2/\(r.2.2<=m->hdX (D.extract 0 m) n= .ok r):=by
 obtain⟨q,h1,h2⟩:=z04 h
 obtain⟨g1,g2⟩:=z53 (m:=m) h1
 split at h2
 ·rename_i hc
  cases h2
  exact⟨g1,λhk=>bk2 (r:= .no 0) (f:=λ_=> .no 0) (g2 hk) (by rw[if_pos hc])⟩
 split at h2
 ·cases h2
 ·rename_i hc hd
  obtain⟨p,h3,h4⟩:=z04 h2
  obtain⟨i1,i2⟩:=z53 (m:=m) h3
  split at h4
  ·cases h4
  ·rename_i he
   cases h4
   refine⟨by show n<p.2;omega,λhk=> ?_⟩
   have hk:p.2<=m:=hk
   refine bk2 (r:= .no 0) (f:=λ_=> .no 0) (g2 (by omega)) ?_
   rw[if_neg hc,if_neg hd]
   exact bk2 (r:= .no 0) (f:=λ_=> .no 0) (i2 hk) (by rw[if_neg he])
def zkn{m:Nat} {g g':Nat->Nat->RdT} {D:ByteArray} {mp:Bool} (hm:m<=D.size) (hg:ztj m g g'):∀(f:Nat) (st:StI) (n c:Nat) (r:StI×Nat×Nat),bkX g D mp f st n c= .ok r->n<r.2.1/\(r.2.1<=m->∀f',r.2.1<=n+f'->bkX g' (D.extract 0 m) mp f' st n c= .ok r)
  |0,st,n,c,r,h=>by cases h
  | f + 1,st,n,c,r,h=>by
    obtain⟨q,h1,h2⟩:=z04 h
    obtain⟨g1,g2⟩:=zu9 (m:=m) h1
    split at h2
    · rename_i hc
      cases h2
      refine⟨g1,λhk f' hf=> ?_⟩
      have hk:q.2.2<=m:=hk
      have hf:q.2.2<=n+f':=hf
      obtain⟨f',rfl⟩:∃k,f'=k+1:=⟨f'- 1,by omega⟩
      exact bk2 (r:= .no 0) (f:=λ_=> .no 0) (g2 hk) (by rw[if_pos hc])
    · rename_i hc
      obtain⟨p,h3,h4⟩:=z04 h2
      obtain⟨i1,i2⟩:=zci hm hg _ _ _ _ _ h3
      split at h4
      · cases h4
      · rename_i hd
        obtain⟨j1,j2⟩:=zkn hm hg f _ _ _ _ h4
        refine⟨by omega,λhk f' hf=> ?_⟩
        obtain⟨f',rfl⟩:∃k,f'=k+1:=⟨f'- 1,by omega⟩
        refine bk2 (r:= .no 0) (f:=λ_=> .no 0) (g2 (by omega)) ?_
        rw[if_neg hc]
        refine bk2 (r:= .no 0) (f:=λ_=> .no 0) (i2 (by omega)) ?_
        rw[if_neg hd]
        exact j2 hk f' (by omega)
def zva{m:Nat} {g g':Int->Nat->Nat->RdT} {a:AT} (hm:m<=D.size) (hg:∀t,ztj m (g t) (g' t)) {n c:Nat} {r:PV×Nat×Nat} (h:vaX g D a n c= .ok r):n<=r.2.1/\(r.2.1<=m->vaX g' (D.extract 0 m) a n c= .ok r):=by
 have hs:(D.extract 0 m).size=m:=by rw[ByteArray.size_extract];omega
 unfold vaX at h⊢
 by_cases k9:a.k=9
 ·rw[if_pos k9]at h⊢
  obtain⟨q,h1,h2⟩:=z04 h
  cases h2
  obtain⟨g1,g2⟩:=zda hg _ _ _ _ _ h1
  exact⟨g1,λhk=>bk2 (r:= .no 0) (f:=λ_=> .no 0) (g2 hk) rfl⟩
 rw[if_neg k9]at h⊢
 by_cases k14:a.k=14
 ·rw[if_pos k14]at h⊢
  obtain⟨b,h1,h2⟩:=z04 h
  obtain⟨q,h3,h4⟩:=z04 h2
  cases h4
  obtain⟨g1,_,g2⟩:=z52 (m:=m) h1
  obtain⟨i1,i2⟩:=hg _ _ _ _ h3
  refine⟨by show n<=q.2.1;omega,λhk=> ?_⟩
  have hk:q.2.1<=m:=hk
  refine bk2 (r:= .no 0) (f:=λ_=> .no 0) (g2 (by omega)) ?_
  exact bk2 (r:= .no 0) (f:=λ_=> .no 0) (i2 hk) rfl
 rw[if_neg k14]at h⊢
 by_cases kp:a.k=12\/a.k=13
 ·rw[if_pos kp]at h⊢
  obtain⟨q,h1,h2⟩:=z04 h
  cases h2
  obtain⟨g1,g2⟩:=zkn hm (hg _) _ _ _ _ _ h1
  refine⟨Nat.le_of_lt g1,λhk=> ?_⟩
  have hk:q.2.1<=m:=hk
  have g1:n<q.2.1:=g1
  refine bk2 (r:= .no 0) (f:=λ_=> .no 0) (g2 hk _ ?_) rfl
  rw[hs];omega
 rw[if_neg kp]at h⊢
 obtain⟨q,h1,h2⟩:=z04 h
 cases h2
 obtain⟨g1,g2⟩:=zuk hm h1
 exact⟨g1,λhk=>bk2 (r:= .no 0) (f:=λ_=> .no 0) (g2 hk) rfl⟩
def zku{S:List AT} {D:ByteArray} {m:Nat} (hm:m<=D.size):∀(f:Nat) (t:Int),ztj m (dvX S D f t) (dvX S (D.extract 0 m) f t)
  |0,t,n,c,r,h=>by cases h
  | f +1,t,n,c,r,h=>by
    unfold dvX at h⊢
    split at h
    · cases h
    · rename_i hc
      rw[if_neg hc]
      split at h
      · cases h
      · exact zva hm (λt=>zku hm f t) h
end
section
variable {S:List AT}
def zuj{i:Nat} (hi:i<S.length) {D:ByteArray} {n:Nat} {r:PV×Nat} (h:lfX S[i] D n= .ok r):PV.fits S i r.1=true:=by
 generalize ha:S[i]=a at h
 have kN:∀k,a.k=k->(k=1\/k=2\/k=3\/k=4\/k=5\/k=6\/k=10)->∀x,okN a x=true->PV.fits S i (pvN x)=true:=λk e hk x hx=>zu4 hi (by rw[ha,e];unfold isN;exact decide_eq_true hk) (by rw[ha];exact hx)
 have kT:∀k,a.k=k->(k=7\/k=8\/k=11)->∀x,okT a x=true->PV.fits S i (pvS x)=true:=λk e hk x hx=>zu5 hi (by rw[ha,e];unfold isT;exact decide_eq_true hk) (by rw[ha];exact hx)
 unfold lfX at h
 split at h
 ·rename_i k;cases h;exact kN 1 k (by decide) _ (by unfold okN;rw[if_pos k];rfl)
 rename_i k1
 split at h
 ·rename_i k
  obtain⟨t,h1,h2⟩:=z04 h
  split at h2
  ·cases h2
  ·cases h2;exact kN 2 k (by decide) _ (by unfold okN;rw[if_neg k1,if_pos k];exact decide_eq_true (by omega))
 rename_i k2
 split at h
 ·rename_i k
  obtain⟨t,h1,h2⟩:=z04 h
  split at h2
  ·cases h2
  ·cases h2;exact kN 3 k (by decide) _ (by unfold okN;rw[if_neg k1,if_neg k2,if_pos k];exact decide_eq_true (by omega))
 rename_i k3
 split at h
 ·rename_i k
  obtain⟨t,h1,h2⟩:=z04 h
  cases h2;exact kN 4 k (by decide) _ (by unfold okN;rw[if_neg k1,if_neg k2,if_neg k3,if_neg (by omega),if_neg (by omega)])
 rename_i k4
 split at h
 ·rename_i k
  obtain⟨t,h1,h2⟩:=z04 h
  obtain⟨e1,_,_⟩:=z15 h1
  have hl:=z8x t.1.data.toList
  have hs:t.1.data.toList.length<=4:=by rw[e1];exact Nat.le_trans z2k.2 (by decide)
  have h3:256 ^ t.1.data.toList.length<=256 ^ 4:=Nat.pow_le_pow_right (by decide) hs
  have h4:256 ^ 4=4294967296:=by decide
  cases h2;exact kN 5 k (by decide) _ (by unfold okN;rw[if_neg k1,if_neg k2,if_neg k3,if_pos k];unfold loS;exact decide_eq_true (by omega))
 rename_i k5
 split at h
 ·rename_i k
  obtain⟨t,h1,h2⟩:=z04 h
  cases h2;exact kN 6 k (by decide) _ (by unfold okN;rw[if_neg k1,if_neg k2,if_neg k3,if_neg k5,if_neg (by omega)])
 split at h
 ·rename_i k
  obtain⟨t,h1,h2⟩:=z04 h
  cases h2;exact kT 7 k (by decide) _ (by unfold okT;rw[if_neg (by omega),if_neg (by omega)])
 split at h
 ·rename_i k
  obtain⟨t,h1,h2⟩:=z04 h
  obtain⟨_,hv,_⟩:=z5e (Nat.le_refl _) h1
  cases h2;exact kT 8 k (by decide) _ (by unfold okT;rw[if_pos k];exact hv)
 split at h
 ·rename_i k
  obtain⟨t,h1,h2⟩:=z04 h
  obtain⟨_,hv,_⟩:=z52 (m:=0) h1
  cases h2;exact kN 10 k (by decide) _ (by unfold okN;rw[if_neg k1,if_neg k2,if_neg k3,if_neg k5,if_pos k];exact decide_eq_true (by omega))
 split at h
 ·rename_i k
  obtain⟨t,h1,h2⟩:=z04 h
  obtain⟨_,hv,_⟩:=z3o (Nat.le_refl _) h1
  cases h2;exact kT 11 k (by decide) _ (by unfold okT;rw[if_neg (by omega),if_pos k];exact decide_eq_true hv)
 ·cases h
abbrev zta(S:List AT) (t:Int) (g:Nat->Nat->RdT):Prop:=∀n c r,g n c= .ok r->PV.fits S t r.1=true
def zd9{S:List AT} {g:Int->Nat->Nat->RdT}:∀(ts:List Int) (l:List PV) (n c:Nat) (r:List PV×Nat×Nat),(∀t∈ts,zta S t (g t))->z6u g ts l n c= .ok r->∃m,r.1=l++m/\m.length=ts.length/\∀(j:Nat) (h1:j<m.length) (h2:j<ts.length),PV.fits S ts[j] m[j]=true
  | [],l,n,c,r,hg,h=>by cases h;exact⟨[],by simp,rfl,λj h1=>absurd h1 (Nat.not_lt_zero _)⟩
  | t::ts,l,n,c,r,hg,h=>by
    obtain⟨q,h1,h2⟩:=z04 h
    have g1:=hg t List.mem_cons_self _ _ _ h1
    obtain⟨m,i1,i2,i3⟩:=zd9 ts _ _ _ _ (λt ht=>hg t (List.mem_cons_of_mem _ ht)) h2
    refine⟨q.1::m,by rw[i1];simp,by simp[i2],λj hj1 hj2=> ?_⟩
    cases j with
    |zero=>exact g1
    |succ j=>exact i3 j (by simpa using hj1) (by simpa using hj2)
def okF(S:List AT) (t:Int) (mp:Bool) (st:StI):Prop:=(if mp=true then st.1.length=st.2.length/\Up st.1/\∀k∈st.1,vld k=true else st.1=[])/\∀v∈st.2,PV.fits S t v=true
def zuc{t:Int} {g:Nat->Nat->RdT} {D:ByteArray} {mp:Bool} (hg:zta S t g) {st:StI} {n c:Nat} {r:StI×Nat×Nat} (h:itX g D mp st n c= .ok r) (hc:okF S t mp st):okF S t mp r.1:=by
 obtain⟨k1,k2⟩:=hc
 unfold itX at h
 split at h
 ·rename_i hp
  rw[if_pos hp]at k1
  obtain⟨e1,e2,e3⟩:=k1
  obtain⟨k,h1,h⟩:=z04 h
  obtain⟨q,h2,h⟩:=z04 h
  cases h
  obtain⟨_,hv,_⟩:=z5e (Nat.le_refl _) h1
  have g1:=hg _ _ _ h2
  refine⟨?_,λv hv=> ?_⟩
  ·rw[if_pos hp]
   by_cases hk:k.1∈st.1
   ·obtain⟨p1,_,p3⟩:=z7a (w:=q.1) e2 e1 hk
    show(qb3 k.1 st.1).length=(z2f k.1 st.1 st.2 q.1).length/\Up (qb3 k.1 st.1)/\∀x∈qb3 k.1 st.1,vld x=true
    rw[p1];exact⟨p3,e2,e3⟩
   ·obtain⟨_,p2,p3⟩:=z79 (w:=q.1) e2 e1 hk
    refine⟨p3,p2,λx hx=> ?_⟩
    rcases z56 hx with rfl|w
    ·exact hv
    ·exact e3 x w
  ·rcases z92 hv with rfl|w
   ·exact g1
   ·exact k2 v w
 ·rename_i hp
  rw[if_neg hp]at k1
  obtain⟨q,h2,h⟩:=z04 h
  cases h
  refine⟨by rw[if_neg hp];exact k1,λv hv=> ?_⟩
  rcases List.mem_append.1 hv with w|w
  ·exact k2 v w
  ·simp at w;subst w;exact hg _ _ _ h2
def zch{S:List AT} {t:Int} {g:Nat->Nat->RdT} {D:ByteArray} {mp:Bool} (hg:zta S t g):∀(k:Nat) (st:StI) (n c:Nat) (r:StI×Nat×Nat),z6s g D mp k st n c= .ok r->okF S t mp st->okF S t mp r.1
  |0,st,n,c,r,h,hc=>by cases h;exact hc
  | k+1,st,n,c,r,h,hc=>by
    obtain⟨q,h1,h2⟩:=z04 h
    exact zch hg k _ _ _ _ h2 (zuc hg h1 hc)
def zkm{S:List AT} {t:Int} {g:Nat->Nat->RdT} {D:ByteArray} {mp:Bool} (hg:zta S t g):∀(f:Nat) (st:StI) (n c:Nat) (r:StI×Nat×Nat),bkX g D mp f st n c= .ok r->okF S t mp st->okF S t mp r.1
  |0,st,n,c,r,h,hc=>by cases h
  | f +1,st,n,c,r,h,hc=>by
    obtain⟨q,h1,h2⟩:=z04 h
    split at h2
    · cases h2;exact hc
    · obtain⟨p,h3,h4⟩:=z04 h2
      split at h4
      · cases h4
      · exact zkm hg f _ _ _ _ h4 (zch hg _ _ _ _ _ h3 hc)
def zl2:∀{l:List ByteArray},Up l->(∀k∈l,vld k=true)->z2i l=true
  | [],_,_=>rfl
  | a::l,h,hv=>by
    obtain⟨h1,h2⟩:=List.pairwise_cons.1 h
    rw[zck,hv a List.mem_cons_self,zl2 h2 λk hk=>hv k (List.mem_cons_of_mem _ hk)]
    cases l with
    |nil=>rfl
    |cons b l=>rw[hdL,h1 b List.mem_cons_self];rfl
def zv9(hS:okS S) {g:Int->Nat->Nat->RdT} {D:ByteArray} {i:Nat} (hi:i<S.length) (hg:∀t:Int,0<=t->t<S.length->zta S t (g t)) {n c:Nat} {r:PV×Nat×Nat} (h:vaX g D S[i] n c= .ok r):PV.fits S i r.1=true:=by
 obtain⟨o1,o2,o3,o4⟩:=hS.2.2 S[i] (List.getElem_mem hi)
 unfold vaX at h
 split at h
 ·rename_i k9
  obtain⟨q,h1,h2⟩:=z04 h
  cases h2
  obtain⟨m,e1,e2,e3⟩:=zd9 (S:=S) _ _ _ _ _ (λt ht=>by
   obtain⟨f,hf,rfl⟩:=List.mem_map.1 ht
   exact hg _ (o1 f hf).1 (o1 f hf).2) h1
  rw[List.nil_append]at e1
  refine zge hi k9 (by rw[e1,e2,List.length_map]) λj h1 h2=> ?_
  have:=e3 j (by rw[←e1];exact h1) (by rw[List.length_map];exact h2)
  rw[List.getElem_map]at this
  simpa only[e1]using this
 split at h
 ·rename_i k14
  obtain⟨b,h1,h2⟩:=z04 h
  obtain⟨q,h3,h4⟩:=z04 h2
  cases h4
  obtain⟨_,⟨b0,b1⟩,_⟩:=z52 (m:=0) h1
  obtain⟨k,hk⟩:=Int.eq_ofNat_of_zero_le b0
  have hkl:k<S[i].brs.length:=by omega
  rw[hk]at h3⊢
  rw[Int.toNat_natCast]at h3
  have hd:S[i].brs.getD k 0=S[i].brs[k]:=by rw[List.getD_eq_getElem?_getD,List.getElem?_eq_getElem hkl];rfl
  have hr:=o2 _ (List.getElem_mem hkl)
  refine zgf hi k14 hkl ?_
  rw[hd]at h3⊢
  exact hg _ hr.1 hr.2 _ _ _ h3
 split at h
 ·rename_i kp
  obtain⟨q,h1,h2⟩:=z04 h
  cases h2
  have hr:=o3 kp
  have hk:=zkm (S:=S) (t:=S[i].it) (hg _ hr.1 hr.2) _ _ _ _ _ h1 ⟨by
   by_cases hp:decide (S[i].k=13)=true
   ·rw[if_pos hp];exact⟨rfl,List.Pairwise.nil,λk hk=>by cases hk⟩
   ·rw[if_neg hp],λv hv=>by cases hv⟩
  obtain⟨k1,k2⟩:=hk
  by_cases h13:S[i].k=13
  ·rw[if_pos (decide_eq_true h13)]at k1
   exact zgd hi h13 k1.1 (zl2 k1.2.1 k1.2.2) k2
  ·rw[if_neg (by rw[decide_eq_false h13];decide)]at k1
   show PV.fits S i (.mk 0 (mkS []) q.1.2 q.1.1 0)=true
   rw[k1]
   exact zgc hi (by omega) k2
 ·obtain⟨q,h1,h2⟩:=z04 h
  cases h2
  exact zuj hi h1
def zkt{S:List AT} (hS:okS S) {D:ByteArray}:∀(f:Nat) (t:Int),0<=t->t<S.length->zta S t (dvX S D f t)
  |0,t,_,_,n,c,r,h=>by cases h
  | f +1,t,h0,h1,n,c,r,h=>by
    obtain⟨i,rfl⟩:=Int.eq_ofNat_of_zero_le h0
    have hi:i<S.length:=by omega
    unfold dvX at h
    split at h
    · cases h
    · rw[Int.toNat_natCast,List.getElem?_eq_getElem hi]at h
      exact zv9 hS hi (λ(t:Int) a b=>zkt hS f t a b) h
end
abbrev LiS:=SV×List Int×SV×ByteArray
def zkq:Ct:=ctP LiS (λ⟨x,L,y,D⟩=>[svA x,svA y]) (λ⟨x,L,y,D⟩=>ztw L) (λ⟨x,L,y,D⟩=>ldM x L y D) λ_=> .sv (.bool true)
def zlm:LiS->WayF:=λ⟨x,L,y,D⟩=>{
 spl:=λi=>match i with
  |15=>some 5
  |_=>none
 flo:=λi=>match i with
  |15=>some (10,[5])
  |_=>none
 ann:=λ_ t _=>match t.get 5 with
  |some (.ptr k _)=>some {σ:=Nat×List AT×SV,pre:=λ⟨j,S,z⟩=>z0v S/\j<=S.length,mem:=λ⟨j,S,z⟩=>sM S z,t:=λ⟨j,S,z⟩=>[(7, .sv (.int .i64 (j:Nat)))],h:=λ⟨j,S,z⟩=>[(k, .cells 26 (some 0) false [svA z])],more:=0,μ:=λ⟨j,S,z⟩=>S.length- j,keep:=[0,1,5]}
  |_=>none}
section
variable (x0:DdB) (x1:SV) (x2:Nat×List AT×Option Addr×Nat×Nat) (x3:SV) (x4:List Int) (x5:ByteArray) (x6:List AT×(Option Addr×Nat×Nat)×Bool×Int) (x7:DdB) (x8:Nat->Option Obj) (x9:Prop) (x10:DdS) (x11:Nat×List AT×Option Addr×Nat×Nat)
 abbrev zki:=True/\slP byV x1 x4 x8/\x3.2.1=size x5/\qil x8 x3.1 x3.2.1 x3.2.2 (q1h x5)
 abbrev zfr:=(↑x1.2.1:Int)
 def z4g:=(zki x1 x3 x4 x5 x8)/\z0a x6.1 x6.2.1 x8
 def z85:=x1.1=x1.1/\x1.2.1=x1.2.1/\x1.2.2=x1.2.2/\x9
 def zkj:=z0v x2.2.1/\x2.1<=length x2.2.1
 def zt5:=x10.2.1.1=x2.2.2.1/\x10.2.1.2.1=x2.2.2.2.1/\x10.2.1.2.2=x2.2.2.2.2/\x10.2.2.1=(↑x2.1:Int)/\x9
 def zt3:=z0a x10.1 x10.2.1 x8/\x10.2.2.2.1.2.1=size x10.2.2.2.2/\qil x8 x10.2.2.2.1.1 x10.2.2.2.1.2.1 x10.2.2.2.1.2.2 (q1h x10.2.2.2.2)
 def z4h:=((z4g x1 x3 x4 x5 x6 x8)/\z0a x2.2.1 x2.2.2 x8)/\GV.ok x0.1 x8
 abbrev zt6:=Jb ((↑x2.1:Int)+1)
 def zt4:=(↑x2.1:Int)=(↑x11.1:Int)+1/\x2.2.2.1=x11.2.2.1/\x2.2.2.2.1=x11.2.2.2.1/\x2.2.2.2.2=x11.2.2.2.2/\x9
 def zt7:=(zkj x2)/\length x2.2.1- x2.1<length x11.2.1- x11.1/\True
 def j06:=zt6 x2/\∃(i0:Nat×List AT×Option Addr×Nat×Nat),z85 x1 (z85 x3 (zt4 i0 ((∀i1,(z4h x0 x1 x2 x3 x4 x5 x6 i1)/\GV.ok x7.1 i1->z4g x1 x3 x4 x5 x6 i1)/\(∀i2,(z4h x0 x1 x2 x3 x4 x5 x6 i2)/\GV.ok x7.1 i2->z0a i0.2.1 i0.2.2 i2)/\zt7 i0 x2) x2))
 def j02:=((!decide (x0.2.1=x7.2.1))=true->true=false/\True)/\((!decide (x0.2.1=x7.2.1))=false->∃(i0:GV×GV),GV.n i0.1=GV.n x7.1/\GV.s i0.1=GV.s x7.1/\(GV.x i0.1).1=(GV.x x7.1).1/\(GV.x i0.1).2.1=(GV.x x7.1).2.1/\(GV.x i0.1).2.2=(GV.x x7.1).2.2/\(GV.y i0.1).1=(GV.y x7.1).1/\(GV.y i0.1).2.1=(GV.y x7.1).2.1/\(GV.y i0.1).2.2=(GV.y x7.1).2.2/\GV.b i0.1=GV.b x7.1/\GV.n i0.2=GV.n x0.1/\GV.s i0.2=GV.s x0.1/\(GV.x i0.2).1=(GV.x x0.1).1/\(GV.x i0.2).2.1=(GV.x x0.1).2.1/\(GV.x i0.2).2.2=(GV.x x0.1).2.2/\(GV.y i0.2).1=(GV.y x0.1).1/\(GV.y i0.2).2.1=(GV.y x0.1).2.1/\(GV.y i0.2).2.2=(GV.y x0.1).2.2/\GV.b i0.2=GV.b x0.1/\(PV.sm (GV.pv i0.1)/\PV.sm (GV.pv i0.2))/\(∀i1,(z4h x7 x1 x2 x3 x4 x5 x6 i1)/\GV.ok x0.1 i1->GV.ok i0.1 i1/\GV.ok i0.2 i1)/\((!PV.same (GV.pv i0.1) (GV.pv i0.2))=true->true=false/\True)/\((!PV.same (GV.pv i0.1) (GV.pv i0.2))=false->j06 x7 x1 x2 x3 x4 x5 x6 x0))
 def jdh:=((!decide (x0.2.2=0))=true->true=false/\True)/\((!decide (x0.2.2=0))=false->j02 x0 x1 x2 x3 x4 x5 x6 x7)
 def zt1:=x1.2.1<=x1.2.2/\(0<=x0.2.1/\x0.2.1<=(↑x1.2.2:Int))/\∃(i0:DdS),zt5 x2 (i0.2.2.2.1.1=slA x1.1 x1.2.2 (nat_lit 0) 1/\i0.2.2.2.1.2.1=Int.rec (λ(i1:Nat)=>(λ(i2:Nat)=>(λ(i3:Nat)=>i3) i2) i1) (λ(i4:Nat)=>(λ(i5:Nat)=>(λ(i6:Nat)=>(0:Nat)) i5) i4) x0.2.1- nat_lit 0/\i0.2.2.2.1.2.2=x1.2.2- nat_lit 0/\(okS i0.1/\size i0.2.2.2.2<100000)/\(∀i7,z4h x0 x3 x2 x1 x4 x5 x6 i7->zt3 i7 i0)/\∀(i8:DdB),z2b i0.1 i0.2.2.1 i0.2.2.2.2 i8->(∃i9,(z4h x0 x3 x2 x1 x4 x5 x6 i9)/\GV.ok i8.1 i9)->jdh i8 x3 x2 x1 x4 x5 x6 x0) i0
 def jdg:=(zt1 x0 x1 x2 x3 x4 x5 x6)/\zt1 x0 x1 x2 x3 x4 x5 x6
 def j3t:=zt6 x2/\∃(i0:Nat×List AT×Option Addr×Nat×Nat),z85 x1 (z85 x3 (zt4 i0 ((∀i1,z4h x0 x1 x2 x3 x4 x5 x6 i1->z4g x1 x3 x4 x5 x6 i1)/\(∀i2,z4h x0 x1 x2 x3 x4 x5 x6 i2->z0a i0.2.1 i0.2.2 i2)/\zt7 i0 x2) x2))
 def jdf:=Ji (x0.2.1<(zfr x1)) (jdg x0 x1 x2 x3 x4 x5 x6) (j3t x0 x3 x2 x1 x4 x5 x6)
 def j3s:=Ji (x0.2.2=0) (jdf x0 x1 x2 x3 x4 x5 x6) (j3t x0 x3 x2 x1 x4 x5 x6)
 def zt2:=((!decide (x0.2.2=0))=true->((!decide (x0.2.1=0))=true->true=false/\True)/\((!decide (x0.2.1=0))=false->j3s x0 x1 x2 x3 x4 x5 x6))/\((!decide (x0.2.2=0))=false->j3s x0 x1 x2 x3 x4 x5 x6)
 def j05:=Ji ((zfr x1)<x0.2.1) (true=false/\True) (∃(i0:FtS),i0.2.1.1=x2.2.2.1/\i0.2.1.2.1=x2.2.2.2.1/\i0.2.1.2.2=x2.2.2.2.2/\i0.2.2.1=(↑x2.1:Int)/\GV.n i0.2.2.2=GV.n x0.1/\GV.s i0.2.2.2=GV.s x0.1/\(GV.x i0.2.2.2).1=(GV.x x0.1).1/\(GV.x i0.2.2.2).2.1=(GV.x x0.1).2.1/\(GV.x i0.2.2.2).2.2=(GV.x x0.1).2.2/\(GV.y i0.2.2.2).1=(GV.y x0.1).1/\(GV.y i0.2.2.2).2.1=(GV.y x0.1).2.1/\(GV.y i0.2.2.2).2.2=(GV.y x0.1).2.2/\GV.b i0.2.2.2=GV.b x0.1/\(small i0.1/\z1r i0.1/\PV.sm (GV.pv i0.2.2.2))/\(∀i1,z4h x0 x3 x2 x1 x4 x5 x6 i1->z0a i0.1 i0.2.1 i1/\GV.ok i0.2.2.2 i1)/\((!PV.fits i0.1 i0.2.2.1 (GV.pv i0.2.2.2))=true->true=false/\True)/\((!PV.fits i0.1 i0.2.2.1 (GV.pv i0.2.2.2))=false->zt2 x0 x1 x2 x3 x4 x5 x6))
 def j04:=Ji (x0.2.1<0) (true=false/\True) (j05 x0 x1 x2 x3 x4 x5 x6)
 def j03:=Ji (x0.2.2=0) (j04 x0 x1 x2 x3 x4 x5 x6) (zt2 x0 x1 x2 x3 x4 x5 x6)
 def jdm:=Ji ((↑x2.1:Int)<(↑x2.2.2.2.1:Int)) (∃(i0:DdS),zt5 x2 (i0.2.2.2.1.1=x1.1/\i0.2.2.2.1.2.1=x1.2.1/\i0.2.2.2.1.2.2=x1.2.2/\(okS i0.1/\size i0.2.2.2.2<100000)/\(∀i1,(z4g x3 x1 x4 x5 x6 i1)/\z0a x2.2.1 x2.2.2 i1->zt3 i1 i0)/\∀(i2:DdB),z2b i0.1 i0.2.2.1 i0.2.2.2.2 i2->(∃i3,z4h i2 x3 x2 x1 x4 x5 x6 i3)->j03 i2 x1 x2 x3 x4 x5 x6) i0) (true=true/\True)
 def jdl:=(∃(i0:Nat×List AT×Option Addr×Nat×Nat),z85 x1 (z85 x3 ((↑i0.1:Int)=0/\i0.2.2.1=x6.2.1.1/\i0.2.2.2.1=x6.2.1.2.1/\i0.2.2.2.2=x6.2.1.2.2/\(∀i1,z4g x1 x3 x4 x5 x6 i1->z4g x1 x3 x4 x5 x6 i1)/\(∀i2,z4g x1 x3 x4 x5 x6 i2->z0a i0.2.1 i0.2.2 i2)/\(zkj i0)/\True)))/\∀(i3:Nat×List AT×Option Addr×Nat×Nat),zkj i3->(∃i4,(z4g x1 x3 x4 x5 x6 i4)/\z0a i3.2.1 i3.2.2 i4)->jdm x3 i3 x1 x4 x5 x6
 def jdk:=((!x6.2.2.1)=true->true=true/\True)/\((!x6.2.2.1)=false->jdl x1 x3 x4 x5 x6)
 def jdj:=Ji (60<(zfr x1)) (true=true/\True) (∃(i0:Option Addr×Nat×Nat),i0.1=x3.1/\i0.2.1=x3.2.1/\i0.2.2=x3.2.2/\True/\∃(i1:RcS),i1.1.1=i0.1/\i1.1.2.1=i0.2.1/\i1.1.2.2=i0.2.2/\i1.2.2=0/\zae i1/\(∀i2,zki x3 x1 x4 x5 i2->slP byV i1.1 i1.2.1 i2)/\∀(i3:List AT×(Option Addr×Nat×Nat)×Bool×Int),z0v i3.1/\(i3.2.2.1=true->i3.1≠[])/\i1.2.2<=i3.2.2.2/\i3.2.2.2<=(↑(length i1.2.1):Int)->(∃i4,z4g x3 x1 x4 x5 i3 i4)->jdk x3 x1 x4 x5 i3)
 def jdi:=Ji (120<(zfr x1)) (true=true/\True) (jdj x3 x1 x4 x5)
end
def zcn(x:SV) (L:List Int) (y:SV) (D:ByteArray):qm4 P (qh2 [(4,z3h),(5,cMd),(8,z3r),(9,zmh)]) (qi5 [(6,zmd),(7,zfy)]) Try.f3 zkq (zlm) ⟨x,L,y,D⟩=(ztw L->(∃(p:Pub),zki x y L D p)->∃(s:Unit),True/\((!true)=true->true=false/\True)/\((!true)=false->jdi x y L D)):=by kernel_rfl
def zgy:=λx L y D=>Eq.trans (zcn x L y D) (by delta Ji Jb Jt Jf zki zfr z4g z85 zkj zt5 zt3 z4h zt6 zt4 zt7 j06 j02 jdh zt1 jdg j3t jdf j3s zt2 j05 j04 j03 jdm jdl jdk jdj jdi;exact rfl)
section
 open Go.ChangeShapes Go.WideShapes Go.ChangeAt Go.Joins Go.Deep
abbrev j0b(w:World):Pub:=q19 (λ_ b=>b<w.heap.size) w
variable {w:World} {a:Addr}
def z8i{v:Value} (h:w.cell? a=some v):q6r (j0b w) a=some v/\a.spot=none:=by
  unfold World.cell? at h
  cases ho:w.heap[a.block]? with
  |none=>rw[ho]at h;cases h
  | some o=>
    have hlt:a.block<w.heap.size:=(Array.getElem?_eq_some_iff.1 ho).1
    have hp:j0b w a.block=some o:=q04.2 ⟨hlt,ho⟩
    rw[ho]at h
    unfold q6r
    rw[hp]
    cases o<;>simp only at h<;>first|cases h|skip
    cases hs:a.spot with
    |none=>rw[hs]at h;simp[qc0,hs]at h⊢;exact h
    |some k=>rw[hs]at h;simp at h
def z9y{p:Pub} {x y:List Value} (h1:q3p p a x) (h2:q3p p (a.add x.length) y):q3p p a (x++y):=λj v hj=>by
 by_cases hx:j<x.length
 ·rw[List.getElem?_append_left hx]at hj;exact h1 j v hj
 ·rw[List.getElem?_append_right (by omega)]at hj
  have:=h2 _ v hj
  rw[Addr.add_add,show x.length+(j- x.length)=j by omega]at this;exact this
def z68{α:Type} {f:α->List Value} {p:Pub} {k:Nat}:∀(l:List α) (a:Addr),(∀g∈l,(f g).length=k)->(∀(i:Nat) (h:i<l.length),q3p p (a.add (i*k)) (f l[i]))->q3p p a (z00 f l)
  | [],a,_,_=>λj v hj=>by simp[z00]at hj
  | g::l,a,hf,h=>by
    have h0:=h 0 (by simp)
    have e:a.add (0*k)=a:=by unfold Addr.add;rw[if_pos (by omega)]
    rw[e]at h0
    show q3p p a (f g++z00 f l)
    refine z9y h0 ?_
    rw[hf g List.mem_cons_self]
    refine z68 l (a.add k) (λg hg=>hf g (List.mem_cons_of_mem _ hg)) λi hi=> ?_
    have:=h (i+1) (by simp;omega)
    rw[Addr.add_add,show k+i*k=(i+1)*k by rw[Nat.succ_mul];omega]
    simpa using this
def zn2{f:Nat} {C:Ct} (h:q5k P f C) (s:C.σ) (vs:List Value) (ha:∀I,VRs I (C.args s) vs) (hh:C.h s=[]) (r:Value) (hr:C.r s= .sv r) (w:World) (hp:C.pre s) (hm:(C.mem s).ok (j0b w)):
  Calls P f ⟨vs⟩ w λe w'=>e= .returned r/\Below w.heap.size w w':=by
 obtain⟨h1,h2,_,h4⟩:=h
 obtain⟨h0,h1',e1,e2,h5⟩:=h4 s
 rw[hh]at e1
 cases e1
 refine(h5 (λ_ b=>b<w.heap.size) (λi=>if i=0 then some (0,0,0)else none) w vs (ha _) ⟨λid o b t h=> ?_,λid id' o o' b t t' h=> ?_,λid o b t h=> ?_⟩ (λ_ h=>h) (λ_ h=>h) hp hm (λi hi=>if_neg (by omega)) (if_pos rfl)).mono λe w' he=> ?_
 ·rw[T.get_e]at h;cases h
 ·rw[T.get_e]at h;cases h
 ·rw[T.get_e]at h;cases h
 obtain⟨z,I',rfl,hz,hg,_⟩:=he
 rw[hr]at hz
 cases hz
 exact⟨rfl,⟨hg.same.1,hg.same.2,hg.same.3,hg.size,λk hk=>hg.fr k hk⟩⟩
def zlz(w:World) (a:Option Addr) (len cap:Nat) (z:List Int):Prop:=(a=none/\len=0/\cap=0/\z=[])\/∃x,a=some x/\len<=cap/\cap<=maxLen/\z.length=cap/\(∀i,i<z.length->w.cell? (x.add i)=some (.int .u8 (z.getD i 0)))/\∀n∈z,(Lit.int .u8 n).wf=true
def zl9{a:Option Addr} {len cap:Nat} {z:List Int} (h:zlz w a len cap z):∃L:List Int,slP byV (a,len,cap) L (j0b w)/\L.length<9223372036854775808/\∀b∈L,0<=b/\b<256:=by
  rcases h with⟨rfl,rfl,rfl,rfl⟩|⟨x,rfl,hl,hm,hz,hc,hw⟩
  · exact⟨[],⟨rfl,Nat.le_refl _, .inl ⟨rfl,trivial⟩⟩,by simp,λb hb=>by cases hb⟩
  have hlen:(z.take len).length=len:=by rw[List.length_take];omega
  have hat:∀(i:Nat) (hi:i<(z.take len).length),w.cell? (x.add i)=some (.int .u8 (z.take len)[i]):=λi hi=>by
    have hiz:i<z.length:=by omega
    have:=hc i hiz
    rw[List.getD_eq_getElem?_getD,List.getElem?_eq_getElem hiz]at this
    simpa using this
  refine⟨z.take len,⟨hlen.symm,hl,?_⟩,by unfold maxLen at hm;omega,λb hb=> ?_⟩
  · by_cases h0:z.take len=[]
    · rw[h0];exact .inl ⟨rfl,trivial⟩
    · have hpos:0<(z.take len).length:=List.length_pos_iff.2 h0
      have e0:x.add 0=x:=by unfold Addr.add;rw[if_pos rfl]
      have hp0:=z8i (hat 0 hpos)
      rw[e0]at hp0
      refine .inr ⟨x,rfl,hp0.2,z68 (k:=1) _ x (λg _=>rfl) λi hi j v hj=> ?_⟩
      cases j with
      |succ j=>simp[byV]at hj
      | zero=>
        have:=(z8i (hat i hi)).1
        rw[Addr.add_add,show i*1+0=i by omega,this,←hj];rfl
  · have hw:=hw b (List.mem_of_mem_take hb)
    simp only[Lit.wf,Bool.and_eq_true,decide_eq_true_eq]at hw
    have h1:IntKind.min .u8=0:=by decide
    have h2:IntKind.max .u8=255:=by decide
    omega
end
section
variable {D:ByteArray}
def zu0{S:List AT} {t:Int} {b:DdB} (hok:okS S) (hD:D.size<100000) (ht:0<=t/\t<S.length) (h:z2b S t D b):(b.2.2≠0/\b.2.1=0)\/(b.2.2=0/\(0<=b.2.1/\b.2.1<=D.size)/\b.1.pv.sm/\PV.fits S t b.1.pv=true/\∀b':DdB,z2b S t (D.extract 0 b.2.1.toNat) b'->b'.2.2=0/\b'.2.1=b.2.1/\b'.1.pv=b.1.pv):=by
  have g:=h.1 ht
  have h2:=h.2.2
  cases hR:dvX S D 20 t 0 0 with
  | no k=>
    rw[hR]at g
    obtain⟨a1,a2,a3⟩:=g
    exact .inl ⟨by omega,a2⟩
  | ok r=>
    have hs:=(zu1 hok.1 hD 20 t 0 0 r hR).1
    have hf:=zkt hok 20 t ht.1 ht.2 0 0 r hR
    rw[hR]at g
    obtain⟨a1,a2,a3⟩:=g
    refine .inr ⟨a1,h2,a2 ▸ hs,a2 ▸ hf,λb' h'=> ?_⟩
    have g':=h'.1 ht
    have hp:=(zku (S:=S) (m:=b.2.1.toNat) (show b.2.1.toNat<=D.size by omega) 20 t 0 0 r hR).2 (by omega)
    rw[hp]at g'
    obtain⟨b1,b2,b3⟩:=g'
    exact⟨b1,b3.trans a3.symm,b2.trans a2.symm⟩
def zmk{p:Pub} {y:SV} {m:Nat} (hm:m<=D.size) (hy:y.2.1=D.size) (h:qil p y.1 y.2.1 y.2.2 (q1h D)):m=(D.extract 0 m).size/\qil p (slA y.1 y.2.2 0 1) m (y.2.2- 0) (q1h (D.extract 0 m)):=by
 have hs:(D.extract 0 m).size=m:=by rw[ByteArray.size_extract];omega
 have h1:=h.1
 refine⟨hs.symm,by omega,zhp h.2 (Nat.zero_le _) (by rw[q3b];omega) λj v hj=> ?_⟩
 have hj2:j<m:=by
  have:=(List.getElem?_eq_some_iff.1 hj).1
  rw[q3b]at this;omega
 rw[Nat.zero_add]
 unfold q1h at hj⊢
 rw[z63,List.drop_zero,Nat.sub_zero,List.getElem?_map,List.getElem?_take,if_pos hj2]at hj
 rw[List.getElem?_map];exact hj
def zgz:q5k P 3 zkq:=by
 refine qlc mixed (qee (qih z9t (qih zh4 (qih zc0 (qih zo2 qlq))))) (qf7 (qig zm8 (qig zbu qlp))) (W:=zlm) Try.func3 (by kernel_rfl) (show 1<=1 by decide) (show 1<=1 by decide) (λs=>by kernel_rfl) λ⟨(x:SV),L,(y:SV),D⟩=>(zgy x L y D).mpr ?_
 rintro⟨hL,hLb⟩ ⟨p,_,hx,hyl,hy⟩
 have hxl:x.2.1=L.length:=hx.1
 have hy1:=hy.1
 simp only[sbS,exists_const,forall_const,Int.toNat_natCast,hxl]
 refineλh120 h60=>⟨x,rfl,hxl,rfl,⟨x,L,0⟩,rfl,rfl,rfl,rfl,⟨by show(0:Int)<=0;decide,by show(0:Int)<=(L.length:Int);omega,by omega,hLb⟩,λq hq=>hq.1,?_⟩
 rintro⟨S,z,b,n'⟩ ⟨hS,hne, -, -⟩ ⟨p2,hp2,hz⟩
 have hD:D.size<100000:=by omega
 intro hb
 refine⟨⟨(0,S,z),rfl,rfl,rfl,rfl,λq hq=>hq.2,hS,Nat.zero_le _⟩,?_⟩
 rintro⟨j,T,v⟩ ⟨hT,hj⟩ ⟨p3,hp3,hv⟩
 have hvl:v.2.1=T.length:=hv.1.1
 have hj:j<=T.length:=hj
 have hT:z0v T:=hT
 have hT60:=hT.1
 have hok:=zms hT
 simp only[hvl]
 intro hlt
 have hjt:(0:Int)<=(j:Nat)/\((j:Nat):Int)<T.length:=by omega
 refine⟨⟨T,v,(j:Nat),y,D⟩,rfl,hvl,rfl,rfl,rfl,rfl,rfl,⟨hok,hD⟩,λq hq=>⟨hq.2,hq.1.1.2⟩,?_⟩
 rintro⟨g,n,e⟩ hg _
 have hg:=zu0 hok hD hjt hg
 simp only at hg⊢
 rcases hg with⟨he,hn⟩|⟨he,⟨hn0,hn1⟩,hsm,hfit,hpre⟩
 ·subst hn
  simp only[he,false_implies,true_implies,not_true_eq_false,not_false_eq_true,true_and,and_true,imp_self,eq_self]
  exact⟨⟨by omega,by omega⟩,⟨j+1,T,v⟩,by show((j+1:Nat):Int)=_;omega,rfl,hvl,rfl,λq hq=>hq.1.1,λq hq=>hq.1.2,⟨hT,by show j+1<=T.length;omega⟩,by show T.length- (j+1)<T.length- j;omega⟩
 ·subst he
  obtain⟨m,rfl⟩:=Int.eq_ofNat_of_zero_le hn0
  have hm:m<=D.size:=by omega
  have hneg:¬((m:Nat):Int)<0:=by omega
  have hbig:¬((y.2.1:Nat):Int)<(m:Nat):=by omega
  rw[Int.toNat_natCast]at hpre
  by_cases hlm:((m:Nat):Int)<(y.2.1:Nat)
  ·simp only[hneg,hbig,hlm,false_implies,true_implies,not_true_eq_false,not_false_eq_true,true_and,and_true,imp_self,eq_self]
   refine⟨⟨T,v,(j:Nat),g⟩,rfl,hvl,rfl,rfl,rfl,rfl,rfl,rfl,rfl,rfl,rfl,rfl,rfl,⟨hok.1,hok.2.1,hsm⟩,λq hq=>⟨hq.1.2,hq.2⟩,λh=> ?_,λ_=>⟨?xa,?xb⟩⟩
   case xa|xb=>
    refine⟨hy1,⟨by omega,by omega⟩,⟨T,v,(j:Nat),(slA y.1 y.2.2 0 1,m,y.2.2- 0),D.extract 0 m⟩,rfl,hvl,rfl,rfl,rfl,rfl,rfl,⟨hok,by show(D.extract 0 m).size<_;rw[ByteArray.size_extract];omega⟩,λq hq=>⟨hq.1.2,zmk hm hyl hq.1.1.1.2.2⟩,?_⟩
    rintro⟨w,k,f⟩ hw _
    obtain⟨h1,h2,h3⟩:=hpre (w,k,f) hw
    have h1:f=0:=h1
    have h2:k=(m:Nat):=h2
    have h3:w.pv=g.pv:=h3
    subst h1 h2
    simp only[false_implies,true_implies,not_true_eq_false,not_false_eq_true,true_and,and_true,imp_self,eq_self]
    refine⟨(g,w),rfl,rfl,rfl,rfl,rfl,rfl,rfl,rfl,rfl,rfl,rfl,rfl,rfl,rfl,rfl,rfl,rfl,rfl,⟨hsm,by show w.pv.sm;rw[h3];exact hsm⟩,λq hq=>⟨hq.1.2,hq.2⟩,λh=> ?_,λ_=>⟨⟨by omega,by omega⟩,⟨j+1,T,v⟩,by show((j+1:Nat):Int)=_;omega,rfl,hvl,rfl,λq hq=>hq.1.1.1,λq hq=>hq.1.1.2,⟨hT,by show j+1<=T.length;omega⟩,by show T.length- (j+1)<T.length- j;omega⟩⟩
    have h:PV.same g.pv w.pv=false:=h
    rw[h3,z6a]at h;cases h
   rw[hfit]at h;cases h
  ·simp only[hneg,hbig,hlm,false_implies,true_implies,not_true_eq_false,not_false_eq_true,true_and,and_true,imp_self,eq_self]
   refine⟨⟨T,v,(j:Nat),g⟩,rfl,hvl,rfl,rfl,rfl,rfl,rfl,rfl,rfl,rfl,rfl,rfl,rfl,⟨hok.1,hok.2.1,hsm⟩,λq hq=>⟨hq.1.2,hq.2⟩,λh=> ?_,λ_=>⟨⟨by omega,by omega⟩,⟨j+1,T,v⟩,by show((j+1:Nat):Int)=_;omega,rfl,hvl,rfl,λq hq=>hq.1.1,λq hq=>hq.1.2,⟨hT,by show j+1<=T.length;omega⟩,by show T.length- (j+1)<T.length- j;omega⟩⟩
   rw[hfit]at h;cases h
def ztt:∀{L:List Int},(∀b∈L,0<=b/\b<256)->z00 byV L=q1h (mkS (L.map Int.toNat))/\(mkS (L.map Int.toNat)).size=L.length
  | [],_=>⟨rfl,rfl⟩
  | b::l,h=>by
    obtain⟨i1,i2⟩:=ztt (L:=l) λx hx=>h x (List.mem_cons_of_mem _ hx)
    obtain⟨h0,h1⟩:=h b List.mem_cons_self
    refine⟨?_,by rw[q0l];simp⟩
    rw[z00,i1]
    unfold q1h mkS byV
    simp
    omega
def adecIs_law_wf(a0:Option Addr) (len0 cap0:Nat) (z0:List Int) (a1:Option Addr) (len1 cap1:Nat) (z1:List Int) (w:World) (w0:zlz w a0 len0 cap0 z0) (w1:zlz w a1 len1 cap1 z1):Calls P 3 #[.slice a0 len0 cap0, .slice a1 len1 cap1] w λe w'=>e= .returned (.bool true)/\Below w.heap.size w w':=by
 obtain⟨L,hx,hL⟩:=zl9 w0
 obtain⟨M,hy,hM⟩:=zl9 w1
 obtain⟨e1,e2⟩:=ztt hM.2
 have hy2:len1=M.length:=hy.1
 have hy3:=hy.2
 rw[e1]at hy3
 exact zn2 zgz ⟨(a0,len0,cap0),L,(a1,len1,cap1),mkS (M.map Int.toNat)⟩ [.slice a0 len0 cap0, .slice a1 len1 cap1] (λI=> .cons (.sv _) (.cons (.sv _) .nil)) rfl (.bool true) rfl w hL ⟨hx,by show len1=_;rw[hy2,e2],hy3⟩
end
end
end Go.Proofs.Ytniogjgfomaicaa.Wd
