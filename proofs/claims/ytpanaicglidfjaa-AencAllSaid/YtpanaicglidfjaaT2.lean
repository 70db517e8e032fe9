/-
  What the functions do: contracts, and their questions answered. No condition but what its theorems ask.
-/
import Derived.Test.YtpanaicglidfjaaT1
namespace Go.Proofs.Ytpanaicglidfjaa.Wd
open Go.Proofs.Ytpanaicglidfjaa.Eng Go.Proofs.Ytpanaicglidfjaa.Sen Go.RowKit
set_option linter.defProp false
set_option linter.unusedVariables false
set_option linter.unusedSimpArgs false
set_option maxRecDepth 1000000
open Go.Value (int string slice bool)
open Go.IntKind (i64 u64 u8 u32 i32)
open _root_.List (length take drop)
open _root_.ByteArray (size)
open _root_.Int (toNat)
noncomputable section
section
variable (x0:List AT×Int×GJ×ByteArray) (x1:Int) (x2:Option Addr) (x3 x4:Nat) (x5:List AT) (x6:GJ) (x7 x8:Int) (x9:Nat×Int) (x10:Nat×Bool) (x11:GJ×ByteArray) (x12:List AT×Int×GJ×ByteArray×Bool) (x13:Prop) (x14:Nat×Int) (x15:Nat->Option Obj) (x16:Nat×Bool) (x17:SyB) (x18:List AT) (x19:ByteArray) (x20:Nat×Int)
 abbrev zep:=z00 AT.cells x0.1=z00 AT.cells x5
 def z5y:=(True/\GJ.ok x6 x15)/\slP txV (x2,x3,x4) (z2c x0.2.2.1 x0.2.2.2 x0.2.1).1 x15
 abbrev z43:=(z2c x0.2.2.1 x0.2.2.2 x0.2.1).2
 def zjs:=z00 AT.cells x5=z00 AT.cells x0.1/\True/\x13
 def z3o:=(z43 x0).1=(z43 x0).1
 def z7o:=length x5=length x18
 def z85:=GJ.k x6=GJ.k x6/\GJ.n x6=GJ.n x6/\GJ.s x6=GJ.s x6/\(GJ.y x6).1=(GJ.y x6).1/\(GJ.y x6).2.1=(GJ.y x6).2.1/\(GJ.y x6).2.2=(GJ.y x6).2.2/\(GJ.x x6).1=(GJ.x x6).1/\(GJ.x x6).2.1=(GJ.x x6).2.1/\(GJ.x x6).2.2=(GJ.x x6).2.2/\(∀i0,z5y x0 x2 x3 x4 x6 i0->z5y x0 x2 x3 x4 x6 i0)/\x13
 def z7n:=z00 AT.cells x0.1=z00 AT.cells x0.1
 def j4m:=z3o x0/\x1=x1/\x2=x2/\x3=x3/\x4=x4/\length x5=length x0.1/\(z43 x0).2=(z43 x0).2/\z7n x0/\z85 x0 x2 x3 x4 x6 (((z43 x0).2=0->x7=0)/\True)
 def zx3:=x8=x8/\z7o x5 x18/\x1=x1/\zjs x0 x5 (z3o x0/\x7=x7/\x2=x2/\x3=x3/\x4=x4/\z7o x18 x5/\faE x1 x8=faE x1 x8/\zep x0 x5/\x13)
 def zpc:=x1=0/\smL x6 x1≠[]
 def z8r:=x2=x2/\x3=x3/\x4=x4/\length x5=length x5/\x13
 def z4k:=x1=0/\smL x6 x1≠[]/\length (smL x6 x1)<=30
 def zpb:=x9.1<=length (smL x6 x1)/\(x9.2=0->z4k x1 x6)
 def zpd:=(0<=(↑x9.1:Int)/\(↑x9.1:Int)<(↑x3:Int))/\x2≠noA/\x13
 def zp9:=(∀i0,z5y x0 x2 x3 x4 x6 i0->q3f i0 (adr x2 (toNat (↑x9.1:Int)*1)) [string x19])
 def zeq:=x1=x1/\(↑x9.1:Int)=(↑x9.1:Int)/\x13
 def zp8:=(↑x9.1:Int)<=(↑x14.1:Int)/\(x9.2=0->z4k x1 x6)
 abbrev zp7:=Jb ((↑x9.1:Int)+1)
 def zx6:=(zp8 x1 x6 x9 x14)/\toNat ((↑x14.1:Int)- (↑x9.1:Int))<toNat ((↑x14.1:Int)- (↑x20.1:Int))/\True
 def j4k:=zp7 x9/\∃(i0:Nat×Int),z3o x0/\(↑i0.1:Int)=(↑x9.1:Int)+1/\zeq x1 x14 (z8r x2 x3 x4 x5 (i0.2=x9.2/\z7n x0/\z85 x0 x2 x3 x4 x6 (zx6 x7 x6 i0 x14 x9)))
 def j4e:=zpd x2 x3 x9 (∃i0,zp9 x0 x2 x3 x4 x6 x9 i0/\zpd x2 x3 x14 (∃i2,zp9 x0 x2 x3 x4 x6 x14 i2/\Ji (i0=i2) (∃(i4:List AT),(5:Int)=5/\z7o i4 x5/\x9.2=x9.2/\zjs x0 i4 (zp7 x9/\∃(i5:Nat×Int),z3o x0/\(↑i5.1:Int)=(↑x9.1:Int)+1/\zeq x1 x14 (x2=x2/\x3=x3/\x4=x4/\z7o x5 i4/\i5.2=faE x9.2 5/\zep x0 i4/\z85 x0 x2 x3 x4 x6 (zx6 x7 x6 i5 x14 x9)))) (j4k x0 x1 x2 x3 x4 x5 x6 x7 x9 x14)))
 def j4l:=zp7 x9/\∃(i0:Nat×Int),z3o x0/\x1=x1/\(↑i0.1:Int)=(↑x9.1:Int)+1/\z8r x2 x3 x4 x5 (i0.2=x14.2/\z7n x0/\z85 x0 x2 x3 x4 x6 ((zpb x7 x6 i0)/\length (smL x6 x7)- i0.1<length (smL x6 x7)- x9.1/\True))
 def j4c:=Ji ((↑x9.1:Int)<(↑x14.1:Int)) (j4e x0 x1 x2 x3 x4 x5 x6 x7 x9 x14) (j4l x0 x1 x2 x3 x4 x5 x6 x7 x14 x9)
 def j4b:=(∃(i0:Nat×Int),z3o x0/\(↑i0.1:Int)=0/\zeq x1 x9 (z8r x2 x3 x4 x5 (i0.2=x7/\z7n x0/\z85 x0 x2 x3 x4 x6 ((zp8 x8 x6 i0 x9)/\True))))/\∀(i1:Nat×Int),zp8 x8 x6 i1 x9->j4c x0 x1 x2 x3 x4 x5 x6 x8 i1 x9
 def jgx:=(zpd x2 x3 x9 (∃i0,zp9 x0 x2 x3 x4 x6 x9 i0/\i0=i0/\size i0<1000000/\((!z2x i0)=true->∃(i2:List AT),(6:Int)=6/\z7o i2 x5/\x9.2=x9.2/\zjs x0 i2 (z3o x0/\zeq x1 x9 (x2=x2/\x3=x3/\x4=x4/\z7o x5 i2/\faE x9.2 (6:Int)=faE x9.2 6/\zep x0 i2/\z85 x0 x2 x3 x4 x6 ((faE x9.2 (6:Int)=0->z4k x7 x6)/\True))))/\((!z2x i0)=false->z3o x0/\zeq x1 x9 (z8r x2 x3 x4 x5 (x9.2=x9.2/\z7n x0/\z85 x0 x2 x3 x4 x6 ((x9.2=0->z4k x7 x6)/\True))))))/\∀(i3:Int),(i3=0->z4k x7 x6)->j4b x0 x1 x2 x3 x4 x5 x6 i3 x7 x9
 def zeo:=z3o x0/\Option.isSome (z0k x11.2 x11.1)=Option.isSome (z0k x11.2 x11.1)/\x13
 abbrev z3p:=woR x12.2.2.1 x12.2.2.2.1 x12.2.2.2.2 x12.2.1
 def zjr:=(z3p x12).1=(z3p x12).1/\x2=x2/\x3=x3/\x4=x4/\x13
 def zpa:=(z3p x12).2=(z3p x12).2/\z00 AT.cells x12.1=z00 AT.cells x12.1/\x13
 abbrev zx5:=Jb ((↑x10.1:Int)+1)
 def zx1:=zjr x2 x3 x4 x12 ((↑x10.1:Int)=(↑x16.1:Int)+1/\length x12.1=length x12.1/\zpa x12 (z85 x0 x2 x3 x4 x6 (x10.1<=length (smL x6 x1)/\length (smL x6 x1)- x10.1<length (smL x6 x1)- x16.1/\True)))
 def j4j:=zx5 x10/\∃(i0:Nat×Bool),zeo x0 x11 (i0.2=true/\x1=x1/\zx1 x0 x7 x2 x3 x4 x6 i0 x12 x10)
 def j4h:=(0<=(↑x10.1:Int)/\(↑x10.1:Int)<(↑x3:Int))/\x2≠noA/\∃i0,(∀i1,z5y x0 x2 x3 x4 x6 i1->q3f i1 (adr x2 (toNat (↑x10.1:Int)*1)) [string i0])/\zx5 x10/\∃(i2:Nat×Bool),zeo x0 x11 (i2.2=decide (i0=(z3p x12).1)/\x1=x1/\zx1 x0 x7 x2 x3 x4 x6 i2 x12 x10)
 def j4f:=(x10.2=true->j4j x0 x1 x2 x3 x4 x6 x7 x10 x11 x12)/\(x10.2=false->j4h x0 x1 x2 x3 x4 x6 x7 x10 x11 x12)
 def zx0:=zeo x0 x11 (x1=x1/\zjr x2 x3 x4 x12 (length x5=length x12.1/\zpa x12 (z85 x0 x2 x3 x4 x6 (((z3p x12).2=0->z4k x7 x6)/\True))))
 def j4i:=((!x10.2)=true->∃(i0:List AT),(6:Int)=6/\length i0=length x12.1/\(z3p x12).2=(z3p x12).2/\z00 AT.cells i0=z00 AT.cells x12.1/\True/\zeo x0 x11 (x1=x1/\zjr x2 x3 x4 x12 (z7o x5 i0/\faE (z3p x12).2 (6:Int)=faE (z3p x12).2 6/\z00 AT.cells x12.1=z00 AT.cells i0/\z85 x0 x2 x3 x4 x6 ((faE (z3p x12).2 (6:Int)=0->z4k x7 x6)/\True))))/\((!x10.2)=false->zx0 x0 x1 x2 x3 x4 x5 x6 x7 x11 x12)
 abbrev zx4:=spl (spl (z00 AT.cells x12.1) (nat_lit 0+toNat x1*nat_lit 10+4) [slice x2 x3 x4]) (nat_lit 0+toNat x1*nat_lit 10+5) [bool (Option.isSome (z0k x11.2 x11.1))]
 abbrev zjq:=if x17.1=0 then znk x5 x1 x17.2.1 x17.2.2.1 x17.2.2.2.1 x17.2.2.2.2 else x5
 def zx2:=x1=0/\x17.2.2.1≠[]/\length x17.2.2.1<=30
 def j4g:=(0<=x1/\x1<(↑(length x5):Int))/\nat_lit 0+toNat x1*nat_lit 10+4+length [slice x2 x3 x4]<=length (z00 AT.cells x12.1)/\(0<=x1/\x1<(↑(length x5):Int))/\nat_lit 0+toNat x1*nat_lit 10+5+length [bool (Option.isSome (z0k x11.2 x11.1))]<=length (spl (z00 AT.cells x12.1) (nat_lit 0+toNat x1*nat_lit 10+4) [slice x2 x3 x4])/\(0<=x1/\x1<(↑(length x5):Int))/\nat_lit 0+toNat x1*nat_lit 10+6+length [string (z3p x12).1]<=length (zx4 x1 x2 x3 x4 x11 x12)/\∃(i0:SyB),length (zjq x1 x5 i0)=length x5/\i0.1=x7/\z00 AT.cells (zjq x1 x5 i0)=spl (zx4 x1 x2 x3 x4 x11 x12) (nat_lit 0+toNat x1*nat_lit 10+6) [string (z3p x12).1]/\(i0.1=0->zx2 x8 i0)/\(∀i1,z5y x0 x2 x3 x4 x6 i1->slP txV i0.2.1 i0.2.2.1 i1)/\True
 def j4d:=Ji (x1=0) (j4g x0 x7 x2 x3 x4 x5 x6 x1 x8 x11 x12) (∃(i2:SyB),length (zjq x7 x5 i2)=length x5/\i2.1=x1/\z00 AT.cells (zjq x7 x5 i2)=z00 AT.cells x12.1/\(i2.1=0->zx2 x8 i2)/\(∀i3,z5y x0 x2 x3 x4 x6 i3->slP txV i2.2.1 i2.2.2.1 i3)/\True)
 def jgy:=((Option.isSome (z0k x11.2 x11.1)=true->j4i x0 x1 x2 x3 x4 x5 x6 x7 x10 x11 x12)/\(Option.isSome (z0k x11.2 x11.1)=false->zx0 x0 x1 x2 x3 x4 x5 x6 x7 x11 x12))/\∀(i1:Int),(i1=0->z4k x7 x6)->j4d x0 i1 x2 x3 x4 x5 x6 x1 x7 x11 x12
 def jgv:=Ji ((↑x10.1:Int)<(↑x3:Int)) (j4f x0 x1 x2 x3 x4 x6 x7 x10 x11 x12) (jgy x0 x1 x2 x3 x4 x5 x6 x7 x10 x11 x12)
 def zwz:=∃(i0:GJ×ByteArray),GJ.k i0.1=GJ.k x6/\GJ.n i0.1=GJ.n x6/\GJ.s i0.1=GJ.s x6/\(GJ.y i0.1).1=(GJ.y x6).1/\(GJ.y i0.1).2.1=(GJ.y x6).2.1/\(GJ.y i0.1).2.2=(GJ.y x6).2.2/\(GJ.x i0.1).1=(GJ.x x6).1/\(GJ.x i0.1).2.1=(GJ.x x6).2.1/\(GJ.x i0.1).2.2=(GJ.x x6).2.2/\i0.2=mkS [100,101,102,97,117,108,116]/\GJ.wf i0.1/\(∀i1,z5y x0 x2 x3 x4 x6 i1->GJ.ok i0.1 i1)/\∃(i2:List AT×Int×GJ×ByteArray×Bool),GJ.k i2.2.2.1=GJ.k x6/\GJ.n i2.2.2.1=GJ.n x6/\GJ.s i2.2.2.1=GJ.s x6/\(GJ.y i2.2.2.1).1=(GJ.y x6).1/\(GJ.y i2.2.2.1).2.1=(GJ.y x6).2.1/\(GJ.y i2.2.2.1).2.2=(GJ.y x6).2.2/\(GJ.x i2.2.2.1).1=(GJ.x x6).1/\(GJ.x i2.2.2.1).2.1=(GJ.x x6).2.1/\(GJ.x i2.2.2.1).2.2=(GJ.x x6).2.2/\i2.2.2.2.1=mkS [100,101,102,97,117,108,116]/\i2.2.2.2.2=false/\length i2.1=length x5/\i2.2.1=x9.2/\z00 AT.cells i2.1=z00 AT.cells x0.1/\GJ.wf i2.2.2.1/\(∀i3,z5y x0 x2 x3 x4 x6 i3->GJ.ok i2.2.2.1 i3)/\(∃(i4:Nat×Bool),zeo x0 i0 (i4.2=false/\x1=x1/\zjr x2 x3 x4 i2 ((↑i4.1:Int)=0/\length i2.1=length i2.1/\zpa i2 (z85 x0 x2 x3 x4 x6 (i4.1<=length (smL x6 x7)/\True)))))/\∀(i5:Nat×Bool),i5.1<=length (smL x6 x7)->jgv x0 x1 x2 x3 x4 x5 x6 x7 i5 i0 i2
 def jgw:=Ji (x9.2=0) (jgx x0 x1 x2 x3 x4 x5 x6 x7 x9) (zwz x0 x1 x2 x3 x4 x5 x6 x7 x9)
 def jgu:=Ji ((↑x9.1:Int)<(↑x3:Int)) (jgw x0 x1 x2 x3 x4 x5 x6 x7 x9) (zwz x0 x1 x2 x3 x4 x5 x6 x7 x9)
 def jgt:=(∃(i0:Nat×Int),z3o x0/\x1=x1/\(↑i0.1:Int)=0/\z8r x2 x3 x4 x5 (i0.2=x7/\z7n x0/\z85 x0 x2 x3 x4 x6 ((zpb x8 x6 i0)/\True)))/\∀(i2:Nat×Int),zpb x8 x6 i2->jgu x0 x1 x2 x3 x4 x5 x6 x8 i2
 def jgs:=(Ji (30<(↑x3:Int)) (∃(i0:List AT),zx3 x0 x1 x2 x3 x4 i0 x7 3 (z85 x0 x2 x3 x4 x6 ((faE x1 (3:Int)=0->z4k x8 x6)/\True)) x5) (z3o x0/\x7=x7/\z8r x2 x3 x4 x5 (x1=x1/\z7n x0/\z85 x0 x2 x3 x4 x6 ((x1=0->z4k x8 x6)/\True))))/\∀(i3:Int),(i3=0->z4k x8 x6)->jgt x0 x7 x2 x3 x4 x5 x6 i3 x8
 def jgr:=(Ji ((↑x3:Int)=0) (∃(i0:List AT),zx3 x0 x1 x2 x3 x4 i0 x7 6 (z85 x0 x2 x3 x4 x6 ((faE x1 (6:Int)=0->zpc x8 x6)/\True)) x5) (z3o x0/\x7=x7/\z8r x2 x3 x4 x5 (x1=x1/\z7n x0/\z85 x0 x2 x3 x4 x6 ((x1=0->zpc x8 x6)/\True))))/\∀(i3:Int),(i3=0->zpc x8 x6)->jgs x0 i3 x2 x3 x4 x5 x6 x7 x8
 def jgq:=(((!(z43 x0).1)=true->∃(i0:List AT),(2:Int)=2/\length i0=length x0.1/\(z43 x0).2=(z43 x0).2/\zjs x0 i0 (z3o x0/\x1=x1/\x2=x2/\x3=x3/\x4=x4/\z7o x5 i0/\faE (z43 x0).2 (2:Int)=faE (z43 x0).2 2/\zep x0 i0/\z85 x0 x2 x3 x4 x6 ((faE (z43 x0).2 (2:Int)=0->x7=0)/\True)))/\((!(z43 x0).1)=false->j4m x0 x1 x2 x3 x4 x5 x6 x7))/\∀(i3:Int),(i3=0->x7=0)->jgr x0 i3 x2 x3 x4 x5 x6 x1 x7
end
def znj(S:List AT) (e:Int) (g:GJ) (i:Int):qkj P (qfv [(112,z68),(75,z5o),(109,z8a),(141,zd8),(72,z2a)]) (qgy []) Try.f114 zlr (j29) ⟨S,e,g,i⟩=(length S<=60/\GJ.wf g/\0<=i/\(e=0->i<(↑(length S):Int))->(∃(p:Pub),True/\GJ.ok g p)->∃(s:List AT×Int×GJ×ByteArray),GJ.k s.2.2.1=GJ.k g/\GJ.n s.2.2.1=GJ.n g/\GJ.s s.2.2.1=GJ.s g/\(GJ.y s.2.2.1).1=(GJ.y g).1/\(GJ.y s.2.2.1).2.1=(GJ.y g).2.1/\(GJ.y s.2.2.1).2.2=(GJ.y g).2.2/\(GJ.x s.2.2.1).1=(GJ.x g).1/\(GJ.x s.2.2.1).2.1=(GJ.x g).2.1/\(GJ.x s.2.2.1).2.2=(GJ.x g).2.2/\s.2.2.2=mkS [115,121,109,98,111,108,115]/\length s.1=length S/\s.2.1=e/\zep s S/\GJ.wf s.2.2.1/\(∀(p:Pub),True/\GJ.ok g p->GJ.ok s.2.2.1 p)/\∀(b:Unit),True->∀(a:Option Addr) (n c:Nat),(∃(p:Pub),z5y s a n c g p)->jgq s i a n c S g e):=by kernel_rfl
def zul:=λS e g i=>Eq.trans (znj S e g i) (by delta Ji Jb Jt Jf zep z5y z43 zjs z3o z7o z85 z7n j4m zx3 zpc z8r z4k zpb zpd zp9 zeq zp8 zp7 zx6 j4k j4e j4l j4c j4b jgx zeo z3p zjr zpa zx5 zx1 j4j j4h j4f zx0 j4i zx4 zjq zx2 j4g j4d jgy jgv zwz jgw jgu jgt jgs jgr jgq;exact rfl)
section
def zco:∀{l:List GJ} {e:Int} {acc:List ByteArray},GJ.wfs l->(∀x∈acc,x.size<1000)->∀x∈(z4d l e acc).1,x.size<1000
  | [],e,acc,_,ha=>by rw[z4d];exact ha
  | g ::l,e,acc,hw,ha=>by
    rw[GJ.wfs]at hw
    rw[z4d]
    split
    · refine zco hw.2 λx hx=> ?_
      rcases List.mem_append.1 hx with hx|hx
      · exact ha x hx
      · simp at hx;subst hx;have:=hw.1;rw[GJ.wf_eq]at this;exact this.1
    · exact ha
def j1y:∀{l:List GJ} {e:Int} {acc:List ByteArray},(z4d l e acc).2=0->e=0
  | [],e,acc,h=>by rw[z4d]at h;exact h
  | g::l,e,acc,h=>by
    rw[z4d]at h
    split at h
    · assumption
    · exact h
def z3s{e k:Int} (hk:k≠0):faE e k=0->False:=λh=>z0r hk h
variable {g:GJ} {s:ByteArray} {e:Int}
def z7i(hg:g.wf):∀x∈(z2c g s e).1,x.size<1000:=by
 unfold z2c
 split
 ·have:=(z19 s hg).1
  rw[GJ.wf_eq]at this
  exact zco this.2.2.2.2.2.2 λx hx=>(by cases hx)
 ·intro x hx;cases hx
def zcn:∀{l:List GJ} {e:Int} {acc:List ByteArray},(z4d l e acc).1.length<=acc.length+l.length
  | [],e,acc=>by rw[z4d];exact Nat.le_refl _
  | g ::l,e,acc=>by
    rw[z4d]
    split
    · refine Nat.le_trans zcn ?_
      simp;omega
    · simp
def z7h(hg:g.wf):(z2c g s e).1.length<1000:=by
 unfold z2c
 split
 ·have:=(z19 s hg).1
  rw[GJ.wf_eq]at this
  refine Nat.lt_of_le_of_lt zcn ?_
  simp;exact this.2.1
 ·exact Nat.zero_lt_succ _
def zi7:(z2c g s e).2.2=0->e=0:=by
 unfold z2c
 split
 ·intro h
  have:=j1y h
  unfold tyE at this
  split at this
  ·exact this
  ·exact absurd this (z0r (by decide))
 ·exactλh=>h
def zuq{b:Bool}:(woR g s b e).2=0->e=0:=by
 unfold woR
 split
 ·split
  ·exactλh=>absurd h (z0r (by decide))
  ·exactλh=>h
 ·split
  ·exactλh=>h
  ·exactλh=>absurd h (z0r (by decide))
def z79(S:List AT) (k:Nat) (hk:k<S.length) (x:AT):z00 AT.cells (S.set k x)=z00 AT.cells (S.take k)++(x.cells++z00 AT.cells (S.drop (k+1))):=by
 rw[List.set_eq_take_append_cons_drop,if_pos hk,z07,z1n]
def z8l(S:List AT) (k:Nat) (hk:k<S.length):z00 AT.cells S=z00 AT.cells (S.take k)++((S[k]).cells++z00 AT.cells (S.drop (k+1))):=by
 rw[←z79 S k hk,List.set_getElem_self]
def z8m(S:List AT) (k:Nat) (hk:k<S.length):(z00 AT.cells (S.take k)).length=k*10:=by
 rw[z01 z1x,List.length_take];congr 1;omega
def znl(S:List AT) (k:Nat) (hk:k<S.length) (y:SV) (l:List ByteArray) (hd:Bool) (df:ByteArray):z00 AT.cells (S.set k {S[k]with sy:=y,sys:=l,hd:=hd,df:=df})=spl (spl (spl (z00 AT.cells S) (0+k*10+4) [svV y]) (0+k*10+5) [.bool hd]) (0+k*10+6) [.string df]:=by
 rw[z79 S k hk]
 conv=>rhs;rw[z8l S k hk]
 rw[Nat.zero_add,←z8m S k hk]
 generalize z00 AT.cells (S.take k)=A
 generalize z00 AT.cells (S.drop (k+1))=B
 show _=(((A++((S[k]).cells++B)).set (A.length+4) (svV y)).set (A.length+5) (.bool hd)).set (A.length+6) (.string df)
 rw[z3x,z3x,z3x]
 rfl
def zum:q1u P 114 zlr:=by
 refine qjr mixed (qdh (qh9 z7e (qh9 z36 (qh9 z7j (qh9 z9v (qh9 z17 qk5)))))) (qe7 qk4) (W:=j29) Try.func114 (by kernel_rfl) (by decide) (by decide) (λs=>by kernel_rfl) λ⟨S,(e:Int),g,(i:Int)⟩=>(zul S e g i).mpr ?_
 rintro⟨hS,hg,hi0,hi1⟩ ⟨p,_,hp⟩
 simp only[sbS,exists_const,forall_const,Int.toNat_natCast]
 refine⟨⟨S,e,g,mkS [115,121,109,98,111,108,115]⟩,rfl,rfl,rfl,rfl,rfl,rfl,rfl,rfl,rfl,rfl,rfl,rfl,rfl,hg,λq hq=>hq,?_⟩
 have hL:(z2c g (mkS [115,121,109,98,111,108,115]) e).1=smL g e:=rfl
 have hsz:∀x∈smL g e,x.size<1000:=z7i hg
 have hLl:(smL g e).length<1000:=z7h hg
 have hE:(z2c g (mkS [115,121,109,98,111,108,115]) e).2.2=0->e=0:=zi7
 simp only[hL]
 generalize z2c g (mkS [115,121,109,98,111,108,115]) e=F at*
 generalize smL g e=L at*
 clear hL
 rintro a n c ⟨p1,hp1,hl1⟩
 have hn:n=L.length:=hl1.1
 subst hn
 have hat:=λ(j:Nat) (hj:j<L.length) (q:Pub) (hq:slP txV (a,L.length,c) L q)=>(show a≠noA/\q3f q (adr a (j*1)) [.string L[j]]from z14 z0m (by decide) hq hj)
 refine⟨⟨λ_=>⟨S,rfl,rfl,rfl,rfl,λh=>(z3s (by decide) h).elim⟩,λ_=>⟨trivial,hE⟩⟩,?_⟩
 intro e1 h1
 refine⟨⟨λ_=>⟨S,rfl,rfl,rfl,rfl,λh=>(z3s (by decide) h).elim⟩,λhz h=>⟨h1 h,λhh=>hz (by rw[hh];rfl)⟩⟩,?_⟩
 intro e2 h2
 refine⟨⟨λ_=>⟨S,rfl,rfl,rfl,rfl,λh=>(z3s (by decide) h).elim⟩,λhz h=>⟨(h2 h).1,(h2 h).2,by omega⟩⟩,?_⟩
 intro e3 h3
 refine⟨⟨⟨0,e3⟩,rfl,rfl,Nat.zero_le _,h3⟩,?_⟩
 rintro⟨j,e4⟩ ⟨hj,h4⟩
 simp only at*
 refine⟨λhlt=>⟨λh0=>⟨⟨by omega,(hat j (by omega) p1 hl1).1,L[j]'(by omega),λq hq=>(hat j (by omega) q hq.2).2,by have:=hsz _ (List.getElem_mem (show j<L.length by omega));omega,λ_=>⟨S,rfl,rfl,rfl,rfl,λh=>(z3s (by decide) h).elim⟩,λ_=>h4⟩,?_⟩,λh0=> ?xa⟩,λhge=> ?xb⟩
 ·intro e5 h5
  refine⟨⟨⟨0,e5⟩,rfl,rfl,by show(0:Int)<=_;omega,h5⟩,?_⟩
  rintro⟨k,e6⟩ ⟨hk,h6⟩
  simp only at*
  refine⟨λhkj=>⟨⟨by omega,by omega⟩,(hat k (by omega) p1 hl1).1,L[k]'(by omega),λq hq=>(hat k (by omega) q hq.2).2,⟨by omega,by omega⟩,(hat j (by omega) p1 hl1).1,L[j]'(by omega),λq hq=>(hat j (by omega) q hq.2).2,λ_=>⟨S,rfl,rfl,⟨by omega,by omega⟩,⟨k+1,faE e6 5⟩,by show((k+1:Nat):Int)=_;omega,rfl,rfl,rfl,⟨by show((k+1:Nat):Int)<=_;omega,λh=>(z3s (by decide) h).elim⟩,by show((j:Int)- ((k+1:Nat):Int)).toNat<_;omega⟩,λ_=>⟨⟨by omega,by omega⟩,⟨k+1,e6⟩,by show((k+1:Nat):Int)=_;omega,rfl,⟨by show((k+1:Nat):Int)<=_;omega,h6⟩,by show((j:Int)- ((k+1:Nat):Int)).toNat<_;omega⟩⟩,λhkj=>⟨⟨by omega,by omega⟩,⟨j+1,e6⟩,by show((j+1:Nat):Int)=_;omega,rfl,⟨by show j+1<=_;omega,h6⟩,by show _- (j+1)<_;omega⟩⟩
 case xa|xb=>
  refine⟨⟨g,mkS [100,101,102,97,117,108,116]⟩,rfl,rfl,rfl,rfl,rfl,rfl,rfl,rfl,rfl,rfl,hg,λq hq=>hq.1,⟨S,e4,g,mkS [100,101,102,97,117,108,116],false⟩,rfl,rfl,rfl,rfl,rfl,rfl,rfl,rfl,rfl,rfl,rfl,rfl,rfl,rfl,hg,λq hq=>hq.1,⟨⟨0,false⟩,rfl,rfl,Nat.zero_le _⟩,?_⟩
  rintro⟨k,b⟩ hk
  simp only at*
  have hw:(woR g (mkS [100,101,102,97,117,108,116]) false e4).2=0->e=0/\L≠[]/\L.length<=30:=λh=>h4 (zuq h)
  generalize woR g (mkS [100,101,102,97,117,108,116]) false e4=W at*
  generalize (z0k (mkS [100,101,102,97,117,108,116]) g).isSome=hb at*
  refine⟨λhkl=>⟨λ_=>⟨⟨by omega,by omega⟩,⟨k+1,true⟩,rfl,by show((k+1:Nat):Int)=_;omega,by show k+1<=_;omega,by show _- (k+1)<_;omega⟩,λ_=>⟨by omega,(hat k (by omega) p1 hl1).1,L[k]'(by omega),λq hq=>(hat k (by omega) q hq.2).2,⟨by omega,by omega⟩,⟨k+1,_⟩,rfl,by show((k+1:Nat):Int)=_;omega,by show k+1<=_;omega,by show _- (k+1)<_;omega⟩⟩,λhkl=>⟨⟨λ_=>⟨λ_=>⟨S,rfl,rfl,rfl,rfl,λh=>(z3s (by decide) h).elim⟩,λ_=>⟨trivial,hw⟩⟩,λ_=>⟨trivial,hw⟩⟩,?_⟩⟩
  intro e8 h8
  refine⟨λhz=> ?_,λhz=>⟨⟨e8,(a,L.length,c),L,hb,W.1⟩,by show(if e8=0 then _ else S).length=_;rw[if_neg hz],rfl,by show z00 AT.cells (if e8=0 then _ else S)=_;rw[if_neg hz],h8,λq hq=>hq.2⟩⟩
  obtain⟨z0,z1,z2⟩:=h8 hz
  have hi:=hi1 z0
  obtain⟨m,rfl⟩:=Int.eq_ofNat_of_zero_le hi0
  have hm:m<S.length:=by omega
  have es:znk S (m:Int) (a,L.length,c) L hb W.1=S.set m {S[m]with sy:=(a,L.length,c),sys:=L,hd:=hb,df:=W.1}:=by
   unfold znk;rw[Int.toNat_natCast,List.getElem?_eq_getElem hm]
  have hrl:=z01 z1x S
  simp only[Int.toNat_natCast,q8f,List.length_singleton]
  refine⟨⟨hi0,hi⟩,by omega,⟨hi0,hi⟩,by omega,⟨hi0,hi⟩,by omega,⟨e8,(a,L.length,c),L,hb,W.1⟩,?_,rfl,?_,h8,λq hq=>hq.2⟩
  ·show(if e8=0 then znk S (m:Int) (a,L.length,c) L hb W.1 else S).length=_
   rw[if_pos hz,es,List.length_set]
  ·show z00 AT.cells (if e8=0 then znk S (m:Int) (a,L.length,c) L hb W.1 else S)=_
   rw[if_pos hz,es]
   exact znl S m hm _ _ _ _
end
abbrev FdS:=List AT×Int×GJ×Int×ByteArray×Int
abbrev FdB:=List AT×Int×SV×List AF
def z9n(S:List AT) (at_:Int) (x:SV) (l:List AF):List AT:=match S[at_.toNat]? with
 |some a=>S.set at_.toNat {a with f:=x,fs:=l}
 |none=>S
def tfM(T:List AT) (l:List AF):PF:=⟨true,λp=>(∀a∈T,a.ok p)/\∀f∈l,f.ok p,λ_ _ h e=>⟨λa ha=>AT.ok_mono h (e.1 a ha),λf hf=>⟨z0d h (e.2 f hf).1,GJ.ok_mono h (e.2 f hf).2⟩⟩⟩
def z4v:CtR where
 σ:=FdS
 args:=λ⟨S,e,g,i,sp,d⟩=>[.ptr 1 0,g.av, .sv (.int .i64 i), .sv (.string sp), .sv (.int .i64 d)]
 h:=λ⟨S,e,g,i,sp,d⟩=>mkO S e 2 3
 m:=4
 pre:=λ⟨S,e,g,i,sp,d⟩=>S.length<=60/\g.wf/\0<=i/\(e=0->i<S.length)/\1<=d/\d<=20/\(sp.size:Int)<=1100*(d+1)
 mem:=λ⟨S,e,g,i,sp,d⟩=>gM g
 β:=λ_=>FdB
 post:=λ⟨S,e,g,i,sp,d⟩ ⟨T,e',x,fs⟩=>(S++T).length<=60/\(e'=0->e=0/\(∀a∈T,z2e (S++T).length a)/\(∀f∈fs,(0<=f.ty/\f.ty<(S++T).length)/\f.df.wf)/\fs.length<=30)
 pm:=λ_ ⟨T,e',x,fs⟩=>⟨true,λp=>(∀a∈T,a.ok p)/\slP AF.cells x fs p/\∀f∈fs,f.ok p,λ_ _ h e=>⟨λa ha=>AT.ok_mono h (e.1 a ha),z0d h e.2.1,λf hf=>⟨z0d h (e.2.2 f hf).1,GJ.ok_mono h (e.2.2 f hf).2⟩⟩⟩
 r:=λ_ _=> .tup []
 h':=λ⟨S,e,g,i,sp,d⟩ ⟨T,e',x,fs⟩=>mkO ((if e'=0 then z9n S i x fs else S)++T) e' 4 5
 m':=6
def j0o:FdS->Nat:=λ⟨S,e,g,i,sp,d⟩=>(25- d).toNat
def j8w(h:T AO) (e:Int):List (Nat×AO):=match h.get 1 with
 |some (.cells a b c [sl,_])=>[(1, .cells a b c [sl, .sv (.int .i64 e)])]
 |_=>[]
def fdN:ByteArray:=mkS [102,105,101,108,100,115]
def fdJ(g:GJ):GJ:=(z0k fdN g).getD zJ
abbrev FlS:=Nat×Int×List AT×List AF
def zlz(S:List AT) (e:Int) (g:GJ):FlS->Prop:=λ⟨i,e',T,fs⟩=>i<=(fdJ g).l.length/\fs.length<=i/\(S++T).length<=60/\(e'=0->e=0/\(∀a∈T,z2e (S++T).length a)/\(∀f∈fs,(0<=f.ty/\f.ty<(S++T).length)/\f.df.wf))
def zcv:FdS->WayF:=λ⟨S,e,g,i,sp,d⟩=>{
 cut:=λr t h=>match r with
  |15=>some {σ:=Bool,t:=λb=>[(78, .sv (.bool b))],h:=λ_=>[],more:=0,μ:=λ_=>0,keep:=[0,2,3,4,6,10,12,13,14,15]}
  |16=>match mkE h 1 with|none=>none|some e0=>some {σ:=Int,pre:=λe'=>e'=0->e0=0,find:=some λ_ h=>mkE h 1,t:=λ_=>[],h:=λe'=>j8w h e',more:=0,μ:=λ_=>0,keep:=[0,2,3,4,6,10,12,13,14,15]}
  |24=>match mkE h 1 with|none=>none|some e0=>some {σ:=Int,pre:=λe'=>e'=0->e0=0,find:=some λ_ h=>mkE h 1,t:=λ_=>[],h:=λe'=>j8w h e',more:=0,μ:=λ_=>0,keep:=[0,2,3,4,6,10,12,13,14,15,17]}
  |_=>none
 ann:=λid t h=>match id with
  |0=>some {σ:=FlS,pre:=zlz S e g,mem:=λ⟨i,e',T,fs⟩=>tfM T fs,t:=λ⟨i,e',T,fs⟩=>[(13, .sv (.int .i64 (i:Int))),(12, .ssl 9 0 fs.length 9 10)],h:=λ⟨i,e',T,fs⟩=>mkO (S++T) e' 7 8++[(9, .row 57 0 (z00 AF.cells fs))],more:=4,μ:=λ⟨i,e',T,fs⟩=>(fdJ g).l.length- i,keep:=[0,2,3,4,6,10],del:=[2]}
  |2=>match mkE h 1 with|none=>none|some e0=>some {σ:=Nat×Int,pre:=λ⟨k,e'⟩=>e'=0->e0=0,t:=λ⟨k,e'⟩=>[(16, .sv (.int .i64 (k:Int)))],h:=λ⟨k,e'⟩=>j8w h e',more:=0,μ:=λ⟨k,e'⟩=>100- k,keep:=[0,2,3,4,6,10,12,13,14,15]}
  |_=>match mkE h 1 with|none=>none|some e0=>some {σ:=Nat×Int,pre:=λ⟨k,e'⟩=>e'=0->e0=0,t:=λ⟨k,e'⟩=>[(19, .sv (.int .i64 (k:Int)))],h:=λ⟨k,e'⟩=>j8w h e',more:=0,μ:=λ⟨k,e'⟩=>2000- k,keep:=[0,2,3,4,6,10,12,13,14,15]}
 pub:=λi k=>match i,k with
  |34,9=>[165]
  |_,_=>[]}
section
variable (x0:GJ×ByteArray) (x1:List AT) (x2 x3:Int) (x4:GJ) (x5:ByteArray) (x6:Int) (x7:Nat) (x8:FlS) (x9:List AT×Int×GJ×ByteArray×Bool) (x10 x11:Int) (x12:ByteArray) (x13:Option Addr) (x14:Nat) (x15:Option Addr) (x16 x17 x18:Nat) (x19:Int) (x20:Nat×Int) (x21:GJ×ByteArray) (x22:List AT×Int×GJ×ByteArray) (x23:Option Addr) (x24:Nat) (x25:TmB) (x26:Prop) (x27:Nat->Option Obj) (x28:FdB) (x29:Bool) (x30:Nat×Int)
 abbrev z7q:=(if x28.2.1=0 then z9n x1 x2 x28.2.2.1 x28.2.2.2 else x1)++x28.1
 def j4o:=x2=0/\(∀(i0:AT),i0∈x28.1->z2e (length (x1++x28.1)) i0)/\(∀(i1:AF),i1∈x28.2.2.2->(0<=AF.ty i1/\AF.ty i1<(↑(length (x1++x28.1)):Int))/\GJ.wf (AF.df i1))/\length x28.2.2.2<=30
 def zjv:=(length (x1++x28.1)<=60/\(x28.2.1=0->j4o x1 x2 x28))
 def zjt:=(∀(i0:AT),i0∈x28.1->AT.ok i0 x27)/\slP AF.cells x28.2.2.1 x28.2.2.2 x27/\∀(i1:AF),i1∈x28.2.2.2->AF.ok i1 x27
 def zpe:=∃(i0:List AT),x6=x6/\length i0=length x1/\x2=x2/\z00 AT.cells i0=z00 AT.cells x1/\True/\∃(i1:FdB),length (z7q x1 x3 i1)=length i0/\i1.2.1=faE x2 x6/\z00 AT.cells (z7q x1 x3 i1)=z00 AT.cells i0/\zjv x1 x2 i1/\(∀i2,True/\GJ.ok x4 i2->zjt i2 i1)/\True
 abbrev z0q:=Option.getD (z0k x0.2 x0.1) zJ
 abbrev zpj:=(↑(GJ.y (z0q x0)).2.1:Int)
 def zpf:=GJ.k x4=GJ.k x4/\GJ.n x4=GJ.n x4/\GJ.s x4=GJ.s x4/\(GJ.y x4).1=(GJ.y x4).1/\(GJ.y x4).2.1=(GJ.y x4).2.1/\(GJ.y x4).2.2=(GJ.y x4).2.2/\(GJ.x x4).1=(GJ.x x4).1/\(GJ.x x4).2.1=(GJ.x x4).2.1/\(GJ.x x4).2.2=(GJ.x x4).2.2/\x26
 def z2g:=GJ.k (z0q x0)=GJ.k (z0q x0)/\GJ.n (z0q x0)=GJ.n (z0q x0)/\GJ.s (z0q x0)=GJ.s (z0q x0)/\(GJ.y (z0q x0)).1=(GJ.y (z0q x0)).1/\(GJ.y (z0q x0)).2.1=(GJ.y (z0q x0)).2.1/\(GJ.y (z0q x0)).2.2=(GJ.y (z0q x0)).2.2/\(GJ.x (z0q x0)).1=(GJ.x (z0q x0)).1/\(GJ.x (z0q x0)).2.1=(GJ.x (z0q x0)).2.1/\(GJ.x (z0q x0)).2.2=(GJ.x (z0q x0)).2.2/\x26
 def zpg:=(∀(i0:AT),i0∈x8.2.2.1->AT.ok i0 x27)/\∀(i1:AF),i1∈x8.2.2.2->AF.ok i1 x27
 def z4l:=(True/\GJ.ok x4 x27)/\zpg x8 x27
 abbrev z2h:=woR x9.2.2.1 x9.2.2.2.1 x9.2.2.2.2 x9.2.1
 abbrev zjy:=(z2h x9).2=0
 def zjw:=length x8.2.2.2=length x8.2.2.2
 def z5z:=(↑x8.1:Int)=(↑x8.1:Int)/\x2=x2/\x3=x3/\zjw x8/\x26
 def zk1:=length x9.1=length x9.1
 def zjx:=z00 AT.cells x9.1=z00 AT.cells x9.1
 def zph:=zk1 x9/\(z2h x9).2=(z2h x9).2/\zjx x9/\x26
 def z44:=x2=x2/\x3=x3/\x5=x5/\x13=x13/\x7=x7/\x14=x14/\x15=x15/\x16=x16/\x17=x17/\z00 AF.cells x8.2.2.2=z00 AF.cells x8.2.2.2/\zpf x4 ((z2h x9).1=(z2h x9).1/\x26)
 def z60:=(∀i0,(z4l x4 x8 i0)->z4l x4 x8 i0)
 def j4x:=(z2h x9).1=(z2h x9).1/\size (z2h x9).1<1000000/\∃(i0:Bool),x5=x5/\z5z x2 x3 x8 (i0= !z2x (z2h x9).1/\zph x9 (z44 x6 x10 x4 x12 x7 x8 x9 x13 x14 x15 x16 x17 (z2g x0 (z60 x4 x8/\True/\True))))
 def j4s:=(x29=true->∃(i0:List AT),(6:Int)=6/\length i0=length x9.1/\(z2h x9).2=(z2h x9).2/\z00 AT.cells i0=z00 AT.cells x9.1/\True/\x5=x5/\z5z x2 x3 x8 (length x9.1=length i0/\faE (z2h x9).2 (6:Int)=faE (z2h x9).2 6/\z00 AT.cells x9.1=z00 AT.cells i0/\z44 x6 x10 x4 x12 x7 x8 x9 x13 x14 x15 x16 x17 (z2g x0 (z60 x4 x8/\(faE (z2h x9).2 (6:Int)=0->zjy x9)/\True))))/\(x29=false->x5=x5/\z5z x2 x3 x8 (zph x9 (z44 x6 x10 x4 x12 x7 x8 x9 x13 x14 x15 x16 x17 (z2g x0 (z60 x4 x8/\((z2h x9).2=0->zjy x9)/\True)))))
 def zk0:=x20.2=0->x2=0
 def zxb:=x2=x2/\length x1=length x9.1/\x20.2=x20.2/\z00 AT.cells x1=z00 AT.cells x9.1/\True/\x26
 abbrev zju:=Jb ((↑x20.1:Int)+1)
 def zk2:=(↑x20.1:Int)=(↑x30.1:Int)+1
 def j4w:=zju x20/\∃(i0:Nat×Int),x5=x5/\(↑x8.1:Int)=(↑x8.1:Int)/\x2=x2/\x3=x3/\zk2 i0 x20/\zjw x8/\zk1 x9/\i0.2=x20.2/\zjx x9/\z44 x6 x10 x4 x12 x7 x8 x9 x13 x14 x15 x16 x17 (z2g x0 (z60 x4 x8/\(zk0 x11 i0)/\(100:Nat)- i0.1<100- x20.1/\True))
 def j4r:=(0<=(↑x20.1:Int)/\(↑x20.1:Int)<(↑(length x8.2.2.2):Int))/\∃i0,(∀(i1:Nat) (i2:Value),[string i0][i1]? =some i2->(z00 AF.cells x8.2.2.2)[nat_lit 0+toNat (↑x20.1:Int)*nat_lit 9+0+i1]? =some i2)/\Ji (i0=(z2h x9).1) (∃(i3:List AT),zxb i3 5 x9 x20 (zju x20/\∃(i4:Nat×Int),x5=x5/\(↑x8.1:Int)=(↑x8.1:Int)/\x2=x2/\x3=x3/\zk2 i4 x20/\zjw x8/\length x9.1=length i3/\i4.2=faE x20.2 5/\z00 AT.cells x9.1=z00 AT.cells i3/\z44 x6 x10 x4 x12 x7 x8 x9 x13 x14 x15 x16 x17 (z2g x0 (z60 x4 x8/\(zk0 x11 i4)/\(100:Nat)- i4.1<100- x20.1/\True)))) (j4w x0 x2 x3 x4 x5 x6 x7 x8 x9 x10 x11 x12 x13 x14 x15 x16 x17 x20)
 def zxa:=GJ.k x0.1=x2/\GJ.n x0.1=x3/\GJ.s x0.1=x5/\(GJ.y x0.1).1=x13/\(GJ.y x0.1).2.1=x7/\(GJ.y x0.1).2.2=x14/\(GJ.x x0.1).1=x15/\(GJ.x x0.1).2.1=x16/\(GJ.x x0.1).2.2=x17/\x26
 def zjz:=(z4l x4 x8 x27)/\∀(i0:AT),i0∈x25.1->AT.ok i0 x27
 def z7p:=(zjz x4 x8 x25 x27)/\slP txV (x13,x7,x14) (z2c x22.2.2.1 x22.2.2.2 x22.2.1).1 x27
 def zpi:=x20.2=0->(z2c x22.2.2.1 x22.2.2.2 x22.2.1).2.2=0
 def zx9:=x13=x13/\x7=x7/\x14=x14/\x25.2.2=x25.2.2/\Option.isSome (z0k x0.2 x0.1)=Option.isSome (z0k x0.2 x0.1)/\z2g x0 (z2g x21 ((∀i0,z7p x4 x7 x8 x13 x14 x22 x25 i0->z7p x4 x7 x8 x13 x14 x22 x25 i0)/\(zpi x20 x22)/\(2000:Nat)- x20.1<2000- x30.1/\True))
 def j4v:=zju x20/\∃(i0:Nat×Int),x5=x5/\zk2 i0 x20/\z5z x2 x3 x8 (length x22.1=length x22.1/\i0.2=x20.2/\z00 AT.cells x22.1=z00 AT.cells x22.1/\z44 x6 x10 x4 x12 x7 x8 x9 x13 x14 x15 x16 x17 (zx9 x0 x4 x18 x8 x23 x24 i0 x21 x22 x25 x20))
 def j4q:=(0<=(↑x20.1:Int)/\(↑x20.1:Int)<(↑x7:Int))/\x13≠noA/\∃i0,(∀i1,z7p x4 x7 x8 x13 x14 x22 x25 i1->q3f i1 (adr x13 (toNat (↑x20.1:Int)*1)) [string i0])/\i0=i0/\size i0<1000000/\((!z2x i0)=true->∃(i3:List AT),(6:Int)=6/\length i3=length x22.1/\x20.2=x20.2/\z00 AT.cells i3=z00 AT.cells x22.1/\True/\zju x20/\∃(i4:Nat×Int),x5=x5/\zk2 i4 x20/\z5z x2 x3 x8 (length x22.1=length i3/\i4.2=faE x20.2 6/\z00 AT.cells x22.1=z00 AT.cells i3/\z44 x6 x10 x4 x12 x16 x8 x9 x15 x17 x23 x18 x24 (zx9 x0 x4 x7 x8 x13 x14 i4 x21 x22 x25 x20)))/\((!z2x i0)=false->j4v x0 x2 x3 x4 x5 x6 x16 x8 x9 x10 x12 x15 x17 x23 x18 x24 x7 x20 x21 x22 x13 x14 x25)
 def zx8:=length (z00 AF.cells x8.2.2.2)=length x8.2.2.2*9/\(length x8.2.2.2+nat_lit 1)*136<=140737488355328/\Jb ((↑x8.1:Int)+1)/\∃(i0:FlS),x5=x5/\(↑i0.1:Int)=(↑x8.1:Int)+1/\x2=x2/\x3=x3/\length i0.2.2.2=length x8.2.2.2+nat_lit 1/\length (x1++i0.2.2.1)=length x22.1/\i0.2.1=x20.2/\z00 AT.cells (x1++i0.2.2.1)=z00 AT.cells x22.1/\z00 AF.cells i0.2.2.2=z00 AF.cells x8.2.2.2++[string (z2h x9).1,slice x13 x7 x14,int i64 x25.2.2,bool (Option.isSome (z0k x0.2 x0.1)),int i64 (GJ.k (z0q x0)),int i64 (GJ.n (z0q x0)),string (GJ.s (z0q x0)),slice (GJ.y (z0q x0)).1 (GJ.y (z0q x0)).2.1 (GJ.y (z0q x0)).2.2,slice (GJ.x (z0q x0)).1 (GJ.x (z0q x0)).2.1 (GJ.x (z0q x0)).2.2]/\zpf x4 (z2g x21 ((∀i1,z7p x4 x7 x8 x13 x14 x22 x25 i1->True/\GJ.ok x4 i1)/\(∀i5,z7p x4 x7 x8 x13 x14 x22 x25 i5->zpg i0 i5)/\zlz x1 x6 x4 i0/\length (GJ.l (fdJ x4))- i0.1<length (GJ.l (fdJ x4))- x8.1/\True))
 def j4p:=Ji (x20.2=0) (j4q x0 x2 x3 x4 x5 x6 x7 x8 x9 x10 x12 x13 x14 x15 x16 x17 x18 x20 x21 x22 x23 x24 x25) (zx8 x0 x1 x2 x3 x4 x5 x11 x7 x8 x9 x13 x14 x20 x21 x22 x25)
 def j4n:=Ji ((↑x20.1:Int)<(↑x7:Int)) (j4p x0 x1 x2 x3 x4 x5 x6 x7 x8 x9 x10 x11 x12 x13 x14 x15 x16 x17 x18 x20 x21 x22 x23 x24 x25) (zx8 x0 x1 x2 x3 x4 x5 x11 x7 x8 x9 x13 x14 x20 x21 x22 x25)
 def jh8:=(∃(i0:Nat×Int),x5=x5/\(↑i0.1:Int)=0/\z5z x2 x3 x8 (length x22.1=length x22.1/\i0.2=(z2c x22.2.2.1 x22.2.2.2 x22.2.1).2.2/\z00 AT.cells x22.1=z00 AT.cells x22.1/\z44 x6 x10 x4 x12 x7 x8 x9 x13 x14 x15 x16 x17 (x23=x23/\x18=x18/\x24=x24/\x25.2.2=x25.2.2/\Option.isSome (z0k x0.2 x0.1)=Option.isSome (z0k x0.2 x0.1)/\z2g x0 (z2g x21 ((∀i1,z7p x4 x18 x8 x23 x24 x22 x25 i1->z7p x4 x18 x8 x23 x24 x22 x25 i1)/\(zpi i0 x22)/\True)))))/\∀(i8:Nat×Int),(zpi i8 x22)->j4n x0 x1 x2 x3 x4 x5 x6 x18 x8 x9 x10 x11 x12 x23 x24 x13 x7 x14 x16 i8 x21 x22 x15 x17 x25
 def jh7:=Jb (x2+1)/\∃(i0:TmS),GJ.k i0.2.2.1=GJ.k (z0q x0)/\GJ.n i0.2.2.1=GJ.n (z0q x0)/\GJ.s i0.2.2.1=GJ.s (z0q x0)/\(GJ.y i0.2.2.1).1=(GJ.y (z0q x0)).1/\(GJ.y i0.2.2.1).2.1=(GJ.y (z0q x0)).2.1/\(GJ.y i0.2.2.1).2.2=(GJ.y (z0q x0)).2.2/\(GJ.x i0.2.2.1).1=(GJ.x (z0q x0)).1/\(GJ.x i0.2.2.1).2.1=(GJ.x (z0q x0)).2.1/\(GJ.x i0.2.2.1).2.2=(GJ.x (z0q x0)).2.2/\i0.2.2.2.1=x5/\i0.2.2.2.2=x2+1/\length i0.1=length x9.1/\i0.2.1=x3/\z00 AT.cells i0.1=z00 AT.cells x9.1/\(z6b i0<x7/\z3z i0)/\(∀i1,(z4l x4 x8 i1)->GJ.ok i0.2.2.1 i1)/\∀(i4:TmB),z0l i0 i4->(∃i5,zjz x4 x8 i4 i5)->∃(i9:GJ×ByteArray),zxa i9 x6 x10 x12 x14 x13 x16 x15 x17 x18 (i9.2=mkS [100,101,102,97,117,108,116]/\GJ.wf i9.1/\(∀i10,(zjz x4 x8 i4 i10)->GJ.ok i9.1 i10)/\∃(i14:List AT×Int×GJ×ByteArray),GJ.k i14.2.2.1=x6/\GJ.n i14.2.2.1=x10/\GJ.s i14.2.2.1=x12/\(GJ.y i14.2.2.1).1=x13/\(GJ.y i14.2.2.1).2.1=x14/\(GJ.y i14.2.2.1).2.2=x16/\(GJ.x i14.2.2.1).1=x15/\(GJ.x i14.2.2.1).2.1=x17/\(GJ.x i14.2.2.1).2.2=x18/\i14.2.2.2=mkS [97,108,105,97,115,101,115]/\length i14.1=length (i0.1++i4.1)/\i14.2.1=i4.2.1/\z00 AT.cells i14.1=z00 AT.cells (i0.1++i4.1)/\GJ.wf i14.2.2.1/\(∀i15,(zjz x4 x8 i4 i15)->GJ.ok i14.2.2.1 i15)/\∀(i19:Unit),True->∀(i20:Option Addr) (i21 i22:Nat),(∃i23,z7p x4 i21 x8 i20 i22 i14 i4 i23)->jh8 i9 x1 x11 x2 x4 x5 x6 x14 x8 x9 x10 x19 x12 x13 x16 x15 x17 x18 i21 x21 i14 i20 i22 i4)
 def jh6:=Ji ((↑x20.1:Int)<(↑(length x8.2.2.2):Int)) (j4r x0 x2 x3 x4 x5 x6 x7 x8 x9 x10 x11 x12 x13 x14 x15 x16 x17 x20) (∃(i16:GJ×ByteArray),zxa i16 x6 x10 x12 x7 x13 x14 x15 x16 x17 (i16.2=mkS [116,121,112,101]/\GJ.wf i16.1/\(∀i17,(z4l x4 x8 i17)->GJ.ok i16.1 i17)/\(((!Option.isSome (z0k i16.2 i16.1))=true->∃(i20:List AT),zxb i20 2 x9 x20 (x5=x5/\z5z x2 x3 x8 (length x9.1=length i20/\faE x20.2 (2:Int)=faE x20.2 2/\z00 AT.cells x9.1=z00 AT.cells i20/\z44 x6 x10 x4 x12 x7 x8 x9 x13 x14 x15 x16 x17 (z2g x0 (z2g i16 (z60 x4 x8/\(faE x20.2 (2:Int)=0->x20.2=0)/\True))))))/\((!Option.isSome (z0k i16.2 i16.1))=false->x5=x5/\z5z x2 x3 x8 (zk1 x9/\x20.2=x20.2/\zjx x9/\z44 x6 x10 x4 x12 x7 x8 x9 x13 x14 x15 x16 x17 (z2g x0 (z2g i16 (z60 x4 x8/\(x20.2=0->x20.2=0)/\True))))))/\∀(i31:Int),(i31=0->x20.2=0)->jh7 i16 x1 x3 i31 x4 x5 x6 x18 x8 x9 x10 x2 x12 x13 x7 x15 x14 x16 x17 x19 x0))
 def jh5:=(∃(i0:Nat×Int),x5=x5/\(↑x8.1:Int)=(↑x8.1:Int)/\x2=x2/\x3=x3/\(↑i0.1:Int)=0/\zjw x8/\zk1 x9/\i0.2=x6/\zjx x9/\z44 x10 x11 x4 x12 x7 x8 x9 x13 x14 x15 x16 x17 (z2g x0 (z60 x4 x8/\(zk0 x6 i0)/\True)))/\∀(i6:Nat×Int),(zk0 x6 i6)->jh6 x0 x1 x2 x3 x4 x5 x10 x7 x8 x9 x11 x6 x12 x13 x14 x15 x16 x17 x18 x19 i6
 def jh4:=(0<=(↑x8.1:Int)/\(↑x8.1:Int)<(zpj x0))/\(GJ.y (z0q x0)).1≠noA/\∃(i0:Int),∃(i1:Int),∃i2,∃i3,∃(i4:Nat),∃(i5:Nat),∃i6,∃(i7:Nat),∃(i8:Nat),(∀i9,(z4l x4 x8 i9)->q3f i9 (adr (GJ.y (z0q x0)).1 (toNat (↑x8.1:Int)*5)) [int i64 i0,int i64 i1,string i2,slice i3 i4 i5,slice i6 i7 i8])/\((!decide (i0=6))=true->∃(i12:List AT),(2:Int)=2/\length i12=length (x1++x8.2.2.1)/\x8.2.1=x8.2.1/\z00 AT.cells i12=z00 AT.cells (x1++x8.2.2.1)/\True/\∃(i13:FdB),length (z7q x1 x2 i13)=length i12/\i13.2.1=faE x8.2.1 2/\z00 AT.cells (z7q x1 x2 i13)=z00 AT.cells i12/\zjv x1 x3 i13/\(∀i16,(z4l x4 x8 i16)->zjt i16 i13)/\True)/\((!decide (i0=6))=false->∃(i21:List AT×Int×GJ×ByteArray×Bool),GJ.k i21.2.2.1=i0/\GJ.n i21.2.2.1=i1/\GJ.s i21.2.2.1=i2/\(GJ.y i21.2.2.1).1=i3/\(GJ.y i21.2.2.1).2.1=i4/\(GJ.y i21.2.2.1).2.2=i5/\(GJ.x i21.2.2.1).1=i6/\(GJ.x i21.2.2.1).2.1=i7/\(GJ.x i21.2.2.1).2.2=i8/\i21.2.2.2.1=mkS [110,97,109,101]/\i21.2.2.2.2=true/\length i21.1=length (x1++x8.2.2.1)/\i21.2.1=x8.2.1/\z00 AT.cells i21.1=z00 AT.cells (x1++x8.2.2.1)/\GJ.wf i21.2.2.1/\(∀i22,(z4l x4 x8 i22)->GJ.ok i21.2.2.1 i22)/\((Ji (zjy i21) (j4x x0 x2 x6 x4 x5 i0 i4 x8 i21 i1 i2 i3 i5 i6 i7 i8) (∃(i31:Bool),x5=x5/\z5z x2 x6 x8 (i31=false/\zph i21 (z44 i0 i1 x4 i2 i4 x8 i21 i3 i5 i6 i7 i8 (z2g x0 (z60 x4 x8/\True/\True))))))/\∀(i37:Bool),True->j4s x0 x2 x6 x4 x5 i0 i4 x8 i21 i1 i2 i3 i5 i6 i7 i8 i37)/\∀(i49:Int),(i49=0->zjy i21)->jh5 x0 x1 x2 x6 x4 x5 i49 i4 x8 i21 i0 i1 i2 i3 i5 i6 i7 i8 x7 x3)
 def zxc:=(z4l x4 x8 x27)/\length x8.2.2.2<=x7/\qhc x27 x13 (take (length x8.2.2.2*nat_lit 9) (z00 AF.cells x8.2.2.2))
 def j4u:=nat_lit 0+toNat x2*nat_lit 10+8+length [slice x13 (length x8.2.2.2) x7]<=length (z00 AT.cells (x1++x8.2.2.1))/\∃(i0:FdB),length (z7q x1 x2 i0)=length (x1++x8.2.2.1)/\i0.2.1=x8.2.1/\z00 AT.cells (z7q x1 x2 i0)=spl (z00 AT.cells (x1++x8.2.2.1)) (nat_lit 0+toNat x2*nat_lit 10+8) [slice x13 (length x8.2.2.2) x7]/\zjv x1 x3 i0/\(∀i1,zxc x4 x7 x8 x13 i1->zjt i1 i0)/\True
 def j4t:=(0<=x2/\x2<(↑(length (x1++x8.2.2.1)):Int))/\∀(i0 i1 i2:Nat) (i3:Option Addr) (i4 i5:Nat),(∃i6,zxc x4 i5 x8 i3 i6)->j4u x1 x2 x3 x4 i5 x8 i3
 def zx7:=Ji (x8.2.1=0) (j4t x1 x2 x3 x4 x8) (∃(i17:FdB),length (z7q x1 x2 i17)=length (x1++x8.2.2.1)/\i17.2.1=x8.2.1/\z00 AT.cells (z7q x1 x2 i17)=z00 AT.cells (x1++x8.2.2.1)/\zjv x1 x3 i17/\(∀i20,(z4l x4 x8 i20)->zjt i20 i17)/\True)
 def jh3:=Ji (x8.2.1=0) (jh4 x0 x1 x2 x3 x4 x5 x6 x7 x8) (zx7 x1 x2 x3 x4 x8)
 def jh2:=Ji ((↑x8.1:Int)<(zpj x0)) (jh3 x0 x1 x2 x3 x4 x5 x6 x7 x8) (zx7 x1 x2 x3 x4 x8)
 def jh1:=(∃(i0:FlS),x5=x5/\(↑i0.1:Int)=0/\x2=x2/\x3=x3/\length i0.2.2.2=0/\length (x1++i0.2.2.1)=length x1/\i0.2.1=x6/\z00 AT.cells (x1++i0.2.2.1)=z00 AT.cells x1/\zpf x4 (z2g x0 ((∀i1,True/\GJ.ok x4 i1->True/\GJ.ok x4 i1)/\(∀i2,True/\GJ.ok x4 i2->zpg i0 i2)/\zlz x1 x6 x4 i0/\True)))/\∀(i5:FlS),zlz x1 x6 x4 i5->(∃i6,z4l x4 i5 i6)->jh2 x0 x1 x2 x6 x4 x5 x3 x7 i5
 def jh0:=Ji (30<(zpj x0)) (zpe x1 x2 x3 x4 3) (jh1 x0 x1 x3 x6 x4 x5 x2 x7)
 def jgz:=((!decide (GJ.k (z0q x0)=5))=true->zpe x1 x2 x3 x4 2)/\((!decide (GJ.k (z0q x0)=5))=false->jh0 x0 x1 x2 x3 x4 x5 x6 x7)
end
def z9l(n:Nat) (S:List AT) (e:Int) (g:GJ) (i:Int) (sp:ByteArray) (d:Int):qkj P (qfv [(75,z5o),(109,z8a),(141,zd8),(112,z68),(72,z2a)]) (qgy [(46,z2b.below z6b n)]) Try.f113 (z4v.below j0o (n+1)) (zcv) ⟨S,e,g,i,sp,d⟩=(j0o (S,e,g,i,sp,d)<n+1/\length S<=60/\GJ.wf g/\0<=i/\(e=0->i<(↑(length S):Int))/\1<=d/\d<=20/\(↑(size sp):Int)<=1100*(d+1)->(∃(p:Pub),True/\GJ.ok g p)->∃(s:GJ×ByteArray),GJ.k s.1=GJ.k g/\GJ.n s.1=GJ.n g/\GJ.s s.1=GJ.s g/\(GJ.y s.1).1=(GJ.y g).1/\(GJ.y s.1).2.1=(GJ.y g).2.1/\(GJ.y s.1).2.2=(GJ.y g).2.2/\(GJ.x s.1).1=(GJ.x g).1/\(GJ.x s.1).2.1=(GJ.x g).2.1/\(GJ.x s.1).2.2=(GJ.x g).2.2/\s.2=mkS [102,105,101,108,100,115]/\GJ.wf s.1/\(∀(p:Pub),True/\GJ.ok g p->GJ.ok s.1 p)/\((!Option.isSome (z0k s.2 s.1))=true->zpe S e i g 2)/\((!Option.isSome (z0k s.2 s.1))=false->jgz s S e i g sp d n)):=by kernel_rfl
def zdh:=λn S e g i sp d=>Eq.trans (z9l n S e g i sp d) (by delta Ji Jb Jt Jf z7q j4o zjv zjt zpe z0q zpj zpf z2g zpg z4l z2h zjy zjw z5z zk1 zjx zph z44 z60 j4x j4s zk0 zxb zju zk2 j4w j4r zxa zjz z7p zpi zx9 j4v j4q zx8 j4p j4n jh8 jh7 jh6 jh5 jh4 zxc j4u j4t zx7 jh3 jh2 jh1 jh0 jgz;exact rfl)
def zmb(S:List AT) (k:Nat) (hk:k<S.length) (x:SV) (l:List AF) (B:List AT):z00 AT.cells (S.set k {S[k]with f:=x,fs:=l}++B)=spl (z00 AT.cells (S++B)) (0+k*10+8) [svV x]:=by
 rw[z07,z07,z79 S k hk]
 conv=>rhs;rw[z8l S k hk]
 rw[Nat.zero_add,←z8m S k hk]
 generalize z00 AT.cells (S.take k)=A
 generalize z00 AT.cells (S.drop (k+1))=C
 generalize z00 AT.cells B=D
 show _=((A++((S[k]).cells++C))++D).set (A.length+8) (svV x)
 rw[List.append_assoc A (S[k].cells++C) D,z3x,List.append_assoc A]
 rfl
def j0z{l:List AF} {i:Nat} (h:i<l.length):∀(j:Nat) (v:Value),[Value.string l[i].nm][j]? =some v->(z00 AF.cells l)[0+i*9+0+j]? =some v:=λj v hj=>by
 cases j with
 |zero=>have:=z37 zbc l i h 0 (by decide);rw[Nat.add_zero]at this;rw[Nat.zero_add,Nat.add_zero,this];exact hj
 |succ j=>simp at hj
def zs8{g:GJ} (hg:g.wf) (s:ByteArray) (b:Bool) (e:Int):(woR g s b e).1.size<1000:=by
  have h:=(z19 s hg).1
  unfold woR
  cases hk:z0k s g with
  | none=>
    simp only
    split<;>exact Nat.zero_lt_succ _
  | some t=>
    rw[hk]at h
    simp only
    split
    · have h:t.wf:=h
      rw[GJ.wf_eq]at h;exact h.1
    · exact Nat.zero_lt_succ _
def zdi(n:Nat) (ht:q1u P 46 (z2b.below z6b n)):q1u P 113 (z4v.below j0o (n+1)):=by
 refine qjr mixed (qdh (qh9 z36 (qh9 z7j (qh9 z9v (qh9 z7e (qh9 z17 qk5)))))) (qe7 (qh8 ht qk4)) (W:=zcv) Try.func113 (by kernel_rfl) (show 1<=4 by decide) (show 4<=6 by decide) (λs=>by kernel_rfl) λ⟨S,(e:Int),g,(i:Int),sp,(d:Int)⟩=>(zdh n S e g i sp d).mpr ?_
 rintro⟨hmu,hS,hg,hi0,hi1,hd1,hd2,hsp⟩ ⟨p,_,hp⟩
 have hmu:(25- d).toNat<n+1:=hmu
 simp only[sbS,exists_const,forall_const,Int.toNat_natCast]
 have bad:∀(T:List AT) (e1 k:Int),k≠0->(S++T).length<=60->(∀q,g.ok q->∀a∈T,a.ok q)->True:=λ_ _ _ _ _ _=>trivial
 have z:∀(T:List AT) (k:Int) (x:SV) (fs:List AF),k≠0->((if k=0 then z9n S i x fs else S)++T)=S++T:=λT k x fs hk=>by rw[if_neg hk]
 obtain⟨lw,lok⟩:=z19 (mkS [102,105,101,108,100,115]) hg
 refine⟨⟨g,mkS [102,105,101,108,100,115]⟩,rfl,rfl,rfl,rfl,rfl,rfl,rfl,rfl,rfl,rfl,hg,λq hq=>hq,λhno=>⟨S,rfl,rfl,⟨[],faE e 2,(none,0,0),[]⟩,by show(_++[]).length=_;rw[z _ _ _ _ (z0r (by decide)),List.append_nil],rfl,by show z00 AT.cells (_++[])=_;rw[z _ _ _ _ (z0r (by decide)),List.append_nil],⟨by show(S++[]).length<=60;rw[List.append_nil];exact hS,λh=>absurd h (z0r (by decide))⟩,λq hq=>⟨λa ha=>(by cases ha),z06,λf hf=>(by cases hf)⟩⟩,λhyes=>⟨λhk=>⟨S,rfl,rfl,⟨[],faE e 2,(none,0,0),[]⟩,by show(_++[]).length=_;rw[z _ _ _ _ (z0r (by decide)),List.append_nil],rfl,by show z00 AT.cells (_++[])=_;rw[z _ _ _ _ (z0r (by decide)),List.append_nil],⟨by show(S++[]).length<=60;rw[List.append_nil];exact hS,λh=>absurd h (z0r (by decide))⟩,λq hq=>⟨λa ha=>(by cases ha),z06,λf hf=>(by cases hf)⟩⟩,λhk=>⟨λh30=>⟨S,rfl,rfl,⟨[],faE e 3,(none,0,0),[]⟩,by show(_++[]).length=_;rw[z _ _ _ _ (z0r (by decide)),List.append_nil],rfl,by show z00 AT.cells (_++[])=_;rw[z _ _ _ _ (z0r (by decide)),List.append_nil],⟨by show(S++[]).length<=60;rw[List.append_nil];exact hS,λh=>absurd h (z0r (by decide))⟩,λq hq=>⟨λa ha=>(by cases ha),z06,λf hf=>(by cases hf)⟩⟩,λh30=> ?_⟩⟩⟩
 have hfd:fdJ g=(z0k (mkS [102,105,101,108,100,115]) g).getD zJ:=rfl
 simp only at*
 generalize (z0k (mkS [102,105,101,108,100,115]) g).getD zJ=t at*
 have hy:=λq (hq:g.ok q)=>(show slP GJ.cells t.y t.l q by have:=lok q hq;rw[GJ.ok_eq]at this;exact this.1)
 have tl:t.y.2.1=t.l.length:=(hy p hp).1
 have lww:=lw
 rw[GJ.wf_eq]at lww
 refine⟨⟨⟨0,e,[],[]⟩,rfl,rfl,by show(S++[]).length=_;rw[List.append_nil],rfl,by show z00 AT.cells (S++[])=_;rw[List.append_nil],λq hq=>⟨λa ha=>(by cases ha),λf hf=>(by cases hf)⟩,⟨Nat.zero_le _,Nat.zero_le _,by show(S++[]).length<=60;rw[List.append_nil];exact hS,λh=>⟨h,λa ha=>(by cases ha),λf hf=>(by cases hf)⟩⟩⟩,?_⟩
 rintro⟨j,e1,T,fs⟩ ⟨hj,hfl,hST,hinv⟩ ⟨p1,hp1,hT1,hf1⟩
 simp only[hfd]at hj⊢
 have fin0:e1≠0->∃b:FdB,((if b.snd.fst=0 then z9n S i b.snd.snd.fst b.snd.snd.snd else S)++b.fst).length=(S++T).length/\b.snd.fst=e1/\z00 AT.cells ((if b.snd.fst=0 then z9n S i b.snd.snd.fst b.snd.snd.snd else S)++b.fst)=z00 AT.cells (S++T)/\((S++b.fst).length<=60/\(b.snd.fst=0->e=0/\(∀(a:AT),a∈b.fst->z2e (S++b.fst).length a)/\(∀(f:AF),f∈b.snd.snd.snd->(0<=f.ty/\f.ty<↑(S++b.fst).length)/\f.df.wf)/\b.snd.snd.snd.length<=30))/\∀(p:Nat->Option Obj),(g.ok p/\(∀(a:AT),a∈T->a.ok p)/\∀(f:AF),f∈fs->f.ok p)->(∀(a:AT),a∈b.fst->a.ok p)/\slP AF.cells b.snd.snd.fst b.snd.snd.snd p/\∀(f:AF),f∈b.snd.snd.snd->f.ok p:=λhe=>⟨⟨T,e1,(none,0,0),[]⟩,by show(_++T).length=_;rw[z _ _ _ _ he],rfl,by show z00 AT.cells (_++T)=_;rw[z _ _ _ _ he],⟨hST,λh=>absurd h he⟩,λq hq=>⟨hq.2.1,z06,λf hf=>(by cases hf)⟩⟩
 have fin1:e1=0->(0<=i/\i<((S++T).length:Int))/\∀(a:Option Addr) (c:Nat),(∃p,(g.ok p/\(∀(a:AT),a∈T->a.ok p)/\∀(f:AF),f∈fs->f.ok p)/\fs.length<=c/\qhc p a (List.take (fs.length*9) (z00 AF.cells fs)))->0+i.toNat*10+8+[Value.slice a fs.length c].length<=(z00 AT.cells (S++T)).length/\∃b:FdB,((if b.snd.fst=0 then z9n S i b.snd.snd.fst b.snd.snd.snd else S)++b.fst).length=(S++T).length/\b.snd.fst=e1/\z00 AT.cells ((if b.snd.fst=0 then z9n S i b.snd.snd.fst b.snd.snd.snd else S)++b.fst)=spl (z00 AT.cells (S++T)) (0+i.toNat*10+8) [Value.slice a fs.length c]/\((S++b.fst).length<=60/\(b.snd.fst=0->e=0/\(∀(a:AT),a∈b.fst->z2e (S++b.fst).length a)/\(∀(f:AF),f∈b.snd.snd.snd->(0<=f.ty/\f.ty<↑(S++b.fst).length)/\f.df.wf)/\b.snd.snd.snd.length<=30))/\∀(p:Nat->Option Obj),(g.ok p/\(∀(a:AT),a∈T->a.ok p)/\∀(f:AF),f∈fs->f.ok p)/\fs.length<=c/\qhc p a (List.take (fs.length*9) (z00 AF.cells fs))->(∀(a:AT),a∈b.fst->a.ok p)/\slP AF.cells b.snd.snd.fst b.snd.snd.snd p/\∀(f:AF),f∈b.snd.snd.snd->f.ok p:=λhe=>by
  obtain⟨i0,iT,iF⟩:=hinv he
  have hi:=hi1 i0
  obtain⟨m,rfl⟩:=Int.eq_ofNat_of_zero_le hi0
  have hm:m<S.length:=by omega
  have es:∀x,z9n S (m:Int) x fs=S.set m {S[m]with f:=x,fs:=fs}:=λx=>by
   unfold z9n;rw[Int.toNat_natCast,List.getElem?_eq_getElem hm]
  have hl:(S++T).length=S.length+T.length:=List.length_append
  refine⟨⟨hi0,by omega⟩,λa c _=>⟨by rw[z01 z1x,hl,Int.toNat_natCast];show 0+m*10+8+1<=_;omega,⟨T,e1,(a,fs.length,c),fs⟩,?_,rfl,?_,⟨hST,λ_=>⟨i0,iT,iF,by show fs.length<=30;omega⟩⟩,λq hq=>⟨hq.1.2.1,?_,hq.1.2.2⟩⟩⟩
  ·show((if e1=0 then z9n S (m:Int) (a,fs.length,c) fs else S)++T).length=_
   rw[if_pos he,es,List.length_append,List.length_set,hl]
  ·show z00 AT.cells ((if e1=0 then z9n S (m:Int) (a,fs.length,c) fs else S)++T)=_
   rw[if_pos he,es]
   exact zmb S m hm _ _ T
  ·refine⟨rfl,hq.2.1,?_⟩
   have:=hq.2.2
   rw[List.take_of_length_le (by rw[z01 zbc];exact Nat.le_refl _)]at this
   exact this
 refine⟨λhlt=>⟨λhe0=> ?_,λhe0=>⟨λh=>fin1 h,λh=>fin0 h⟩⟩,λhge=>⟨λh=>fin1 h,λh=>fin0 h⟩⟩
 have hjl:j<t.l.length:=by omega
 have hat:=λq (hq:g.ok q)=>z14 z48 (by decide) (hy q hq) hjl
 have cw:t.l[j].wf:=GJ.wfs_at lww.2.2.2.2.2.2 hjl
 have cok:∀q,g.ok q->t.l[j].ok q:=λq hq=>by have:=lok q hq;rw[GJ.ok_eq]at this;exact GJ.oks_at this.2.2 hjl
 refine⟨⟨by omega,by omega⟩,(hat p1 hp1).1,t.l[j].k,t.l[j].n,t.l[j].s,t.l[j].y.1,t.l[j].y.2.1,t.l[j].y.2.2,t.l[j].x.1,t.l[j].x.2.1,t.l[j].x.2.2,λq hq=>(hat q hq.1).2,λh6=>⟨S++T,rfl,rfl,⟨T,faE e1 2,(none,0,0),[]⟩,by show(_++T).length=_;rw[z _ _ _ _ (z0r (by decide))],rfl,by show z00 AT.cells (_++T)=_;rw[z _ _ _ _ (z0r (by decide))],⟨hST,λh=>absurd h (z0r (by decide))⟩,λq hq=>⟨hq.2.1,z06,λf hf=>(by cases hf)⟩⟩,λh6=> ?_⟩
 obtain⟨e00,hTg,hfg⟩:=hinv he0
 clear fin0 fin1 z bad
 refine⟨⟨S++T,e1,t.l[j],mkS [110,97,109,101],true⟩,rfl,rfl,rfl,rfl,rfl,rfl,rfl,rfl,rfl,rfl,rfl,rfl,rfl,rfl,cw,λq hq=>cok q hq.1,?_⟩
 simp only
 have hnm:=zs8 cw (mkS [110,97,109,101]) true e1
 have hwe:(woR t.l[j] (mkS [110,97,109,101]) true e1).2=0->e1=0:=zuq
 generalize woR t.l[j] (mkS [110,97,109,101]) true e1=W at*
 refine⟨⟨⟨λ_=>⟨by omega,_,rfl⟩,λ_=>⟨false,rfl⟩⟩,λ_ _=>⟨S++T,rfl,rfl,rfl,rfl,λh=>(z3s (by decide) h).elim⟩⟩,?_⟩
 intro e4 h4
 refine⟨⟨⟨0,e4⟩,rfl,rfl,λh=>h⟩,?_⟩
 rintro⟨k,e5⟩ h5
 simp only at h5⊢
 have hST':=hST
 refine⟨λhkl=>⟨⟨by omega,by omega⟩,fs[k]'(by omega)|>.nm,j0z (by omega),λ_=>⟨S++T,rfl,rfl,⟨by omega,by omega⟩,⟨k+1,faE e5 5⟩,by show((k+1:Nat):Int)=_;omega,rfl,rfl,rfl,λh=>(z3s (by decide) h).elim,by show 100- (k+1)<100- k;omega⟩,λ_=>⟨⟨by omega,by omega⟩,⟨k+1,e5⟩,by show((k+1:Nat):Int)=_;omega,rfl,h5,by show 100- (k+1)<100- k;omega⟩⟩,λhkl=> ?_⟩
 obtain⟨tw,tok⟩:=z19 (mkS [116,121,112,101]) cw
 refine⟨⟨t.l[j],mkS [116,121,112,101]⟩,rfl,rfl,rfl,rfl,rfl,rfl,rfl,rfl,rfl,rfl,cw,λq hq=>cok q hq.1,?_⟩
 simp only
 generalize (z0k (mkS [116,121,112,101]) t.l[j]).getD zJ=ty at*
 refine⟨λ_=>⟨S++T,rfl,rfl,rfl,rfl,λh=>(z3s (by decide) h).elim⟩,?_⟩
 intro e7 h7
 refine⟨⟨by omega,by omega⟩,⟨S++T,e7,ty,sp,d+1⟩,rfl,rfl,rfl,rfl,rfl,rfl,rfl,rfl,rfl,rfl,rfl,rfl,rfl,rfl,⟨by show(25- (d+1)).toNat<n;omega,hST,tw,by omega,by omega,hsp⟩,λq hq=>tok q (cok q hq.1),?_⟩
 rintro⟨U,e8,r⟩ ⟨⟨hU,hU2⟩,hr⟩ ⟨p2,hp2,hU3⟩
 simp only at hU hU2 hr hU3⊢
 obtain⟨dw,dok⟩:=z19 (mkS [100,101,102,97,117,108,116]) cw
 refine⟨⟨t.l[j],mkS [100,101,102,97,117,108,116]⟩,rfl,rfl,rfl,rfl,rfl,rfl,rfl,rfl,rfl,rfl,cw,λq hq=>cok q hq.1.1,⟨S++T++U,e8,t.l[j],mkS [97,108,105,97,115,101,115]⟩,rfl,rfl,rfl,rfl,rfl,rfl,rfl,rfl,rfl,rfl,rfl,rfl,rfl,cw,λq hq=>cok q hq.1.1,?_⟩
 have hsz:∀x∈(z2c t.l[j] (mkS [97,108,105,97,115,101,115]) e8).1,x.size<1000:=z7i cw
 have hLl:(z2c t.l[j] (mkS [97,108,105,97,115,101,115]) e8).1.length<1000:=z7h cw
 have hE:(z2c t.l[j] (mkS [97,108,105,97,115,101,115]) e8).2.2=0->e8=0:=zi7
 simp only
 generalize z2c t.l[j] (mkS [97,108,105,97,115,101,115]) e8=F at*
 generalize hdj:(z0k (mkS [100,101,102,97,117,108,116]) t.l[j]).getD zJ=df at*
 rintro a m c ⟨p3,hp3,hl3⟩
 have hm:m=F.1.length:=hl3.1
 subst hm
 have hat2:=λ(k:Nat) (hk:k<F.1.length) (q:Pub) (hq:slP txV (a,F.1.length,c) F.1 q)=>(show a≠noA/\q3f q (adr a (k*1)) [.string F.1[k]]from z14 z0m (by decide) hq hk)
 refine⟨⟨⟨0,F.2.2⟩,rfl,rfl,λh=>h⟩,?_⟩
 rintro⟨x,e9⟩ h9
 simp only at h9⊢
 have hlen:(S++(T++U)).length=(S++T).length+U.length:=by rw[←List.append_assoc];exact List.length_append
 refine⟨λhx=>⟨λh0=>⟨⟨by omega,by omega⟩,(hat2 x (by omega) p3 hl3).1,F.1[x]'(by omega),λq hq=>(hat2 x (by omega) q hq.2).2,by have:=hsz _ (List.getElem_mem (show x<F.1.length by omega));omega,λ_=>⟨S++T++U,rfl,rfl,⟨by omega,by omega⟩,⟨x+1,faE e9 6⟩,by show((x+1:Nat):Int)=_;omega,rfl,rfl,rfl,λh=>(z3s (by decide) h).elim,by show 2000- (x+1)<2000- x;omega⟩,λ_=>⟨⟨by omega,by omega⟩,⟨x+1,e9⟩,by show((x+1:Nat):Int)=_;omega,rfl,h9,by show 2000- (x+1)<2000- x;omega⟩⟩,λh0=> ?xa⟩,λhx=> ?xb⟩
 case xa|xb=>
  refine⟨z01 zbc fs,by omega,⟨by omega,by omega⟩,⟨j+1,e9,T++U,fs++[⟨W.1,(a,F.1.length,c),F.1,r,(z0k (mkS [100,101,102,97,117,108,116]) t.l[j]).isSome,df⟩]⟩,by show((j+1:Nat):Int)=_;omega,by simp,by rw[List.append_assoc],rfl,by rw[List.append_assoc],by rw[z07];rfl,λq hq=>hq.1.1.1,λq hq=>⟨λy hy=>(List.mem_append.1 hy).elim (hq.1.1.2.1 y) (hq.1.2 y),λf hf=>(List.mem_append.1 hf).elim (hq.1.1.2.2 f) λh=> ?_⟩,⟨by show j+1<=(fdJ g).l.length;rw[hfd];omega,by show(fs++[_]).length<=j+1;simp;omega,by show(S++(T++U)).length<=60;rw[←List.append_assoc];exact hU,λh=>⟨e00,λy hy=> ?_,λf hf=> ?_⟩⟩,by show _- (j+1)<_;omega⟩
  ·simp at h;subst h;exact⟨hq.2,dok q (cok q hq.1.1.1)⟩
  ·show z2e (S++(T++U)).length y
   obtain⟨u1,u2⟩:=hU2 (hE (h9 h))
   rcases List.mem_append.1 hy with hy|hy
   ·exact z6a (by omega) (hTg y hy)
   ·have:=u2 y hy;rw[List.append_assoc]at this;exact this
  ·show(0<=f.ty/\f.ty<((S++(T++U)).length:Int))/\f.df.wf
   obtain⟨r0,r1⟩:=hr (hE (h9 h))
   rw[List.append_assoc]at r1
   rcases List.mem_append.1 hf with hf|hf
   ·have:=hfg f hf;exact⟨by omega,this.2⟩
   ·simp at hf;subst hf;exact⟨⟨r0,r1⟩,dw⟩
def nmT(k:Int) (W:ByteArray) (r n:Nat) (num:Nat):AO:= .cells 61 (some 0) false [.sv (.int .i64 k), .sv (.string W), .ssl r 0 n 1 num, .int .i64 0, .nsl, .bool false, .str [], .int .i64 0, .nsl, .nsl]
abbrev NlS:=Nat×Int×List ByteArray
def zip:NmS->WayF:=λ⟨S,e,g,k,sp,d⟩=>{
  cut:=λr _ _=>match r with
    | 7 =>some {σ:=Int×ByteArray,pre:=λ⟨e',s⟩=>(e'=0->e=0)/\(s.size:Int)<=1100*d,find:=some λt h=>(match mkE h 1 with
        | some e'=>match slS t 3 with
          |some s=>some (e',s)
          |none=>none
        |none=>none),t:=λ⟨e',s⟩=>[(3, .sv (.string s))],h:=λ⟨e',s⟩=>[mkC S e' 2 3],more:=0,μ:=λ_=>0,keep:=[0,2,4,6,11]}
    |19=>some {σ:=Int,pre:=λe'=>e'=0->e=0,find:=some λ_ h=>mkE h 1,t:=λ_=>[],h:=λe'=>[mkC S e' 2 3],more:=0,μ:=λ_=>0,keep:=[0,2,3,4,6,14]}
    |_=>none
  ann:=λid t h=>match h.get 15 with
    |some (.cells _ _ _ (_:: .sv (.string W)::_))=>some {σ:=NlS,pre:=λ⟨j,e',acc⟩=>(j:Int)<=1000/\acc.length<=j/\(e'=0->e=0),t:=λ⟨j,e',acc⟩=>[(17, .sv (.int .i64 (j:Int)))],h:=λ⟨j,e',acc⟩=>[mkC S e' 2 3,(15,nmT k W 22 acc.length 23),(22, .row 9 0 (z00 txV acc))],more:=2,μ:=λ⟨j,e',acc⟩=>1000- j,keep:=[0,2,3,4,6,14,15]}
    |_=>none
  pub:=λi k=>match i,k with
    |21,2=>[107]
    |_,_=>[]}
section
variable (x0:Int×ByteArray) (x1:List AT) (x2:List AT×Int×GJ×ByteArray×Bool) (x3:Int) (x4:GJ) (x5:ByteArray) (x6 x7:Int) (x8:Nat) (x9:Option Addr) (x10:Nat) (x11:List AT×Int×GJ×ByteArray) (x12:Nat) (x13:NlS) (x14:List AT) (x15:Int) (x16:List AT×Int×AT) (x17:Option Addr) (x18:GJ×ByteArray) (x19:Prop) (x20:Nat->Option Obj) (x21:FdS) (x22:FdB) (x23:TmB) (x24:AF) (x25:List AT×Int×GJ×Int) (x26:SyB)
 abbrev zxd:=GJ.k x18.1=GJ.k x4/\GJ.n x18.1=GJ.n x4/\GJ.s x18.1=GJ.s x4/\(GJ.y x18.1).1=(GJ.y x4).1/\(GJ.y x18.1).2.1=(GJ.y x4).2.1/\(GJ.y x18.1).2.2=(GJ.y x4).2.2/\(GJ.x x18.1).1=(GJ.x x4).1/\(GJ.x x18.1).2.1=(GJ.x x4).2.1/\(GJ.x x18.1).2.2=(GJ.x x4).2.2/\x19
 abbrev z4n:=Option.getD (z0k x18.2 x18.1) zJ
 def zk5:= !decide (GJ.k (z4n x18)=x3)
 abbrev z1r:=woR x2.2.2.1 x2.2.2.2.1 x2.2.2.2.2 x2.2.1
 def z7r:=length x1=length x14
 def z8s:=GJ.k x4=GJ.k x4/\GJ.n x4=GJ.n x4/\GJ.s x4=GJ.s x4/\(GJ.y x4).1=(GJ.y x4).1/\(GJ.y x4).2.1=(GJ.y x4).2.1/\(GJ.y x4).2.2=(GJ.y x4).2.2/\(GJ.x x4).1=(GJ.x x4).1/\(GJ.x x4).2.1=(GJ.x x4).2.1/\(GJ.x x4).2.2=(GJ.x x4).2.2/\x19
 def zpl:=(∀i0,True/\GJ.ok x4 i0->True/\GJ.ok x4 i0)
 def zxf:=(z1r x2).1=(z1r x2).1/\x3=x3/\x6=x6/\length x1=length x2.1/\(z1r x2).2=(z1r x2).2/\z00 AT.cells x2.1=z00 AT.cells x2.1/\x19
 def j53:=GJ.s (z4n x18)=GJ.s (z4n x18)/\zxf x1 x2 x3 x6 (z8s x4 (zpl x4/\(((z1r x2).2=0->x7=0)/\(↑(size (GJ.s (z4n x18))):Int)<=1100*x6)/\True))
 def j4z:=((zk5 4 x18)=true->∃(i0:List AT),(2:Int)=2/\length i0=length x2.1/\(z1r x2).2=(z1r x2).2/\z00 AT.cells i0=z00 AT.cells x2.1/\True/\GJ.s (z4n x18)=GJ.s (z4n x18)/\(z1r x2).1=(z1r x2).1/\x3=x3/\x6=x6/\z7r x1 i0/\faE (z1r x2).2 (2:Int)=faE (z1r x2).2 2/\z00 AT.cells x2.1=z00 AT.cells i0/\z8s x4 (zpl x4/\((faE (z1r x2).2 (2:Int)=0->x7=0)/\(↑(size (GJ.s (z4n x18))):Int)<=1100*x6)/\True))/\((zk5 4 x18)=false->j53 x1 x2 x3 x4 x6 x7 x18)
 def j54:=x5=x5/\zxf x1 x2 x3 x6 (z8s x4 (zpl x4/\(((z1r x2).2=0->x7=0)/\(↑(size x5):Int)<=1100*x6)/\True))
 def z8t:=∀(i0:AT),i0∈x23.1->AT.ok i0 x20
 def zad:=z1e (z1r x2).1 x0.2=z1e (z1r x2).1 x0.2
 abbrev z30:=z1e (z1r x2).1 x0.2
 def zac:=(True/\GJ.ok x4 x20)/\slP txV (x9,x8,x10) (z2c x11.2.2.1 x11.2.2.2 x11.2.1).1 x20
 def zer:=z6f (z30 x0 x2) (size (z30 x0 x2))=z6f (z30 x0 x2) (size (z30 x0 x2))
 def zk4:=(∀i0,zac x4 x8 x9 x10 x11 i0->zac x4 x8 x9 x10 x11 i0)
 def zpk:=(↑x13.1:Int)<=1000/\length x13.2.2<=x13.1/\(x13.2.1=0->x3=0)
 def jhh:=(0<=(↑x13.1:Int)/\(↑x13.1:Int)<(↑x8:Int))/\x9≠noA/\∃i0,(∀i1,zac x4 x8 x9 x10 x11 i1->q3f i1 (adr x9 (toNat (↑x13.1:Int)*1)) [string i0])/\∃(i2:List AT),i0=i0/\zer x0 x2/\z7r i2 x1/\x13.2.1=x13.2.1/\z00 AT.cells i2=z00 AT.cells x11.1/\(size i0<10000/\size (z6f (z30 x0 x2) (size (z30 x0 x2)))<50000)/\length (z00 txV x13.2.2)=length x13.2.2*1/\(length x13.2.2+nat_lit 1)*16<=140737488355328/\AV.ssl (nat_lit 22) (nat_lit 0) (length x13.2.2) (nat_lit 1) (nat_lit 23)=AV.ssl (nat_lit 22) (nat_lit 0) (length x13.2.2) (nat_lit 1) (nat_lit 23)/\Jb ((↑x13.1:Int)+1)/\∃(i3:NlS),zer x0 x2/\x9=x9/\x8=x8/\x10=x10/\(↑i3.1:Int)=(↑x13.1:Int)+1/\x3=x3/\x6=x6/\z7r x1 i2/\i3.2.1=whE i0 (z6f (z30 x0 x2) (size (z30 x0 x2))) x13.2.1/\x3=x3/\zad x0 x2/\length i3.2.2=length x13.2.2+nat_lit 1/\z00 AT.cells x11.1=z00 AT.cells i2/\z8s x4 (z00 txV i3.2.2=z00 txV x13.2.2++[string (z1e i0 (z6f (z30 x0 x2) (size (z30 x0 x2))))]/\zk4 x4 x8 x9 x10 x11/\(zpk x7 i3)/\(1000:Nat)- i3.1<1000- x13.1/\True)
 def jb9:=zer x0 x2/\x3=x3/\x6=x6/\z7r x1 x14/\x13.2.1=x13.2.1/\x3=x3/\zad x0 x2/\length x13.2.2=length x13.2.2/\z00 AT.cells x14=z00 AT.cells x14/\z8s x4 (z00 txV x13.2.2=z00 txV x13.2.2/\zk4 x4 x8 x9 x10 x11/\(x13.2.1=0->x7=0)/\True)
 def jhd:=(Option.isSome (findF (z30 x0 x2) x1 0)=true->∃(i0:List AT),(5:Int)=5/\z7r i0 x1/\x13.2.1=x13.2.1/\z00 AT.cells i0=z00 AT.cells x1/\True/\zer x0 x2/\x3=x3/\x6=x6/\z7r x14 i0/\faE x13.2.1 (5:Int)=faE x13.2.1 5/\x3=x3/\zad x0 x2/\length x13.2.2=length x13.2.2/\z00 AT.cells x1=z00 AT.cells i0/\z8s x4 (z00 txV x13.2.2=z00 txV x13.2.2/\zk4 x4 x8 x9 x10 x11/\(faE x13.2.1 (5:Int)=0->x7=0)/\True))/\(Option.isSome (findF (z30 x0 x2) x1 0)=false->jb9 x0 x14 x2 x3 x4 x6 x7 x8 x9 x10 x11 x13 x1)
 def z4m:=(zac x4 x8 x9 x10 x11 x20)/\length x13.2.2<=x12/\qhc x20 x17 (take (length x13.2.2*nat_lit 1) (z00 txV x13.2.2))
 def j56:=(0<=AF.ty x24/\AF.ty x24<(↑(length (x21.1++x22.1)):Int))/\GJ.wf (AF.df x24)
 def j55:=x21.2.1=0/\(∀(i0:AT),i0∈x22.1->z2e (length (x21.1++x22.1)) i0)/\(∀(i1:AF),i1∈x22.2.2.2->j56 x21 x22 i1)/\length x22.2.2.2<=30
 def zxg:=(∀(i0:AT),i0∈x22.1->AT.ok i0 x20)/\slP AF.cells x22.2.2.1 x22.2.2.2 x20/\∀(i1:AF),i1∈x22.2.2.2->AF.ok i1 x20
 def j57:=x25.2.1=0/\x26.2.2.1≠[]/\length x26.2.2.1<=30
 abbrev zxh:=if x26.1=0 then znk x25.1 x25.2.2.2 x26.2.1 x26.2.2.1 x26.2.2.2.1 x26.2.2.2.2 else x25.1
 def zk3:=∃(i0:List AT),x7=x7/\length i0=length (adS x16.1 x16.2.2)/\adE x16.1 x16.2.1=adE x16.1 x16.2.1/\z00 AT.cells i0=z00 AT.cells (adS x16.1 x16.2.2)/\True/\∃(i1:TmB),i1.2.2=0/\length (x1++i1.1)=length i0/\i1.2.1=faE (adE x16.1 x16.2.1) x7/\z00 AT.cells (x1++i1.1)=z00 AT.cells i0/\z0l (x1,x3,x4,x5,x6) i1/\(∀i2,z4m x4 x8 x9 x10 x11 x12 x13 x17 i2->z8t i2 i1)/\True
 def zxi:=x23.2.2=adR x16.1/\length (x1++x23.1)=length (adS x16.1 x16.2.2)/\x23.2.1=adE x16.1 x16.2.1/\x19
 def j52:=(0<=adR x16.1/\adR x16.1<(↑(length (adS x16.1 x16.2.2)):Int))/\nat_lit 0+toNat (adR x16.1)*nat_lit 10+7+length [int i64 (GJ.n (z4n x18))]<=length (z00 AT.cells (adS x16.1 x16.2.2))/\∃(i0:TmB),zxi x1 x16 (z00 AT.cells (x1++i0.1)=spl (z00 AT.cells (adS x16.1 x16.2.2)) (nat_lit 0+toNat (adR x16.1)*nat_lit 10+7) [int i64 (GJ.n (z4n x18))]/\z0l (x1,x3,x4,x5,x6) i0/\(∀i1,z4m x4 x8 x9 x10 x11 x12 x13 x17 i1->z8t i1 i0)/\True) i0
 def j51:=Ji (adE x16.1 x16.2.1=0) (j52 x1 x3 x4 x5 x6 x8 x9 x10 x11 x12 x13 x16 x17 x18) (∃(i3:TmB),zxi x1 x16 (z00 AT.cells (x1++i3.1)=z00 AT.cells (adS x16.1 x16.2.2)/\z0l (x1,x3,x4,x5,x6) i3/\(∀i4,z4m x4 x8 x9 x10 x11 x12 x13 x17 i4->z8t i4 i3)/\True) i3)
 def j50:=Ji (5000<GJ.n (z4n x18)) (zk3 x1 x3 x4 x5 x6 6 x8 x9 x10 x11 x12 x13 x16 x17) (j51 x1 x3 x4 x5 x6 x8 x9 x10 x11 x12 x13 x16 x17 x18)
 def j4y:=Ji (GJ.n (z4n x18)<0) (zk3 x1 x3 x4 x5 x6 6 x8 x9 x10 x11 x12 x13 x16 x17) (j50 x1 x3 x4 x5 x6 x8 x9 x10 x11 x12 x13 x16 x17 x18)
 def jhf:=((zk5 3 x18)=true->zk3 x1 x3 x4 x5 x6 2 x8 x9 x10 x11 x12 x13 x16 x17)/\((zk5 3 x18)=false->j4y x1 x3 x4 x5 x6 x8 x9 x10 x11 x12 x13 x16 x17 x18)
 def jhe:=Ji (x3=10) (∃(i0:List AT×Int×GJ×Int),GJ.k i0.2.2.1=GJ.k x4/\GJ.n i0.2.2.1=GJ.n x4/\GJ.s i0.2.2.1=GJ.s x4/\(GJ.y i0.2.2.1).1=(GJ.y x4).1/\(GJ.y i0.2.2.1).2.1=(GJ.y x4).2.1/\(GJ.y i0.2.2.1).2.2=(GJ.y x4).2.2/\(GJ.x i0.2.2.1).1=(GJ.x x4).1/\(GJ.x i0.2.2.1).2.1=(GJ.x x4).2.1/\(GJ.x i0.2.2.1).2.2=(GJ.x x4).2.2/\i0.2.2.2=adR x16.1/\length i0.1=length (adS x16.1 x16.2.2)/\i0.2.1=adE x16.1 x16.2.1/\z00 AT.cells i0.1=z00 AT.cells (adS x16.1 x16.2.2)/\(length i0.1<=60/\GJ.wf i0.2.2.1/\0<=i0.2.2.2/\(i0.2.1=0->i0.2.2.2<(↑(length i0.1):Int)))/\(∀i1,z4m x4 x8 x9 x10 x11 x12 x13 x17 i1->GJ.ok i0.2.2.1 i1)/\∀(i2:SyB),(i2.1=0->j57 i0 i2)->(∃i3,(z4m x4 x8 x9 x10 x11 x12 x13 x17 i3)/\slP txV i2.2.1 i2.2.2.1 i3)->∃(i4:TmB),i4.2.2=adR x16.1/\length (x1++i4.1)=length (zxh i0 i2)/\i4.2.1=i2.1/\z00 AT.cells (x1++i4.1)=z00 AT.cells (zxh i0 i2)/\z0l (x1,x6,x4,x5,x7) i4/\(∀i5,(z4m x4 x8 x9 x10 x11 x12 x13 x17 i5)/\slP txV i2.2.1 i2.2.2.1 i5->z8t i5 i4)/\True) (∃(i7:GJ×ByteArray),zxd x4 i7 (i7.2=mkS [115,105,122,101]/\GJ.wf i7.1/\(∀i8,z4m x4 x8 x9 x10 x11 x12 x13 x17 i8->GJ.ok i7.1 i8)/\((!Option.isSome (z0k i7.2 i7.1))=true->zk3 x1 x6 x4 x5 x7 2 x8 x9 x10 x11 x12 x13 x16 x17)/\((!Option.isSome (z0k i7.2 i7.1))=false->jhf x1 x6 x4 x5 x7 x8 x9 x10 x11 x12 x13 x16 x17 i7)))
 abbrev jhc:=((!decide (x3=0))=true->∃(i0:TmB),i0.2.2=0/\length (x1++i0.1)=length x1/\i0.2.1=x3/\z00 AT.cells (x1++i0.1)=z00 AT.cells x14/\z0l (x1,x6,x4,x5,x7) i0/\(∀i1,zac x4 x8 x9 x10 x11 i1->z8t i1 i0)/\True)/\((!decide (x3=0))=false->∀(i3 i4 i5:Nat) (i6:Option Addr) (i7 i8:Nat),(∃i9,z4m x4 x8 x9 x10 x11 i8 x13 i6 i9)->∃(i10:List AT×Int×AT),AT.k i10.2.2=x15/\AT.nm i10.2.2=z1e (z1r x2).1 x0.2/\(AT.al i10.2.2).1=i6/\(AT.al i10.2.2).2.1=length x13.2.2/\(AT.al i10.2.2).2.2=i8/\AT.it i10.2.2=0/\(AT.sy i10.2.2).1=noA/\(AT.sy i10.2.2).2.1=0/\(AT.sy i10.2.2).2.2=0/\AT.hd i10.2.2=false/\AT.df i10.2.2=mkS []/\AT.sz i10.2.2=0/\(AT.f i10.2.2).1=noA/\(AT.f i10.2.2).2.1=0/\(AT.f i10.2.2).2.2=0/\(AT.br i10.2.2).1=noA/\(AT.br i10.2.2).2.1=0/\(AT.br i10.2.2).2.2=0/\length i10.1=length x1/\i10.2.1=x3/\z00 AT.cells i10.1=z00 AT.cells x14/\True/\Ji (x15=9) (∃(i11:FdS),GJ.k i11.2.2.1=GJ.k x4/\GJ.n i11.2.2.1=GJ.n x4/\GJ.s i11.2.2.1=GJ.s x4/\(GJ.y i11.2.2.1).1=(GJ.y x4).1/\(GJ.y i11.2.2.1).2.1=(GJ.y x4).2.1/\(GJ.y i11.2.2.1).2.2=(GJ.y x4).2.2/\(GJ.x i11.2.2.1).1=(GJ.x x4).1/\(GJ.x i11.2.2.1).2.1=(GJ.x x4).2.1/\(GJ.x i11.2.2.1).2.2=(GJ.x x4).2.2/\i11.2.2.2.1=adR i10.1/\i11.2.2.2.2.1=z6f (z30 x0 x2) (size (z30 x0 x2))/\i11.2.2.2.2.2=x7/\length i11.1=length (adS i10.1 i10.2.2)/\i11.2.1=adE i10.1 i10.2.1/\z00 AT.cells i11.1=z00 AT.cells (adS i10.1 i10.2.2)/\(j0o i11<x12+1/\length i11.1<=60/\GJ.wf i11.2.2.1/\0<=i11.2.2.2.1/\(i11.2.1=0->i11.2.2.2.1<(↑(length i11.1):Int))/\1<=i11.2.2.2.2.2/\i11.2.2.2.2.2<=20/\(↑(size i11.2.2.2.2.1):Int)<=1100*(i11.2.2.2.2.2+1))/\(∀i12,z4m x4 x8 x9 x10 x11 i8 x13 i6 i12->GJ.ok i11.2.2.1 i12)/\∀(i13:FdB),length (i11.1++i13.1)<=60/\(i13.2.1=0->j55 i11 i13)->(∃i16,(z4m x4 x8 x9 x10 x11 i8 x13 i6 i16)/\zxg i16 i13)->∃(i19:TmB),i19.2.2=adR i10.1/\length (x1++i19.1)=length ((if i13.2.1=0 then z9n i11.1 i11.2.2.2.1 i13.2.2.1 i13.2.2.2 else i11.1)++i13.1)/\i19.2.1=i13.2.1/\z00 AT.cells (x1++i19.1)=z00 AT.cells ((if i13.2.1=0 then z9n i11.1 i11.2.2.2.1 i13.2.2.1 i13.2.2.2 else i11.1)++i13.1)/\z0l (x1,x6,x4,x5,x7) i19/\(∀i20,((z4m x4 x8 x9 x10 x11 i8 x13 i6 i20)/\zxg i20 i13)->z8t i20 i19)/\True) (jhe x1 x15 x4 x5 x6 x7 x8 x9 x10 x11 i8 x13 i10 i6))
 def zxe:=∃(i0:List AT),zad x0 x2/\z7r i0 x1/\x13.2.1=x13.2.1/\z00 AT.cells i0=z00 AT.cells x11.1/\length i0<1000/\(Ji (x13.2.1=0) (jhd x0 i0 x2 x3 x4 x6 x7 x8 x9 x10 x11 x13 x1) (jb9 x0 x1 x2 x3 x4 x6 x7 x8 x9 x10 x11 x13 i0))/\∀(i1:Int),(i1=0->x7=0)->jhc x0 x1 x2 i1 x4 x5 x7 x6 x8 x9 x10 x11 x12 x13 i0 x3
 def jhg:=Ji (x13.2.1=0) (jhh x0 x1 x2 x3 x4 x6 x7 x8 x9 x10 x11 x13) (zxe x0 x1 x2 x3 x4 x5 x6 x7 x8 x9 x10 x11 x12 x13)
 def jhb:=Ji ((↑x13.1:Int)<(↑x8:Int)) (jhg x0 x1 x2 x3 x4 x5 x6 x7 x8 x9 x10 x11 x12 x13) (zxe x0 x1 x2 x3 x4 x5 x6 x7 x8 x9 x10 x11 x12 x13)
 def jha:=(∃(i0:NlS),zer x0 x2/\x9=x9/\x8=x8/\x10=x10/\(↑i0.1:Int)=0/\x3=x3/\x6=x6/\length x1=length x11.1/\i0.2.1=(z2c x11.2.2.1 x11.2.2.2 x11.2.1).2.2/\x3=x3/\zad x0 x2/\length i0.2.2=0/\z00 AT.cells x11.1=z00 AT.cells x11.1/\z8s x4 (zk4 x4 x8 x9 x10 x11/\(zpk x7 i0)/\True))/\∀(i2:NlS),zpk x7 i2->jhb x0 x1 x2 x3 x4 x5 x6 x7 x8 x9 x10 x11 x12 i2
 def jh9:=((!decide (x0.1=0))=true->∃(i0:TmB),i0.2.2=0/\length (x1++i0.1)=length x1/\i0.2.1=x0.1/\z00 AT.cells (x1++i0.1)=z00 AT.cells x2.1/\z0l (x1,x3,x4,x5,x6) i0/\(∀i1,True/\GJ.ok x4 i1->z8t i1 i0)/\True)/\((!decide (x0.1=0))=false->∃(i3:List AT),(z1r x2).1=(z1r x2).1/\x0.2=x0.2/\z7r i3 x1/\x0.1=x0.1/\z00 AT.cells i3=z00 AT.cells x2.1/\(size (z1r x2).1<10000/\size x0.2<50000)/\zad x0 x2/\size (z30 x0 x2)<1000000/\∃(i4:List AT×Int×GJ×ByteArray),GJ.k i4.2.2.1=GJ.k x4/\GJ.n i4.2.2.1=GJ.n x4/\GJ.s i4.2.2.1=GJ.s x4/\(GJ.y i4.2.2.1).1=(GJ.y x4).1/\(GJ.y i4.2.2.1).2.1=(GJ.y x4).2.1/\(GJ.y i4.2.2.1).2.2=(GJ.y x4).2.2/\(GJ.x i4.2.2.1).1=(GJ.x x4).1/\(GJ.x i4.2.2.1).2.1=(GJ.x x4).2.1/\(GJ.x i4.2.2.1).2.2=(GJ.x x4).2.2/\i4.2.2.2=mkS [97,108,105,97,115,101,115]/\length i4.1=length i3/\i4.2.1=whE (z1r x2).1 x0.2 x0.1/\z00 AT.cells i4.1=z00 AT.cells i3/\GJ.wf i4.2.2.1/\(∀i5,True/\GJ.ok x4 i5->GJ.ok i4.2.2.1 i5)/\∀(i6:Unit),True->∀(i7:Option Addr) (i8 i9:Nat),(∃i10,zac x4 i8 i7 i9 i4 i10)->jha x0 x1 x2 x7 x4 x5 x6 x3 i8 i7 i9 i4 x8)
end
def zdv(n:Nat) (S:List AT) (e:Int) (g:GJ) (k:Int) (sp:ByteArray) (d:Int):qkj P (qfv [(75,z5o),(109,z8a),(110,z6r),(111,z6g),(112,z68),(106,zfv),(78,j0k),(72,z2a)]) (qgy [(113,z4v.below j0o (n+1)),(114,zlr)]) Try.f76 (z6m.below j0r (n+1)) (zip) ⟨S,e,g,k,sp,d⟩=(j0r (S,e,g,k,sp,d)<n+1/\z3z (S,e,g,sp,d)/\d<=20/\(k=9\/k=10\/k=11)->(∃(p:Pub),True/\GJ.ok g p)->∃(s:List AT×Int×GJ×ByteArray×Bool),GJ.k s.2.2.1=GJ.k g/\GJ.n s.2.2.1=GJ.n g/\GJ.s s.2.2.1=GJ.s g/\(GJ.y s.2.2.1).1=(GJ.y g).1/\(GJ.y s.2.2.1).2.1=(GJ.y g).2.1/\(GJ.y s.2.2.1).2.2=(GJ.y g).2.2/\(GJ.x s.2.2.1).1=(GJ.x g).1/\(GJ.x s.2.2.1).2.1=(GJ.x g).2.1/\(GJ.x s.2.2.1).2.2=(GJ.x g).2.2/\s.2.2.2.1=mkS [110,97,109,101]/\s.2.2.2.2=true/\length s.1=length S/\s.2.1=e/\z00 AT.cells s.1=z00 AT.cells S/\GJ.wf s.2.2.1/\(∀(p:Pub),True/\GJ.ok g p->GJ.ok s.2.2.1 p)/\∃(s_1:GJ×ByteArray),zxd g s_1 (s_1.2=mkS [110,97,109,101,115,112,97,99,101]/\GJ.wf s_1.1/\(∀(p:Pub),True/\GJ.ok g p->GJ.ok s_1.1 p)/\((Option.isSome (z0k s_1.2 s_1.1)=true->j4z S s k g d e s_1)/\(Option.isSome (z0k s_1.2 s_1.1)=false->j54 S s k g sp d e))/\∀(s_2:Int×ByteArray),(s_2.1=0->e=0)/\(↑(size s_2.2):Int)<=1100*d->jh9 s_2 S s e g sp d k n)):=by kernel_rfl
def zhe:=λn S e g k sp d=>Eq.trans (zdv n S e g k sp d) (by delta Ji Jb Jt Jf zxd z4n zk5 z1r z7r z8s zpl zxf j53 j4z j54 z8t zad z30 zac zer zk4 zpk jhh jb9 jhd z4m j56 j55 zxg j57 zxh zk3 zxi j52 j51 j50 j4y jhf jhe jhc zxe jhg jhb jha jh9;exact rfl)
def j0s(k:Int) (W:ByteArray) (al:SV) (als:List ByteArray):AT:=⟨k,W,al,als,0,(none,0,0),[],false,mkS [],0,(none,0,0),[],(none,0,0),[]⟩
def ztx{k:Int} {W:ByteArray} {al:SV} {als:List ByteArray} {p:Pub} (h:slP txV al als p):(j0s k W al als).ok p:=⟨h,z06,z06,z06,λf hf=>(by cases hf)⟩
def zci(S:List AT) (t u:AT):(S++[t]).set S.length u=S++[u]:=by
 induction S with
 |nil=>rfl
 |cons a S ih=>rw[List.cons_append,List.length_cons,List.set_cons_succ,ih];rfl
def zc4(S:List AT) (t:AT):(S++[t])[S.length]? =some t:=by
 rw[List.getElem?_append_right (Nat.le_refl _),Nat.sub_self];rfl
def zgp(S:List AT) (t:AT) (x:SV) (l:List AF):z9n (S++[t]) (S.length:Int) x l=S++[{t with f:=x,fs:=l}]:=by
 unfold z9n;rw[Int.toNat_natCast,zc4];exact zci _ _ _
def zhx(S:List AT) (t:AT) (y:SV) (l:List ByteArray) (hd:Bool) (df:ByteArray):znk (S++[t]) (S.length:Int) y l hd df=S++[{t with sy:=y,sys:=l,hd:=hd,df:=df}]:=by
 unfold znk;rw[Int.toNat_natCast,zc4];exact zci _ _ _
def j1p(S:List AT) (t:AT) (r:Int):z00 AT.cells (S++[{t with sz:=r}])=spl (z00 AT.cells (S++[t])) (0+S.length*10+7) [.int .i64 r]:=by
 rw[z07,z07,z1n,z1n,Nat.zero_add,←z01 z1x S]
 show _=(z00 AT.cells S++(t.cells++z00 AT.cells [])).set ((z00 AT.cells S).length+7) (.int .i64 r)
 rw[z3x]
 rfl
def z87{s:ByteArray}:∀i,i<=s.size->(z6f s i).size<=s.size
  |0,_=>Nat.zero_le _
  | i+1,h=>by
    rw[z6f]
    split
    · rw[ByteArray.size_extract];omega
    · exact z87 i (by omega)
def j2b{a b:ByteArray} {e:Int}:whE a b e=0->e=0:=by
 unfold whE
 split
 ·exactλh=>(z3s (by decide) h).elim
 ·exactλh=>h
def zhf (n:Nat) (hf:q1u P 113 (z4v.below j0o (n+1))):q1u P 76 (z6m.below j0r (n+1)):=by
 refine qjr mixed (qdh (qh9 z36 (qh9 z7j (qh9 zj1 (qh9 zfo (qh9 z7e (qh9 zbs (qh9 z6e (qh9 z17 qk5))))))))) (qe7 (qh8 hf (qh8 zum qk4))) (W:=zip) Try.func76 (by kernel_rfl) (show 1<=4 by decide) (show 4<=6 by decide) (λs=>by kernel_rfl) λ⟨S,(e:Int),g,(k:Int),sp,(d:Int)⟩=>(zhe n S e g k sp d).mpr ?_
 rintro⟨hmu,⟨hS,hg,hd1,hd2,hsp⟩,hd3,hk⟩ ⟨p,_,hp⟩
 have hmu:(25- d).toNat<n+1:=hmu
 simp only[sbS,exists_const,forall_const,Int.toNat_natCast]
 have hnm:=zs8 hg (mkS [110,97,109,101]) true e
 have hwe:(woR g (mkS [110,97,109,101]) true e).2=0->e=0:=zuq
 obtain⟨oww,_⟩:=z19 (mkS [110,97,109,101,115,112,97,99,101]) hg
 have osz:((z0k (mkS [110,97,109,101,115,112,97,99,101]) g).getD zJ).s.size<1000:=by rw[GJ.wf_eq]at oww;exact oww.1
 have bad0:∀k:Int,k≠0->z0l (S,e,g,sp,d) ([],k,0):=λk hk=>⟨⟨by rw[List.append_nil];exact hS,λh=>absurd h hk⟩,λh=>absurd h hk⟩
 refine⟨⟨S,e,g,mkS [110,97,109,101],true⟩,rfl,rfl,rfl,rfl,rfl,rfl,rfl,rfl,rfl,rfl,rfl,rfl,rfl,rfl,hg,λq hq=>hq,⟨g,mkS [110,97,109,101,115,112,97,99,101]⟩,rfl,rfl,rfl,rfl,rfl,rfl,rfl,rfl,rfl,rfl,hg,λq hq=>hq,?_⟩
 simp only
 clear oww
 generalize (z0k (mkS [110,97,109,101,115,112,97,99,101]) g).getD zJ=ow at*
 generalize woR g (mkS [110,97,109,101]) true e=W at*
 refine⟨⟨λ_=>⟨λ_=>⟨S,rfl,rfl,rfl,rfl,λh=>(z3s (by decide) h).elim,by omega⟩,λ_=>⟨trivial,hwe,by omega⟩⟩,λ_=>⟨trivial,hwe,hsp⟩⟩,?_⟩
 rintro⟨e2,sp2⟩ ⟨h2,hsp2⟩
 simp only at h2 hsp2⊢
 refine⟨λhne=>⟨⟨[],e2,0⟩,rfl,by rw[List.append_nil],rfl,by rw[List.append_nil],bad0 _ hne,λq _ a ha=>(by cases ha)⟩,λhe2=> ?_⟩
 have hws:=z5b (a:=W.1) (b:=sp2)
 have hbs:=z87 (s:=z1e W.1 sp2) _ (Nat.le_refl _)
 refine⟨S,rfl,rfl,⟨by omega,by omega⟩,by omega,⟨S,whE W.1 sp2 e2,g,mkS [97,108,105,97,115,101,115]⟩,rfl,rfl,rfl,rfl,rfl,rfl,rfl,rfl,rfl,rfl,rfl,rfl,rfl,hg,λq hq=>hq,?_⟩
 have hsz:∀x∈(z2c g (mkS [97,108,105,97,115,101,115]) (whE W.1 sp2 e2)).1,x.size<1000:=z7i hg
 have hLl:(z2c g (mkS [97,108,105,97,115,101,115]) (whE W.1 sp2 e2)).1.length<1000:=z7h hg
 have hE:(z2c g (mkS [97,108,105,97,115,101,115]) (whE W.1 sp2 e2)).2.2=0->e=0:=λh=>h2 (j2b (zi7 h))
 simp only
 generalize z2c g (mkS [97,108,105,97,115,101,115]) (whE W.1 sp2 e2)=F at*
 generalize z1e W.1 sp2=N at*
 generalize z6f N N.size=sp3 at*
 rintro a m c ⟨p1,hp1,hl1⟩
 have hm:m=F.1.length:=hl1.1
 subst hm
 have hat2:=λ(k:Nat) (hk:k<F.1.length) (q:Pub) (hq:slP txV (a,F.1.length,c) F.1 q)=>(show a≠noA/\q3f q (adr a (k*1)) [.string F.1[k]]from z14 z0m (by decide) hq hk)
 refine⟨⟨⟨0,F.2.2,[]⟩,rfl,trivial,rfl,rfl,by show((0:Nat):Int)<=1000;omega,Nat.le_refl _,hE⟩,?_⟩
 rintro⟨x,e4,acc⟩ ⟨hx0,hacc,h4⟩
 simp only at hx0 hacc h4⊢
 refine⟨λhx=>⟨λh0=>⟨⟨by omega,by omega⟩,(hat2 x (by omega) p1 hl1).1,F.1[x]'(by omega),λq hq=>(hat2 x (by omega) q hq.2).2,S,rfl,rfl,⟨by have:=hsz _ (List.getElem_mem (show x<F.1.length by omega));omega,by omega⟩,z01 z0m acc,by omega,⟨by omega,by omega⟩,⟨x+1,whE (F.1[x]'(by omega)) sp3 e4,acc++[z1e (F.1[x]'(by omega)) sp3]⟩,by show((x+1:Nat):Int)=_;omega,rfl,rfl,by simp,rfl,by rw[z07];rfl,⟨by show((x+1:Nat):Int)<=1000;omega,by show(acc++[_]).length<=x+1;simp;omega,λh=>h4 (j2b h)⟩,by show 1000- (x+1)<1000- x;omega⟩,λh0=> ?xa⟩,λhx=> ?xb⟩
 case xa | xb=>
  refine⟨S,rfl,rfl,by omega,⟨⟨λ_=>⟨λ_=>⟨S,rfl,rfl,rfl,rfl,λh=>(z3s (by decide) h).elim⟩,λ_=>⟨rfl,h4⟩⟩,λ_=>⟨rfl,h4⟩⟩,?_⟩⟩
  intro e5 h5
  refine⟨λhne=>⟨⟨[],e5,0⟩,rfl,by rw[List.append_nil],rfl,by rw[List.append_nil],bad0 _ hne,λq _ a ha=>(by cases ha)⟩,λhe5=> ?_⟩
  intro a7 c1 _
  have e0:=h5 he5
  have hal:∀q,(acc.length<=c1/\qhc q a7 (List.take (acc.length*1) (z00 txV acc)))->slP txV (a7,acc.length,c1) acc q:=λq hq=>by
   refine⟨rfl,hq.1,?_⟩
   have:=hq.2
   rw[List.take_of_length_le (by rw[z01 z0m];exact Nat.le_refl _)]at this
   exact this
  refine⟨⟨S,e5,j0s k N (a7,acc.length,c1) acc⟩,rfl,rfl,rfl,rfl,rfl,rfl,rfl,rfl,rfl,rfl,rfl,rfl,rfl,rfl,rfl,rfl,rfl,rfl,rfl,rfl,rfl,?_⟩
  have hto:∀q,slP txV (a7,acc.length,c1) acc q->(j0s k N (a7,acc.length,c1) acc).ok q:=λq h=>ztx h
  have htk:(j0s k N (a7,acc.length,c1) acc).k=k:=rfl
  have hte:j0s k N (a7,acc.length,c1) acc=⟨k,N,(a7,acc.length,c1),acc,0,(none,0,0),[],false,mkS [],0,(none,0,0),[],(none,0,0),[]⟩:=rfl
  simp only
  generalize j0s k N (a7,acc.length,c1) acc=t at*
  have adl:=zfj S t hS
  have adok:∀q,slP txV (a7,acc.length,c1) acc q->∀a∈adT S t,a.ok q:=λq hq a ha=>by
   unfold adT at ha
   split at ha
   ·cases ha
   ·simp at ha;subst ha;exact hto q hq
  have hR0:0<=adR S:=by unfold adR;split<;>omega
  have hgood:adE S e5=0->S.length<60/\adS S t=S++[t]/\adR S=S.length:=λh=>by
   have hl:S.length<60:=by
    by_cases hl:60<=S.length
    ·exact absurd h (zfi hl)
    ·omega
   exact⟨hl,by unfold adS;rw[if_neg (by omega)],by unfold adR;rw[if_neg (by omega)]⟩
  have hbad:∀e6:Int,e6≠0->z0l (S,e,g,sp,d) (adT S t,e6,0):=λe6 h6=>⟨⟨adl,λh=>absurd h h6⟩,λh=>absurd h h6⟩
  refine⟨λh9=> ?_,λh9=>⟨λh10=> ?_,λh10=> ?_⟩⟩
  ·refine ⟨⟨adS S t,adE S e5,g,adR S,sp3,d⟩,rfl,rfl,rfl,rfl,rfl,rfl,rfl,rfl,rfl,rfl,rfl,rfl,rfl,rfl,rfl,⟨hmu,by rw[z0y];exact adl,hg,hR0,λh=> ?_,hd1,hd3,by show(sp3.size:Int)<=1100*(d+1);omega⟩,λq hq=>hq.1.1,?_⟩
   ·obtain⟨hl,q2,q3⟩:=hgood h
    show adR S<((adS S t).length:Int)
    rw[q2,q3];simp;omega
   ·rintro⟨T,e6,x,fs⟩ ⟨hT,hT2⟩ ⟨p3,_,hTok,hsl,hfok⟩
    simp only at hT hT2 hTok hsl hfok⊢
    by_cases h6:e6=0
    ·obtain⟨ha0,hTg,hfg,hf30⟩:=hT2 h6
     obtain⟨hl,q2,q3⟩:=hgood ha0
     rw[q2]at hT hTg hfg
     rw[if_pos h6,q2,q3,zgp,List.append_assoc]
     have hlen:∀u:AT,(S++(u::T)).length=S.length+T.length+1:=λu=>by simp;omega
     have hlen2:(S++[t]++T).length=S.length+T.length+1:=by simp;omega
     refine⟨⟨{t with f:=x,fs:=fs}::T,e6,S.length⟩,rfl,rfl,rfl,rfl,⟨⟨by rw[hlen];omega,λ_=>⟨e0,λy hy=> ?_⟩⟩,λ_=>⟨by show 0<=(S.length:Int);omega,by show(S.length:Int)<((S++_::T).length:Int);rw[hlen];omega⟩⟩,λq hq y hy=> ?_⟩
     ·rw[hlen]
      rw[hlen2]at hTg hfg
      rcases List.mem_cons.1 hy with rfl|hy
      ·subst hte
       exact⟨by show 1<=k/\k<=14;omega,λh=>(by have h:k=12\/k=13:=h;omega),λb hb=>(by cases hb),λh=>(by have h:k=14:=h;omega),hfg,λh=>(by have h:k=10:=h;omega),λh=>(by have h:k=11:=h;omega),hf30,Nat.zero_le _,Nat.zero_le _⟩
      ·exact hTg y hy
     ·rcases List.mem_cons.1 hy with rfl|hy
      ·have ho:=hto q (hal q hq.1.2)
       exact⟨ho.1,ho.2.1,hq.2.2.1,ho.2.2.2.1,hq.2.2.2⟩
      ·exact hq.2.1 y hy
    ·rw[if_neg h6]
     refine⟨⟨adT S t++T,e6,adR S⟩,rfl,by rw[z0y,List.append_assoc],rfl,by rw[z0y,List.append_assoc],⟨⟨by rw[←List.append_assoc,←z0y];exact hT,λh=>absurd h h6⟩,λh=>absurd h h6⟩,λq hq y hy=>(List.mem_append.1 hy).elim (adok q (hal q hq.1.2) y) (hq.2.1 y)⟩
  ·refine⟨⟨adS S t,adE S e5,g,adR S⟩,rfl,rfl,rfl,rfl,rfl,rfl,rfl,rfl,rfl,rfl,rfl,rfl,rfl,⟨by rw[z0y];exact adl,hg,hR0,λh=> ?_⟩,λq hq=>hq.1.1,?_⟩
   ·obtain⟨hl,q2,q3⟩:=hgood h
    show adR S<((adS S t).length:Int)
    rw[q2,q3];simp;omega
   ·rintro⟨e6,y,l,hd,df⟩ hT2 ⟨p3,_,hsl⟩
    simp only at hT2 hsl⊢
    by_cases h6:e6=0
    ·obtain⟨ha0,hl0,hl30⟩:=hT2 h6
     obtain⟨hl,q2,q3⟩:=hgood ha0
     rw[if_pos h6,q2,q3,zhx]
     refine⟨⟨[{t with sy:=y,sys:=l,hd:=hd,df:=df}],e6,S.length⟩,rfl,rfl,rfl,rfl,⟨⟨by simp;omega,λ_=>⟨e0,λz hz=> ?_⟩⟩,λ_=>⟨by show 0<=(S.length:Int);omega,by simp;omega⟩⟩,λq hq z hz=> ?_⟩
     ·simp at hz;subst hz;subst hte
      exact⟨by show 1<=k/\k<=14;omega,λh=>(by have h:k=12\/k=13:=h;omega),λb hb=>(by cases hb),λh=>(by have h:k=14:=h;omega),λf hf=>(by cases hf),λ_=>hl0,λh=>(by have h:k=11:=h;omega),Nat.zero_le _,Nat.zero_le _,hl30⟩
     ·simp at hz;subst hz
      have ho:=hto q (hal q hq.1.2)
      exact⟨ho.1,hq.2,ho.2.2.1,ho.2.2.2.1,ho.2.2.2.2⟩
    ·rw[if_neg h6]
     refine⟨⟨adT S t,e6,adR S⟩,rfl,by rw[z0y],rfl,by rw[z0y],⟨⟨adl,λh=>absurd h h6⟩,λh=>absurd h h6⟩,λq hq y hy=>adok q (hal q hq.1.2) y hy⟩
  ·obtain⟨zw,_⟩:=z19 (mkS [115,105,122,101]) hg
   refine⟨⟨g,mkS [115,105,122,101]⟩,rfl,rfl,rfl,rfl,rfl,rfl,rfl,rfl,rfl,rfl,hg,λq hq=>hq.1.1,?_⟩
   simp only
   have hbd:∀k:Int,k≠0->∃b:List AT,b.length=(adS S t).length/\z00 AT.cells b=z00 AT.cells (adS S t)/\∃b_2:TmB,b_2.2.2=0/\(S++b_2.1).length=b.length/\b_2.2.1=faE (adE S e5) k/\z00 AT.cells (S++b_2.1)=z00 AT.cells b/\z0l (S,e,g,sp,d) b_2/\∀q,((g.ok q/\slP txV (a,F.1.length,c) F.1 q)/\acc.length<=c1/\qhc q a7 (List.take (acc.length*1) (z00 txV acc)))->∀y∈b_2.1,y.ok q:=λk hk=>⟨adS S t,rfl,rfl,⟨adT S t,faE (adE S e5) k,0⟩,rfl,by rw[z0y],rfl,by rw[z0y],hbad _ (z0r hk),λq hq=>adok q (hal q hq.2)⟩
   generalize (z0k (mkS [115,105,122,101]) g).getD zJ=zs at*
   refine⟨λ_=>hbd 2 (by decide),λ_=>⟨λ_=>hbd 2 (by decide),λ_=>⟨λ_=>hbd 6 (by decide),λz0=>⟨λ_=>hbd 6 (by decide),λz1=>⟨λha0=> ?_,λha0=>⟨⟨adT S t,adE S e5,adR S⟩,rfl,by rw[z0y],rfl,by rw[z0y],⟨⟨adl,λh=>absurd h ha0⟩,λh=>absurd h ha0⟩,λq hq=>adok q (hal q hq.2)⟩⟩⟩⟩⟩⟩
   clear hbd
   obtain⟨hl,q2,q3⟩:=hgood ha0
   rw[q2,q3,Int.toNat_natCast]
   have hlen:∀u:AT,(S++[u]).length=S.length+1:=λu=>by simp
   refine⟨⟨by omega,by rw[hlen];omega⟩,by rw[z01 z1x,hlen];show 0+S.length*10+7+1<=_;omega,⟨[{t with sz:=zs.n}],adE S e5,S.length⟩,rfl,by show(S++[_]).length=_;rw[hlen,hlen],rfl,j1p S t zs.n,⟨⟨by rw[hlen];omega,λ_=>⟨e0,λz hz=> ?_⟩⟩,λ_=>⟨by show 0<=(S.length:Int);omega,by rw[hlen];show(S.length:Int)<_;omega⟩⟩,λq hq z hz=> ?_⟩
   ·simp at hz;subst hz;subst hte
    exact⟨by show 1<=k/\k<=14;omega,λh=>(by have h:k=12\/k=13:=h;omega),λb hb=>(by cases hb),λh=>(by have h:k=14:=h;omega),λf hf=>(by cases hf),λh=>(by have h:k=10:=h;omega),λ_=>⟨by show 0<=zs.n;omega,by show zs.n<=5000;omega⟩,Nat.zero_le _,Nat.zero_le _,Nat.zero_le _⟩
   ·simp at hz;subst hz
    have ho:=hto q (hal q hq.2)
    exact⟨ho.1,ho.2.1,ho.2.2.1,ho.2.2.2.1,ho.2.2.2.2⟩
def z3g:∀n,q1u P 46 (z2b.below z6b n)
 |0=>CtR.below_zero (by decide) (by decide) (Sen.enters_of Try.func46 (by kernel_rfl)) λs=>rfl
 |n+1=>znr n (z3g n) (zi9 n (z3g n)) (zhf n (zdi n (z3g n)))
def zi6:q1u P 46 z2b:=CtR.of_below z3g
def z0a(S:List AT):Prop:=S.length<=60/\∀a∈S,z2e S.length a
def zfz:CtR where
 σ:=GJ
 args:=λg=>[g.av]
 h:=λ_=>[]
 m:=1
 pre:=λg=>g.wf
 mem:=gM
 β:=λ_=>List AT×SV×Int
 post:=λg ⟨S,x,e⟩=>z0a S/\(e=0->S≠[])
 pm:=λ_ ⟨S,x,e⟩=>⟨true,z05 S x,λ_ _ h e=>z18 h e⟩
 r:=λ_ ⟨S,x,e⟩=> .tup [scA x, .sv (.int .i64 e)]
 h':=λ_ _=>[]
 m':=1
def zrv:GJ->WayF:=λg=>{pubE:=[23]}
section
variable (x0:TmB) (x1:GJ) (x2:TmS) (x3:Nat->Option Obj) (x4:Nat) (x5:Option Addr)
 def jhj:=AV.sv (int i64 x0.2.1)=AV.sv (int i64 x0.2.1)/\∃(i0:List AT×(Option Addr×Nat×Nat)×Int),i0.2.1.1=noA/\i0.2.1.2.1=0/\i0.2.1.2.2=0/\i0.2.2=x0.2.1/\(z0a i0.1/\(i0.2.2=0->i0.1≠[]))/\(∀i1,((True/\GJ.ok x1 i1)/\∀(i2:AT),i2∈x0.1->AT.ok i2 i1)->z05 i0.1 i0.2.1 i1)/\True
 def jba:=((True/\GJ.ok x1 x3)/\∀(i0:AT),i0∈x0.1->AT.ok i0 x3)/\length (x2.1++x0.1)<=x4/\qhc x3 x5 (take (length (x2.1++x0.1)*nat_lit 10) (z00 AT.cells (x2.1++x0.1)))
 def jhi:=((!decide (x0.2.1=0))=true->jhj x0 x1)/\((!decide (x0.2.1=0))=false->∀(i3 i4 i5:Nat) (i6:Option Addr) (i7 i8:Nat),(∃i9,jba x0 x1 x2 i9 i8 i6)->∃(i11:List AT×(Option Addr×Nat×Nat)×Int),i11.2.1.1=i6/\i11.2.1.2.1=length (x2.1++x0.1)/\i11.2.1.2.2=i8/\i11.2.2=0/\(z0a i11.1/\(i11.2.2=0->i11.1≠[]))/\(∀i12,jba x0 x1 x2 i12 i8 i6->z05 i11.1 i11.2.1 i12)/\True)
end
def zgr(g:GJ):qkj P (qfv []) (qgy [(46,z2b)]) Try.f23 zfz (zrv) g=(GJ.wf g->(∃(p:Pub),True/\GJ.ok g p)->∃(s:TmS),GJ.k s.2.2.1=GJ.k g/\GJ.n s.2.2.1=GJ.n g/\GJ.s s.2.2.1=GJ.s g/\(GJ.y s.2.2.1).1=(GJ.y g).1/\(GJ.y s.2.2.1).2.1=(GJ.y g).2.1/\(GJ.y s.2.2.1).2.2=(GJ.y g).2.2/\(GJ.x s.2.2.1).1=(GJ.x g).1/\(GJ.x s.2.2.1).2.1=(GJ.x g).2.1/\(GJ.x s.2.2.1).2.2=(GJ.x g).2.2/\s.2.2.2.1=mkS []/\s.2.2.2.2=1/\length s.1=0/\s.2.1=0/\z3z s/\(∀(p:Pub),True/\GJ.ok g p->GJ.ok s.2.2.1 p)/\∀(b:TmB),z0l s b->(∃(p:Pub),(True/\GJ.ok g p)/\∀(a:AT),a∈b.1->AT.ok a p)->jhi b g s):=by kernel_rfl
def zme:=λg=>Eq.trans (zgr g) (by delta jhj jba jhi;exact rfl)
def zmf:q1u P 23 zfz:=by
 refine qjr mixed (qdh qk5) (qe7 (qh8 zi6 qk4)) (W:=zrv) Try.func23 (by kernel_rfl) (show 1<=1 by decide) (show 1<=1 by decide) (λs=>by kernel_rfl) λg=>(zme g).mpr ?_
 rintro hg ⟨p,_,hp⟩
 simp only[sbS,exists_const,forall_const,Int.toNat_natCast]
 refine⟨⟨[],0,g,mkS [],1⟩,rfl,rfl,rfl,rfl,rfl,rfl,rfl,rfl,rfl,rfl,rfl,rfl,rfl,⟨Nat.zero_le _,hg,by decide,by decide,by show((0:Nat):Int)<=_;decide⟩,λq hq=>hq,?_⟩
 rintro⟨T,e,r⟩ ⟨⟨hT,hT2⟩,hr⟩ _
 simp only at hT hT2 hr⊢
 rw[List.nil_append]at hT hT2 hr
 refine⟨λhne=>⟨⟨[],(none,0,0),e⟩,rfl,rfl,rfl,rfl,⟨⟨Nat.zero_le _,λa ha=>(by cases ha)⟩,λh=>absurd h hne⟩,λq hq=>⟨z06,λa ha=>(by cases ha)⟩⟩,λhe=> ?_⟩
 intro a c _
 obtain⟨_,hg2⟩:=hT2 he
 refine⟨⟨T,(a,T.length,c),0⟩,rfl,rfl,rfl,rfl,⟨⟨hT,hg2⟩,λ_ h=> ?_⟩,λq hq=>⟨⟨rfl,hq.2.1,?_⟩,hq.1.2⟩⟩
 ·have h:T=[]:=h
  subst h;have:=hr he;simp at this;omega
 ·have:=hq.2.2
  rw[List.nil_append,List.take_of_length_le (by rw[z01 z1x];exact Nat.le_refl _)]at this
  exact this
def ctN(σ:Type) (args:σ->List AV) (pre:σ->Prop) (mem:σ->PF) (β:Type) (post:σ->β->Prop) (pm:σ->β->PF) (r:σ->β->AV):CtR where
 σ:=σ
 args:=args
 h:=λ_=>[]
 m:=1
 pre:=pre
 mem:=mem
 β:=λ_=>β
 post:=post
 pm:=pm
 r:=r
 h':=λ_ _=>[]
 m':=1
def z83(n:Int):Prop:=0<=n/\n<18446744073709551616
def zg3:CtR:=ctN (Int×Int×Int) (λ⟨v,f,b⟩=>[.sv (.int .u64 v), .sv (.int .i64 f), .sv (.int .i64 b)]) (λ⟨v,f,b⟩=>z83 v/\1<=f/\f<=62/\0<=b/\b<=2000) (λ_=>{}) Int (λ_ r=>z83 r) (λ_ _=>{}) λ_ r=> .sv (.int .u64 r)
def j27:zg3.σ->WayF:=λ⟨v,f,b⟩=>{
 ann:=λ_ _ _=>some {σ:=Nat,pre:=λe=>e<=63,t:=λe=>[(7, .sv (.int .i64 (e:Int)))],h:=λ_=>[],more:=0,μ:=λe=>e,keep:=[0,1,2,6]}
 cut:=λi _ _=>match i with
  |7=>some {σ:=Nat,pre:=λe=>e<=63,t:=λe=>[(7, .sv (.int .i64 (e:Int)))],h:=λ_=>[],more:=0,μ:=λ_=>0,keep:=[0,1,2,6,8]}
  |15=>some {σ:=Int×Int,t:=λ⟨e,m⟩=>[(7, .sv (.int .i64 e)),(8, .sv (.int .u64 m))],pre:=λ⟨e,m⟩=>0<=e/\e<=63,h:=λ_=>[],more:=0,μ:=λ_=>0,keep:=[1,2,6]}
  |_=>none}
def j0n(n:Int):Prop:= -9223372036854775808<=n/\n<9223372036854775808
def zfy:CtR:=ctN Int (λv=>[.sv (.int .i64 v)]) j0n (λ_=>{}) Int (λ_ r=>0<=r/\r<4294967296) (λ_ _=>{}) λ_ r=> .sv (.int .u32 r)
def z9c:CtR:=ctN Int (λv=>[.sv (.int .i64 v)]) j0n (λ_=>{}) Int (λ_ r=>z83 r) (λ_ _=>{}) λ_ r=> .sv (.int .u64 r)
def j8u:CtR:=ctN ByteArray (λs=>[.sv (.string s)]) (λs=>s.size<1000000) (λ_=>{}) (ByteArray×Bool) (λs ⟨r,b⟩=>r.size<=s.size) (λ_ _=>{}) λ_ ⟨r,b⟩=> .tup [.sv (.string r), .sv (.bool b)]
def jca:j8u.σ->WayF:=λs=>{
 ann:=λ_ _ _=>some {σ:=ByteArray×ByteArray,pre:=λ⟨q,u⟩=>q.size+u.size<=s.size,t:=λ⟨q,u⟩=>[(4, .sv (.string q)),(0, .sv (.string u))],h:=λ_=>[],more:=0,μ:=λ⟨q,u⟩=>u.size,keep:=[]}}
def kIx(k:ByteArray):List ByteArray->Nat
 | []=>0
 |a::l=>if qea a k=true then kIx k l+1 else 0
def z21(k:ByteArray) (ks:List ByteArray):Bool:=decide (ks[kIx k ks]? =some k)
def z97(k:ByteArray) (ks:List ByteArray) (l:List PV) (w:PV):List PV:=if z21 k ks=true then l.set (kIx k ks) w else l.take (kIx k ks)++w::l.drop (kIx k ks)
def qad(k:ByteArray) (ks:List ByteArray):List ByteArray:=if z21 k ks=true then ks else ks.take (kIx k ks)++k::ks.drop (kIx k ks)
def zsq:CtR:=ctN (GV×ByteArray×GV) (λ⟨v,k,w⟩=>[v.av, .sv (.string k),w.av]) (λ⟨v,k,w⟩=>v.ks.length=v.l.length/\v.l.length<1000000) (λ⟨v,k,w⟩=>⟨true,λp=>v.ok p/\w.ok p,λ_ _ h e=>⟨GV.ok_mono h e.1,GV.ok_mono h e.2⟩⟩) GV (λ⟨v,k,w⟩ u=>u.pv= .mk v.n v.s (z97 k v.ks (GV.pvs v.l) w.pv) (qad k v.ks) v.b) (λ_ u=>vM u) λ_ u=>u.av
def jc9:zsq.σ->WayF:=λ⟨v,k,w⟩=>{
 ann:=λ_ _ _=>some {σ:=Nat,pre:=λj=>j<=v.ks.length/\j+kIx k (v.ks.drop j)=kIx k v.ks,t:=λj=>[(7, .sv (.int .i64 (j:Int)))],h:=λ_=>[],more:=0,μ:=λj=>v.ks.length- j,keep:=[1,3,5,6]}
 cut:=λi _ _=>match i with
  |4=>some {σ:=Nat,pre:=λj=>j=kIx k v.ks/\j<=v.ks.length,t:=λj=>[(7, .sv (.int .i64 (j:Int)))],h:=λ_=>[],more:=0,μ:=λ_=>0,keep:=[1,3,5,6]}
  |8=>some {σ:=Unit,pre:=λj=>z21 k v.ks=false,t:=λj=>[],h:=λ_=>[],more:=0,μ:=λ_=>0,keep:=[1,3,5,6,7]}
  |_=>none
 pub:=λi k=>match i,k with
  |7,1=>[48]
  |10,1=>[79]
  |_,_=>[]}
section
variable (x0 x1 x2:Int) (x3:Nat) (x4:Int×Int)
 abbrev j58:=Jb ((↑x3:Int)- 1)/\∃(i0:Nat),x0=x0/\x1=x1/\(↑i0:Int)=(↑x3:Int)- 1/\x2=x2/\i0<=63/\i0<x3/\True
 def zk6:=0<=x4.1/\x4.1<=63
 def jht:=Jb (x0- (↑x3:Int))/\0<=x0- (↑x3:Int)/\∃(i0:Int×Int),x0=x0/\i0.1=(↑x3:Int)/\x1=x1/\i0.2=shP BinOp.shl u64 x2 (x0- (↑x3:Int))/\(zk6 i0)/\True
 abbrev zxk:=shP BinOp.shl u64 1 ((↑x3:Int)- x0)
 def zxj:=∃(i0:Int×Int),x0=x0/\i0.1=(↑x3:Int)/\x1=x1/\i0.2=IntKind.wrap u64 (shP BinOp.shr u64 x2 ((↑x3:Int)- x0)+1)/\(zk6 i0)/\True
 def zxl:=∃(i0:Int×Int),x0=x0/\i0.1=(↑x3:Int)/\x1=x1/\i0.2=shP BinOp.shr u64 x2 ((↑x3:Int)- x0)/\(zk6 i0)/\True
 def jhr:=(2:Int)≠0/\Ji (Int.tmod (shP BinOp.shr u64 x0 ((↑x3:Int)- x1)) (2:Int)=1) (zxj x1 x2 x0 x3) (zxl x1 x2 x0 x3)
 def jhq:=Ji (Int.tmod x0 (zxk x1 x3)=shP BinOp.shl u64 1 ((↑x3:Int)- x1- 1)) (jhr x0 x1 x2 x3) (zxl x1 x2 x0 x3)
 def jhp:=Jb ((↑x3:Int)- x0)/\Jb ((↑x3:Int)- x0- 1)/\0<=(↑x3:Int)- x0- 1/\0<=(↑x3:Int)- x0/\shP BinOp.shl u64 1 ((↑x3:Int)- x0)≠0/\0<=(↑x3:Int)- x0/\Ji (shP BinOp.shl u64 1 ((↑x3:Int)- x0- 1)<Int.tmod x1 (zxk x0 x3)) (zxj x0 x2 x1 x3) (jhq x1 x0 x2 x3)
 def jhs:=Jb (x4.1+x0)/\0<=x1/\0<=x1/\∃(i0:Int),i0=IntKind.wrap u64 (shP BinOp.shl u64 (IntKind.wrap u64 (x4.1+x0)) x1+IntKind.wrap u64 (x4.2- shP BinOp.shl u64 1 x1))/\z83 i0/\True
 def jho:=(Ji ((↑x3:Int)<=x0) (jht x0 x1 x2 x3) (jhp x0 x2 x1 x3))/\∀(i5:Int×Int),zk6 i5->jhs x1 x0 i5
 def jhn:=(∃(i0:Nat),x0=x0/\x1=x1/\(↑i0:Int)=(↑x3:Int)/\x2=x2/\i0<=63/\True)/\∀(i1:Nat),i1<=63->jho x1 x2 x0 i1
 def jhm:=0<=(↑x3:Int)/\Ji (shP BinOp.shr u64 x0 (↑x3:Int)=0) (j58 x0 x1 x2 x3) (jhn x0 x1 x2 x3)
 def jhl:=(∃(i0:Nat),x0=x0/\x1=x1/\(↑i0:Int)=63/\x2=x2/\i0<=63/\True)/\∀(i1:Nat),i1<=63->jhm x0 x1 x2 i1
 def jhk:=Ji (x0=0) (∃(i0:Int),i0=0/\z83 i0/\True) (jhl x0 x1 x2)
end
def zmx(v f b:Int):qkj P (qfv []) (qgy []) Try.f142 zg3 (j27) ⟨v,f,b⟩=(z83 v/\1<=f/\f<=62/\0<=b/\b<=2000->jhk v f b):=by kernel_rfl
def ztw:=λv f b=>Eq.trans (zmx v f b) (by delta Ji Jb Jt Jf j58 zk6 jht zxk zxj zxl jhr jhq jhp jhs jho jhn jhm jhl jhk;exact rfl)
section
variable (x0:Int) (x1:Int×Int×Int) (x2:Prop)
 abbrev jbb:=x1.2.1=23/\x1.2.2=127/\(z83 x1.1/\1<=x1.2.1/\x1.2.1<=62/\0<=x1.2.2/\x1.2.2<=2000)/\x2
 def jhv:=Jb (x0+1)/\((-9223372036854775808:Int)<=0- (x0+1)/\(0:Int)- (x0+1)<=9223372036854775807)/\∃(i0:Int×Int×Int),i0.1=IntKind.wrap u64 (IntKind.wrap u64 ((0:Int)- (x0+1))+1)/\jbb i0 (∀(i1:Int),z83 i1->∃(i2:Int),i2=qb6 BinOp.or u32 2147483648 (IntKind.wrap u32 i1)/\(0<=i2/\i2<4294967296)/\True)
 def jhu:=Ji (x0<0) (jhv x0) (∃(i3:Int×Int×Int),i3.1=IntKind.wrap u64 x0/\jbb i3 (∀(i4:Int),z83 i4->∃(i5:Int),i5=IntKind.wrap u32 i4/\(0<=i5/\i5<4294967296)/\True))
end
def zgq(v:Int):qkj P (qfv []) (qgy [(142,zg3)]) Try.f117 zfy (λ_=>{}) v=(j0n v->jhu v):=by kernel_rfl
def zmc:=λv=>Eq.trans (zgq v) (by delta Ji Jb Jt Jf jbb jhv jhu;exact rfl)
section
variable (x0:Int) (x1:Int×Int×Int) (x2:Prop)
 abbrev jbc:=x1.2.1=52/\x1.2.2=1023/\(z83 x1.1/\1<=x1.2.1/\x1.2.1<=62/\0<=x1.2.2/\x1.2.2<=2000)/\x2
 def jhx:=Jb (x0+1)/\((-9223372036854775808:Int)<=0- (x0+1)/\(0:Int)- (x0+1)<=9223372036854775807)/\∃(i0:Int×Int×Int),i0.1=IntKind.wrap u64 (IntKind.wrap u64 ((0:Int)- (x0+1))+1)/\jbc i0 (∀(i1:Int),z83 i1->∃(i2:Int),i2=qb6 BinOp.or u64 9223372036854775808 i1/\z83 i2/\True)
 def jhw:=Ji (x0<0) (jhx x0) (∃(i3:Int×Int×Int),i3.1=IntKind.wrap u64 x0/\jbc i3 (∀(i4:Int),z83 i4->∃(i5:Int),i5=i4/\z83 i5/\True))
end
def zdd(v:Int):qkj P (qfv []) (qgy [(142,zg3)]) Try.f118 z9c (λ_=>{}) v=(j0n v->jhw v):=by kernel_rfl
def zg9:=λv=>Eq.trans (zdd v) (by delta Ji Jb Jt Jf jbc jhx jhw;exact rfl)
def zhk(s:ByteArray):qki P (qfv [(53,z47)]) Try.f143 z47 (λ_=>{}) s=(ByteArray.size s<(9223372036854775808:Nat)->s=s/\ByteArray.size s<(9223372036854775808:Nat)/\(↑(ptV s):Int)=(↑(ptV s):Int)/\(↑(frt s):Int)=(↑(frt s):Int)/\True):=by kernel_rfl
section
variable (x0:ByteArray) (x1:ByteArray×ByteArray)
 abbrev jbd:=∃(i0:ByteArray×Bool),i0.1=mkS []/\i0.2=false/\size i0.1<=size x0/\True
 def ji1:=Ji (255<(↑(ptV x1.2):Int)) (jbd x0) (∃i1,size i1=1/\qh1 [int u8 (IntKind.wrap u8 (↑(ptV x1.2):Int))] 0 (q19 i1)/\size x1.1+size i1<=9223372036854775807/\(0<=(↑(frt x1.2):Int)/\(↑(frt x1.2):Int)<=(↑(size x1.2):Int))/\∃(i2:ByteArray×ByteArray),i2.2=ByteArray.extract x1.2 (toNat (↑(frt x1.2):Int)) (size x1.2)/\i2.1=x1.1++i1/\size i2.1+size i2.2<=size x0/\size i2.2<size x1.2/\True)
 def ji0:=x1.2=x1.2/\size x1.2<9223372036854775808/\Ji ((↑(frt x1.2):Int)=0) (jbd x0) (ji1 x0 x1)
 def jhz:=Ji (0<(↑(size x1.2):Int)) (ji0 x0 x1) (∃(i4:ByteArray×Bool),i4.1=x1.1/\i4.2=true/\size i4.1<=size x0/\True)
 def jhy:=(∃(i0:ByteArray×ByteArray),i0.2=x0/\i0.1=mkS []/\size i0.1+size i0.2<=size x0/\True)/\∀(i1:ByteArray×ByteArray),size i1.1+size i1.2<=size x0->jhz x0 i1
end
def zua(s:ByteArray):qkj P (qfv [(143,z47)]) (qgy []) Try.f119 j8u (jca) s=(size s<1000000->jhy s):=by kernel_rfl
def j1h:=λs=>Eq.trans (zua s) (by delta Ji Jt Jf jbd ji1 ji0 jhz jhy;exact rfl)
section
variable (x0:ByteArray) (x1 x2:GV) (x3:Nat) (x4:Prop) (x5:Nat->Option Obj) (x6:Nat) (x7:Option Addr) (x8 x9:List Value) (x10:GV)
 abbrev z4o:=True/\GV.ok x1 x5/\GV.ok x2 x5
 def zxm:=GV.n x1=GV.n x1/\GV.s x1=GV.s x1/\(GV.x x1).1=(GV.x x1).1/\(GV.x x1).2.1=(GV.x x1).2.1/\(GV.x x1).2.2=(GV.x x1).2.2/\(GV.y x1).1=(GV.y x1).1/\(GV.y x1).2.1=(GV.y x1).2.1/\(GV.y x1).2.2=(GV.y x1).2.2/\GV.b x1=GV.b x1/\x4
 def j0v:=zxm x1 (zxm x2 ((∀i0,z4o x1 x2 i0->z4o x1 x2 i0)/\x4))
 def zpm:=x3<=length (GV.ks x1)/\x3+kIx x0 (drop x3 (GV.ks x1))=kIx x0 (GV.ks x1)
 abbrev z8u:=(GV.y x1).2.1
 abbrev zk8:=(↑x3:Int)<(↑(z8u x1):Int)
 def zxp:=(∀i0,z4o x1 x2 i0->q3f i0 (adr (GV.y x1).1 (toNat (↑x3:Int)*1)) [string x0])
 def j59:=Jb ((↑x3:Int)+1)/\∃(i0:Nat),x0=x0/\(↑i0:Int)=(↑x3:Int)+1/\j0v x1 x2 ((zpm x0 x1 i0)/\length (GV.ks x1)- i0<length (GV.ks x1)- x3/\True)
 def zxq:=∃(i0:Nat),x0=x0/\(↑i0:Int)=(↑x3:Int)/\j0v x1 x2 ((i0=kIx x0 (GV.ks x1)/\i0<=length (GV.ks x1))/\True)
 def ji7:=(0<=(↑x3:Int)/\zk8 x1 x3)/\(GV.y x1).1≠noA/\∃i0,zxp i0 x1 x2 x3/\(qea i0 x0=true->j59 x0 x1 x2 x3)/\(qea i0 x0=false->zxq x0 x1 x2 x3)
 abbrev ji6:=Ji (zk8 x1 x3) (ji7 x0 x1 x2 x3) (zxq x0 x1 x2 x3)
 abbrev zaf:=(GV.x x1).2.1
 abbrev z7t:=(GV.x x1).2.2
 abbrev z7s:=(GV.y x1).2.2
 def jbe:=(z4o x1 x2 x5)/\(0:Nat)+(GV.x x1).2.1<=x3/\qhc x5 x7 (take (((0:Nat)+(GV.x x1).2.1)*nat_lit 5) (spl ([]++x8) ((0:Nat)+toNat (↑x6:Int)*5) [int u64 (GV.n x2),string (GV.s x2),slice (GV.x x2).1 (zaf x2) (z7t x2),slice (GV.y x2).1 (z8u x2) (z7s x2),int i64 (GV.b x2)]))
 def zxo:=GV.b x1=GV.b x2/\GV.pv x1=PV.mk (GV.n x2) (GV.s x2) (z97 x0 (GV.ks x2) (GV.pvs (GV.l x2)) (GV.pv x10)) (qad x0 (GV.ks x2)) (GV.b x2)/\x4
 def ji5:=(0<=(↑x3:Int)/\zk8 x1 x3)/\(GV.y x1).1≠noA/\∃i0,zxp i0 x1 x2 x3/\Ji (i0=x0) (∃i2,length i2=(GV.x x1).2.1*5/\(∀i3,z4o x1 x2 i3->qhc i3 (GV.x x1).1 i2)/\qkq i2/\((0:Nat)+(GV.x x1).2.1)*80<=140737488355328/\(0<=(↑x3:Int)/\(↑x3:Int)<(↑((0:Nat)+(GV.x x1).2.1):Int))/\(0:Nat)+toNat (↑x3:Int)*5+length [int u64 (GV.n x2),string (GV.s x2),slice (GV.x x2).1 (zaf x2) (z7t x2),slice (GV.y x2).1 (z8u x2) (z7s x2),int i64 (GV.b x2)]<=length ([]++i2)/\∀(i4 i5 i6:Nat) (i7:Option Addr) (i8 i9:Nat),(∃i10,jbe x1 x2 i9 i10 x3 i7 i2)->∃(i11:GV),GV.n i11=GV.n x1/\GV.s i11=GV.s x1/\(GV.x i11).1=i7/\(GV.x i11).2.1=0+(GV.x x1).2.1/\(GV.x i11).2.2=i9/\(GV.y i11).1=(GV.y x1).1/\(GV.y i11).2.1=(GV.y x1).2.1/\(GV.y i11).2.2=(GV.y x1).2.2/\zxo x0 i11 x1 ((∀i12,jbe x1 x2 i9 i12 x3 i7 i2->GV.ok i11 i12)/\True) x2) (∃(i13:Unit),x0=x0/\(↑x3:Int)=(↑x3:Int)/\j0v x1 x2 (z21 x0 (GV.ks x1)=false/\True))
 abbrev zk7:=nat_lit 0+(x3- nat_lit 0)+nat_lit 1
 abbrev zxr:=slice (GV.y x1).1 (z8u x1) (z7s x1)
 abbrev zae:=slice (GV.x x1).1 (zaf x1) (z7t x1)
 def j9i:=(z4o x1 x2 x5)/\nat_lit 0+(x3- nat_lit 0)+nat_lit 1+((GV.x x1).2.1- x3)<=x6/\qhc x5 x7 (take ((nat_lit 0+(x3- nat_lit 0)+nat_lit 1+((GV.x x1).2.1- x3))*nat_lit 5) ([]++x8++[int u64 (GV.n x2),string (GV.s x2),slice (GV.x x2).1 (zaf x2) (z7t x2),slice (GV.y x2).1 (z8u x2) (z7s x2),int i64 (GV.b x2)]++x9))
 def zxn:=nat_lit 0+(x3- nat_lit 0)+nat_lit 1+((GV.y x1).2.1- x3)<=x6/\qhc x5 x7 (take ((nat_lit 0+(x3- nat_lit 0)+nat_lit 1+((GV.y x1).2.1- x3))*nat_lit 1) ([]++x8++[string x0]++x9))
 def ji4:=(GV.y x1).2.1<=(GV.y x1).2.2/\(0<=(↑x3:Int)/\(↑x3:Int)<=(↑(z7s x1):Int))/\∃i0,length i0=(x3- nat_lit 0)*1/\(∀i1,z4o x1 x2 i1->qhc i1 (slA (GV.y x1).1 (z7s x1) (nat_lit 0) 1) i0)/\qkq i0/\(nat_lit 0+(x3- nat_lit 0))*16<=140737488355328/\length ([]++i0)=(nat_lit 0+(x3- nat_lit 0))*1/\(zk7 x3)*16<=140737488355328/\(GV.y x1).2.1<=(GV.y x1).2.2/\(0<=(↑x3:Int)/\(↑x3:Int)<=(↑(z8u x1):Int))/\length ([]++i0++[string x0])=(zk7 x3)*1/\∃i2,length i2=((GV.y x1).2.1- x3)*1/\(∀i3,z4o x1 x2 i3->qhc i3 (slA (GV.y x1).1 (z7s x1) x3 1) i2)/\qkq i2/\(nat_lit 0+(x3- nat_lit 0)+nat_lit 1+((GV.y x1).2.1- x3))*16<=140737488355328/\AV.sv (zxr x1)=AV.sv (zxr x1)/\AV.sv (zxr x1)=AV.sv (zxr x1)/\(GV.x x1).2.1<=(GV.x x1).2.2/\(0<=(↑x3:Int)/\(↑x3:Int)<=(↑(z7t x1):Int))/\∃i4,length i4=(x3- nat_lit 0)*5/\(∀i5,z4o x1 x2 i5->qhc i5 (slA (GV.x x1).1 (z7t x1) (nat_lit 0) 5) i4)/\qkq i4/\(nat_lit 0+(x3- nat_lit 0))*80<=140737488355328/\length ([]++i4)=(nat_lit 0+(x3- nat_lit 0))*5/\(zk7 x3)*80<=140737488355328/\(GV.x x1).2.1<=(GV.x x1).2.2/\(0<=(↑x3:Int)/\(↑x3:Int)<=(↑(zaf x1):Int))/\length ([]++i4++[int u64 (GV.n x2),string (GV.s x2),slice (GV.x x2).1 (zaf x2) (z7t x2),slice (GV.y x2).1 (z8u x2) (z7s x2),int i64 (GV.b x2)])=(zk7 x3)*5/\∃i6,length i6=((GV.x x1).2.1- x3)*5/\(∀i7,z4o x1 x2 i7->qhc i7 (slA (GV.x x1).1 (z7t x1) x3 5) i6)/\qkq i6/\(nat_lit 0+(x3- nat_lit 0)+nat_lit 1+((GV.x x1).2.1- x3))*80<=140737488355328/\AV.agg [AV.sv (int u64 (GV.n x2)),AV.sv (string (GV.s x2)),AV.sv (zae x2),AV.sv (zxr x2),AV.sv (int i64 (GV.b x2))]=AV.agg [AV.sv (int u64 (GV.n x2)),AV.sv (string (GV.s x2)),AV.sv (zae x2),AV.sv (zxr x2),AV.sv (int i64 (GV.b x2))]/\AV.sv (zae x1)=AV.sv (zae x1)/\AV.sv (zae x1)=AV.sv (zae x1)/\∀(i8 i9 i10:Nat) (i11:Option Addr) (i12 i13:Nat),(∃i14,j9i x1 x2 x3 i14 i13 i11 i4 i6)->∀(i15 i16 i17:Nat) (i18:Option Addr) (i19 i20:Nat),(∃i21,(j9i x1 x2 x3 i21 i13 i11 i4 i6)/\zxn x0 x1 x3 i21 i20 i18 i0 i2)->∃(i22:GV),GV.n i22=GV.n x1/\GV.s i22=GV.s x1/\(GV.x i22).1=i11/\(GV.x i22).2.1=nat_lit 0+(x3- nat_lit 0)+nat_lit 1+((GV.x x1).2.1- x3)/\(GV.x i22).2.2=i13/\(GV.y i22).1=i18/\(GV.y i22).2.1=nat_lit 0+(x3- nat_lit 0)+nat_lit 1+((GV.y x1).2.1- x3)/\(GV.y i22).2.2=i20/\zxo x0 i22 x1 ((∀i23,(j9i x1 x2 x3 i23 i13 i11 i4 i6)/\zxn x0 x1 x3 i23 i20 i18 i0 i2->GV.ok i22 i23)/\True) x2
 def ji3:=(Ji (zk8 x1 x3) (ji5 x0 x1 x2 x3) (∃(i15:Unit),x0=x0/\(↑x3:Int)=(↑x3:Int)/\j0v x1 x2 (z21 x0 (GV.ks x1)=false/\True)))/\∀(i17:Unit),z21 x0 (GV.ks x1)=false->ji4 x0 x1 x2 x3
 def ji2:=((∃(i0:Nat),x0=x0/\(↑i0:Int)=0/\j0v x1 x2 ((zpm x0 x1 i0)/\True))/\∀(i2:Nat),zpm x0 x1 i2->ji6 x0 x1 x2 i2)/\∀(i11:Nat),i11=kIx x0 (GV.ks x1)/\i11<=length (GV.ks x1)->ji3 x0 x1 x2 i11
end
def zu8(v:GV) (k:ByteArray) (w:GV):qkj P (qfv []) (qgy []) Try.f38 zsq (jc9) ⟨v,k,w⟩=(length (GV.ks v)=length (GV.l v)/\length (GV.l v)<1000000->(∃(p:Pub),z4o v w p)->ji2 k v w):=by kernel_rfl
def put_eq:=λv k w=>Eq.trans (zu8 v k w) (by delta Ji Jb Jt Jf z4o zxm j0v zpm z8u zk8 zxp j59 zxq ji7 ji6 zaf z7t z7s jbe zxo ji5 zk7 zxr zae j9i zxn ji4 ji3 ji2;exact rfl)
def zo4(x:Int):IntKind.u64.wrap x=x % 18446744073709551616:=by
 unfold IntKind.wrap;simp[IntKind.bits,IntKind.signed]
def zj4(x:Int):IntKind.u32.wrap x=x % 4294967296:=by
 unfold IntKind.wrap;simp[IntKind.bits,IntKind.signed]
def z2u(x:Int):z83 (IntKind.u64.wrap x):=by
 rw[zo4];unfold z83;omega
def zuj:∀k:Nat,k<64->shP .shl .u64 1 (k:Int)≠0:=by decide+kernel
def jna(v:Int):shP .shr .u64 v 0=v:=by
 show v.fdiv (2 ^ min (0:Int).toNat IntKind.u64.bits)=v
 rw[show min (0:Int).toNat IntKind.u64.bits=0 from rfl]
 show v.fdiv 1=v
 exact Int.fdiv_one v
def jc3(c:Nat) (h:c<256):q19 (mkS [c])=[.int .u8 (c:Nat)]:=by
 simp[q19,mkS]
 omega
def qc4:q1u P 142 zg3:=by
 refine qjr mixed (qdh qk5) (qe7 qk4) (W:=j27) Try.func142 (by kernel_rfl) (show 1<=1 by decide) (show 1<=1 by decide) (λs=>by kernel_rfl) λ⟨(v:Int),(f:Int),(b:Int)⟩=>(ztw v f b).mpr ?_
 rintro⟨hv,hf1,hf2,hb1,hb2⟩
 simp only[sbS,exists_const,forall_const,Int.toNat_natCast]
 have nz:∀e:Nat,¬v=0->shP .shr .u64 v (e:Int)=0->e≠0:=λe h0 hs h=>by
  subst h;rw[show((0:Nat):Int)=0 from rfl,jna]at hs;exact h0 hs
 refine⟨λh0=>⟨0,rfl,by unfold z83;omega⟩,λh0=>⟨⟨63,rfl,by omega⟩,λe he=>⟨by omega,λhs=> ?_,λhs=>⟨⟨e,rfl,he⟩,λk hk=> ?_⟩⟩⟩⟩
 ·have:=nz e h0 hs
  exact⟨⟨by omega,by omega⟩,e- 1,by omega,by omega,by omega⟩
 ·clear nz
  have hk0:(0:Int)<=k:=by omega
  refine⟨⟨λhle=>⟨⟨by omega,by omega⟩,by omega,⟨k,_⟩,rfl,rfl,hk0,by omega⟩,λhgt=>⟨⟨by omega,by omega⟩,⟨by omega,by omega⟩,by omega,by omega,?_,by omega,λ_=>⟨⟨k,_⟩,rfl,rfl,hk0,by omega⟩,λ_=>⟨λ_=>⟨by decide,λ_=>⟨⟨k,_⟩,rfl,rfl,hk0,by omega⟩,λ_=>⟨⟨k,_⟩,rfl,rfl,hk0,by omega⟩⟩,λ_=>⟨⟨k,_⟩,rfl,rfl,hk0,by omega⟩⟩⟩⟩,?_⟩
  ·obtain⟨m,hm⟩:=Int.eq_ofNat_of_zero_le (show 0<=(k:Int)- f by omega)
   rw[hm];exact zuj m (by omega)
  ·rintro⟨a,m⟩ ⟨ha1,ha2⟩
   simp only at ha1 ha2⊢
   exact⟨⟨by omega,by omega⟩,by omega,by omega,_,rfl,z2u _⟩
def zmd:q1u P 117 zfy:=by
 refine qjr mixed (qdh qk5) (qe7 (qh8 qc4 qk4)) (W:=λ_=>{}) Try.func117 (by kernel_rfl) (show 1<=1 by decide) (show 1<=1 by decide) (λs=>by kernel_rfl) λ(v:Int)=>(zmc v).mpr ?_
 rintro⟨hv1,hv2⟩
 simp only[sbS,exists_const,forall_const,Int.toNat_natCast]
 refine⟨λh=>⟨⟨by omega,by omega⟩,⟨by omega,by omega⟩,⟨_,23,127⟩,rfl,rfl,rfl,⟨z2u _,(by show(1:Int)<=23;decide),(by show(23:Int)<=62;decide),(by show(0:Int)<=127;decide),(by show(127:Int)<=2000;decide)⟩,λb hb=>⟨_,rfl,?_⟩⟩,λh=>⟨⟨_,23,127⟩,rfl,rfl,rfl,⟨z2u _,(by show(1:Int)<=23;decide),(by show(23:Int)<=62;decide),(by show(0:Int)<=127;decide),(by show(127:Int)<=2000;decide)⟩,λb hb=>⟨_,rfl,?_⟩⟩⟩
 ·show 0<=IntKind.u32.wrap _/\IntKind.u32.wrap _<4294967296
  rw[zj4];omega
 ·rw[zj4];omega
def zga:q1u P 118 z9c:=by
 refine qjr mixed (qdh qk5) (qe7 (qh8 qc4 qk4)) (W:=λ_=>{}) Try.func118 (by kernel_rfl) (show 1<=1 by decide) (show 1<=1 by decide) (λs=>by kernel_rfl) λ(v:Int)=>(zg9 v).mpr ?_
 rintro⟨hv1,hv2⟩
 simp only[sbS,exists_const,forall_const,Int.toNat_natCast]
 refine⟨λh=>⟨⟨by omega,by omega⟩,⟨by omega,by omega⟩,⟨_,52,1023⟩,rfl,rfl,rfl,⟨z2u _,(by show(1:Int)<=52;decide),(by show(52:Int)<=62;decide),(by show(0:Int)<=1023;decide),(by show(1023:Int)<=2000;decide)⟩,λb hb=>⟨_,rfl,?_⟩⟩,λh=>⟨⟨_,52,1023⟩,rfl,rfl,rfl,⟨z2u _,(by show(1:Int)<=52;decide),(by show(52:Int)<=62;decide),(by show(0:Int)<=1023;decide),(by show(1023:Int)<=2000;decide)⟩,λb hb=>⟨b,rfl,hb⟩⟩⟩
 exact z2u _
def zhl:q58 P 143 z47:=by
 refine qkl mixed (qdh (qh9 zcf qk5)) (W:=λ_=>{}) Try.func143 (by kernel_rfl) (by decide) (by decide) (λs=>by kernel_rfl) λ(s:ByteArray)=>(zhk s).mpr ?_
 intro h
 exact⟨rfl,h,rfl,rfl,trivial⟩
def j1i:q1u P 119 j8u:=by
 refine qjr mixed (qdh (qh9 zhl qk5)) (qe7 qk4) (W:=jca) Try.func119 (by kernel_rfl) (show 1<=1 by decide) (show 1<=1 by decide) (λs=>by kernel_rfl) λ(s:ByteArray)=>(j1h s).mpr ?_
 intro hs
 simp only[sbS,exists_const,forall_const,Int.toNat_natCast]
 refine⟨⟨⟨mkS [],s⟩,rfl,rfl,by show 0+s.size<=_;omega⟩,?_⟩
 rintro⟨q,u⟩ hq
 simp only at hq⊢
 refine⟨λh=>⟨by omega,λh0=>⟨⟨mkS [],false⟩,rfl,rfl,Nat.zero_le _⟩,λh0=>⟨λhp=>⟨⟨mkS [],false⟩,rfl,rfl,Nat.zero_le _⟩,λhp=> ?_⟩⟩,λh=>⟨⟨q,true⟩,rfl,rfl,by show q.size<=_;omega⟩⟩
 have hf:=zgt u
 have hc:IntKind.u8.wrap (ptV u:Int)=((ptV u:Nat):Int):=by rw[z8q];omega
 rw[hc]
 have hz:(mkS [ptV u]).size=1:=rfl
 refine⟨mkS [ptV u],rfl,?_,by omega,⟨by omega,by omega⟩,⟨q++mkS [ptV u],u.extract (frt u) u.size⟩,rfl,rfl,?_,?_⟩
 ·intro j w hj
  rw[jc3 _ (by omega)]at hj;rw[Nat.zero_add];exact hj
 ·show(q++mkS [ptV u]).size+(u.extract (frt u) u.size).size<=s.size
  rw[ByteArray.size_append,ByteArray.size_extract,hz];omega
 ·show(u.extract (frt u) u.size).size<u.size
  rw[ByteArray.size_extract];omega
section
def zlf{x:Addr} (h:x.spot=none) (k:Nat):(x.add k).spot=none:=by
 unfold Addr.add;split
 ·exact h
 ·rfl
variable {a:Option Addr}
def j0y(h:Pl a) (c l sz:Nat):Pl (slA a c l sz):=trivial
def z3k{p:Pub} {c l sz:Nat} {vs us:List Value} (h:qhc p a vs) (hl:l<=c) (hlen:vs.length<=c*sz) (hu:∀(j:Nat) v,us[j]? =some v->vs[l*sz+j]? =some v):qhc p (slA a c l sz) us:=by
  have hp:Pl a:=Sen.rowP_Pl h
  cases us with
  |nil=>exact .inl ⟨rfl,j0y hp c l sz⟩
  | cons u us=>
    have h0:=hu 0 u rfl
    rcases h with⟨rfl,_⟩|⟨x,rfl,hs,hc⟩
    · simp at h0
    · have hne:c≠l:=λe=>by
        subst e
        have:=(List.getElem?_eq_some_iff.mp h0).1
        omega
      refine .inr ⟨x.add (l*sz),?_,zlf hs _,λj v hj=> ?_⟩
      · unfold slA;rw[if_neg hne];rfl
      · have:=hc (l*sz+j) v (hu j v hj)
        rw[Addr.add_add];exact this
def GV.oks_iff:∀{l:List GV} {p:Pub},GV.oks l p↔∀v∈l,v.ok p
  | [],p=>by unfold GV.oks;simp
  | v::l,p=>by
    unfold GV.oks
    rw[GV.oks_iff (l:=l)]
    simp
variable {α:Type}
def z3w{f:α->List Value} (l:List α) (k:Nat):z00 f l=z00 f (l.take k)++z00 f (l.drop k):=by
 rw[←z07,List.take_append_drop]
def zch{f:α->List Value} (l:List α) (k:Nat):∀(j:Nat) v,(z00 f (l.take k))[j]? =some v->(z00 f l)[j]? =some v:=λj v h=>by
 rw[z3w l k,List.getElem?_append_left (List.getElem?_eq_some_iff.mp h).1];exact h
def z4y{f:α->List Value} {e:Nat} (hf:∀x,(f x).length=e) (l:List α) (k:Nat) (hk:k<=l.length):∀(j:Nat) v,(z00 f (l.drop k))[j]? =some v->(z00 f l)[k*e+j]? =some v:=λj v h=>by
 rw[z3w l k]
 have:(z00 f (l.take k)).length=k*e:=by rw[z01 hf,List.length_take,Nat.min_eq_left hk]
 rw[←this,List.getElem?_append_right (Nat.le_add_right _ _),Nat.add_sub_cancel_left];exact h
def z1g{α:Type} {f:α->List Value} (h:∀x,∀v∈f x,v.oneCell'=true):∀l,qkq (z00 f l)
  | []=>λv hv=>by cases hv
  | x::l=>λv hv=>by
    rcases List.mem_append.1 hv with hv|hv
    · exact h x v hv
    · exact z1g h l v hv
def zhg:∀(x:ByteArray),∀v∈txV x,v.oneCell'=true:=λx v hv=>by
 simp[txV]at hv;subst hv;rfl
def zcd:∀(x:GV),∀v∈x.cells,v.oneCell'=true:=λx v hv=>by
 simp[GV.cells]at hv
 rcases hv with rfl|rfl|rfl|rfl|rfl<;>rfl
def zrk(k:ByteArray):∀l,kIx k l<=l.length
  | []=>Nat.zero_le _
  | a::l=>by
    rw[kIx];split
    · have:=zrk k l;rw[List.length_cons];omega
    · exact Nat.zero_le _
def zhv:∀(xs A B C:List Value),B.length=xs.length->spl (A++(B++C)) A.length xs=A++(xs++C)
  | [],A,B,C,h=>by
    have:B=[]:=List.length_eq_zero_iff.mp h
    subst this;rfl
  |x::xs,A,[],C,h=>by simp at h
  | x ::xs,A,b::B,C,h=>by
    rw[spl]
    have e:(A++(b::B++C)).set A.length x=(A++[x])++(B++C):=by
      clear h
      induction A with
      |nil=>rfl
      |cons a A ih=>rw[List.cons_append,List.length_cons,List.set_cons_succ,ih];rfl
    rw[e,show A.length+1=(A++[x]).length by simp,zhv xs (A++[x]) B C (by simpa using h)]
    simp
def z3l{f:α->List Value} {e:Nat} (hf:∀x,(f x).length=e) (l:List α) (k:Nat) (hk:k<l.length) (x:α):z00 f (l.set k x)=spl (z00 f l) (0+k*e) (f x):=by
 rw[List.set_eq_take_append_cons_drop,if_pos hk,z07]
 show _++(f x++_)=_
 have h1:z00 f l=z00 f (l.take k)++(f l[k]++z00 f (l.drop (k+1))):=by
  conv=>lhs;rw[z3w l k,List.drop_eq_getElem_cons hk]
  rfl
 have h2:(z00 f (l.take k)).length=k*e:=by rw[z01 hf,List.length_take,Nat.min_eq_left (Nat.le_of_lt hk)]
 rw[h1,Nat.zero_add,←h2]
 exact(zhv _ _ _ _ ((hf _).trans (hf _).symm)).symm
def zcg:q1u P 38 zsq:=by
 refine qjr mixed (qdh qk5) (qe7 qk4) (W:=jc9) Try.func38 (by kernel_rfl) (show 1<=1 by decide) (show 1<=1 by decide) (λs=>by kernel_rfl) λ⟨v,k,w⟩=>(put_eq v k w).mpr ?_
 rintro⟨hkl,hl⟩ ⟨p,_,hp,hw⟩
 have hv:=hp
 have vo:=λq (h:v.ok q)=>(by rw[GV.ok_eq]at h;exact h:slP GV.cells v.x v.l q/\slP txV v.y v.ks q/\GV.oks v.l q)
 have xl:v.x.2.1=v.l.length:=(vo p hp).1.1
 have yl:v.y.2.1=v.ks.length:=(vo p hp).2.1.1
 have xc:v.l.length<=v.x.2.2:=by have:=(vo p hp).1.2.1;omega
 have yc:v.ks.length<=v.y.2.2:=by have:=(vo p hp).2.1.2.1;omega
 simp only[sbS,exists_const,forall_const,Int.toNat_natCast,xl,yl]
 have kd:∀s,s<v.ks.length->kIx k (v.ks.drop s)=if qea (v.ks[s]!) k=true then kIx k (v.ks.drop (s+1))+1 else 0:=λs hs=>by
  rw[List.drop_eq_getElem_cons hs,kIx,getElem!_pos v.ks s hs]
 have kat:∀s (hs:s<v.ks.length),v.ks[s]! =v.ks[s]:=λs hs=>getElem!_pos v.ks s hs
 have txc:=λs (hs:s<v.ks.length) q (h:v.ok q)=>(show v.y.1≠noA/\q3f q (adr v.y.1 (s*1)) [.string v.ks[s]]from z14 z0m (by decide) (vo q h).2.1 hs)
 refine⟨⟨⟨0,rfl,Nat.zero_le _,Nat.zero_add _⟩,λs ⟨hs,hk⟩=>⟨λhlt=> ?_,λhge=>⟨s,rfl,?_,hs⟩⟩⟩,λs ⟨hs,hsl⟩=>⟨⟨λhlt=> ?_,λhge=> ?_⟩,λhno=> ?_⟩⟩
 ·have hlt:s<v.ks.length:=by omega
  have hd:=kd s hlt
  rw[kat s hlt]at hd
  refine⟨⟨by omega,by omega⟩,(txc s hlt p hp).1,v.ks[s],λq hq=>(txc s hlt q hq.1).2,λhl1=>⟨⟨by omega,by omega⟩,s+1,by omega,⟨by omega,by rw[if_pos hl1]at hd;omega⟩,by omega⟩,λhl1=>⟨s,rfl,by rw[if_neg (by rw[hl1];decide)]at hd;omega,hs⟩⟩
 ·rw[List.drop_of_length_le (by omega),kIx]at hk;omega
 ·have hlt:s<v.ks.length:=by omega
  have hll:s<v.l.length:=by omega
  refine⟨⟨by omega,by omega⟩,(txc s hlt p hp).1,v.ks[s],λq hq=>(txc s hlt q hq.1).2,λhe=> ?_,λhe=> ?_⟩
  ·have hh:z21 k v.ks=true:=by
    unfold z21;rw[←hs,List.getElem?_eq_getElem hlt,he];exact decide_eq_true rfl
   refine⟨z00 GV.cells v.l,z01 z0o _,λq hq=>(vo q hq.1).1.2.2,z1g zcd _,by omega,⟨by omega,by omega⟩,by rw[List.nil_append,z01 z0o];show 0+s*5+5<=_;omega,λa c _=>⟨.mk v.n v.s (a,0+v.l.length,c) (v.l.set s w) v.y v.ks v.b,rfl,rfl,rfl,rfl,rfl,rfl,yl,rfl,rfl,?_,λq hq=> ?_⟩⟩
   ·rw[GV.pv]
    show PV.mk v.n v.s (GV.pvs (v.l.set s w)) v.ks v.b=_
    unfold z97 qad
    rw[hh,if_pos rfl,if_pos rfl,←hs,GV.pvs_map,GV.pvs_map,List.map_set]
   ·have h2:=hq.2.2
    rw[List.nil_append]at h2
    change qhc q a (List.take ((0+v.l.length)*5) (spl (z00 GV.cells v.l) (0+s*5) w.cells))at h2
    rw[←z3l z0o v.l s hll w,List.take_of_length_le (by rw[z01 z0o,List.length_set];omega)]at h2
    unfold GV.ok
    refine⟨⟨by show 0+v.l.length=_;rw[List.length_set];omega,hq.2.1,h2⟩,(vo q hq.1.1).2.1,GV.oks_iff.2 λx hx=> ?_⟩
    rcases List.mem_or_eq_of_mem_set hx with hx|rfl
    ·exact GV.oks_iff.1 (vo q hq.1.1).2.2 x hx
    ·exact hq.1.2
  ·unfold z21;rw[←hs,List.getElem?_eq_getElem hlt];exact decide_eq_false λh=>he (Option.some.inj h)
 ·unfold z21;rw[←hs,List.getElem?_eq_none (by omega)];rfl
 ·have hsl2:s<=v.l.length:=by omega
  have tl:(v.ks.take s).length=s:=by rw[List.length_take];omega
  have tl2:(v.l.take s).length=s:=by rw[List.length_take];omega
  have r1:(z00 txV (v.ks.take s)).length=s*1:=by rw[z01 z0m,tl]
  have r2:(z00 txV (v.ks.drop s)).length=(v.ks.length- s)*1:=by rw[z01 z0m,List.length_drop]
  have r3:(z00 GV.cells (v.l.take s)).length=s*5:=by rw[z01 z0o,tl2]
  have r4:(z00 GV.cells (v.l.drop s)).length=(v.l.length- s)*5:=by rw[z01 z0o,List.length_drop]
  refine⟨yc,⟨by omega,by omega⟩,z00 txV (v.ks.take s),by rw[r1];omega,λq hq=>z3k (vo q hq.1).2.1.2.2 (Nat.zero_le _) (by rw[z01 z0m];omega) (λj x hj=>by rw[Nat.zero_mul,Nat.zero_add];exact zch _ _ j x hj),z1g zhg _,by omega,by rw[List.nil_append,r1];omega,by omega,yc,⟨by omega,by omega⟩,by rw[List.length_append,List.nil_append,r1];show s*1+1=_;omega,z00 txV (v.ks.drop s),r2,λq hq=>z3k (vo q hq.1).2.1.2.2 (by omega) (by rw[z01 z0m];omega) (z4y z0m _ _ hsl),z1g zhg _,by omega,xc,⟨by omega,by omega⟩,z00 GV.cells (v.l.take s),by rw[r3];omega,λq hq=>z3k (vo q hq.1).1.2.2 (Nat.zero_le _) (by rw[z01 z0o];omega) (λj x hj=>by rw[Nat.zero_mul,Nat.zero_add];exact zch _ _ j x hj),z1g zcd _,by omega,by rw[List.nil_append,r3];omega,by omega,xc,⟨by omega,by omega⟩,by rw[List.length_append,List.nil_append,r3];show s*5+5=_;omega,z00 GV.cells (v.l.drop s),r4,λq hq=>z3k (vo q hq.1).1.2.2 (by omega) (by rw[z01 z0o];omega) (z4y z0o _ _ hsl2),z1g zcd _,by omega,λa c _ a2 c2 _=> ?_⟩
  have hx:(v.l.take s++w::v.l.drop s).length=0+(s- 0)+1+(v.l.length- s):=by simp;omega
  have hy:(v.ks.take s++k::v.ks.drop s).length=0+(s- 0)+1+(v.ks.length- s):=by simp;omega
  refine⟨.mk v.n v.s (a,0+(s- 0)+1+(v.l.length- s),c) (v.l.take s++w::v.l.drop s) (a2,0+(s- 0)+1+(v.ks.length- s),c2) (v.ks.take s++k::v.ks.drop s) v.b,rfl,rfl,rfl,rfl,rfl,rfl,rfl,rfl,rfl,?_,λq hq=> ?_⟩
  ·rw[GV.pv]
   unfold z97 qad
   rw[hno,if_neg (by decide),if_neg (by decide),←hs,GV.pvs_map,GV.pvs_map,List.map_append,List.map_cons,List.map_take,List.map_drop]
  ·unfold GV.ok
   refine⟨⟨hx.symm,hq.1.2.1,?_⟩,⟨hy.symm,hq.2.1,?_⟩,GV.oks_iff.2 λx hx=> ?_⟩
   ·have h2:=hq.1.2.2
    rw[List.take_of_length_le (by simp only[List.length_append,List.nil_append,r3,r4];show s*5+5+_<=_;omega)]at h2
    rw[z07]
    simp only[List.nil_append,List.append_assoc]at h2
    exact h2
   ·have h2:=hq.2.2
    rw[List.take_of_length_le (by simp only[List.length_append,List.nil_append,r1,r2];show s*1+1+_<=_;omega)]at h2
    rw[z07]
    simp only[List.nil_append,List.append_assoc]at h2
    exact h2
   ·have ho:=GV.oks_iff.1 (vo q hq.1.1.1).2.2
    rcases List.mem_append.1 hx with hx|hx
    ·exact ho x (List.mem_of_mem_take hx)
    ·rcases List.mem_cons.1 hx with rfl|hx
     ·exact hq.1.1.2
     ·exact ho x (List.mem_of_mem_drop hx)
end
abbrev VlS:=List AT×SV×Int×Int×GJ×Int
abbrev VlB:=Int×Int×GV
def vlO(x:SV) (all:Int):List (Nat×AO):=[(1, .cells 136 (some 0) false [svA x, .sv (.int .i64 all)])]
def z0t(all:Int):VlB->Prop:=λ⟨all',e,v⟩=>all<=all'/\all'<=2001/\(e=0->all'<=2000)
def sgM(S:List AT) (x:SV) (g:GJ):PF:=⟨true,λp=>z05 S x p/\g.ok p,λ_ _ h e=>⟨z18 h e.1,GJ.ok_mono h e.2⟩⟩
def jn8(S:List AT) (x:SV) (a:AT) (g:GJ):PF:=⟨true,λp=>z05 S x p/\a.ok p/\g.ok p,λ_ _ h e=>⟨z18 h e.1,AT.ok_mono h e.2.1,GJ.ok_mono h e.2.2⟩⟩
def cVl:CtR where
 σ:=VlS
 args:=λ⟨S,x,all,t,g,d⟩=>[.ptr 1 0, .sv (.int .i64 t),g.av, .sv (.int .i64 d)]
 h:=λ⟨S,x,all,t,g,d⟩=>vlO x all
 m:=2
 pre:=λ⟨S,x,all,t,g,d⟩=>z0a S/\(0<=t/\t<S.length)/\g.wf/\(0<=all/\all<=2000)/\1<=d/\d<=21
 mem:=λ⟨S,x,all,t,g,d⟩=>sgM S x g
 β:=λ_=>VlB
 post:=λ⟨S,x,all,t,g,d⟩ b=>z0t all b
 pm:=λ_ ⟨all',e,v⟩=>vM v
 r:=λ_ ⟨all',e,v⟩=> .tup [v.av, .sv (.int .i64 e)]
 h':=λ⟨S,x,all,t,g,d⟩ ⟨all',e,v⟩=>vlO x all'
 m':=2
def z8i:VlS->Nat:=λ⟨S,x,all,t,g,d⟩=>2*(25- d).toNat
abbrev VqS:=List AT×SV×Int×AT×GJ×Int
def cVq(k:AT->GJ->Prop):CtR where
 σ:=VqS
 args:=λ⟨S,x,all,a,g,d⟩=>[.ptr 1 0,a.av,g.av, .sv (.int .i64 d)]
 h:=λ⟨S,x,all,a,g,d⟩=>vlO x all
 m:=2
 pre:=λ⟨S,x,all,a,g,d⟩=>z0a S/\a∈S/\k a g/\g.wf/\(0<=all/\all<=2000)/\1<=d/\d<=20
 mem:=λ⟨S,x,all,a,g,d⟩=>jn8 S x a g
 β:=λ_=>VlB
 post:=λ⟨S,x,all,a,g,d⟩ b=>z0t all b
 pm:=λ_ ⟨all',e,v⟩=>vM v
 r:=λ_ ⟨all',e,v⟩=> .tup [v.av, .sv (.int .i64 e)]
 h':=λ⟨S,x,all,a,g,d⟩ ⟨all',e,v⟩=>vlO x all'
 m':=2
def zcb:VqS->Nat:=λ⟨S,x,all,a,g,d⟩=>2*(25- d).toNat
def zt7(a:AT) (g:GJ):Prop:=a.k=12
def isMap(a:AT) (g:GJ):Prop:=a.k=13/\g.k=6
def zml(a:AT) (g:GJ):Prop:=a.k=12\/a.k=13/\g.k=6
def isRec(a:AT) (g:GJ):Prop:=a.k=9
def jn5(t:T AV) (h:T AO):Option Int:=match t.get 10 with
  | some (.ptr b _)=>match h.get b with
    | some (.cells _ _ _ (v::_))=>match gi v with
      |some (_,k)=>some k
      |none=>none
    |_=>none
  |_=>none
def bq(a b gk k:Int):Bool:=decide (k=a)&&decide (gk=b)
def bI(gk gn k:Int):Bool:=decide (k=3)&&(decide (gk=3)&&(decide (-2147483648<=gn)&&decide (gn<2147483648)))
def bN(gk gn k:Int):Bool:=bI gk gn k||bq 4 3 gk k
def bT(gk k:Int):Bool:=(decide (k=7)||decide (k=11))&&decide (gk=4)
def bP(gk k:Int):Bool:=bq 12 5 gk k||bq 13 6 gk k
def cbK(f:Int->Bool) (i:Nat) (keep:List Nat) (t:T AV) (h:T AO):Option LT:=match jn5 t h with
 |some k=>some {σ:=Unit,t:=λ_=>[(i, .sv (.bool (f k)))],h:=λ_=>[],more:=0,μ:=λ_=>0,keep:=keep}
 |none=>none
def wVl:VlS->WayF:=λ⟨S,x,all,t,g,d⟩=>{
 ann:=λ_ _ _=>some {σ:=Nat,t:=λj=>[(14, .sv (.int .i64 (j:Int)))],h:=λ_=>[],more:=0,μ:=λj=>1000- j,keep:=[0,3,6,8,10,11]}
 pubE:=[250]
 spl:=λi=>match i with
  |35=>some 8
  |_=>none
 flo:=λi=>match i with
  |35=>some (12,[8])
  |_=>none
 cut:=λi t h=>match i with
  |7=>cbK (bq 1 1 g.k) 45 [0,3,6,8,10,11] t h
  |9=>cbK (bq 2 2 g.k) 55 [0,3,6,8,10,11] t h
  |11=>cbK (bI g.k g.n) 68 [0,3,6,8,10,11] t h
  |12=>cbK (bN g.k g.n) 68 [0,3,6,8,10,11] t h
  |14=>cbK (bq 5 3 g.k) 95 [0,3,6,8,10,11] t h
  |16=>cbK (bq 6 3 g.k) 107 [0,3,6,8,10,11] t h
  |18=>cbK (bq 8 4 g.k) 118 [0,3,6,8,10,11] t h
  |20=>cbK (bT g.k) 130 [0,3,6,8,10,11] t h
  |22=>some {σ:=Bool,t:=λb=>[(162, .sv (.bool b))],h:=λ_=>[],more:=0,μ:=λ_=>0,keep:=[8,12]}
  |24=>cbK (bq 10 4 g.k) 165 [0,3,6,8,10,11] t h
  |30=>cbK (bq 12 5 g.k) 192 [0,3,6,8,10,11] t h
  |31=>cbK (bP g.k) 192 [0,3,6,8,10,11] t h
  |33=>cbK (bq 9 6 g.k) 216 [0,3,6,8,10,11] t h
  |37=>some {σ:=Unit,t:=λ_=>[],h:=λ_=>[],more:=0,μ:=λ_=>0,keep:=[8]}
  |36=>some {σ:=VlB,t:=λ⟨all',e,v⟩=>[(16, .sv (.int .i64 e)),(15, .ptr 50 0)],h:=λ⟨all',e,v⟩=>[(50, .cells 37 (some 0) false [.sv (.int .u64 v.n), .sv (.string v.s),svA v.x,svA v.y, .sv (.int .i64 v.b)])]++vlO x all',pre:=z0t all,mem:=λ⟨all',e,v⟩=>vM v,more:=60,μ:=λ_=>0,keep:=[8]}
  |_=>none}
def avO(v:GV):AO:= .cells 37 (some 0) false [.sv (.int .u64 v.n), .sv (.string v.s),svA v.x,svA v.y, .sv (.int .i64 v.b)]
def rwO(r n k:Nat):AO:= .cells 37 (some 0) false [.int .u64 0, .str [], .ssl r 0 n 5 k, .nsl, .int .i64 0]
def gsM(fs:List GV):PF:=⟨true,GV.oks fs,λ_ _ h e=>GV.oks_mono h e⟩
def jc4(x:SV) (all:Int) (pt es:Nat) (keep:List Nat):LT:={σ:=VlB,t:=λ⟨all',e,v⟩=>[(es, .sv (.int .i64 e)),(pt, .ptr 50 0)],h:=λ⟨all',e,v⟩=>[(50,avO v)]++vlO x all',pre:=z0t all,mem:=λ⟨all',e,v⟩=>vM v,more:=60,μ:=λ_=>0,keep:=keep}
def znw(h:T AO):Int:=match h.get 1 with
 |some (.cells _ _ _ [_, .sv (.int _ a)])=>a
 |_=>0
def wPa:VqS->WayF:=λ⟨S,x,all,a,g,d⟩=>{
 ann:=λ_ _ _=>some {σ:=Nat×Int×List GV,pre:=λ⟨j,all',fs⟩=>j<=g.l.length/\(all<=all'/\all'<=2000)/\fs.length=j,mem:=λ⟨j,all',fs⟩=>gsM fs,t:=λ⟨j,all',fs⟩=>[(11, .sv (.int .i64 (j:Int)))],h:=λ⟨j,all',fs⟩=>vlO x all'++[(5,rwO 6 fs.length 7),(6, .row 37 0 (z00 GV.cells fs))],more:=2,μ:=λ⟨j,all',fs⟩=>g.l.length- j,keep:=[0,3,5,6,8,10]}
 pubE:=[57]
 spl:=λi=>match i with
  |5=>some 10
  |10=>some 7
  |_=>none
 flo:=λi=>match i with
  |5=>some (14,[10])
  |_=>none
 cut:=λi _ h=>match i with
  |6=>some (jc4 x (znw h) 12 13 [0,3,5,6,8,10,11])
  |_=>none}
def wPm:VqS->WayF:=λ⟨S,x,all,a,g,d⟩=>{
 ann:=λ_ _ _=>some {σ:=Nat×Int×GV,pre:=λ⟨j,all',v⟩=>j<=g.l.length/\(all<=all'/\all'<=2000)/\v.ks.length=v.l.length/\v.l.length<=j,mem:=λ⟨j,all',v⟩=>vM v,t:=λ⟨j,all',v⟩=>[(11, .sv (.int .i64 (j:Int)))],h:=λ⟨j,all',v⟩=>vlO x all'++[(5,avO v)],more:=0,μ:=λ⟨j,all',v⟩=>g.l.length- j,keep:=[0,3,5,6,8,10]}
 spl:=λi=>match i with
  |5=>some 10
  |10=>some 7
  |_=>none
 flo:=λi=>match i with
  |5=>some (14,[10])
  |_=>none
 cut:=λi _ h=>match i with
  |6=>some (jc4 x (znw h) 12 13 [0,3,5,6,8,10,11])
  |_=>none}
def jnO(g:GJ):AO:= .cells 55 (some 0) false [.sv (.int .i64 g.k), .sv (.int .i64 g.n), .sv (.string g.s),svA g.y,svA g.x]
def wRe:VqS->WayF:=λ⟨S,x,all,a,g,d⟩=>{
 ann:=λ_ _ _=>some {σ:=Nat×Int×List GV,pre:=λ⟨j,all',fs⟩=>j<=a.fs.length/\(all<=all'/\all'<=2000)/\fs.length=j,mem:=λ⟨j,all',fs⟩=>gsM fs,t:=λ⟨j,all',fs⟩=>[(11, .sv (.int .i64 (j:Int)))],h:=λ⟨j,all',fs⟩=>vlO x all'++[(5,rwO 6 fs.length 7),(6, .row 37 0 (z00 GV.cells fs))],more:=2,μ:=λ⟨j,all',fs⟩=>a.fs.length- j,keep:=[0,3,5,6,8,10]}
 pubE:=[65]
 cut:=λi _ h=>match i with
  |11=>some {σ:=GJ,pre:=λc=>c.wf,mem:=gM,t:=λc=>[(13, .ptr 50 0)],h:=λc=>[(50,jnO c)],more:=60,μ:=λ_=>0,keep:=[0,3,5,6,8,10,11,12]}
  |_=>none}
section
variable (x0:Int) (x1:SV) (x2:Int) (x3:GJ) (x4:AT) (x5:List AT) (x6:Nat) (x7:Nat×Int×List GV) (x8:VlB) (x9:Prop) (x10:Nat->Option Obj)
 abbrev zag:=True/\z05 x5 x1 x10/\AT.ok x4 x10/\GJ.ok x3 x10
 def zk9:=x1.1=x1.1/\x1.2.1=x1.2.1/\x1.2.2=x1.2.2/\x9
 def j9k:=GJ.k x3=GJ.k x3/\GJ.n x3=GJ.n x3/\GJ.s x3=GJ.s x3/\(GJ.y x3).1=(GJ.y x3).1/\(GJ.y x3).2.1=(GJ.y x3).2.1/\(GJ.y x3).2.2=(GJ.y x3).2.2/\(GJ.x x3).1=(GJ.x x3).1/\(GJ.x x3).2.1=(GJ.x x3).2.1/\(GJ.x x3).2.2=(GJ.x x3).2.2/\x9
 def j9j:=AT.k x4=AT.k x4/\AT.nm x4=AT.nm x4/\(AT.al x4).1=(AT.al x4).1/\(AT.al x4).2.1=(AT.al x4).2.1/\(AT.al x4).2.2=(AT.al x4).2.2/\AT.it x4=AT.it x4/\(AT.sy x4).1=(AT.sy x4).1/\(AT.sy x4).2.1=(AT.sy x4).2.1/\(AT.sy x4).2.2=(AT.sy x4).2.2/\AT.hd x4=AT.hd x4/\AT.df x4=AT.df x4/\AT.sz x4=AT.sz x4/\(AT.f x4).1=(AT.f x4).1/\(AT.f x4).2.1=(AT.f x4).2.1/\(AT.f x4).2.2=(AT.f x4).2.2/\(AT.br x4).1=(AT.br x4).1/\(AT.br x4).2.1=(AT.br x4).2.1/\(AT.br x4).2.2=(AT.br x4).2.2/\x9
 def zpn:=x7.1<=length (GJ.l x3)/\(x0<=x7.2.1/\x7.2.1<=2000)/\length x7.2.2=x7.1
 def z39:=(zag x1 x3 x4 x5 x10)/\GV.oks x7.2.2 x10
 abbrev zxt:=(↑x7.1:Int)<(↑(GJ.y x3).2.1:Int)
 abbrev jbg:=znw (T.n (T.n (T.n T.e (some (AO.cells 55 (some 0) false [AV.sv (int i64 (GJ.k x3)),AV.sv (int i64 (GJ.n x3)),AV.sv (string (GJ.s x3)),AV.sv (slice (GJ.y x3).1 (GJ.y x3).2.1 (GJ.y x3).2.2),AV.sv (slice (GJ.x x3).1 (GJ.x x3).2.1 (GJ.x x3).2.2)])) T.e) (some (AO.cells (136:TypeId) (some 0) false [AV.sv (slice x1.1 x1.2.1 x1.2.2),AV.sv (int i64 x7.2.1)])) (T.n T.e (some (AO.cells (37:TypeId) (some 0) false [AV.int u64 0,AV.str [],AV.ssl (nat_lit 6) (nat_lit 0) (length x7.2.2) (nat_lit 5) (nat_lit 7),AV.nsl,AV.int i64 0])) T.e)) none (T.n (T.n T.e (some (AO.cells 37 (some 0) false [AV.int u64 0,AV.str (List.map UInt8.toNat (Array.toList (ByteArray.data (mkS [])))),AV.nsl,AV.nsl,AV.int i64 0])) T.e) (some (AO.cells 61 (some 0) false [AV.sv (int i64 (AT.k x4)),AV.sv (string (AT.nm x4)),AV.sv (slice (AT.al x4).1 (AT.al x4).2.1 (AT.al x4).2.2),AV.sv (int i64 (AT.it x4)),AV.sv (slice (AT.sy x4).1 (AT.sy x4).2.1 (AT.sy x4).2.2),AV.sv (bool (AT.hd x4)),AV.sv (string (AT.df x4)),AV.sv (int i64 (AT.sz x4)),AV.sv (slice (AT.f x4).1 (AT.f x4).2.1 (AT.f x4).2.2),AV.sv (slice (AT.br x4).1 (AT.br x4).2.1 (AT.br x4).2.2)])) (T.n T.e (some (AO.row (37:TypeId) (nat_lit 0) (z00 GV.cells x7.2.2))) T.e)))
 def jbf:=(0<=(↑x7.1:Int)/\zxt x3 x7)/\(GJ.y x3).1≠noA/\∃(i0:Int),∃(i1:Int),∃i2,∃i3,∃(i4:Nat),∃(i5:Nat),∃i6,∃(i7:Nat),∃(i8:Nat),(∀i9,z39 x1 x3 x4 x5 x7 i9->q3f i9 (adr (GJ.y x3).1 (toNat (↑x7.1:Int)*5)) [int i64 i0,int i64 i1,string i2,slice i3 i4 i5,slice i6 i7 i8])/\Jb (x0+1)/\∃(i10:VlS),i10.2.2.2.1=AT.it x4/\GJ.k i10.2.2.2.2.1=i0/\GJ.n i10.2.2.2.2.1=i1/\GJ.s i10.2.2.2.2.1=i2/\(GJ.y i10.2.2.2.2.1).1=i3/\(GJ.y i10.2.2.2.2.1).2.1=i4/\(GJ.y i10.2.2.2.2.1).2.2=i5/\(GJ.x i10.2.2.2.2.1).1=i6/\(GJ.x i10.2.2.2.2.1).2.1=i7/\(GJ.x i10.2.2.2.2.1).2.2=i8/\i10.2.2.2.2.2=x0+1/\i10.2.1.1=x1.1/\i10.2.1.2.1=x1.2.1/\i10.2.1.2.2=x1.2.2/\i10.2.2.1=x7.2.1/\(z8i i10<x6/\z0a i10.1/\(0<=i10.2.2.2.1/\i10.2.2.2.1<(↑(length i10.1):Int))/\GJ.wf i10.2.2.2.2.1/\(0<=i10.2.2.1/\i10.2.2.1<=2000)/\1<=i10.2.2.2.2.2/\i10.2.2.2.2.2<=21)/\(∀i11,z39 x1 x3 x4 x5 x7 i11->z05 i10.1 i10.2.1 i11/\GJ.ok i10.2.2.2.2.1 i11)/\∀(i12:VlB),z0t i10.2.2.1 i12->(∃i13,(z39 x1 x3 x4 x5 x7 i13)/\GV.ok i12.2.2 i13)->∃(i14:VlB),x0=x0/\(↑x7.1:Int)=(↑x7.1:Int)/\i14.2.1=i12.2.1/\x1.1=i10.2.1.1/\x1.2.1=i10.2.1.2.1/\x1.2.2=i10.2.1.2.2/\i14.1=i12.1/\j9k x3 (length x7.2.2=length x7.2.2/\j9j x4 (z00 GV.cells x7.2.2=z00 GV.cells x7.2.2/\GV.n i14.2.2=GV.n i12.2.2/\GV.s i14.2.2=GV.s i12.2.2/\(GV.x i14.2.2).1=(GV.x i12.2.2).1/\(GV.x i14.2.2).2.1=(GV.x i12.2.2).2.1/\(GV.x i14.2.2).2.2=(GV.x i12.2.2).2.2/\(GV.y i14.2.2).1=(GV.y i12.2.2).1/\(GV.y i14.2.2).2.1=(GV.y i12.2.2).2.1/\(GV.y i14.2.2).2.2=(GV.y i12.2.2).2.2/\GV.b i14.2.2=GV.b i12.2.2/\(∀i15,(z39 x1 x3 x4 x5 x7 i15)/\GV.ok i12.2.2 i15->z39 x1 x3 x4 x5 x7 i15)/\(∀i16,(z39 x1 x3 x4 x5 x7 i16)/\GV.ok i12.2.2 i16->GV.ok i14.2.2 i16)/\z0t (jbg x1 x3 x4 x7) i14/\True))
 def zxs:=(GV.y x8.2.2).1=noA/\(GV.y x8.2.2).2.1=0/\(GV.y x8.2.2).2.2=0/\GV.b x8.2.2=0/\x9
 def jid:=length (z00 GV.cells x7.2.2)=length x7.2.2*5/\(length x7.2.2+nat_lit 1)*80<=140737488355328/\Jb ((↑x7.1:Int)+1)/\∃(i0:Nat×Int×List GV),x0=x0/\(↑i0.1:Int)=(↑x7.1:Int)+1/\zk9 x1 (i0.2.1=x8.1/\j9k x3 (length i0.2.2=length x7.2.2+nat_lit 1/\j9j x4 (z00 GV.cells i0.2.2=z00 GV.cells x7.2.2++[int u64 (GV.n x8.2.2),string (GV.s x8.2.2),slice (GV.x x8.2.2).1 (GV.x x8.2.2).2.1 (GV.x x8.2.2).2.2,slice (GV.y x8.2.2).1 (GV.y x8.2.2).2.1 (GV.y x8.2.2).2.2,int i64 (GV.b x8.2.2)]/\(∀i1,(z39 x1 x3 x4 x5 x7 i1)/\GV.ok x8.2.2 i1->zag x1 x3 x4 x5 i1)/\(∀i2,(z39 x1 x3 x4 x5 x7 i2)/\GV.ok x8.2.2 i2->GV.oks i0.2.2 i2)/\(zpn x2 x3 i0)/\length (GJ.l x3)- i0.1<length (GJ.l x3)- x7.1/\True)))
 def j5a:=(0<=(↑x7.1:Int)/\(↑x7.1:Int)<(↑(GJ.x x3).2.1:Int))/\(GJ.x x3).1≠noA/\∃i0,(∀i1,(z39 x1 x3 x4 x5 x7 i1)/\GV.ok x8.2.2 i1->q3f i1 (adr (GJ.x x3).1 (toNat (↑x7.1:Int)*1)) [string i0])/\∃(i2:GV×ByteArray×GV),GV.n i2.1=0/\GV.s i2.1=mkS []/\False
 def jic:=Ji (AT.k x4=12) (jid x0 x1 x2 x3 x4 x5 x7 x8) (j5a x1 x3 x4 x5 x7 x8)
 def jib:=((!decide (x8.2.1=0))=true->∃(i0:VlB),GV.n i0.2.2=0/\GV.s i0.2.2=mkS []/\(GV.x i0.2.2).1=noA/\(GV.x i0.2.2).2.1=0/\(GV.x i0.2.2).2.2=0/\zxs i0 (i0.2.1=x8.2.1/\zk9 x1 (i0.1=x8.1/\z0t x0 i0/\(∀i1,(z39 x1 x3 x4 x5 x7 i1)/\GV.ok x8.2.2 i1->GV.ok i0.2.2 i1)/\True)))/\((!decide (x8.2.1=0))=false->jic x2 x1 x0 x3 x4 x5 x7 x8)
 def jia:=((jbf x0 x1 x3 x4 x5 x6 x7)/\jbf x0 x1 x3 x4 x5 x6 x7)/\∀(i34:VlB),z0t (jbg x1 x3 x4 x7) i34->(∃i35,(z39 x1 x3 x4 x5 x7 i35)/\GV.ok i34.2.2 i35)->jib x2 x1 x0 x3 x4 x5 x7 i34
 def ji9:=Ji (zxt x3 x7) (jia x0 x1 x2 x3 x4 x5 x6 x7) (∀(i44 i45 i46:Nat) (i47:Option Addr) (i48 i49:Nat),(∃i50,(z39 x1 x3 x4 x5 x7 i50)/\length x7.2.2<=i49/\qhc i50 i47 (take (length x7.2.2*nat_lit 5) (z00 GV.cells x7.2.2)))->∃(i51:VlB),GV.n i51.2.2=0/\GV.s i51.2.2=mkS []/\(GV.x i51.2.2).1=i47/\(GV.x i51.2.2).2.1=length x7.2.2/\(GV.x i51.2.2).2.2=i49/\zxs i51 (i51.2.1=0/\zk9 x1 (i51.1=x7.2.1/\z0t x2 i51/\(∀i52,(z39 x1 x3 x4 x5 x7 i52)/\length x7.2.2<=i49/\qhc i52 i47 (take (length x7.2.2*nat_lit 5) (z00 GV.cells x7.2.2))->GV.ok i51.2.2 i52)/\True)))
 def ji8:=(∃(i0:Nat×Int×List GV),x0=x0/\(↑i0.1:Int)=0/\zk9 x1 (i0.2.1=x2/\j9k x3 (length i0.2.2=0/\j9j x4 ((∀i1,zag x1 x3 x4 x5 i1->zag x1 x3 x4 x5 i1)/\(∀i2,zag x1 x3 x4 x5 i2->GV.oks i0.2.2 i2)/\(zpn x2 x3 i0)/\True))))/\∀(i3:Nat×Int×List GV),zpn x2 x3 i3->(∃i4,z39 x1 x3 x4 x5 i3 i4)->ji9 x0 x1 x2 x3 x4 x5 x6 i3
end
def zhh(n:Nat) (S:List AT) (x:SV) (all:Int) (a:AT) (g:GJ) (d:Int):qkj P (qfv []) (qgy [(83,cVl.below z8i n),(38,zsq)]) Try.f120 ((cVq zt7).below zcb (n+1)) (wPa) ⟨S,x,all,a,g,d⟩=(zcb (S,x,all,a,g,d)<n+1/\z0a S/\a∈S/\zt7 a g/\GJ.wf g/\(0<=all/\all<=2000)/\1<=d/\d<=20->(∃(p:Pub),zag x g a S p)->ji8 d x all g a S n):=by kernel_rfl
def zn1:=λn S x all a g d=>Eq.trans (zhh n S x all a g d) (by delta Ji Jb Jt Jf zag zk9 j9k j9j zpn z39 zxt jbg jbf zxs jid j5a jic jib jia ji9 ji8;exact rfl)
section
variable (x0:Int) (x1:SV) (x2:Int) (x3:GJ) (x4:AT) (x5:List AT) (x6:Nat) (x7:Nat×Int×GV) (x8:VlB) (x9:GV) (x10:Prop) (x11:Nat->Option Obj)
 abbrev zah:=True/\z05 x5 x1 x11/\AT.ok x4 x11/\GJ.ok x3 x11
 def zka:=x1.1=x1.1/\x1.2.1=x1.2.1/\x1.2.2=x1.2.2/\x10
 def zpo:=GJ.k x3=GJ.k x3/\GJ.n x3=GJ.n x3/\GJ.s x3=GJ.s x3/\(GJ.y x3).1=(GJ.y x3).1/\(GJ.y x3).2.1=(GJ.y x3).2.1/\(GJ.y x3).2.2=(GJ.y x3).2.2/\(GJ.x x3).1=(GJ.x x3).1/\(GJ.x x3).2.1=(GJ.x x3).2.1/\(GJ.x x3).2.2=(GJ.x x3).2.2/\x10
 def j9l:=AT.k x4=AT.k x4/\AT.nm x4=AT.nm x4/\(AT.al x4).1=(AT.al x4).1/\(AT.al x4).2.1=(AT.al x4).2.1/\(AT.al x4).2.2=(AT.al x4).2.2/\AT.it x4=AT.it x4/\(AT.sy x4).1=(AT.sy x4).1/\(AT.sy x4).2.1=(AT.sy x4).2.1/\(AT.sy x4).2.2=(AT.sy x4).2.2/\AT.hd x4=AT.hd x4/\AT.df x4=AT.df x4/\AT.sz x4=AT.sz x4/\(AT.f x4).1=(AT.f x4).1/\(AT.f x4).2.1=(AT.f x4).2.1/\(AT.f x4).2.2=(AT.f x4).2.2/\(AT.br x4).1=(AT.br x4).1/\(AT.br x4).2.1=(AT.br x4).2.1/\(AT.br x4).2.2=(AT.br x4).2.2/\x10
 def zpp:=x7.1<=length (GJ.l x3)/\(x0<=x7.2.1/\x7.2.1<=2000)/\length (GV.ks x7.2.2)=length (GV.l x7.2.2)/\length (GV.l x7.2.2)<=x7.1
 def z31:=(zah x1 x3 x4 x5 x11)/\GV.ok x7.2.2 x11
 abbrev zxu:=(↑x7.1:Int)<(↑(GJ.y x3).2.1:Int)
 abbrev jbi:=znw (T.n (T.n (T.n T.e (some (AO.cells 55 (some 0) false [AV.sv (int i64 (GJ.k x3)),AV.sv (int i64 (GJ.n x3)),AV.sv (string (GJ.s x3)),AV.sv (slice (GJ.y x3).1 (GJ.y x3).2.1 (GJ.y x3).2.2),AV.sv (slice (GJ.x x3).1 (GJ.x x3).2.1 (GJ.x x3).2.2)])) T.e) (some (AO.cells (136:TypeId) (some 0) false [AV.sv (slice x1.1 x1.2.1 x1.2.2),AV.sv (int i64 x7.2.1)])) (T.n T.e (some (AO.cells (37:TypeId) (some 0) false [AV.sv (int u64 (GV.n x7.2.2)),AV.sv (string (GV.s x7.2.2)),AV.sv (slice (GV.x x7.2.2).1 (GV.x x7.2.2).2.1 (GV.x x7.2.2).2.2),AV.sv (slice (GV.y x7.2.2).1 (GV.y x7.2.2).2.1 (GV.y x7.2.2).2.2),AV.sv (int i64 (GV.b x7.2.2))])) T.e)) none (T.n (T.n T.e (some (AO.cells 37 (some 0) false [AV.int u64 0,AV.str (List.map UInt8.toNat (Array.toList (ByteArray.data (mkS [])))),AV.nsl,AV.nsl,AV.int i64 0])) T.e) (some (AO.cells 61 (some 0) false [AV.sv (int i64 (AT.k x4)),AV.sv (string (AT.nm x4)),AV.sv (slice (AT.al x4).1 (AT.al x4).2.1 (AT.al x4).2.2),AV.sv (int i64 (AT.it x4)),AV.sv (slice (AT.sy x4).1 (AT.sy x4).2.1 (AT.sy x4).2.2),AV.sv (bool (AT.hd x4)),AV.sv (string (AT.df x4)),AV.sv (int i64 (AT.sz x4)),AV.sv (slice (AT.f x4).1 (AT.f x4).2.1 (AT.f x4).2.2),AV.sv (slice (AT.br x4).1 (AT.br x4).2.1 (AT.br x4).2.2)])) T.e))
 def jbh:=(0<=(↑x7.1:Int)/\zxu x3 x7)/\(GJ.y x3).1≠noA/\∃(i0:Int),∃(i1:Int),∃i2,∃i3,∃(i4:Nat),∃(i5:Nat),∃i6,∃(i7:Nat),∃(i8:Nat),(∀i9,z31 x1 x3 x4 x5 x7 i9->q3f i9 (adr (GJ.y x3).1 (toNat (↑x7.1:Int)*5)) [int i64 i0,int i64 i1,string i2,slice i3 i4 i5,slice i6 i7 i8])/\Jb (x0+1)/\∃(i10:VlS),i10.2.2.2.1=AT.it x4/\GJ.k i10.2.2.2.2.1=i0/\GJ.n i10.2.2.2.2.1=i1/\GJ.s i10.2.2.2.2.1=i2/\(GJ.y i10.2.2.2.2.1).1=i3/\(GJ.y i10.2.2.2.2.1).2.1=i4/\(GJ.y i10.2.2.2.2.1).2.2=i5/\(GJ.x i10.2.2.2.2.1).1=i6/\(GJ.x i10.2.2.2.2.1).2.1=i7/\(GJ.x i10.2.2.2.2.1).2.2=i8/\i10.2.2.2.2.2=x0+1/\i10.2.1.1=x1.1/\i10.2.1.2.1=x1.2.1/\i10.2.1.2.2=x1.2.2/\i10.2.2.1=x7.2.1/\(z8i i10<x6/\z0a i10.1/\(0<=i10.2.2.2.1/\i10.2.2.2.1<(↑(length i10.1):Int))/\GJ.wf i10.2.2.2.2.1/\(0<=i10.2.2.1/\i10.2.2.1<=2000)/\1<=i10.2.2.2.2.2/\i10.2.2.2.2.2<=21)/\(∀i11,z31 x1 x3 x4 x5 x7 i11->z05 i10.1 i10.2.1 i11/\GJ.ok i10.2.2.2.2.1 i11)/\∀(i12:VlB),z0t i10.2.2.1 i12->(∃i13,(z31 x1 x3 x4 x5 x7 i13)/\GV.ok i12.2.2 i13)->∃(i14:VlB),x0=x0/\(↑x7.1:Int)=(↑x7.1:Int)/\i14.2.1=i12.2.1/\x1.1=i10.2.1.1/\x1.2.1=i10.2.1.2.1/\x1.2.2=i10.2.1.2.2/\i14.1=i12.1/\zpo x3 (GV.n x7.2.2=GV.n x7.2.2/\GV.s x7.2.2=GV.s x7.2.2/\(GV.x x7.2.2).1=(GV.x x7.2.2).1/\(GV.x x7.2.2).2.1=(GV.x x7.2.2).2.1/\(GV.x x7.2.2).2.2=(GV.x x7.2.2).2.2/\(GV.y x7.2.2).1=(GV.y x7.2.2).1/\(GV.y x7.2.2).2.1=(GV.y x7.2.2).2.1/\(GV.y x7.2.2).2.2=(GV.y x7.2.2).2.2/\GV.b x7.2.2=GV.b x7.2.2/\j9l x4 (GV.n i14.2.2=GV.n i12.2.2/\GV.s i14.2.2=GV.s i12.2.2/\(GV.x i14.2.2).1=(GV.x i12.2.2).1/\(GV.x i14.2.2).2.1=(GV.x i12.2.2).2.1/\(GV.x i14.2.2).2.2=(GV.x i12.2.2).2.2/\(GV.y i14.2.2).1=(GV.y i12.2.2).1/\(GV.y i14.2.2).2.1=(GV.y i12.2.2).2.1/\(GV.y i14.2.2).2.2=(GV.y i12.2.2).2.2/\GV.b i14.2.2=GV.b i12.2.2/\(∀i15,(z31 x1 x3 x4 x5 x7 i15)/\GV.ok i12.2.2 i15->z31 x1 x3 x4 x5 x7 i15)/\(∀i16,(z31 x1 x3 x4 x5 x7 i16)/\GV.ok i12.2.2 i16->GV.ok i14.2.2 i16)/\z0t (jbi x1 x3 x4 x7) i14/\True))
 def jik:=Jb ((↑x7.1:Int)+1)/\∃(i0:Nat×Int×GV),x0=x0/\(↑i0.1:Int)=(↑x7.1:Int)+1/\zka x1 (i0.2.1=x8.1/\zpo x3 (GV.n i0.2.2=GV.n x9/\GV.s i0.2.2=GV.s x9/\(GV.x i0.2.2).1=(GV.x x9).1/\(GV.x i0.2.2).2.1=(GV.x x9).2.1/\(GV.x i0.2.2).2.2=(GV.x x9).2.2/\(GV.y i0.2.2).1=(GV.y x9).1/\(GV.y i0.2.2).2.1=(GV.y x9).2.1/\(GV.y i0.2.2).2.2=(GV.y x9).2.2/\GV.b i0.2.2=GV.b x9/\j9l x4 ((∀i1,((z31 x1 x3 x4 x5 x7 i1)/\GV.ok x8.2.2 i1)/\GV.ok x9 i1->zah x1 x3 x4 x5 i1)/\(∀i2,((z31 x1 x3 x4 x5 x7 i2)/\GV.ok x8.2.2 i2)/\GV.ok x9 i2->GV.ok i0.2.2 i2)/\(zpp x2 x3 i0)/\length (GJ.l x3)- i0.1<length (GJ.l x3)- x7.1/\True)))
 def jij:=(0<=(↑x7.1:Int)/\(↑x7.1:Int)<(↑(GJ.x x3).2.1:Int))/\(GJ.x x3).1≠noA/\∃i0,(∀i1,(z31 x1 x3 x4 x5 x7 i1)/\GV.ok x8.2.2 i1->q3f i1 (adr (GJ.x x3).1 (toNat (↑x7.1:Int)*1)) [string i0])/\∃(i2:GV×ByteArray×GV),GV.n i2.1=GV.n x7.2.2/\GV.s i2.1=GV.s x7.2.2/\(GV.x i2.1).1=(GV.x x7.2.2).1/\(GV.x i2.1).2.1=(GV.x x7.2.2).2.1/\(GV.x i2.1).2.2=(GV.x x7.2.2).2.2/\(GV.y i2.1).1=(GV.y x7.2.2).1/\(GV.y i2.1).2.1=(GV.y x7.2.2).2.1/\(GV.y i2.1).2.2=(GV.y x7.2.2).2.2/\GV.b i2.1=GV.b x7.2.2/\i2.2.1=i0/\GV.n i2.2.2=GV.n x8.2.2/\GV.s i2.2.2=GV.s x8.2.2/\(GV.x i2.2.2).1=(GV.x x8.2.2).1/\(GV.x i2.2.2).2.1=(GV.x x8.2.2).2.1/\(GV.x i2.2.2).2.2=(GV.x x8.2.2).2.2/\(GV.y i2.2.2).1=(GV.y x8.2.2).1/\(GV.y i2.2.2).2.1=(GV.y x8.2.2).2.1/\(GV.y i2.2.2).2.2=(GV.y x8.2.2).2.2/\GV.b i2.2.2=GV.b x8.2.2/\(length (GV.ks i2.1)=length (GV.l i2.1)/\length (GV.l i2.1)<1000000)/\(∀i3,(z31 x1 x3 x4 x5 x7 i3)/\GV.ok x8.2.2 i3->GV.ok i2.1 i3/\GV.ok i2.2.2 i3)/\∀(i4:GV),GV.pv i4=PV.mk (GV.n i2.1) (GV.s i2.1) (z97 i2.2.1 (GV.ks i2.1) (GV.pvs (GV.l i2.1)) (GV.pv i2.2.2)) (qad i2.2.1 (GV.ks i2.1)) (GV.b i2.1)->(∃i5,((z31 x1 x3 x4 x5 x7 i5)/\GV.ok x8.2.2 i5)/\GV.ok i4 i5)->jik x0 x1 x2 x3 x4 x5 x7 x8 i4
 def jii:=Ji (AT.k x4=12) (False) (jij x0 x1 x2 x3 x4 x5 x7 x8)
 def jih:=((!decide (x8.2.1=0))=true->∃(i0:VlB),GV.n i0.2.2=0/\GV.s i0.2.2=mkS []/\(GV.x i0.2.2).1=noA/\(GV.x i0.2.2).2.1=0/\(GV.x i0.2.2).2.2=0/\(GV.y i0.2.2).1=noA/\(GV.y i0.2.2).2.1=0/\(GV.y i0.2.2).2.2=0/\GV.b i0.2.2=0/\i0.2.1=x8.2.1/\zka x1 (i0.1=x8.1/\z0t x0 i0/\(∀i1,(z31 x1 x3 x4 x5 x7 i1)/\GV.ok x8.2.2 i1->GV.ok i0.2.2 i1)/\True))/\((!decide (x8.2.1=0))=false->jii x2 x1 x0 x3 x4 x5 x7 x8)
 def jig:=((jbh x0 x1 x3 x4 x5 x6 x7)/\jbh x0 x1 x3 x4 x5 x6 x7)/\∀(i34:VlB),z0t (jbi x1 x3 x4 x7) i34->(∃i35,(z31 x1 x3 x4 x5 x7 i35)/\GV.ok i34.2.2 i35)->jih x2 x1 x0 x3 x4 x5 x7 i34
 def jif:=Ji (zxu x3 x7) (jig x0 x1 x2 x3 x4 x5 x6 x7) (∃(i47:VlB),GV.n i47.2.2=GV.n x7.2.2/\GV.s i47.2.2=GV.s x7.2.2/\(GV.x i47.2.2).1=(GV.x x7.2.2).1/\(GV.x i47.2.2).2.1=(GV.x x7.2.2).2.1/\(GV.x i47.2.2).2.2=(GV.x x7.2.2).2.2/\(GV.y i47.2.2).1=(GV.y x7.2.2).1/\(GV.y i47.2.2).2.1=(GV.y x7.2.2).2.1/\(GV.y i47.2.2).2.2=(GV.y x7.2.2).2.2/\GV.b i47.2.2=GV.b x7.2.2/\i47.2.1=0/\zka x1 (i47.1=x7.2.1/\z0t x2 i47/\(∀i48,z31 x1 x3 x4 x5 x7 i48->GV.ok i47.2.2 i48)/\True))
 def jie:=(∃(i0:Nat×Int×GV),x0=x0/\(↑i0.1:Int)=0/\zka x1 (i0.2.1=x2/\zpo x3 (GV.n i0.2.2=0/\GV.s i0.2.2=mkS []/\(GV.x i0.2.2).1=noA/\(GV.x i0.2.2).2.1=0/\(GV.x i0.2.2).2.2=0/\(GV.y i0.2.2).1=noA/\(GV.y i0.2.2).2.1=0/\(GV.y i0.2.2).2.2=0/\GV.b i0.2.2=0/\j9l x4 ((∀i1,zah x1 x3 x4 x5 i1->zah x1 x3 x4 x5 i1)/\(∀i2,zah x1 x3 x4 x5 i2->GV.ok i0.2.2 i2)/\(zpp x2 x3 i0)/\True))))/\∀(i3:Nat×Int×GV),zpp x2 x3 i3->(∃i4,z31 x1 x3 x4 x5 i3 i4)->jif x0 x1 x2 x3 x4 x5 x6 i3
end
def zhi(n:Nat) (S:List AT) (x:SV) (all:Int) (a:AT) (g:GJ) (d:Int):qkj P (qfv []) (qgy [(83,cVl.below z8i n),(38,zsq)]) Try.f120 ((cVq isMap).below zcb (n+1)) (wPm) ⟨S,x,all,a,g,d⟩=(zcb (S,x,all,a,g,d)<n+1/\z0a S/\a∈S/\isMap a g/\GJ.wf g/\(0<=all/\all<=2000)/\1<=d/\d<=20->(∃(p:Pub),zah x g a S p)->jie d x all g a S n):=by kernel_rfl
def zn3:=λn S x all a g d=>Eq.trans (zhi n S x all a g d) (by delta Ji Jb Jt Jf zah zka zpo j9l zpp z31 zxu jbi jbh jik jij jii jih jig jif jie;exact rfl)
section
variable (x0:Int) (x1:SV) (x2:Int) (x3:GJ) (x4:AT) (x5:List AT) (x6:Nat) (x7:Nat×Int×List GV) (x8:GJ) (x9:Int) (x10:VlB) (x11:VlS) (x12:Bool) (x13:ByteArray) (x14:Option Addr) (x15:Nat) (x16 x17:Int) (x18:ByteArray) (x19:Option Addr) (x20 x21:Nat) (x22:Option Addr) (x23 x24:Nat) (x25:Prop) (x26:Nat->Option Obj) (x27:GJ×ByteArray)
 abbrev zai:=True/\z05 x5 x1 x26/\AT.ok x4 x26/\GJ.ok x3 x26
 def zes:=x1.1=x1.1/\x1.2.1=x1.2.1/\x1.2.2=x1.2.2/\x25
 def j5c:=GJ.k x3=GJ.k x3/\GJ.n x3=GJ.n x3/\GJ.s x3=GJ.s x3/\(GJ.y x3).1=(GJ.y x3).1/\(GJ.y x3).2.1=(GJ.y x3).2.1/\(GJ.y x3).2.2=(GJ.y x3).2.2/\(GJ.x x3).1=(GJ.x x3).1/\(GJ.x x3).2.1=(GJ.x x3).2.1/\(GJ.x x3).2.2=(GJ.x x3).2.2/\x25
 def j5b:=AT.k x4=AT.k x4/\AT.nm x4=AT.nm x4/\(AT.al x4).1=(AT.al x4).1/\(AT.al x4).2.1=(AT.al x4).2.1/\(AT.al x4).2.2=(AT.al x4).2.2/\AT.it x4=AT.it x4/\(AT.sy x4).1=(AT.sy x4).1/\(AT.sy x4).2.1=(AT.sy x4).2.1/\(AT.sy x4).2.2=(AT.sy x4).2.2/\AT.hd x4=AT.hd x4/\AT.df x4=AT.df x4/\AT.sz x4=AT.sz x4/\(AT.f x4).1=(AT.f x4).1/\(AT.f x4).2.1=(AT.f x4).2.1/\(AT.f x4).2.2=(AT.f x4).2.2/\(AT.br x4).1=(AT.br x4).1/\(AT.br x4).2.1=(AT.br x4).2.1/\(AT.br x4).2.2=(AT.br x4).2.2/\x25
 def zpq:=x7.1<=length (AT.fs x4)/\(x0<=x7.2.1/\x7.2.1<=2000)/\length x7.2.2=x7.1
 def z98:=(zai x1 x3 x4 x5 x26)/\GV.oks x7.2.2 x26
 abbrev zxz:=(↑x7.1:Int)<(↑(AT.f x4).2.1:Int)
 def zxw:=(GV.y x10.2.2).1=noA/\(GV.y x10.2.2).2.1=0/\(GV.y x10.2.2).2.2=0/\GV.b x10.2.2=0/\x25
 def zxv:=GV.n x10.2.2=0/\GV.s x10.2.2=mkS []/\(GV.x x10.2.2).1=noA/\(GV.x x10.2.2).2.1=0/\(GV.x x10.2.2).2.2=0/\zxw x10 x25
 def zxy:=(∀i0,z98 x1 x3 x4 x5 x7 i0->z98 x1 x3 x4 x5 x7 i0)/\(∀i1,z98 x1 x3 x4 x5 x7 i1->GJ.ok x8 i1)/\GJ.wf x8/\True
 def jiq:=((!x12)=true->∃(i0:VlB),zxv i0 (i0.2.1=7/\zes x1 (i0.1=x7.2.1/\z0t x0 i0/\(∀i1,z98 x1 x3 x4 x5 x7 i1->GV.ok i0.2.2 i1)/\True)))/\((!x12)=false->∃(i2:GJ),x2=x2/\(↑x7.1:Int)=(↑x7.1:Int)/\zes x1 (x7.2.1=x7.2.1/\j5c x3 (length x7.2.2=length x7.2.2/\j5b x4 (x13=x13/\x14=x14/\x6=x6/\x15=x15/\x9=x9/\x12=x12/\x16=x16/\x17=x17/\x18=x18/\x19=x19/\x20=x20/\x21=x21/\x22=x22/\x23=x23/\x24=x24/\z00 GV.cells x7.2.2=z00 GV.cells x7.2.2/\GJ.k i2=x16/\GJ.n i2=x17/\GJ.s i2=x18/\(GJ.y i2).1=x19/\(GJ.y i2).2.1=x20/\(GJ.y i2).2.2=x21/\(GJ.x i2).1=x22/\(GJ.x i2).2.1=x23/\(GJ.x i2).2.2=x24/\zxy x1 x3 x4 x5 x7 i2))))
 abbrev z61:=Option.getD (z0k x27.2 x27.1) zJ
 def zxx:=x1.1=x11.2.1.1/\x1.2.1=x11.2.1.2.1/\x1.2.2=x11.2.1.2.2/\x25
 def jir:=length (z00 GV.cells x7.2.2)=length x7.2.2*5/\(length x7.2.2+nat_lit 1)*80<=140737488355328/\Jb ((↑x7.1:Int)+1)/\∃(i0:Nat×Int×List GV),x0=x0/\(↑i0.1:Int)=(↑x7.1:Int)+1/\zxx x1 x11 (i0.2.1=x10.1/\j5c x3 (length i0.2.2=length x7.2.2+nat_lit 1/\j5b x4 (z00 GV.cells i0.2.2=z00 GV.cells x7.2.2++[int u64 (GV.n x10.2.2),string (GV.s x10.2.2),slice (GV.x x10.2.2).1 (GV.x x10.2.2).2.1 (GV.x x10.2.2).2.2,slice (GV.y x10.2.2).1 (GV.y x10.2.2).2.1 (GV.y x10.2.2).2.2,int i64 (GV.b x10.2.2)]/\(∀i1,((z98 x1 x3 x4 x5 x7 i1)/\GJ.ok x8 i1)/\GV.ok x10.2.2 i1->zai x1 x3 x4 x5 i1)/\(∀i2,((z98 x1 x3 x4 x5 x7 i2)/\GJ.ok x8 i2)/\GV.ok x10.2.2 i2->GV.oks i0.2.2 i2)/\(zpq x2 x4 i0)/\length (AT.fs x4)- i0.1<length (AT.fs x4)- x7.1/\True)))
 def jip:=((!decide (x10.2.1=0))=true->∃(i0:VlB),zxv i0 (i0.2.1=x10.2.1/\zxx x1 x11 (i0.1=x10.1/\z0t x0 i0/\(∀i1,((z98 x1 x3 x4 x5 x7 i1)/\GJ.ok x8 i1)/\GV.ok x10.2.2 i1->GV.ok i0.2.2 i1)/\True)))/\((!decide (x10.2.1=0))=false->jir x2 x1 x0 x3 x4 x5 x7 x8 x10 x11)
 def jio:=Jb (x0+1)/\∃(i0:VlS),i0.2.2.2.1=x2/\GJ.k i0.2.2.2.2.1=GJ.k x3/\GJ.n i0.2.2.2.2.1=GJ.n x3/\GJ.s i0.2.2.2.2.1=GJ.s x3/\(GJ.y i0.2.2.2.2.1).1=(GJ.y x3).1/\(GJ.y i0.2.2.2.2.1).2.1=(GJ.y x3).2.1/\(GJ.y i0.2.2.2.2.1).2.2=(GJ.y x3).2.2/\(GJ.x i0.2.2.2.2.1).1=(GJ.x x3).1/\(GJ.x i0.2.2.2.2.1).2.1=(GJ.x x3).2.1/\(GJ.x i0.2.2.2.2.1).2.2=(GJ.x x3).2.2/\i0.2.2.2.2.2=x0+1/\i0.2.1.1=x1.1/\i0.2.1.2.1=x1.2.1/\i0.2.1.2.2=x1.2.2/\i0.2.2.1=x7.2.1/\(z8i i0<x6/\z0a i0.1/\(0<=i0.2.2.2.1/\i0.2.2.2.1<(↑(length i0.1):Int))/\GJ.wf i0.2.2.2.2.1/\(0<=i0.2.2.1/\i0.2.2.1<=2000)/\1<=i0.2.2.2.2.2/\i0.2.2.2.2.2<=21)/\(∀i1,(z98 x1 x8 x4 x5 x7 i1)/\GJ.ok x3 i1->z05 i0.1 i0.2.1 i1/\GJ.ok i0.2.2.2.2.1 i1)/\∀(i2:VlB),z0t i0.2.2.1 i2->(∃i3,((z98 x1 x8 x4 x5 x7 i3)/\GJ.ok x3 i3)/\GV.ok i2.2.2 i3)->jip x9 x1 x0 x8 x4 x5 x7 x3 i2 i0
 def jin:=(0<=(↑x7.1:Int)/\zxz x4 x7)/\(AT.f x4).1≠noA/\∃i0,∃i1,∃(i2:Nat),∃(i3:Nat),∃(i4:Int),∃(i5:Bool),∃(i6:Int),∃(i7:Int),∃i8,∃i9,∃(i10:Nat),∃(i11:Nat),∃i12,∃(i13:Nat),∃(i14:Nat),(∀i15,z98 x1 x3 x4 x5 x7 i15->q3f i15 (adr (AT.f x4).1 (toNat (↑x7.1:Int)*9)) [string i0,slice i1 i2 i3,int i64 i4,bool i5,int i64 i6,int i64 i7,string i8,slice i9 i10 i11,slice i12 i13 i14])/\∃(i16:GJ×ByteArray),GJ.k i16.1=GJ.k x3/\GJ.n i16.1=GJ.n x3/\GJ.s i16.1=GJ.s x3/\(GJ.y i16.1).1=(GJ.y x3).1/\(GJ.y i16.1).2.1=(GJ.y x3).2.1/\(GJ.y i16.1).2.2=(GJ.y x3).2.2/\(GJ.x i16.1).1=(GJ.x x3).1/\(GJ.x i16.1).2.1=(GJ.x x3).2.1/\(GJ.x i16.1).2.2=(GJ.x x3).2.2/\i16.2=i0/\GJ.wf i16.1/\(∀i17,z98 x1 x3 x4 x5 x7 i17->GJ.ok i16.1 i17)/\(((!Option.isSome (z0k i16.2 i16.1))=true->jiq x0 x1 x2 x3 x4 x5 i2 x7 i4 i5 i0 i1 i3 i6 i7 i8 i9 i10 i11 i12 i13 i14)/\((!Option.isSome (z0k i16.2 i16.1))=false->∃(i23:GJ),x2=x2/\(↑x7.1:Int)=(↑x7.1:Int)/\zes x1 (x7.2.1=x7.2.1/\j5c x3 (length x7.2.2=length x7.2.2/\j5b x4 (i0=i0/\i1=i1/\i2=i2/\i3=i3/\i4=i4/\i5=i5/\i6=i6/\i7=i7/\i8=i8/\i9=i9/\i10=i10/\i11=i11/\i12=i12/\i13=i13/\i14=i14/\z00 GV.cells x7.2.2=z00 GV.cells x7.2.2/\GJ.k i23=GJ.k (z61 i16)/\GJ.n i23=GJ.n (z61 i16)/\GJ.s i23=GJ.s (z61 i16)/\(GJ.y i23).1=(GJ.y (z61 i16)).1/\(GJ.y i23).2.1=(GJ.y (z61 i16)).2.1/\(GJ.y i23).2.2=(GJ.y (z61 i16)).2.2/\(GJ.x i23).1=(GJ.x (z61 i16)).1/\(GJ.x i23).2.1=(GJ.x (z61 i16)).2.1/\(GJ.x i23).2.2=(GJ.x (z61 i16)).2.2/\zxy x1 x3 x4 x5 x7 i23)))))/\∀(i26:GJ),GJ.wf i26->(∃i27,(z98 x1 x3 x4 x5 x7 i27)/\GJ.ok i26 i27)->jio x2 x1 i4 i26 x4 x5 x6 x7 x3 x0
 def jim:=Ji (zxz x4 x7) (jin x0 x1 x2 x3 x4 x5 x6 x7) (∀(i37 i38 i39:Nat) (i40:Option Addr) (i41 i42:Nat),(∃i43,(z98 x1 x3 x4 x5 x7 i43)/\length x7.2.2<=i42/\qhc i43 i40 (take (length x7.2.2*nat_lit 5) (z00 GV.cells x7.2.2)))->∃(i44:VlB),GV.n i44.2.2=0/\GV.s i44.2.2=mkS []/\(GV.x i44.2.2).1=i40/\(GV.x i44.2.2).2.1=length x7.2.2/\(GV.x i44.2.2).2.2=i42/\zxw i44 (i44.2.1=0/\zes x1 (i44.1=x7.2.1/\z0t x0 i44/\(∀i45,(z98 x1 x3 x4 x5 x7 i45)/\length x7.2.2<=i42/\qhc i45 i40 (take (length x7.2.2*nat_lit 5) (z00 GV.cells x7.2.2))->GV.ok i44.2.2 i45)/\True)))
 def jil:=(∃(i0:Nat×Int×List GV),x0=x0/\(↑i0.1:Int)=0/\zes x1 (i0.2.1=x2/\j5c x3 (length i0.2.2=0/\j5b x4 ((∀i1,zai x1 x3 x4 x5 i1->zai x1 x3 x4 x5 i1)/\(∀i2,zai x1 x3 x4 x5 i2->GV.oks i0.2.2 i2)/\(zpq x2 x4 i0)/\True))))/\∀(i3:Nat×Int×List GV),zpq x2 x4 i3->(∃i4,z98 x1 x3 x4 x5 i3 i4)->jim x2 x1 x0 x3 x4 x5 x6 i3
end
def znf(n:Nat) (S:List AT) (x:SV) (all:Int) (a:AT) (g:GJ) (d:Int):qkj P (qfv [(75,z5o)]) (qgy [(83,cVl.below z8i n)]) Try.f121 ((cVq isRec).below zcb (n+1)) (wRe) ⟨S,x,all,a,g,d⟩=(zcb (S,x,all,a,g,d)<n+1/\z0a S/\a∈S/\isRec a g/\GJ.wf g/\(0<=all/\all<=2000)/\1<=d/\d<=20->(∃(p:Pub),zai x g a S p)->jil d x all g a S n):=by kernel_rfl
def zuc:=λn S x all a g d=>Eq.trans (znf n S x all a g d) (by delta Ji Jb Jt Jf zai zes j5c j5b zpq z98 zxz zxw zxv zxy jiq z61 zxx jir jip jio jin jim jil;exact rfl)
section
variable (x0 x1:Int) (x2:SV) (x3:List AT) (x4:GJ) (x5:Int) (x6:Nat) (x7:ByteArray) (x8:Option Addr) (x9:Nat) (x10:Int) (x11:Option Addr) (x12 x13:Nat) (x14:Bool) (x15:ByteArray) (x16:Int) (x17:Option Addr) (x18 x19:Nat) (x20:Option Addr) (x21 x22 x23:Nat) (x24:Prop) (x25:VlB) (x26 x27:Int) (x28:ByteArray×Bool) (x29:VqS) (x30:VlB) (x31:Nat->Option Obj)
 abbrev z1w:=True/\z05 x3 x2 x31/\GJ.ok x4 x31
 abbrev zy7:=Jb (x0+1)
 def zet:=GV.n x25.2.2=0/\GV.s x25.2.2=mkS []/\x24
 def zy6:=(GV.y x25.2.2).1=noA/\(GV.y x25.2.2).2.1=0/\(GV.y x25.2.2).2.2=0/\GV.b x25.2.2=0/\x24
 def zkb:=x2.1=x2.1/\x2.2.1=x2.2.1/\x2.2.2=x2.2.2/\x24
 def z5h:=(GV.x x25.2.2).1=noA/\(GV.x x25.2.2).2.1=0/\(GV.x x25.2.2).2.2=0/\zy6 (x25.2.1=x1/\zkb x2 (x25.1=x0+1/\z0t x0 x25/\(∀i0,z1w x2 x3 x4 i0->GV.ok x25.2.2 i0)/\True)) x25
 def z23:=decide (GJ.k x4=3)=decide (GJ.k x4=3)
 def z22:=zkb x2 (x0+1=x0+1/\GJ.k x4=GJ.k x4/\GJ.n x4=GJ.n x4/\GJ.s x4=GJ.s x4/\(GJ.y x4).1=(GJ.y x4).1/\(GJ.y x4).2.1=(GJ.y x4).2.1/\(GJ.y x4).2.2=(GJ.y x4).2.2/\(GJ.x x4).1=(GJ.x x4).1/\(GJ.x x4).2.1=(GJ.x x4).2.1/\(GJ.x x4).2.2=(GJ.x x4).2.2/\x1=x1/\x7=x7/\x8=x8/\x6=x6/\x9=x9/\x5=x5/\x11=x11/\x12=x12/\x13=x13/\x14=x14/\x15=x15/\x10=x10/\x17=x17/\x18=x18/\x19=x19/\x20=x20/\x21=x21/\x22=x22/\(∀i0,z1w x2 x3 x4 i0->z1w x2 x3 x4 i0)/\True/\x24)
 def zaj:=(Ji (x0=x26) (∃(i0:Unit),x1=x1/\z23 x4/\bq x26 x27 (GJ.k x4) x0=decide (GJ.k x4=x27)/\z22 x5 x0 x2 x3 x4 x10 x6 x7 x8 x9 x16 x11 x12 x13 x14 x15 x17 x18 x19 x20 x21 x22 True) (∃(i1:Unit),x1=x1/\z23 x4/\bq x26 x27 (GJ.k x4) x0=false/\z22 x5 x0 x2 x3 x4 x10 x6 x7 x8 x9 x16 x11 x12 x13 x14 x15 x17 x18 x19 x20 x21 x22 True))
 def zy4:=(Ji (x0=x26) (∃(i0:Unit),x1=x1/\bq x26 x27 (GJ.k x4) x0=decide (GJ.k x4=x27)/\z23 x4/\z22 x5 x0 x2 x3 x4 x10 x6 x7 x8 x9 x16 x11 x12 x13 x14 x15 x17 x18 x19 x20 x21 x22 True) (∃(i1:Unit),x1=x1/\bq x26 x27 (GJ.k x4) x0=false/\z23 x4/\z22 x5 x0 x2 x3 x4 x10 x6 x7 x8 x9 x16 x11 x12 x13 x14 x15 x17 x18 x19 x20 x21 x22 True))
 def zy8:=∃(i0:VlB),GV.n i0.2.2=IntKind.wrap u64 (GJ.n x4)/\GV.s i0.2.2=mkS []/\z5h x0 0 x2 x3 x4 i0
 def j5y:=Ji ((-2147483648:Int)<=GJ.n x4) (∃(i0:Unit),x0=x0/\z23 x4/\bI (GJ.k x4) (GJ.n x4) x1=decide (GJ.n x4<2147483648)/\z22 x5 x1 x2 x3 x4 x10 x6 x7 x8 x9 x16 x11 x12 x13 x14 x15 x17 x18 x19 x20 x21 x22 True) (∃(i1:Unit),x0=x0/\z23 x4/\bI (GJ.k x4) (GJ.n x4) x1=false/\z22 x5 x1 x2 x3 x4 x10 x6 x7 x8 x9 x16 x11 x12 x13 x14 x15 x17 x18 x19 x20 x21 x22 True)
 def j5u:=Ji (GJ.k x4=3) (j5y x0 x1 x2 x3 x4 x5 x6 x7 x8 x9 x10 x11 x12 x13 x14 x15 x16 x17 x18 x19 x20 x21 x22) (∃(i2:Unit),x0=x0/\z23 x4/\bI (GJ.k x4) (GJ.n x4) x1=false/\z22 x5 x1 x2 x3 x4 x10 x6 x7 x8 x9 x16 x11 x12 x13 x14 x15 x17 x18 x19 x20 x21 x22 True)
 def j5z:=Ji (x0=4) (∃(i0:Unit),x1=x1/\z23 x4/\bN (GJ.k x4) (GJ.n x4) x0=decide (GJ.k x4=3)/\z22 x5 x0 x2 x3 x4 x10 x6 x7 x8 x9 x16 x11 x12 x13 x14 x15 x17 x18 x19 x20 x21 x22 True) (∃(i1:Unit),x1=x1/\z23 x4/\bN (GJ.k x4) (GJ.n x4) x0=false/\z22 x5 x0 x2 x3 x4 x10 x6 x7 x8 x9 x16 x11 x12 x13 x14 x15 x17 x18 x19 x20 x21 x22 True)
 def j5x:=(bI (GJ.k x4) (GJ.n x4) x0=true->∃(i0:Unit),x1=x1/\z23 x4/\bN (GJ.k x4) (GJ.n x4) x0=bI (GJ.k x4) (GJ.n x4) x0/\z22 x5 x0 x2 x3 x4 x10 x6 x7 x8 x9 x16 x11 x12 x13 x14 x15 x17 x18 x19 x20 x21 x22 True)/\(bI (GJ.k x4) (GJ.n x4) x0=false->j5z x0 x1 x2 x3 x4 x5 x6 x7 x8 x9 x10 x11 x12 x13 x14 x15 x16 x17 x18 x19 x20 x21 x22)
 def j61:=Ji (x0=11) (∃(i0:Unit),x1=x1/\z23 x4/\bT (GJ.k x4) x0=decide (GJ.k x4=4)/\z22 x5 x0 x2 x3 x4 x10 x6 x7 x8 x9 x16 x11 x12 x13 x14 x15 x17 x18 x19 x20 x21 x22 True) (∃(i1:Unit),x1=x1/\z23 x4/\bT (GJ.k x4) x0=false/\z22 x5 x0 x2 x3 x4 x10 x6 x7 x8 x9 x16 x11 x12 x13 x14 x15 x17 x18 x19 x20 x21 x22 True)
 def zak:=zkb x2 (x0+1=x0+1/\(∀i0,z1w x2 x3 x4 i0->z1w x2 x3 x4 i0)/\True/\True)
 def j60:=Ji (x0=7) (∃(i0:Bool),x28.1=x28.1/\i0=true/\zak x1 x2 x3 x4) (∃(i1:Bool),x28.1=x28.1/\i1=decide ((↑(size x28.1):Int)=x5)/\zak x1 x2 x3 x4)
 def j63:=(x14=true->∃(i0:VlB),GV.n i0.2.2=0/\GV.s i0.2.2=x28.1/\z5h x0 0 x2 x3 x4 i0)/\(x14=false->∃(i1:Unit),zak x0 x2 x3 x4)
 def j5r:=((x28.2=true->j60 x0 x1 x2 x3 x4 x5 x28)/\(x28.2=false->∃(i4:Bool),x28.1=x28.1/\i4=false/\zak x1 x2 x3 x4))/\∀(i6:Bool),True->j63 x1 x2 x3 x4 i6 x28
 def j5v:=(0<=(↑x6:Int)/\(↑x6:Int)<(↑x9:Int))/\x8≠noA/\∃i0,(∀i1,z1w x2 x3 x4 i1->q3f i1 (adr x8 (toNat (↑x6:Int)*1)) [string i0])/\Ji (i0=GJ.s x4) (∃(i2:VlB),GV.n i2.2.2=IntKind.wrap u64 (↑x6:Int)/\GV.s i2.2.2=mkS []/\z5h x0 0 x2 x3 x4 i2) (Jb ((↑x6:Int)+1)/\∃(i3:Nat),x1=x1/\z23 x4/\(↑i3:Int)=(↑x6:Int)+1/\z22 x0 x5 x2 x3 x4 x10 x12 x7 x11 x13 x16 x8 x9 x18 x14 x15 x17 x19 x21 x20 x22 x23 ((1000:Nat)- i3<1000- x6/\True))
 def j5t:=Ji ((↑x6:Int)<(↑x9:Int)) (j5v x0 x1 x2 x3 x4 x5 x6 x7 x8 x9 x10 x11 x12 x13 x14 x15 x16 x17 x18 x19 x20 x21 x22 x23) (∃(i4:Unit),zak x0 x2 x3 x4)
 def j5s:=(∃(i0:Nat),x0=x0/\z23 x4/\(↑i0:Int)=0/\z22 x1 x5 x2 x3 x4 x10 x6 x7 x8 x9 x16 x11 x12 x13 x14 x15 x17 x18 x19 x20 x21 x22 True)/\∀(i1:Nat),True->j5t x1 x0 x2 x3 x4 x5 i1 x7 x11 x12 x10 x8 x6 x9 x14 x15 x16 x17 x13 x18 x20 x19 x21 x22
 def j62:=Ji (x0=13) (∃(i0:Unit),x1=x1/\z23 x4/\bP (GJ.k x4) x0=decide (GJ.k x4=6)/\z22 x5 x0 x2 x3 x4 x10 x6 x7 x8 x9 x16 x11 x12 x13 x14 x15 x17 x18 x19 x20 x21 x22 True) (∃(i1:Unit),x1=x1/\z23 x4/\bP (GJ.k x4) x0=false/\z22 x5 x0 x2 x3 x4 x10 x6 x7 x8 x9 x16 x11 x12 x13 x14 x15 x17 x18 x19 x20 x21 x22 True)
 def j5w:=(bq 12 5 (GJ.k x4) x0=true->∃(i0:Unit),x1=x1/\z23 x4/\bP (GJ.k x4) x0=bq 12 5 (GJ.k x4) x0/\z22 x5 x0 x2 x3 x4 x10 x6 x7 x8 x9 x16 x11 x12 x13 x14 x15 x17 x18 x19 x20 x21 x22 True)/\(bq 12 5 (GJ.k x4) x0=false->j62 x0 x1 x2 x3 x4 x5 x6 x7 x8 x9 x10 x11 x12 x13 x14 x15 x16 x17 x18 x19 x20 x21 x22)
 def zy1:=AT.k x29.2.2.2.1=x0/\AT.nm x29.2.2.2.1=x7/\(AT.al x29.2.2.2.1).1=x8/\(AT.al x29.2.2.2.1).2.1=x6/\(AT.al x29.2.2.2.1).2.2=x9/\AT.it x29.2.2.2.1=x1/\(AT.sy x29.2.2.2.1).1=x11/\(AT.sy x29.2.2.2.1).2.1=x12/\(AT.sy x29.2.2.2.1).2.2=x13/\AT.hd x29.2.2.2.1=x14/\AT.df x29.2.2.2.1=x15/\AT.sz x29.2.2.2.1=x5/\(AT.f x29.2.2.2.1).1=x17/\(AT.f x29.2.2.2.1).2.1=x18/\(AT.f x29.2.2.2.1).2.2=x19/\(AT.br x29.2.2.2.1).1=x20/\(AT.br x29.2.2.2.1).2.1=x21/\(AT.br x29.2.2.2.1).2.2=x22/\GJ.k x29.2.2.2.2.1=GJ.k x4/\GJ.n x29.2.2.2.2.1=GJ.n x4/\GJ.s x29.2.2.2.2.1=GJ.s x4/\(GJ.y x29.2.2.2.2.1).1=(GJ.y x4).1/\(GJ.y x29.2.2.2.2.1).2.1=(GJ.y x4).2.1/\(GJ.y x29.2.2.2.2.1).2.2=(GJ.y x4).2.2/\(GJ.x x29.2.2.2.2.1).1=(GJ.x x4).1/\(GJ.x x29.2.2.2.2.1).2.1=(GJ.x x4).2.1/\(GJ.x x29.2.2.2.2.1).2.2=(GJ.x x4).2.2/\x29.2.2.2.2.2=x10/\x29.2.1.1=x2.1/\x29.2.1.2.1=x2.2.1/\x29.2.1.2.2=x2.2.2/\x29.2.2.1=x16+1/\x24
 def zy5:=GJ.wf x29.2.2.2.2.1/\(0<=x29.2.2.1/\x29.2.2.1<=2000)/\1<=x29.2.2.2.2.2/\x29.2.2.2.2.2<=20
 def zy3:=GV.n x25.2.2=GV.n x30.2.2/\GV.s x25.2.2=GV.s x30.2.2/\(GV.x x25.2.2).1=(GV.x x30.2.2).1/\(GV.x x25.2.2).2.1=(GV.x x30.2.2).2.1/\(GV.x x25.2.2).2.2=(GV.x x30.2.2).2.2/\(GV.y x25.2.2).1=(GV.y x30.2.2).1/\(GV.y x25.2.2).2.1=(GV.y x30.2.2).2.1/\(GV.y x25.2.2).2.2=(GV.y x30.2.2).2.2/\GV.b x25.2.2=GV.b x30.2.2/\x24
 def zy2:=(∀i0,z1w x2 x3 x4 i0->z05 x29.1 x29.2.1 i0/\AT.ok x29.2.2.2.1 i0/\GJ.ok x29.2.2.2.2.1 i0)/\∀(i1:VlB),z0t x29.2.2.1 i1->(∃i2,(z1w x2 x3 x4 i2)/\GV.ok i1.2.2 i2)->∃(i3:VlB),zy3 (i3.2.1=i1.2.1/\x2.1=x29.2.1.1/\x2.2.1=x29.2.1.2.1/\x2.2.2=x29.2.1.2.2/\i3.1=i1.1/\z0t x0 i3/\(∀i4,(z1w x2 x3 x4 i4)/\GV.ok i1.2.2 i4->GV.ok i3.2.2 i4)/\True) i3 i1
 def zy0:=((0:Int)<=0/\0<(↑x6:Int))/\x8≠noA/\∃(i0:Int),(∀i1,z1w x2 x3 x4 i1->q3f i1 (adr x8 ((0:Nat)*1)) [int i64 i0])/\zy7 x0/\∃(i2:VlS),i2.2.2.2.1=i0/\GJ.k i2.2.2.2.2.1=GJ.k x4/\GJ.n i2.2.2.2.2.1=GJ.n x4/\GJ.s i2.2.2.2.2.1=GJ.s x4/\(GJ.y i2.2.2.2.2.1).1=(GJ.y x4).1/\(GJ.y i2.2.2.2.2.1).2.1=(GJ.y x4).2.1/\(GJ.y i2.2.2.2.2.1).2.2=(GJ.y x4).2.2/\(GJ.x i2.2.2.2.2.1).1=(GJ.x x4).1/\(GJ.x i2.2.2.2.2.1).2.1=(GJ.x x4).2.1/\(GJ.x i2.2.2.2.2.1).2.2=(GJ.x x4).2.2/\i2.2.2.2.2.2=x0+1/\i2.2.1.1=x2.1/\i2.2.1.2.1=x2.2.1/\i2.2.1.2.2=x2.2.2/\i2.2.2.1=x1+1/\(z8i i2<x9/\z0a i2.1/\(0<=i2.2.2.2.1/\i2.2.2.2.1<(↑(length i2.1):Int))/\GJ.wf i2.2.2.2.2.1/\(0<=i2.2.2.1/\i2.2.2.1<=2000)/\1<=i2.2.2.2.2.2/\i2.2.2.2.2.2<=21)/\(∀i3,z1w x2 x3 x4 i3->z05 i2.1 i2.2.1 i3/\GJ.ok i2.2.2.2.2.1 i3)/\∀(i4:VlB),z0t i2.2.2.1 i4->(∃i5,(z1w x2 x3 x4 i5)/\GV.ok i4.2.2 i5)->∃(i6:VlB),i6.2.1=i4.2.1/\x2.1=i2.2.1.1/\x2.2.1=i2.2.1.2.1/\x2.2.2=i2.2.1.2.2/\i6.1=i4.1/\zy3 ((∀i7,(z1w x2 x3 x4 i7)/\GV.ok i4.2.2 i7->z1w x2 x3 x4 i7)/\(∀i8,(z1w x2 x3 x4 i8)/\GV.ok i4.2.2 i8->GV.ok i6.2.2 i8)/\z0t x1 i6/\True) i6 i4
 def j5q:=((zy0 x0 x1 x2 x3 x4 x6 x8 x9)/\zy0 x0 x1 x2 x3 x4 x6 x8 x9)/\∀(i18:VlB),z0t x1 i18->(∃i19,(z1w x2 x3 x4 i19)/\GV.ok i18.2.2 i19)->∀(i20 i21 i22:Nat),(∃i23,((z1w x2 x3 x4 i23)/\GV.ok i18.2.2 i23)/\q3f i23 (Addr.mk i20 i21 none) [int u64 (GV.n i18.2.2),string (GV.s i18.2.2),slice (GV.x i18.2.2).1 (GV.x i18.2.2).2.1 (GV.x i18.2.2).2.2,slice (GV.y i18.2.2).1 (GV.y i18.2.2).2.1 (GV.y i18.2.2).2.2,int i64 (GV.b i18.2.2)])->∃(i24:VlB),zet ((GV.x i24.2.2).1=some (Addr.mk i20 (i21+nat_lit 0) none)/\(GV.x i24.2.2).2.1=nat_lit 1/\(GV.x i24.2.2).2.2=nat_lit 1/\zy6 (i24.2.1=i18.2.1/\zkb x2 (i24.1=i18.1/\z0t x1 i24/\(∀i25,(((z1w x2 x3 x4 i25)/\GV.ok i18.2.2 i25)/\∀(i26:Nat) (i27:Value),[int u64 (GV.n i18.2.2),string (GV.s i18.2.2),slice (GV.x i18.2.2).1 (GV.x i18.2.2).2.1 (GV.x i18.2.2).2.2,slice (GV.y i18.2.2).1 (GV.y i18.2.2).2.1 (GV.y i18.2.2).2.2,int i64 (GV.b i18.2.2)][i26]? =some i27->q67 i25 (Addr.add (Addr.mk i20 i21 none) i26)=some i27)->GV.ok i24.2.2 i25)/\True)) i24) i24
 def j5p:=Ji (x0=14) (j5q x1 x5 x2 x3 x4 x6 x8 x9) (∃(i28:Unit),zak x5 x2 x3 x4)
 def j5o:=(bq 9 6 (GJ.k x4) x0=true->∃(i0:VqS),zy1 x0 x1 x2 x4 x5 x6 x7 x8 x9 x10 x11 x12 x13 x14 x15 x16 x17 x18 x19 x20 x21 x22 ((zcb i0<x23+1/\z0a i0.1/\i0.2.2.2.1∈i0.1/\isRec i0.2.2.2.1 i0.2.2.2.2.1/\zy5 i0)/\zy2 x16 x2 x3 x4 i0) i0)/\(bq 9 6 (GJ.k x4) x0=false->j5p x0 x10 x2 x3 x4 x16 x21 x20 x23)
 def j5n:=zaj x0 x1 x2 x3 x4 x5 x6 x7 x8 x9 x10 x11 x12 x13 x14 x15 x16 x17 x18 x19 x20 x21 x22 9 6/\∀(i2:Unit),True->j5o x0 x10 x2 x3 x4 x16 x6 x7 x8 x9 x1 x11 x12 x13 x14 x15 x5 x17 x18 x19 x20 x21 x22 x23
 def j5m:=(bP (GJ.k x4) x0=true->∃(i0:VqS),zy1 x0 x1 x2 x4 x5 x6 x7 x8 x9 x10 x11 x12 x13 x14 x15 x16 x17 x18 x19 x20 x21 x22 ((zcb i0<x23+1/\z0a i0.1/\i0.2.2.2.1∈i0.1/\zml i0.2.2.2.1 i0.2.2.2.2.1/\zy5 i0)/\zy2 x16 x2 x3 x4 i0) i0)/\(bP (GJ.k x4) x0=false->j5n x0 x10 x2 x3 x4 x16 x6 x7 x8 x9 x1 x11 x12 x13 x14 x15 x5 x17 x18 x19 x20 x21 x22 x23)
 def j5l:=(zaj x0 x1 x2 x3 x4 x5 x6 x7 x8 x9 x10 x11 x12 x13 x14 x15 x16 x17 x18 x19 x20 x21 x22 12 5/\∀(i2:Unit),True->j5w x0 x1 x2 x3 x4 x5 x6 x7 x8 x9 x10 x11 x12 x13 x14 x15 x16 x17 x18 x19 x20 x21 x22)/\∀(i6:Unit),True->j5m x0 x10 x2 x3 x4 x16 x6 x7 x8 x9 x1 x11 x12 x13 x14 x15 x5 x17 x18 x19 x20 x21 x22 x23
 def j5k:=(bq 10 4 (GJ.k x4) x0=true->j5s x1 x5 x2 x3 x4 x0 x6 x7 x8 x9 x10 x11 x12 x13 x14 x15 x16 x17 x18 x19 x20 x21 x22)/\(bq 10 4 (GJ.k x4) x0=false->j5l x0 x1 x2 x3 x4 x5 x6 x7 x8 x9 x10 x11 x12 x13 x14 x15 x16 x17 x18 x19 x20 x21 x22 x23)
 def j5j:=zaj x0 x1 x2 x3 x4 x5 x6 x7 x8 x9 x10 x11 x12 x13 x14 x15 x16 x17 x18 x19 x20 x21 x22 10 4/\∀(i4:Unit),True->j5k x0 x1 x2 x3 x4 x5 x6 x7 x8 x9 x10 x11 x12 x13 x14 x15 x16 x17 x18 x19 x20 x21 x22 x23
 def j5i:=(bT (GJ.k x4) x0=true->∃i0,i0=GJ.s x4/\size i0<1000000/\∀(i1:ByteArray×Bool),size i1.1<=size i0->j5r x0 x1 x2 x3 x4 x5 i1)/\(bT (GJ.k x4) x0=false->j5j x0 x10 x2 x3 x4 x1 x6 x7 x8 x9 x16 x11 x12 x13 x14 x15 x5 x17 x18 x19 x20 x21 x22 x23)
 def j5h:=(Ji (x0=7) (∃(i0:Unit),x1=x1/\z23 x4/\bT (GJ.k x4) x0=decide (GJ.k x4=4)/\z22 x5 x0 x2 x3 x4 x10 x6 x7 x8 x9 x16 x11 x12 x13 x14 x15 x17 x18 x19 x20 x21 x22 True) (j61 x0 x1 x2 x3 x4 x5 x6 x7 x8 x9 x10 x11 x12 x13 x14 x15 x16 x17 x18 x19 x20 x21 x22))/\∀(i6:Unit),True->j5i x0 x5 x2 x3 x4 x16 x6 x7 x8 x9 x1 x11 x12 x13 x14 x15 x10 x17 x18 x19 x20 x21 x22 x23
 def j5g:=(bq 8 4 (GJ.k x4) x0=true->∃(i0:VlB),GV.n i0.2.2=0/\GV.s i0.2.2=GJ.s x4/\z5h x1 0 x2 x3 x4 i0)/\(bq 8 4 (GJ.k x4) x0=false->j5h x0 x5 x2 x3 x4 x1 x6 x7 x8 x9 x10 x11 x12 x13 x14 x15 x16 x17 x18 x19 x20 x21 x22 x23)
 def j5f:=zaj x0 x1 x2 x3 x4 x5 x6 x7 x8 x9 x10 x11 x12 x13 x14 x15 x16 x17 x18 x19 x20 x21 x22 8 4/\∀(i4:Unit),True->j5g x0 x5 x2 x3 x4 x1 x6 x7 x8 x9 x10 x11 x12 x13 x14 x15 x16 x17 x18 x19 x20 x21 x22 x23
 def j5e:=(bq 6 3 (GJ.k x4) x0=true->∃(i0:Int),i0=GJ.n x4/\j0n i0/\∀(i1:Int),z83 i1->∃(i2:VlB),GV.n i2.2.2=i1/\GV.s i2.2.2=mkS []/\z5h x1 0 x2 x3 x4 i2)/\(bq 6 3 (GJ.k x4) x0=false->j5f x0 x5 x2 x3 x4 x1 x6 x7 x8 x9 x10 x11 x12 x13 x14 x15 x16 x17 x18 x19 x20 x21 x22 x23)
 def j5d:=zaj x0 x1 x2 x3 x4 x5 x6 x7 x8 x9 x10 x11 x12 x13 x14 x15 x16 x17 x18 x19 x20 x21 x22 6 3/\∀(i4:Unit),True->j5e x0 x5 x2 x3 x4 x1 x6 x7 x8 x9 x10 x11 x12 x13 x14 x15 x16 x17 x18 x19 x20 x21 x22 x23
 def jj1:=(bq 5 3 (GJ.k x4) x0=true->∃(i0:Int),i0=GJ.n x4/\j0n i0/\∀(i1:Int),0<=i1/\i1<4294967296->(0<=i1/\i1<=18446744073709551615)/\∃(i2:VlB),GV.n i2.2.2=i1/\GV.s i2.2.2=mkS []/\z5h x1 0 x2 x3 x4 i2)/\(bq 5 3 (GJ.k x4) x0=false->j5d x0 x5 x2 x3 x4 x1 x6 x7 x8 x9 x10 x11 x12 x13 x14 x15 x16 x17 x18 x19 x20 x21 x22 x23)
 def jj0:=zy4 x0 x1 x2 x3 x4 x5 x6 x7 x8 x9 x10 x11 x12 x13 x14 x15 x16 x17 x18 x19 x20 x21 x22 5 3/\∀(i4:Unit),True->jj1 x0 x5 x2 x3 x4 x1 x6 x7 x8 x9 x10 x11 x12 x13 x14 x15 x16 x17 x18 x19 x20 x21 x22 x23
 def jiz:=(bN (GJ.k x4) (GJ.n x4) x0=true->zy8 x1 x2 x3 x4)/\(bN (GJ.k x4) (GJ.n x4) x0=false->jj0 x0 x5 x2 x3 x4 x1 x6 x7 x8 x9 x10 x11 x12 x13 x14 x15 x16 x17 x18 x19 x20 x21 x22 x23)
 def jiy:=((Ji (x0=3) (j5u x1 x0 x2 x3 x4 x5 x6 x7 x8 x9 x10 x11 x12 x13 x14 x15 x16 x17 x18 x19 x20 x21 x22) (∃(i6:Unit),x1=x1/\z23 x4/\bI (GJ.k x4) (GJ.n x4) x0=false/\z22 x5 x0 x2 x3 x4 x10 x6 x7 x8 x9 x16 x11 x12 x13 x14 x15 x17 x18 x19 x20 x21 x22 True))/\∀(i8:Unit),True->j5x x0 x1 x2 x3 x4 x5 x6 x7 x8 x9 x10 x11 x12 x13 x14 x15 x16 x17 x18 x19 x20 x21 x22)/\∀(i15:Unit),True->jiz x0 x5 x2 x3 x4 x1 x6 x7 x8 x9 x10 x11 x12 x13 x14 x15 x16 x17 x18 x19 x20 x21 x22 x23
 def jix:=(bq 2 2 (GJ.k x4) x0=true->zy8 x1 x2 x3 x4)/\(bq 2 2 (GJ.k x4) x0=false->jiy x0 x5 x2 x3 x4 x1 x6 x7 x8 x9 x10 x11 x12 x13 x14 x15 x16 x17 x18 x19 x20 x21 x22 x23)
 def jiw:=zy4 x0 x1 x2 x3 x4 x5 x6 x7 x8 x9 x10 x11 x12 x13 x14 x15 x16 x17 x18 x19 x20 x21 x22 2 2/\∀(i4:Unit),True->jix x0 x5 x2 x3 x4 x1 x6 x7 x8 x9 x10 x11 x12 x13 x14 x15 x16 x17 x18 x19 x20 x21 x22 x23
 def jiv:=(bq 1 1 (GJ.k x4) x0=true->∃(i0:VlB),zet (z5h x1 0 x2 x3 x4 i0) i0)/\(bq 1 1 (GJ.k x4) x0=false->jiw x0 x5 x2 x3 x4 x1 x6 x7 x8 x9 x10 x11 x12 x13 x14 x15 x16 x17 x18 x19 x20 x21 x22 x23)
 def jiu:=(0<=x0/\x0<(↑x2.2.1:Int))/\x2.1≠noA/\∃(i0:Int),∃i1,∃i2,∃(i3:Nat),∃(i4:Nat),∃(i5:Int),∃i6,∃(i7:Nat),∃(i8:Nat),∃(i9:Bool),∃i10,∃(i11:Int),∃i12,∃(i13:Nat),∃(i14:Nat),∃i15,∃(i16:Nat),∃(i17:Nat),(∀i18,z1w x2 x3 x4 i18->q3f i18 (adr x2.1 (toNat x0*10)) [int i64 i0,string i1,slice i2 i3 i4,int i64 i5,slice i6 i7 i8,bool i9,string i10,int i64 i11,slice i12 i13 i14,slice i15 i16 i17])/\(zaj i0 x1 x2 x3 x4 x5 i3 i1 i2 i4 i5 i6 i7 i8 i9 i10 i11 i12 i13 i14 i15 i16 i17 1 1/\∀(i23:Unit),True->jiv i0 x5 x2 x3 x4 x1 i3 i1 i2 i4 i5 i6 i7 i8 i9 i10 i11 i12 i13 i14 i15 i16 i17 x6)/\∀(i171:Unit),True->∃(i172:VlB),zet (z5h x5 7 x2 x3 x4 i172) i172
 def jit:=Ji (2000<x0+1) (∃(i0:VlB),zet (z5h x0 3 x2 x3 x4 i0) i0) (jiu x1 x5 x2 x3 x4 x0 x6)
 def jis:=zy7 x0/\Ji (20<x1) (∃(i0:VlB),zet (z5h x0 3 x2 x3 x4 i0) i0) (jit x0 x5 x2 x3 x4 x1 x6)
end
def j1z(n:Nat) (S:List AT) (x:SV) (all t:Int) (g:GJ) (d:Int):qkj P (qfv []) (qgy [(83,cVl.below z8i n),(120,(cVq zml).below zcb (n+1)),(121,(cVq isRec).below zcb (n+1)),(117,zfy),(118,z9c),(119,j8u)]) Try.f83 (cVl.below z8i (n+1)) (wVl) ⟨S,x,all,t,g,d⟩=(z8i (S,x,all,t,g,d)<n+1/\z0a S/\(0<=t/\t<(↑(length S):Int))/\GJ.wf g/\(0<=all/\all<=2000)/\1<=d/\d<=21->(∃(p:Pub),z1w x S g p)->jis all d x S g t n):=by kernel_rfl
def jae:=λn S x all t g d=>Eq.trans (j1z n S x all t g d) (by delta Ji Jb Jt Jf z1w zy7 zet zy6 zkb z5h z23 z22 zaj zy4 zy8 j5y j5u j5z j5x j61 zak j60 j63 j5r j5v j5t j5s j62 j5w zy1 zy5 zy3 zy2 zy0 j5q j5p j5o j5n j5m j5l j5k j5j j5i j5h j5g j5f j5e j5d jj1 jj0 jiz jiy jix jiw jiv jiu jit jis;exact rfl)
section
variable {p:Pub}
def z1f{a:AT} (h:a.ok p):a.al.2.1=a.als.length/\a.sy.2.1=a.sys.length/\a.f.2.1=a.fs.length/\a.br.2.1=a.brs.length:=⟨h.1.1,h.2.1.1,h.2.2.1.1,h.2.2.2.1.1⟩
variable {g:GJ}
def z4r(h:g.ok p):g.y.2.1=g.l.length/\g.x.2.1=g.nm.length:=by rw[GJ.ok_eq]at h;exact⟨h.1.1,h.2.1.1⟩
def z69(h:g.ok p) {j:Nat} (hj:j<g.l.length):(g.y.1≠noA/\q3f p (adr g.y.1 (j*5)) g.l[j].cells)/\g.l[j].ok p:=by
 rw[GJ.ok_eq]at h;exact⟨z14 z48 (by decide) h.1 hj,GJ.oks_at h.2.2 hj⟩
def zrh(h:g.ok p) {j:Nat} (hj:j<g.nm.length):g.x.1≠noA/\q3f p (adr g.x.1 (j*1)) [.string g.nm[j]]:=by
 rw[GJ.ok_eq]at h;exact z14 z0m (by decide) h.2.1 hj
def z54:∀{l m:List GV} {p:Pub},GV.oks l p->GV.oks m p->GV.oks (l++m) p:=λh1 h2=>GV.oks_iff.2 λv hv=>(List.mem_append.1 hv).elim (GV.oks_iff.1 h1 v) (GV.oks_iff.1 h2 v)
def z2j{v:GV} (h:v.ok p):GV.oks [v] p:=GV.oks_iff.2 λw hw=>by simp at hw;subst hw;exact h
def zV:GV:= .mk 0 (mkS []) (none,0,0) [] (none,0,0) [] 0
def z3m(p:Pub):zV.ok p:=by unfold zV GV.ok;exact⟨z06,z06,by unfold GV.oks;trivial⟩
def zhn(k:ByteArray) (ks:List ByteArray) (l:List PV) (w:PV) (h:ks.length=l.length):(qad k ks).length=(z97 k ks l w).length/\(z97 k ks l w).length<=l.length+1:=by
 have hi:=zrk k ks
 unfold qad z97
 split
 ·rw[List.length_set];omega
 ·simp only[List.length_append,List.length_take,List.length_cons,List.length_drop];omega
def zn2(n:Nat) (hv:q1u P 83 (cVl.below z8i n)):q1u P 120 ((cVq zt7).below zcb (n+1)):=by
 refine qjr mixed (qdh qk5) (qe7 (qh8 hv (qh8 zcg qk4))) (W:=wPa) Try.func120 (by kernel_rfl) (show 1<=2 by decide) (show 2<=2 by decide) (λs=>by kernel_rfl) λ⟨S,(x:SV),(all:Int),a,g,(d:Int)⟩=>(zn1 n S x all a g d).mpr ?_
 rintro⟨hmu,hS,haS,hk,hg,⟨hal0,hal1⟩,hd1,hd2⟩ ⟨p,_,hx,ha,hgo⟩
 have hmu:2*(25- d).toNat<n+1:=hmu
 have hk:a.k=12:=hk
 obtain⟨gl,gnl⟩:=z4r hgo
 have hgw:=hg
 rw[GJ.wf_eq]at hgw
 obtain⟨_,hgl,_,_,_,_,hgs⟩:=hgw
 have hat:=(hS.2 a haS).2.1 (.inl hk)
 simp only[sbS,exists_const,forall_const,Int.toNat_natCast,gl,gnl]
 refine⟨⟨⟨0,all,[]⟩,rfl,rfl,rfl,λq hq=>GV.oks_iff.2 λv h=>(by cases h),Nat.zero_le _,⟨by show all<=all;omega,hal1⟩,rfl⟩,?_⟩
 rintro⟨j,al,fs⟩ ⟨hj,⟨hl0,hl1⟩,hfl⟩ ⟨p1,hp1,hfs1⟩
 simp only at hj hl0 hl1 hfl hfs1⊢
 refine⟨λhlt=>⟨⟨?xa,?xb⟩,?_⟩,λhge=> ?_⟩
 case xa|xb=>
  have hjl:j<g.l.length:=by omega
  have hw:g.l[j].wf:=GJ.wfs_at hgs hjl
  refine⟨⟨by omega,by omega⟩,(z69 hgo hjl).1.1,g.l[j].k,g.l[j].n,g.l[j].s,g.l[j].y.1,g.l[j].y.2.1,g.l[j].y.2.2,g.l[j].x.1,g.l[j].x.2.1,g.l[j].x.2.2,λq hq=>(z69 hq.1.2.2 hjl).1.2,⟨by omega,by omega⟩,⟨S,x,al,a.it,g.l[j],d+1⟩,rfl,rfl,rfl,rfl,rfl,rfl,rfl,rfl,rfl,rfl,rfl,rfl,rfl,rfl,rfl,⟨by show 2*(25- (d+1)).toNat<n;omega,hS,hat,hw,⟨by show 0<=al;omega,hl1⟩,by show 1<=d+1;omega,by show d+1<=21;omega⟩,λq hq=>⟨hq.1.1,(z69 hq.1.2.2 hjl).2⟩,?_⟩
  rintro⟨a2,e,w⟩ hb _
  exact⟨⟨a2,e,w⟩,rfl,rfl,rfl,rfl,rfl,rfl,rfl,rfl,rfl,rfl,rfl,rfl,rfl,rfl,λq hq=>hq.1,λq hq=>hq.2,hb⟩
 ·rintro⟨a2,e,w⟩ hb _
  have hb:al<=a2/\a2<=2001/\(e=0->a2<=2000):=hb
  simp only
  refine⟨λhe=>⟨⟨a2,e,zV⟩,rfl,rfl,rfl,rfl,rfl,rfl,rfl,rfl,rfl,rfl,rfl,⟨by show all<=a2;omega,hb.2⟩,λq hq=>z3m q⟩,λhe=>⟨λ_=>⟨z01 z0o fs,by omega,⟨by omega,by omega⟩,⟨j+1,a2,fs++[w]⟩,by show((j+1:Nat):Int)=_;omega,rfl,by simp,by rw[z07];rfl,λq hq=>hq.1.1,λq hq=>z54 hq.1.2 (z2j hq.2),⟨by show j+1<=_;omega,⟨by show all<=a2;omega,hb.2.2 he⟩,by show(fs++[w]).length=j+1;simp[hfl]⟩,by show _- (j+1)<_;omega⟩,λh=>absurd hk h⟩⟩
 ·intro a6 c _
  refine⟨⟨al,0, .mk 0 (mkS []) (a6,fs.length,c) fs (none,0,0) [] 0⟩,rfl,rfl,rfl,rfl,rfl,rfl,rfl,rfl,rfl,rfl,rfl,⟨by show all<=al;omega,by show al<=2001;omega,λ_=>hl1⟩,λq hq=> ?_⟩
  have h2:=hq.2.2
  rw[List.take_of_length_le (by rw[z01 z0o];exact Nat.le_refl _)]at h2
  show GV.ok _ q
  unfold GV.ok
  exact⟨⟨rfl,hq.2.1,h2⟩,z06,hq.1.2⟩
def zn4(n:Nat) (hv:q1u P 83 (cVl.below z8i n)):q1u P 120 ((cVq isMap).below zcb (n+1)):=by
 refine qjr mixed (qdh qk5) (qe7 (qh8 hv (qh8 zcg qk4))) (W:=wPm) Try.func120 (by kernel_rfl) (show 1<=2 by decide) (show 2<=2 by decide) (λs=>by kernel_rfl) λ⟨S,(x:SV),(all:Int),a,g,(d:Int)⟩=>(zn3 n S x all a g d).mpr ?_
 rintro⟨hmu,hS,haS,hk,hg,⟨hal0,hal1⟩,hd1,hd2⟩ ⟨p,_,hx,ha,hgo⟩
 have hmu:2*(25- d).toNat<n+1:=hmu
 obtain⟨hk,hgk⟩:=hk
 obtain⟨gl,gnl⟩:=z4r hgo
 have hgw:=hg
 rw[GJ.wf_eq]at hgw
 obtain⟨_,hgl,_,hnsz,_,hnl,hgs⟩:=hgw
 have hnl:=hnl hgk
 have hat:=(hS.2 a haS).2.1 (.inr hk)
 simp only[sbS,exists_const,forall_const,Int.toNat_natCast,gl,gnl]
 refine⟨⟨⟨0,all,zV⟩,rfl,rfl,rfl,rfl,rfl,rfl,rfl,rfl,rfl,rfl,rfl,λq hq=>z3m q,Nat.zero_le _,⟨by show all<=all;omega,hal1⟩,rfl,Nat.zero_le _⟩,?_⟩
 rintro⟨j,al,v⟩ ⟨hj,⟨hl0,hl1⟩,hvk,hvl⟩ ⟨p1,hp1,hv1⟩
 simp only at hj hl0 hl1 hvk hvl hv1⊢
 refine⟨λhlt=>⟨⟨?xa,?xb⟩,?_⟩,λhge=> ?_⟩
 case xa|xb=>
  have hjl:j<g.l.length:=by omega
  have hw:g.l[j].wf:=GJ.wfs_at hgs hjl
  refine⟨⟨by omega,by omega⟩,(z69 hgo hjl).1.1,g.l[j].k,g.l[j].n,g.l[j].s,g.l[j].y.1,g.l[j].y.2.1,g.l[j].y.2.2,g.l[j].x.1,g.l[j].x.2.1,g.l[j].x.2.2,λq hq=>(z69 hq.1.2.2 hjl).1.2,⟨by omega,by omega⟩,⟨S,x,al,a.it,g.l[j],d+1⟩,rfl,rfl,rfl,rfl,rfl,rfl,rfl,rfl,rfl,rfl,rfl,rfl,rfl,rfl,rfl,⟨by show 2*(25- (d+1)).toNat<n;omega,hS,hat,hw,⟨by show 0<=al;omega,hl1⟩,by show 1<=d+1;omega,by show d+1<=21;omega⟩,λq hq=>⟨hq.1.1,(z69 hq.1.2.2 hjl).2⟩,?_⟩
  rintro⟨a2,e,w⟩ hb _
  exact⟨⟨a2,e,w⟩,rfl,rfl,rfl,rfl,rfl,rfl,rfl,rfl,rfl,rfl,rfl,rfl,rfl,rfl,λq hq=>hq.1,λq hq=>hq.2,hb⟩
 ·rintro⟨a2,e,w⟩ hb _
  have hb:al<=a2/\a2<=2001/\(e=0->a2<=2000):=hb
  simp only
  refine⟨λhe=>⟨⟨a2,e,zV⟩,rfl,rfl,rfl,rfl,rfl,rfl,rfl,rfl,rfl,rfl,rfl,⟨by show all<=a2;omega,hb.2⟩,λq hq=>z3m q⟩,λhe=>⟨λh=>by omega,λ_=> ?_⟩⟩
  have hjn:j<g.nm.length:=by omega
  refine⟨⟨by omega,by omega⟩,(zrh hgo hjn).1,g.nm[j],λq hq=>(zrh hq.1.1.2.2 hjn).2,⟨v,g.nm[j],w⟩,rfl,rfl,rfl,rfl,rfl,rfl,rfl,rfl,rfl,rfl,rfl,rfl,rfl,rfl,rfl,rfl,rfl,rfl,rfl,⟨hvk,by show v.l.length<_;omega⟩,λq hq=>⟨hq.1.2,hq.2⟩,?_⟩
  intro b hb2 _
  have hb2:b.pv=PV.mk v.n v.s (z97 g.nm[j] v.ks (GV.pvs v.l) w.pv) (qad g.nm[j] v.ks) v.b:=hb2
  rw[GV.pv_eq]at hb2
  injection hb2 with _ _ e1 e2 _
  have hpl:=zhn g.nm[j] v.ks (GV.pvs v.l) w.pv (by rw[GV.pvs_len];exact hvk)
  rw[←e1,←e2,GV.pvs_len,GV.pvs_len]at hpl
  exact⟨⟨by omega,by omega⟩,⟨j+1,a2,b⟩,by show((j+1:Nat):Int)=_;omega,rfl,rfl,rfl,rfl,rfl,rfl,rfl,rfl,rfl,rfl,λq hq=>hq.1.1.1,λq hq=>hq.2,⟨by show j+1<=_;omega,⟨by show all<=a2;omega,hb.2.2 he⟩,hpl.1,by show b.l.length<=j+1;omega⟩,by show _- (j+1)<_;omega⟩
 ·exact⟨⟨al,0,v⟩,rfl,rfl,rfl,rfl,rfl,rfl,rfl,rfl,rfl,rfl,rfl,⟨by show all<=al;omega,by show al<=2001;omega,λ_=>hl1⟩,λq hq=>hq.2⟩
def zud(n:Nat) (hv:q1u P 83 (cVl.below z8i n)):q1u P 121 ((cVq isRec).below zcb (n+1)):=by
 refine qjr mixed (qdh (qh9 z36 qk5)) (qe7 (qh8 hv qk4)) (W:=wRe) Try.func121 (by kernel_rfl) (show 1<=2 by decide) (show 2<=2 by decide) (λs=>by kernel_rfl) λ⟨S,(x:SV),(all:Int),a,g,(d:Int)⟩=>(zuc n S x all a g d).mpr ?_
 rintro⟨hmu,hS,haS,hk,hg,⟨hal0,hal1⟩,hd1,hd2⟩ ⟨p,_,hx,ha,hgo⟩
 have hmu:2*(25- d).toNat<n+1:=hmu
 obtain⟨gl,gnl⟩:=z4r hgo
 obtain⟨_,_,afl,_⟩:=z1f ha
 have hgf:=hS.2 a haS
 have hf30:=hgf.2.2.2.2.2.2.2.1
 have hfg:=hgf.2.2.2.2.1
 simp only[sbS,exists_const,forall_const,Int.toNat_natCast,gl,gnl,afl]
 refine⟨⟨⟨0,all,[]⟩,rfl,rfl,rfl,λq hq=>GV.oks_iff.2 λv h=>(by cases h),Nat.zero_le _,⟨by show all<=all;omega,hal1⟩,rfl⟩,?_⟩
 rintro⟨j,al,fs⟩ ⟨hj,⟨hl0,hl1⟩,hfl⟩ ⟨p1,hp1,hfs1⟩
 simp only at hj hl0 hl1 hfl hfs1⊢
 refine⟨λhlt=> ?_,λhge=> ?_⟩
 ·have hjf:j<a.fs.length:=by omega
  have hff:=hfg _ (List.getElem_mem hjf)
  have fok:=λq (h:a.ok q)=>h.2.2.2.2 a.fs[j] (List.getElem_mem hjf)
  generalize hfj:a.fs[j]=f at*
  have fat:=λq (h:a.ok q)=>(show a.f.1≠noA/\q3f q (adr a.f.1 (j*9)) f.cells by rw[←hfj];exact z1y h hjf)
  obtain⟨cw,cok⟩:=z19 f.nm hg
  refine⟨⟨by omega,by omega⟩,(fat p ha).1,f.nm,f.al.1,f.al.2.1,f.al.2.2,f.ty,f.hd,f.df.k,f.df.n,f.df.s,f.df.y.1,f.df.y.2.1,f.df.y.2.2,f.df.x.1,f.df.x.2.1,f.df.x.2.2,λq hq=>(fat q hq.1.2.1).2,⟨g,f.nm⟩,rfl,rfl,rfl,rfl,gl,rfl,rfl,gnl,rfl,rfl,hg,λq hq=>hq.1.2.2,?_⟩
  simp only
  generalize (z0k f.nm g).getD zJ=cj at*
  refine⟨⟨λhno=>⟨λ_=>⟨⟨al,7,zV⟩,rfl,rfl,rfl,rfl,rfl,rfl,rfl,rfl,rfl,rfl,rfl,⟨by show all<=al;omega,by show al<=2001;omega,λ_=>hl1⟩,λq hq=>z3m q⟩,λ_=>⟨f.df,rfl,rfl,rfl,rfl,rfl,rfl,rfl,rfl,rfl,λq hq=>(fok q hq.1.2.1).2,hff.2⟩⟩,λhyes=>⟨cj,rfl,rfl,rfl,rfl,rfl,rfl,rfl,rfl,rfl,λq hq=>cok q hq.1.2.2,cw⟩⟩,?_⟩
  intro c hcw _
  refine⟨⟨by omega,by omega⟩,⟨S,x,al,f.ty,c,d+1⟩,rfl,rfl,rfl,rfl,rfl,rfl,rfl,rfl,rfl,rfl,rfl,rfl,rfl,rfl,rfl,⟨by show 2*(25- (d+1)).toNat<n;omega,hS,hff.1,hcw,⟨by show 0<=al;omega,hl1⟩,by show 1<=d+1;omega,by show d+1<=21;omega⟩,λq hq=>⟨hq.1.1.1,hq.2⟩,?_⟩
  rintro⟨a2,e,w⟩ hb _
  have hb:al<=a2/\a2<=2001/\(e=0->a2<=2000):=hb
  simp only[true_and]
  refine⟨λhe=>⟨⟨a2,e,zV⟩,rfl,rfl,rfl,rfl,rfl,rfl,rfl,rfl,rfl,rfl,rfl,⟨by show all<=a2;omega,hb.2⟩,λq hq=>z3m q⟩,λhe=>⟨z01 z0o fs,by omega,⟨by omega,by omega⟩,⟨j+1,a2,fs++[w]⟩,by show((j+1:Nat):Int)=_;omega,rfl,by simp,by rw[z07];rfl,λq hq=>hq.1.1.1,λq hq=>z54 hq.1.1.2 (z2j hq.2),⟨by show j+1<=_;omega,⟨by show all<=a2;omega,hb.2.2 he⟩,by show(fs++[w]).length=j+1;simp[hfl]⟩,by show _- (j+1)<_;omega⟩⟩
 ·intro a6 c _
  refine⟨⟨al,0, .mk 0 (mkS []) (a6,fs.length,c) fs (none,0,0) [] 0⟩,rfl,rfl,rfl,rfl,rfl,rfl,rfl,rfl,rfl,rfl,rfl,⟨by show all<=al;omega,by show al<=2001;omega,λ_=>hl1⟩,λq hq=> ?_⟩
  have h2:=hq.2.2
  rw[List.take_of_length_le (by rw[z01 z0o];exact Nat.le_refl _)]at h2
  show GV.ok _ q
  unfold GV.ok
  exact⟨⟨rfl,hq.2.1,h2⟩,z06,hq.1.2⟩
end
def zdw(n:Nat) (hv:q1u P 83 (cVl.below z8i n)):q1u P 120 ((cVq zml).below zcb (n+1)):=by
 have hA:=zn2 n hv
 have hM:=zn4 n hv
 refine⟨hA.1,hA.2.1,hA.2.2.1,λs=> ?_⟩
 obtain⟨h0,e0,rA⟩:=hA.2.2.2 s
 obtain⟨h1,e1,rM⟩:=hM.2.2.2 s
 have e:h1=h0:=Option.some.inj (e1.symm.trans e0)
 subst e
 refine⟨h1,e0,λF I w vs a1 a2 a3 a4 hp a5 a6 a7=> ?_⟩
 obtain⟨m,p1,p2,p3,p4⟩:=hp
 rcases p3 with h|h
 ·exact rA F I w vs a1 a2 a3 a4 ⟨m,p1,p2,h,p4⟩ a5 a6 a7
 ·exact rM F I w vs a1 a2 a3 a4 ⟨m,p1,p2,h,p4⟩ a5 a6 a7
def jaf(n:Nat) (hv:q1u P 83 (cVl.below z8i n)):q1u P 83 (cVl.below z8i (n+1)):=by
 refine qjr mixed (qdh qk5) (qe7 (qh8 hv (qh8 (zdw n hv) (qh8 (zud n hv) (qh8 zmd (qh8 zga (qh8 j1i qk4))))))) (W:=wVl) Try.func83 (by kernel_rfl) (show 1<=2 by decide) (show 2<=2 by decide) (λs=>by kernel_rfl) λ⟨S,(x:SV),(all:Int),(t:Int),g,(d:Int)⟩=>(jae n S x all t g d).mpr ?_
 rintro⟨hmu,hS,⟨ht0,ht1⟩,hg,⟨hal0,hal1⟩,hd1,hd2⟩ ⟨p,_,hx,hgo⟩
 have hmu:2*(25- d).toNat<n+1:=hmu
 obtain⟨gl,gnl⟩:=z4r hgo
 obtain⟨j,rfl⟩:=Int.eq_ofNat_of_zero_le ht0
 have hj:j<S.length:=by omega
 have sl:x.2.1=S.length:=hx.1.1
 have hat:=λq (hq:z05 S x q/\g.ok q)=>z2d hq.1 hj
 have hao:=λq (hq:z05 S x q/\g.ok q)=>hq.1.2 S[j] (List.getElem_mem hj)
 have hgd:=hS.2 S[j] (List.getElem_mem hj)
 simp only[sbS,exists_const,forall_const,Int.toNat_natCast,sl]
 refine⟨⟨by omega,by omega⟩,λh20=>⟨⟨all+1,3,zV⟩,rfl,rfl,rfl,rfl,rfl,rfl,rfl,rfl,rfl,rfl,rfl,⟨by show all<=all+1;omega,by show all+1<=2001;omega,λh=>(by have h:(3:Int)=0:=h;omega)⟩,λq hq=>z3m q⟩,λh20=>⟨λh2=>⟨⟨all+1,3,zV⟩,rfl,rfl,rfl,rfl,rfl,rfl,rfl,rfl,rfl,rfl,rfl,⟨by show all<=all+1;omega,by show all+1<=2001;omega,λh=>(by have h:(3:Int)=0:=h;omega)⟩,λq hq=>z3m q⟩,λh2=> ?_⟩⟩
 refine⟨⟨by omega,by omega⟩,(hat p ⟨hx,hgo⟩).1,S[j].k,S[j].nm,S[j].al.1,S[j].al.2.1,S[j].al.2.2,S[j].it,S[j].sy.1,S[j].sy.2.1,S[j].sy.2.2,S[j].hd,S[j].df,S[j].sz,S[j].f.1,S[j].f.2.1,S[j].f.2.2,S[j].br.1,S[j].br.2.1,S[j].br.2.2,λq hq=>(hat q hq).2,?_⟩
 have hmem:=List.getElem_mem hj
 obtain⟨_,syl,_,brl⟩:=z1f (hao p ⟨hx,hgo⟩)
 generalize S[j]=a at*
 simp only[syl,brl]
 have ret:∀(nn:Int) (ss:ByteArray) (ee:Int),∃b:VlB,b.snd.snd.n=nn/\b.snd.snd.s=ss/\b.snd.snd.x.fst=noA/\b.snd.snd.x.snd.fst=0/\b.snd.snd.x.snd.snd=0/\b.snd.snd.y.fst=noA/\b.snd.snd.y.snd.fst=0/\b.snd.snd.y.snd.snd=0/\b.snd.snd.b=0/\b.snd.fst=ee/\b.fst=all+1/\z0t all b/\∀(p:Nat->Option Obj),z05 S x p/\g.ok p->b.snd.snd.ok p:=λnn ss ee=>⟨⟨all+1,ee, .mk nn ss (none,0,0) [] (none,0,0) [] 0⟩,rfl,rfl,rfl,rfl,rfl,rfl,rfl,rfl,rfl,rfl,rfl,⟨by show all<=all+1;omega,by show all+1<=2001;omega,λ_=>by show all+1<=2000;omega⟩,λq _=>by show GV.ok _ q;unfold GV.ok;exact⟨z06,z06,by unfold GV.oks;trivial⟩⟩
 have q1:∀{k b gk:Int},a.k=k->bq k b gk a.k=decide (gk=b):=λ{k b gk} h=>by unfold bq;rw[decide_eq_true h];rfl
 have q0:∀{k b gk:Int},¬a.k=k->bq k b gk a.k=false:=λ{k b gk} h=>by unfold bq;rw[decide_eq_false h];rfl
 have qk:∀{k b:Int},bq k b g.k a.k=true->a.k=k/\g.k=b:=λ{k b} h=>by
  unfold bq at h;rw[Bool.and_eq_true,decide_eq_true_eq,decide_eq_true_eq]at h;exact h
 have gn:=hg
 rw[GJ.wf_eq]at gn
 obtain⟨gsz,_,_,_,⟨gn0,gn1⟩,_,_⟩:=gn
 refine⟨⟨⟨λh=>q1 h,λh=>q0 h⟩,λ_=>ret _ _ _,λ_=>⟨⟨λh=>q1 h,λh=>q0 h⟩,λ_=>ret _ _ _,λ_=>⟨⟨⟨λh=>⟨λh2=>⟨λh3=> ?_,λh3=> ?_⟩,λh2=> ?_⟩,λh=> ?_⟩,λh=> ?_,λh=>⟨λh2=> ?_,λh2=> ?_⟩⟩,λ_=>ret _ _ _,λ_=>⟨⟨λh=>q1 h,λh=>q0 h⟩,λ_=>⟨g.n,rfl,⟨gn0,gn1⟩,λb hb=>⟨⟨by omega,by omega⟩,ret _ _ _⟩⟩,λ_=>⟨⟨λh=>q1 h,λh=>q0 h⟩,λ_=>⟨g.n,rfl,⟨gn0,gn1⟩,λb hb=>ret _ _ _⟩,λ_=>⟨⟨λh=>q1 h,λh=>q0 h⟩,λ_=>ret _ _ _,λ_=>⟨⟨λh=> ?_,λh=>⟨λh2=> ?_,λh2=> ?_⟩⟩,λ_=>⟨g.s,rfl,by omega,λb hb=>⟨⟨λ_=>⟨λ_=>⟨_,rfl⟩,λ_=>⟨_,rfl⟩⟩,λ_=>⟨_,rfl⟩⟩,λs hs=>ret _ _ _⟩⟩,λ_=>⟨⟨λh=>q1 h,λh=>q0 h⟩,λhE=>⟨⟨0,rfl⟩,λi hi=> ?_⟩,λ_=>⟨⟨⟨λh=>q1 h,λh=>q0 h⟩,λh=> ?_,λh=>⟨λh2=> ?_,λh2=> ?_⟩⟩,λhP=> ?_,λ_=>⟨⟨λh=>q1 h,λh=>q0 h⟩,λhR=> ?_,λ_ h14=>⟨⟨?xa,?xb⟩,?_⟩⟩⟩⟩⟩⟩⟩⟩⟩⟩⟩,ret _ _ _⟩
 ·unfold bI;rw[decide_eq_true h,decide_eq_true h2,decide_eq_true h3];rfl
 ·unfold bI;rw[decide_eq_true h,decide_eq_true h2,decide_eq_false h3];rfl
 ·unfold bI;rw[decide_eq_true h,decide_eq_false h2];rfl
 ·unfold bI;rw[decide_eq_false h];rfl
 ·unfold bN;rw[h];rfl
 ·unfold bN;rw[h,Bool.false_or];exact q1 h2
 ·unfold bN;rw[h,Bool.false_or];exact q0 h2
 ·unfold bT;rw[decide_eq_true h,Bool.true_or,Bool.true_and]
 ·unfold bT;rw[decide_eq_true h2,Bool.or_true,Bool.true_and]
 ·unfold bT;rw[decide_eq_false h,decide_eq_false h2];rfl
 ·have hi':i<a.sys.length:=by omega
  have ty:=λq (hq:z05 S x q/\g.ok q)=>z7f (hao q hq).2.1 hi'
  have h30:=hgd.2.2.2.2.2.2.2.2.2
  exact⟨⟨by omega,by omega⟩,(ty p ⟨hx,hgo⟩).1,a.sys[i],λq hq=>(ty q hq).2,λ_=>ret _ _ _,λ_=>⟨⟨by omega,by omega⟩,i+1,by omega,by omega⟩⟩
 ·unfold bP;rw[h];rfl
 ·unfold bP;rw[h,Bool.false_or];exact q1 h2
 ·unfold bP;rw[h,Bool.false_or];exact q0 h2
 ·have hpar:zml a g:=by
   unfold bP at hP
   rw[Bool.or_eq_true]at hP
   rcases hP with h|h
   ·exact .inl (qk h).1
   ·exact .inr (qk h)
  refine⟨⟨S,x,all+1,a,g,d⟩,rfl,rfl,rfl,rfl,rfl,rfl,rfl,syl,rfl,rfl,rfl,rfl,rfl,rfl,rfl,rfl,brl,rfl,rfl,rfl,rfl,rfl,rfl,rfl,rfl,rfl,rfl,rfl,rfl,sl,rfl,rfl,⟨hmu,hS,hmem,hpar,hg,⟨by show 0<=all+1;omega,by show all+1<=2000;omega⟩,hd1,by show d<=20;omega⟩,λq hq=>⟨hq.1,hao q hq,hq.2⟩,?_⟩
  rintro⟨a2,e,w⟩ hb _
  have hb:all+1<=a2/\a2<=2001/\(e=0->a2<=2000):=hb
  exact⟨⟨a2,e,w⟩,rfl,rfl,rfl,rfl,rfl,rfl,rfl,rfl,rfl,rfl,rfl,sl.symm,rfl,rfl,⟨by show all<=a2;omega,hb.2⟩,λq hq=>hq.2⟩
 ·have hrec:isRec a g:=(qk hR).1
  refine⟨⟨S,x,all+1,a,g,d⟩,rfl,rfl,rfl,rfl,rfl,rfl,rfl,syl,rfl,rfl,rfl,rfl,rfl,rfl,rfl,rfl,brl,rfl,rfl,rfl,rfl,rfl,rfl,rfl,rfl,rfl,rfl,rfl,rfl,sl,rfl,rfl,⟨hmu,hS,hmem,hrec,hg,⟨by show 0<=all+1;omega,by show all+1<=2000;omega⟩,hd1,by show d<=20;omega⟩,λq hq=>⟨hq.1,hao q hq,hq.2⟩,?_⟩
  rintro⟨a2,e,w⟩ hb _
  have hb:all+1<=a2/\a2<=2001/\(e=0->a2<=2000):=hb
  exact⟨⟨a2,e,w⟩,rfl,rfl,rfl,rfl,rfl,rfl,rfl,rfl,rfl,rfl,rfl,sl.symm,rfl,rfl,⟨by show all<=a2;omega,hb.2⟩,λq hq=>hq.2⟩
 case xa|xb=>
  have h0:0<a.brs.length:=List.length_pos_iff.2 (hgd.2.2.2.1 h14)
  have hbr:=hgd.2.2.1 _ (List.getElem_mem h0)
  refine⟨⟨by omega,by omega⟩,(z1u (hao p ⟨hx,hgo⟩) h0).1,a.brs[0],λq hq=>(z1u (hao q hq) h0).2,⟨by omega,by omega⟩,⟨S,x,all+1,a.brs[0],g,d+1⟩,rfl,rfl,rfl,rfl,rfl,rfl,rfl,rfl,rfl,rfl,rfl,rfl,sl,rfl,rfl,⟨by show 2*(25- (d+1)).toNat<n;omega,hS,hbr,hg,⟨by show 0<=all+1;omega,by show all+1<=2000;omega⟩,by show 1<=d+1;omega,by show d+1<=21;omega⟩,λq hq=>hq,?_⟩
  rintro⟨a2,e,w⟩ hb _
  have hb:all+1<=a2/\a2<=2001/\(e=0->a2<=2000):=hb
  exact⟨⟨a2,e,w⟩,rfl,rfl,sl.symm,rfl,rfl,rfl,rfl,rfl,rfl,rfl,rfl,rfl,rfl,rfl,λq hq=>hq.1,λq hq=>hq.2,⟨by show all<=a2;omega,hb.2⟩⟩
 ·rintro⟨a2,e,w⟩ hb _ b s1 _
  refine⟨⟨a2,e, .mk 0 (mkS []) (some ⟨b,s1+0,none⟩,1,1) [w] (none,0,0) [] 0⟩,rfl,rfl,rfl,rfl,rfl,rfl,rfl,rfl,rfl,rfl,rfl,hb,λq hq=> ?_⟩
  show GV.ok _ q
  unfold GV.ok
  refine⟨⟨rfl,Nat.le_refl _, .inr ⟨⟨b,s1+0,none⟩,rfl,rfl,λi v hi=> ?_⟩⟩,z06,z2j hq.1.2⟩
  rw[z00,z00,List.append_nil]at hi
  exact hq.2 i v hi
def zrs:∀n,q1u P 83 (cVl.below z8i n)
 |0=>CtR.below_zero (by decide) (by decide) (Sen.enters_of Try.func83 (by kernel_rfl)) λs=>rfl
 |n+1=>jaf n (zrs n)
def j20:q1u P 83 cVl:=CtR.of_below zrs
def j0l:Ct:=ctP (SV×Int) (λ⟨x,t⟩=>[scA x, .sv (.int .i64 t)]) (λ_=>True) (λ_=>{}) λ⟨x,t⟩=> .sv (.bool (decide (0<=t)&&decide (t<(x.2.1:Int))))
def z1k(S:List AT):Prop:=∀a∈S,1<=a.k/\a.k<=14
def okQ(a:AT) (n:Nat) (ks:List ByteArray) (b:Int):Bool:=if a.k=9 then decide (n=a.fs.length)else if a.k=14 then decide (0<=b/\b<a.brs.length/\n=1)else if a.k=13 then decide (n=ks.length)&&z1q ks else true
def inF(S:List AT) (a:AT) (v:GV):Bool:=okQ a v.l.length v.ks v.b&&PV.fitL S (z0c a v.b) 0 (GV.pvs v.l)
def nB(k:Int):Bool:=decide (k=2\/k=3\/k=4\/k=5\/k=6\/k=10)
def z13(S:List AT) (a:AT) (v:GV):Bool:=if a.k=1 then true else if isN a.k=true then okN a v.n else if isT a.k=true then okT a v.s else inF S a v
def z51:Ct:=ctP FtS (λ⟨S,x,t,v⟩=>[scA x, .sv (.int .i64 t),v.av]) (λ⟨S,x,t,v⟩=>small S/\z1k S/\v.pv.sm) (λ⟨S,x,t,v⟩=>svM S x v) λ⟨S,x,t,v⟩=> .sv (.bool (PV.fits S t v.pv))
def zbh:Ct:=ctP FpS (λ⟨S,x,a,v⟩=>[scA x,a.av,v.av]) (λ⟨S,x,a,v⟩=>small S/\z1k S/\a.fs.length<1000000/\v.pv.sm/\isQ a.k=true) (λ⟨S,x,a,v⟩=>j90 S x a v) λ⟨S,x,a,v⟩=> .sv (.bool (inF S a v))
def zA:AT:=⟨0,mkS [],(none,0,0),[],0,(none,0,0),[],false,mkS [],0,(none,0,0),[],(none,0,0),[]⟩
def atS(S:List AT) (t:Int):AT:=(S[t.toNat]?).getD zA
def b46(k:Int):Bool:=decide (k=4)||decide (k=6)
def zd3(a:AT) (v:GV):Bool:=(decide (a.k≠13)&&decide (0<v.ks.length))|| (decide (a.k≠14)&&decide (v.b≠0))
def zru:FtS->WayF:=λ⟨S,x,t,v⟩=>{
 cut:=λi _ _=>match i with
  |14=>some {σ:=Unit,t:=λ_=>[(46, .sv (.bool (decide ((atS S t).k=4))))],h:=λ_=>[],more:=0,μ:=λ_=>0,keep:=[3,5,6,7,8,9,10,11,22]}
  |15=>some {σ:=Unit,t:=λ_=>[(46, .sv (.bool (b46 (atS S t).k)))],h:=λ_=>[],more:=0,μ:=λ_=>0,keep:=[3,5,6,7,8,9,10,11,22]}
  |26=>some {σ:=Unit,t:=λ_=>[(8, .sv (.bool (nB (atS S t).k))),(9, .sv (.bool (isT (atS S t).k))),(10, .sv (.bool (isQ (atS S t).k))),(11, .sv (.bool (z13 S (atS S t) v)))],h:=λ_=>[],more:=0,μ:=λ_=>0,keep:=[3,5,6,7]}
  |27=>some {σ:=Unit,t:=λ_=>[(96, .sv (.bool (zd3 (atS S t) v)))],h:=λ_=>[],more:=0,μ:=λ_=>0,keep:=[3,5,6,7,8,9,10,11]}
  |_=>none}
def zrx:FpS->WayF:=λ⟨S,x,a,v⟩=>{
  ann:=λid _ _=>match id with
    |1=>some {σ:=Nat,pre:=λj=>j<=v.ks.length/\z1q v.ks=(if j=0 then z1q v.ks else z1q (v.ks.drop (j- 1)))/\(∀(h:0<j) (h2:j<=v.ks.length),vld v.ks[j- 1]=true),t:=λj=>[(7, .sv (.int .i64 (j:Int)))],h:=λ_=>[],more:=0,μ:=λj=>v.ks.length- j,keep:=[3,4,5,6]}
    |_=>some {σ:=Nat,pre:=λj=>j<=v.l.length/\PV.fitL S (z0c a v.b) j ((GV.pvs v.l).drop j)=PV.fitL S (z0c a v.b) 0 (GV.pvs v.l),t:=λj=>[(8, .sv (.int .i64 (j:Int)))],h:=λ_=>[],more:=0,μ:=λj=>v.l.length- j,keep:=[3,4,5,6]}
  cut :=λi t _=>match i with
    |15=>some {σ:=Unit,pre:=λ_=>a.k≠14/\okQ a v.l.length v.ks v.b=true,t:=λ_=>[],h:=λ_=>[],more:=0,μ:=λ_=>0,keep:=[3,4,5,6]}
    | 21=>match slI t 8 with
      |some i=>some {σ:=Unit,t:=λ_=>[(9, .sv (.int .i64 (z0c a v.b i.toNat)))],h:=λ_=>[],more:=0,μ:=λ_=>0,keep:=[3,4,5,6,8]}
      |none=>none
    |_=>none}
def ztp:FtS->Nat:=λ⟨S,x,t,v⟩=>SizeOf.sizeOf v
def j0q:FpS->Nat:=λ⟨S,x,a,v⟩=>SizeOf.sizeOf v
def zt6(x:SV) (t:Int):qki P (λ_=>none) Try.f30 j0l (λ_=>{}) ⟨x,t⟩=(True->(decide ((0:Int)<=t)=true->(decide ((0:Int)<=t)&&decide (t<(↑(Prod.fst (Prod.snd x)):Int)))=decide (t<(↑(Prod.fst (Prod.snd x)):Int))/\True)/\(decide ((0:Int)<=t)=false->(decide ((0:Int)<=t)&&decide (t<(↑(Prod.fst (Prod.snd x)):Int)))=false/\True)):=by kernel_rfl
section
variable (x0:Int) (x1:SV) (x2:List AT) (x3:GV) (x4:Nat) (x5:Int) (x6:ByteArray) (x7:Option Addr) (x8:Nat) (x9:Int) (x10:Option Addr) (x11 x12:Nat) (x13:Bool) (x14:ByteArray) (x15:Int) (x16:Option Addr) (x17 x18:Nat) (x19:Option Addr) (x20 x21 x22:Nat) (x23:Prop) (x24:(Option Addr×Nat×Nat)×Int)
 abbrev zyc:= !(decide (0<=x24.2)&&decide (x24.2<(↑x24.1.2.1:Int)))
 def zev:=PV.fits x2 x0 (GV.pv x3)=false/\True
 def z7u:=x1.1=x1.1/\x1.2.1=x1.2.1/\x1.2.2=x1.2.2/\GV.n x3=GV.n x3/\GV.s x3=GV.s x3/\(GV.x x3).1=(GV.x x3).1/\(GV.x x3).2.1=(GV.x x3).2.1/\(GV.x x3).2.2=(GV.x x3).2.2/\(GV.y x3).1=(GV.y x3).1/\(GV.y x3).2.1=(GV.y x3).2.1/\(GV.y x3).2.2=(GV.y x3).2.2/\GV.b x3=GV.b x3/\x0=x0/\x6=x6/\x7=x7/\x4=x4/\x8=x8/\x5=x5/\x10=x10/\x11=x11/\x12=x12/\x13=x13/\x14=x14/\x9=x9/\x16=x16/\x17=x17/\x18=x18/\x19=x19/\x20=x20/\x21=x21/\(∀i0,True/\z05 x2 x1 i0/\GV.ok x3 i0->True/\z05 x2 x1 i0/\GV.ok x3 i0)/\True/\True
 def z8v:=isT (AT.k (atS x2 x0))=false/\nB (AT.k (atS x2 x0))=true/\isQ (AT.k (atS x2 x0))=false/\x23
 abbrev zeu:=(-2147483648:Int)<=IntKind.wrap i64 (GV.n x3)
 def zal:=decide (zeu x3)=decide (zeu x3)
 def j67:=zal x3/\zal x3/\zal x3/\Ji (zeu x3) (∃(i0:Unit),z13 x2 (atS x2 x0) x3=decide (IntKind.wrap i64 (GV.n x3)<2147483648)/\z8v x0 x2 (z7u x5 x1 x2 x3 x4 x9 x6 x7 x8 x15 x10 x11 x12 x13 x14 x16 x17 x18 x19 x20 x21)) (∃(i1:Unit),z13 x2 (atS x2 x0) x3=false/\z8v x0 x2 (z7u x5 x1 x2 x3 x4 x9 x6 x7 x8 x15 x10 x11 x12 x13 x14 x16 x17 x18 x19 x20 x21))
 def j66:=Ji (zeu x3) (j67 x0 x1 x2 x3 x4 x5 x6 x7 x8 x9 x10 x11 x12 x13 x14 x15 x16 x17 x18 x19 x20 x21) (zal x3/\zal x3/\zal x3/\Ji (zeu x3) (∃(i2:Unit),False) (∃(i3:Unit),z13 x2 (atS x2 x0) x3=false/\z8v x0 x2 (z7u x5 x1 x2 x3 x4 x9 x6 x7 x8 x15 x10 x11 x12 x13 x14 x16 x17 x18 x19 x20 x21)))
 def j6c:=Ji (AT.k (atS x2 x0)=4) (∃(i0:Unit),x5=x5/\b46 (AT.k (atS x2 x0))=decide (AT.k (atS x2 x0)=4)/\z7u x5 x1 x2 x3 x4 x9 x6 x7 x8 x15 x10 x11 x12 x13 x14 x16 x17 x18 x19 x20 x21) (∃(i1:Unit),x5=x5/\b46 (AT.k (atS x2 x0))=decide (x5=6)/\z7u x5 x1 x2 x3 x4 x9 x6 x7 x8 x15 x10 x11 x12 x13 x14 x16 x17 x18 x19 x20 x21)
 def zps:=isT (AT.k (atS x2 x0))=true/\nB (AT.k (atS x2 x0))=false/\isQ (AT.k (atS x2 x0))=false/\x23
 def j65:=Ji (x0=11) (∃(i0:Unit),z13 x2 (atS x2 x5) x3=decide ((↑(size (GV.s x3)):Int)=x9)/\zps x5 x2 (z7u x0 x1 x2 x3 x4 x15 x6 x7 x8 x9 x10 x11 x12 x13 x14 x16 x17 x18 x19 x20 x21)) (∃(i1:FpS),i1.2.1.1=x1.1/\i1.2.1.2.1=x1.2.1/\i1.2.1.2.2=x1.2.2/\AT.k i1.2.2.1=x0/\AT.nm i1.2.2.1=x6/\(AT.al i1.2.2.1).1=x7/\(AT.al i1.2.2.1).2.1=x4/\(AT.al i1.2.2.1).2.2=x8/\AT.it i1.2.2.1=x15/\(AT.sy i1.2.2.1).1=x10/\(AT.sy i1.2.2.1).2.1=x11/\(AT.sy i1.2.2.1).2.2=x12/\AT.hd i1.2.2.1=x13/\AT.df i1.2.2.1=x14/\AT.sz i1.2.2.1=x9/\(AT.f i1.2.2.1).1=x16/\(AT.f i1.2.2.1).2.1=x17/\(AT.f i1.2.2.1).2.2=x18/\(AT.br i1.2.2.1).1=x19/\(AT.br i1.2.2.1).2.1=x20/\(AT.br i1.2.2.1).2.2=x21/\GV.n i1.2.2.2=GV.n x3/\GV.s i1.2.2.2=GV.s x3/\(GV.x i1.2.2.2).1=(GV.x x3).1/\(GV.x i1.2.2.2).2.1=(GV.x x3).2.1/\(GV.x i1.2.2.2).2.2=(GV.x x3).2.2/\(GV.y i1.2.2.2).1=(GV.y x3).1/\(GV.y i1.2.2.2).2.1=(GV.y x3).2.1/\(GV.y i1.2.2.2).2.2=(GV.y x3).2.2/\GV.b i1.2.2.2=GV.b x3/\(j0q i1<x22+1/\small i1.1/\z1k i1.1/\length (AT.fs i1.2.2.1)<1000000/\PV.sm (GV.pv i1.2.2.2)/\isQ (AT.k i1.2.2.1)=true)/\(∀i2,True/\z05 x2 x1 i2/\GV.ok x3 i2->z05 i1.1 i1.2.1 i2/\AT.ok i1.2.2.1 i2/\GV.ok i1.2.2.2 i2)/\∃(i3:Unit),z13 x2 (atS x2 x5) x3=inF i1.1 i1.2.2.1 i1.2.2.2/\isT (AT.k (atS x2 x5))=false/\nB (AT.k (atS x2 x5))=false/\isQ (AT.k (atS x2 x5))=true/\z7u x0 x1 x2 x3 x4 x15 x6 x7 x8 x9 x10 x11 x12 x13 x14 x16 x17 x18 x19 x20 x21)
 def j64:=Ji (x0=8) (GV.s x3=GV.s x3/\size (GV.s x3)<9223372036854775808/\∃(i0:Unit),z13 x2 (atS x2 x5) x3=vld (GV.s x3)/\zps x5 x2 (z7u x0 x1 x2 x3 x4 x9 x6 x7 x8 x15 x10 x11 x12 x13 x14 x16 x17 x18 x19 x20 x21)) (j65 x0 x1 x2 x3 x4 x5 x6 x7 x8 x15 x10 x11 x12 x13 x14 x9 x16 x17 x18 x19 x20 x21 x22)
 def jja:=Ji (x0=7) (∃(i0:Unit),z13 x2 (atS x2 x5) x3=true/\zps x5 x2 (z7u x0 x1 x2 x3 x4 x9 x6 x7 x8 x15 x10 x11 x12 x13 x14 x16 x17 x18 x19 x20 x21)) (j64 x0 x1 x2 x3 x4 x5 x6 x7 x8 x9 x10 x11 x12 x13 x14 x15 x16 x17 x18 x19 x20 x21 x22)
 def jj9:=Ji (x0=10) (∃(i0:Unit),z13 x2 (atS x2 x5) x3=decide (GV.n x3<IntKind.wrap u64 (↑x4:Int))/\z8v x5 x2 (z7u x0 x1 x2 x3 x8 x9 x6 x7 x11 x15 x10 x4 x12 x13 x14 x16 x17 x18 x19 x20 x21)) (jja x0 x1 x2 x3 x8 x5 x6 x7 x11 x9 x10 x4 x12 x13 x14 x15 x16 x17 x18 x19 x20 x21 x22)
 def jj8:=Ji (x0=5) (∃(i0:Unit),z13 x2 (atS x2 x5) x3=decide (GV.n x3<4294967296)/\z8v x5 x2 (z7u x0 x1 x2 x3 x4 x9 x6 x7 x8 x15 x10 x11 x12 x13 x14 x16 x17 x18 x19 x20 x21)) (jj9 x0 x1 x2 x3 x11 x5 x6 x7 x4 x9 x10 x8 x12 x13 x14 x15 x16 x17 x18 x19 x20 x21 x22)
 def jj6:=(b46 (AT.k (atS x2 x0))=true->∃(i0:Unit),z13 x2 (atS x2 x0) x3=true/\z8v x0 x2 (z7u x5 x1 x2 x3 x4 x9 x6 x7 x8 x15 x10 x11 x12 x13 x14 x16 x17 x18 x19 x20 x21))/\(b46 (AT.k (atS x2 x0))=false->jj8 x5 x1 x2 x3 x4 x0 x6 x7 x8 x9 x10 x11 x12 x13 x14 x15 x16 x17 x18 x19 x20 x21 x22)
 def jj5:=((∃(i0:Unit),x0=x0/\decide (AT.k (atS x2 x5)=4)=decide (x0=4)/\z7u x0 x1 x2 x3 x4 x9 x6 x7 x8 x15 x10 x11 x12 x13 x14 x16 x17 x18 x19 x20 x21)/\∀(i1:Unit),True->j6c x5 x1 x2 x3 x4 x0 x6 x7 x8 x9 x10 x11 x12 x13 x14 x15 x16 x17 x18 x19 x20 x21)/\∀(i4:Unit),True->jj6 x5 x1 x2 x3 x4 x0 x6 x7 x8 x9 x10 x11 x12 x13 x14 x15 x16 x17 x18 x19 x20 x21 x22
 def jj4:=Ji (x0=3) (j66 x5 x1 x2 x3 x4 x0 x6 x7 x8 x9 x10 x11 x12 x13 x14 x15 x16 x17 x18 x19 x20 x21) (jj5 x0 x1 x2 x3 x4 x5 x6 x7 x8 x9 x10 x11 x12 x13 x14 x15 x16 x17 x18 x19 x20 x21 x22)
 def jj3:=Ji (x0=2) (∃(i0:Unit),z13 x2 (atS x2 x5) x3=decide (GV.n x3<=1)/\z8v x5 x2 (z7u x0 x1 x2 x3 x4 x9 x6 x7 x8 x15 x10 x11 x12 x13 x14 x16 x17 x18 x19 x20 x21)) (jj4 x0 x1 x2 x3 x4 x5 x6 x7 x8 x9 x10 x11 x12 x13 x14 x15 x16 x17 x18 x19 x20 x21 x22)
 def zpr:=z13 x2 (atS x2 x0) x3=z13 x2 (atS x2 x0) x3/\isT (AT.k (atS x2 x0))=isT (AT.k (atS x2 x0))/\nB (AT.k (atS x2 x0))=nB (AT.k (atS x2 x0))/\x23
 def zy9:=((!decide (x0=14))=true->∃(i0:Unit),zpr x5 x2 x3 (zd3 (atS x2 x5) x3= !decide (GV.b x3=0)/\isQ (AT.k (atS x2 x5))=isQ (AT.k (atS x2 x5))/\z7u x0 x1 x2 x3 x4 x9 x6 x7 x8 x15 x10 x11 x12 x13 x14 x16 x17 x18 x19 x20 x21))/\((!decide (x0=14))=false->∃(i1:Unit),zpr x5 x2 x3 (zd3 (atS x2 x5) x3=false/\isQ (AT.k (atS x2 x5))=isQ (AT.k (atS x2 x5))/\z7u x0 x1 x2 x3 x4 x9 x6 x7 x8 x15 x10 x11 x12 x13 x14 x16 x17 x18 x19 x20 x21))
 def j69:=Ji (0<(↑(GV.y x3).2.1:Int)) (∃(i0:Unit),zpr x0 x2 x3 (zd3 (atS x2 x0) x3=true/\isQ (AT.k (atS x2 x0))=isQ (AT.k (atS x2 x0))/\z7u x5 x1 x2 x3 x4 x9 x6 x7 x8 x15 x10 x11 x12 x13 x14 x16 x17 x18 x19 x20 x21)) (zy9 x5 x1 x2 x3 x4 x0 x6 x7 x8 x9 x10 x11 x12 x13 x14 x15 x16 x17 x18 x19 x20 x21)
 def zyb:=(isQ (AT.k (atS x2 x0))=true->PV.fits x2 x0 (GV.pv x3)=true/\True)/\(isQ (AT.k (atS x2 x0))=false->PV.fits x2 x0 (GV.pv x3)=decide ((↑(GV.x x3).2.1:Int)=0)/\True)
 def j6e:=Ji (GV.s x3=mkS []) (zyb x0 x2 x3) (zev x0 x2 x3)
 def zya:=(isT (AT.k (atS x2 x0))=true->zyb x0 x2 x3)/\(isT (AT.k (atS x2 x0))=false->j6e x0 x2 x3)
 def j6d:=Ji (GV.n x3=0) (zya x0 x2 x3) (zev x0 x2 x3)
 def j6b:=(nB (AT.k (atS x2 x0))=true->zya x0 x2 x3)/\(nB (AT.k (atS x2 x0))=false->j6d x0 x2 x3)
 def j6a:=(z13 x2 (atS x2 x0) x3=true->j6b x0 x2 x3)/\(z13 x2 (atS x2 x0) x3=false->zev x0 x2 x3)
 def j68:=(zd3 (atS x2 x0) x3=true->zev x0 x2 x3)/\(zd3 (atS x2 x0) x3=false->j6a x0 x2 x3)
 def jj7:=(((!decide (x0=13))=true->j69 x5 x1 x2 x3 x4 x0 x6 x7 x8 x9 x10 x11 x12 x13 x14 x15 x16 x17 x18 x19 x20 x21)/\((!decide (x0=13))=false->zy9 x0 x1 x2 x3 x4 x5 x6 x7 x8 x9 x10 x11 x12 x13 x14 x15 x16 x17 x18 x19 x20 x21))/\∀(i5:Unit),True->j68 x5 x2 x3
 def jj2:=(0<=x0/\x0<(↑x1.2.1:Int))/\x1.1≠noA/\∃(i0:Int),∃i1,∃i2,∃(i3:Nat),∃(i4:Nat),∃(i5:Int),∃i6,∃(i7:Nat),∃(i8:Nat),∃(i9:Bool),∃i10,∃(i11:Int),∃i12,∃(i13:Nat),∃(i14:Nat),∃i15,∃(i16:Nat),∃(i17:Nat),(∀i18,True/\z05 x2 x1 i18/\GV.ok x3 i18->q3f i18 (adr x1.1 (toNat x0*10)) [int i64 i0,string i1,slice i2 i3 i4,int i64 i5,slice i6 i7 i8,bool i9,string i10,int i64 i11,slice i12 i13 i14,slice i15 i16 i17])/\(Ji (i0=1) (∃(i19:Unit),z13 x2 (atS x2 x0) x3=true/\isT (AT.k (atS x2 x0))=false/\nB (AT.k (atS x2 x0))=false/\isQ (AT.k (atS x2 x0))=false/\z7u i0 x1 x2 x3 i3 i5 i1 i2 i4 i11 i6 i7 i8 i9 i10 i12 i13 i14 i15 i16 i17) (jj3 i0 x1 x2 x3 i3 x0 i1 i2 i4 i5 i6 i7 i8 i9 i10 i11 i12 i13 i14 i15 i16 i17 x4))/\∀(i54:Unit),True->jj7 i0 x1 x2 x3 i3 x0 i1 i2 i4 i5 i6 i7 i8 i9 i10 i11 i12 i13 i14 i15 i16 i17
end
def zgj(n:Nat) (S:List AT) (x:SV) (t:Int) (v:GV):qki P (qfv [(30,j0l),(31,z32),(32,zbh.below j0q (n+1))]) Try.f12 (z51.below ztp (n+1)) (zru) ⟨S,x,t,v⟩=(ztp (S,x,t,v)<n+1/\small S/\z1k S/\PV.sm (GV.pv v)->(∃(p:Pub),True/\z05 S x p/\GV.ok v p)->∃(s:(Option Addr×Nat×Nat)×Int),s.1.1=x.1/\s.1.2.1=x.2.1/\s.1.2.2=x.2.2/\s.2=t/\True/\((zyc s)=true->zev t S v)/\((zyc s)=false->jj2 t x S v n)):=by kernel_rfl
def zm5:=λn S x t v=>Eq.trans (zgj n S x t v) (by delta Ji Jt Jf zyc zev z7u z8v zeu zal j67 j66 j6c zps j65 j64 jja jj9 jj8 jj6 jj5 jj4 jj3 zpr zy9 j69 zyb j6e zya j6d j6b j6a j68 jj7 jj2;exact rfl)
section
variable (x0:SV) (x1:GV) (x2:AT) (x3:List AT) (x4:Prop) (x5 x6:Nat) (x7:FtS) (x8:Int) (x9:ByteArray) (x10 x11:Option Addr) (x12 x13:Nat) (x14:Int) (x15:Nat) (x16:Nat->Option Obj)
 abbrev z5j:=True/\z05 x3 x0 x16/\AT.ok x2 x16/\GV.ok x1 x16
 abbrev z46:=(↑(GV.x x1).2.1:Int)
 def zfg:=x0.1=x0.1/\x0.2.1=x0.2.1/\x0.2.2=x0.2.2/\GV.n x1=GV.n x1/\GV.s x1=GV.s x1/\(GV.x x1).1=(GV.x x1).1/\(GV.x x1).2.1=(GV.x x1).2.1/\(GV.x x1).2.2=(GV.x x1).2.2/\(GV.y x1).1=(GV.y x1).1/\(GV.y x1).2.1=(GV.y x1).2.1/\(GV.y x1).2.2=(GV.y x1).2.2/\GV.b x1=GV.b x1/\AT.k x2=AT.k x2/\AT.nm x2=AT.nm x2/\(AT.al x2).1=(AT.al x2).1/\(AT.al x2).2.1=(AT.al x2).2.1/\(AT.al x2).2.2=(AT.al x2).2.2/\AT.it x2=AT.it x2/\(AT.sy x2).1=(AT.sy x2).1/\(AT.sy x2).2.1=(AT.sy x2).2.1/\(AT.sy x2).2.2=(AT.sy x2).2.2/\AT.hd x2=AT.hd x2/\AT.df x2=AT.df x2/\AT.sz x2=AT.sz x2/\(AT.f x2).1=(AT.f x2).1/\(AT.f x2).2.1=(AT.f x2).2.1/\(AT.f x2).2.2=(AT.f x2).2.2/\(AT.br x2).1=(AT.br x2).1/\(AT.br x2).2.1=(AT.br x2).2.1/\(AT.br x2).2.2=(AT.br x2).2.2/\(∀i0,z5j x0 x1 x2 x3 i0->z5j x0 x1 x2 x3 i0)/\x4
 def zkd:=AT.k x2≠14/\okQ x2 (length (GV.l x1)) (GV.ks x1) (GV.b x1)=true
 def j6j:=((!decide ((z46 x1)=(↑(AT.f x2).2.1:Int)))=true->inF x3 x2 x1=false/\True)/\((!decide ((z46 x1)=(↑(AT.f x2).2.1:Int)))=false->∃(i0:Unit),zfg x0 x1 x2 x3 ((zkd x1 x2)/\True))
 abbrev zan:=(↑(GV.y x1).2.1:Int)
 abbrev zew:=x5<=length (GV.ks x1)/\(z1q (GV.ks x1)=if x5=0 then z1q (GV.ks x1)else z1q (drop (x5- 1) (GV.ks x1)))/\x4
 def zyg:=(∀i0,z5j x0 x1 x2 x3 i0->q3f i0 (adr (GV.y x1).1 (toNat (↑x5:Int)*1)) [string x9])
 def zyf:=((!vld x9)=true->inF x3 x2 x1=false/\True)/\((!vld x9)=false->False)
 def j6n:=(!vld x9)= !vld x9/\(!vld x9)= !vld x9/\(!vld x9)= !vld x9/\zyf x1 x2 x3 x9
 def z1p:=decide (0<(↑x5:Int))=decide (0<(↑x5:Int))
 abbrev zkc:=Jb ((↑x5:Int)+1)
 def zpu:=length (GV.ks x1)- x5<length (GV.ks x1)- x6/\True
 def z5i:=decide (0<=GV.b x1)=decide (0<=GV.b x1)
 abbrev zam:=GV.b x1<(↑(AT.br x2).2.1:Int)
 def zao:=decide (zam x1 x2)=decide (zam x1 x2)
 def z45:=decide ((z46 x1)=1)=decide ((z46 x1)=1)
 def zpv:=z45 x1/\z45 x1/\z45 x1/\z45 x1/\z45 x1/\x4
 def zye:=x7.2.1.1=x0.1/\x7.2.1.2.1=x0.2.1/\x7.2.1.2.2=x0.2.2/\x4
 def zyd:=GV.n x7.2.2.2=x8/\GV.s x7.2.2.2=x9/\(GV.x x7.2.2.2).1=x10/\(GV.x x7.2.2.2).2.1=x5/\(GV.x x7.2.2.2).2.2=x6/\(GV.y x7.2.2.2).1=x11/\(GV.y x7.2.2.2).2.1=x12/\(GV.y x7.2.2.2).2.2=x13/\GV.b x7.2.2.2=x14/\(ztp x7<x15/\small x7.1/\z1k x7.1/\PV.sm (GV.pv x7.2.2.2))/\(∀i0,z5j x0 x1 x2 x3 i0->z05 x7.1 x7.2.1 i0/\GV.ok x7.2.2.2 i0)/\x4
 def jjh:=zpv x1 ((0<=GV.b x1/\zam x1 x2)/\(AT.br x2).1≠noA/\z45 x1/\∃(i0:Int),(∀i1,z5j x0 x1 x2 x3 i1->q3f i1 (adr (AT.br x2).1 (toNat (GV.b x1)*1)) [int i64 i0])/\z45 x1/\z45 x1/\z45 x1/\((0:Int)<=0/\0<(z46 x1))/\(GV.x x1).1≠noA/\z45 x1/\∃(i2:Int),∃i3,∃i4,∃(i5:Nat),∃(i6:Nat),∃i7,∃(i8:Nat),∃(i9:Nat),∃(i10:Int),(∀i11,z5j x0 x1 x2 x3 i11->q3f i11 (adr (GV.x x1).1 ((0:Nat)*5)) [int u64 i2,string i3,slice i4 i5 i6,slice i7 i8 i9,int i64 i10])/\z45 x1/\∃(i12:FtS),zye x0 (i12.2.2.1=i0/\zyd x0 x1 x2 x3 (Ji ((z46 x1)=1) (inF x3 x2 x1=PV.fits i12.1 i12.2.2.1 (GV.pv i12.2.2.2)/\True) (inF x3 x2 x1=false/\True)) i5 i6 i12 i2 i3 i4 i7 i8 i9 i10 x5) i12)
 def j6k:=z45 x1/\zpv x1 (zpv x1 (Ji ((z46 x1)=1) (False) (inF x3 x2 x1=false/\True)))
 def jjg:=Ji ((z46 x1)=1) (jjh x0 x1 x2 x3 x5) (j6k x1 x2 x3)
 def jjf:=zao x1 x2/\zao x1 x2/\zao x1 x2/\Ji (zam x1 x2) (jjg x0 x1 x2 x3 x5) (inF x3 x2 x1=false/\True)
 def j6l:=zao x1 x2/\zao x1 x2/\zao x1 x2/\Ji (zam x1 x2) (False) (inF x3 x2 x1=false/\True)
 abbrev jje:=Ji (zam x1 x2) (jjf x0 x1 x2 x3 x5) (j6l x1 x2 x3)
 def jjd:=z5i x1/\z5i x1/\z5i x1/\z5i x1/\z5i x1/\Ji (0<=GV.b x1) (jje x0 x1 x2 x3 x5) (inF x3 x2 x1=false/\True)
 def j6m:=z5i x1/\z5i x1/\z5i x1/\z5i x1/\z5i x1/\Ji (0<=GV.b x1) (False) (inF x3 x2 x1=false/\True)
 def jjc:=Ji (0<=GV.b x1) (jjd x0 x1 x2 x3 x5) (j6m x1 x2 x3)
 def jjb:=Ji (AT.k x2=14) (jjc x0 x1 x2 x3 x5) (∃(i14:Unit),zfg x0 x1 x2 x3 ((zkd x1 x2)/\True))
 def zpt:=x5<=length (GV.l x1)/\PV.fitL x3 (z0c x2 (GV.b x1)) x5 (drop x5 (GV.pvs (GV.l x1)))=PV.fitL x3 (z0c x2 (GV.b x1)) 0 (GV.pvs (GV.l x1))
 def j6h:=(0<=(↑x5:Int)/\(↑x5:Int)<(↑(AT.f x2).2.1:Int))/\(AT.f x2).1≠noA/\∃(i0:Int),(∀i1,z5j x0 x1 x2 x3 i1->q3f i1 (Addr.add (adr (AT.f x2).1 (toNat (↑x5:Int)*9)) 2) [int i64 i0])/\∃(i2:Unit),z0c x2 (GV.b x1) (toNat (↑x5:Int))=i0/\(↑x5:Int)=(↑x5:Int)/\zfg x0 x1 x2 x3 (True/\True)
 def j6i:=zkc x5/\∃(i0:Nat),(↑i0:Int)=(↑x5:Int)+1/\zfg x0 x1 x2 x3 ((zpt x1 x2 x3 i0)/\length (GV.l x1)- i0<length (GV.l x1)- x5/\True)
 def j6g:=(0<=(↑x5:Int)/\(↑x5:Int)<(z46 x1))/\(GV.x x1).1≠noA/\∃(i0:Int),∃i1,∃i2,∃(i3:Nat),∃(i4:Nat),∃i5,∃(i6:Nat),∃(i7:Nat),∃(i8:Int),(∀i9,z5j x0 x1 x2 x3 i9->q3f i9 (adr (GV.x x1).1 (toNat (↑x5:Int)*5)) [int u64 i0,string i1,slice i2 i3 i4,slice i5 i6 i7,int i64 i8])/\∃(i10:FtS),zye x0 (i10.2.2.1=z0c x2 (GV.b x1) (toNat (↑x5:Int))/\zyd x0 x1 x2 x3 (((!PV.fits i10.1 i10.2.2.1 (GV.pv i10.2.2.2))=true->inF x3 x2 x1=false/\True)/\((!PV.fits i10.1 i10.2.2.1 (GV.pv i10.2.2.2))=false->j6i x0 x1 x2 x3 x5)) i3 i4 i10 i0 i1 i2 i5 i6 i7 i8 x6) i10
 def j6f:=(Ji (AT.k x2=9) (j6h x0 x1 x2 x3 x5) (∃(i3:Unit),z0c x2 (GV.b x1) (toNat (↑x5:Int))=AT.it x2/\(↑x5:Int)=(↑x5:Int)/\zfg x0 x1 x2 x3 (True/\True)))/\∀(i4:Unit),True->j6g x0 x1 x2 x3 x5 x6
 def jjj:=Ji ((↑x5:Int)<(z46 x1)) (j6f x0 x1 x2 x3 x5 x6) (inF x3 x2 x1=true/\True)
 def jji:=(∃(i0:Nat),(↑i0:Int)=0/\zfg x0 x1 x2 x3 ((zpt x1 x2 x3 i0)/\True))/\∀(i1:Nat),zpt x1 x2 x3 i1->jjj x0 x1 x2 x3 i1 x5
end
def zgw(n:Nat) (S:List AT) (x:SV) (a:AT) (v:GV):qki P (qfv [(31,z32),(12,z51.below ztp n)]) Try.f32 (zbh.below j0q (n+1)) (zrx) ⟨S,x,a,v⟩=(j0q (S,x,a,v)<n+1/\small S/\z1k S/\length (AT.fs a)<1000000/\PV.sm (GV.pv v)/\isQ (AT.k a)=true->(∃(p:Pub),z5j x v a S p)->(Ji (AT.k a=9) (j6j x v a S) (Ji (AT.k a=13) (((!decide ((z46 v)=(zan v)))=true->inF S a v=false/\True)/\((!decide ((z46 v)=(zan v)))=false->(∃(s:Nat),(↑s:Int)=0/\zfg x v a S ((zew v (∀(h:0<s) (h2:s<=length (GV.ks v)),vld (GV.ks v)[s- 1]=true) s)/\True))/\∀(s:Nat),(zew v (∀(h:0<s) (h2:s<=length (GV.ks v)),vld (GV.ks v)[s- 1]=true) s)->Ji ((↑s:Int)<(zan v)) ((0<=(↑s:Int)/\(↑s:Int)<(zan v))/\(GV.y v).1≠noA/\∃(s_1:ByteArray),zyg x v a S s s_1/\s_1=s_1/\size s_1<9223372036854775808/\((!vld s_1)=true->j6n v a S s_1)/\((!vld s_1)=false->(!vld s_1)= !vld s_1/\(!vld s_1)= !vld s_1/\Ji (0<(↑s:Int)) (z1p s/\z1p s/\z1p s/\(0<=(↑s:Int)/\(↑s:Int)<(zan v))/\(GV.y v).1≠noA/\z1p s/\∃(s_2:ByteArray),zyg x v a S s s_2/\z1p s/\z1p s/\z1p s/\z1p s/\Jb ((↑s:Int)- 1)/\z1p s/\(0<=(↑s:Int)- 1/\(↑s:Int)- 1<(zan v))/\(GV.y v).1≠noA/\z1p s/\∃(s_3:ByteArray),(∀(p:Pub),z5j x v a S p->q3f p (adr (GV.y v).1 (toNat ((↑s:Int)- 1)*1)) [string s_3])/\z1p s/\(!vld s_1)= !vld s_1/\Ji (0<(↑s:Int)) (((!vld s_1)=true->inF S a v=false/\True)/\((!vld s_1)=false->((qea s_2 s_3||decide (s_2=s_3))=true->inF S a v=false/\True)/\((qea s_2 s_3||decide (s_2=s_3))=false->zkc s/\∃(s_4:Nat),(↑s_4:Int)=(↑s:Int)+1/\zfg x v a S ((zew v (∀(h:0<s_4) (h2:s_4<=length (GV.ks v)),vld (GV.ks v)[s_4- 1]=true) s_4)/\zpu v s_4 s)))) (((!vld s_1)=true->inF S a v=false/\True)/\((!vld s_1)=false->zkc s/\∃(s_4:Nat),(↑s_4:Int)=(↑s:Int)+1/\zfg x v a S ((zew v (∀(h:0<s_4) (h2:s_4<=length (GV.ks v)),vld (GV.ks v)[s_4- 1]=true) s_4)/\zpu v s_4 s)))) (z1p s/\z1p s/\z1p s/\z1p s/\z1p s/\z1p s/\z1p s/\z1p s/\z1p s/\z1p s/\z1p s/\(!vld s_1)= !vld s_1/\Ji (0<(↑s:Int)) (zyf v a S s_1) (((!vld s_1)=true->inF S a v=false/\True)/\((!vld s_1)=false->zkc s/\∃(s_2:Nat),(↑s_2:Int)=(↑s:Int)+1/\zfg x v a S ((zew v (∀(h:0<s_2) (h2:s_2<=length (GV.ks v)),vld (GV.ks v)[s_2- 1]=true) s_2)/\zpu v s_2 s)))))) (∃(s:Unit),zfg x v a S ((zkd v a)/\True)))) (jjb x v a S n)))/\∀(s:Unit),zkd v a->jji x v a S n):=by kernel_rfl
def zmj:=λn S x a v=>Eq.trans (zgw n S x a v) (by delta Ji Jb Jt Jf z5j z46 zfg zkd j6j zan zew zyg zyf j6n z1p zkc zpu z5i zam zao z45 zpv zye zyd jjh j6k jjg jjf j6l jje jjd j6m jjc jjb zpt j6h j6i j6g j6f jjj jji;exact rfl)
def z6z:q58 P 30 j0l:=by
 refine qkl mixed z0u (W:=λ_=>{}) Try.func30 (by kernel_rfl) (by decide) (by decide) (λs=>by kernel_rfl) λ⟨(x:SV),(t:Int)⟩=>(zt6 x t).mpr ?_
 intro _
 simp only[sbS,Int.toNat_natCast]
 refine⟨λh=> ?_,λh=> ?_⟩
 ·rw[decide_eq_true h];rfl
 ·rw[decide_eq_false h];rfl
def zfp:∀x y:List UInt8,(Op.bytesLess x y||decide (x=y))= !Op.bytesLess y x
  | [],[]=>by simp[Op.bytesLess]
  | [],b::y=>by simp[Op.bytesLess]
  |a::x,[]=>by simp[Op.bytesLess]
  | a ::x,b::y=>by
    have ih:=zfp x y
    rw[Op.bytesLess,Op.bytesLess]
    have tri:a<b\/a=b\/b<a:=by
      rcases Nat.lt_trichotomy a.toNat b.toNat with h|h|h
      · exact .inl (UInt8.lt_iff_toNat_lt.2 h)
      · exact .inr (.inl (UInt8.toNat_inj.1 h))
      · exact .inr (.inr (UInt8.lt_iff_toNat_lt.2 h))
    rcases tri with h|h|h
    · have h2:¬b<a:=UInt8.lt_asymm h
      have h3:¬b=a:=λe=>by subst e;exact UInt8.lt_irrefl _ h
      simp[h,h2,h3]
    · subst h
      have h2:¬a<a:=UInt8.lt_irrefl a
      simp[h2]
      rw[←ih]
    · have h2:¬a<b:=UInt8.lt_asymm h
      have h3:¬a=b:=λe=>by subst e;exact UInt8.lt_irrefl _ h
      simp[h,h2,h3]
def z9z(x y:ByteArray):(qea x y=true\/x=y)↔qea y x=false:=by
 have h:=zfp x.toList y.toList
 have e:=qio x y
 unfold qea
 by_cases hxy:x=y
 ·have:x.toList=y.toList:=by rw[hxy]
  rw[decide_eq_true this,Bool.or_true]at h
  simp[hxy]
  rw[hxy]at h
  simpa using h.symm
 ·have:¬x.toList=y.toList:=λg=>by rw[g]at e;simp at e;exact hxy e
  rw[decide_eq_false this,Bool.or_false]at h
  rw[h];simp[hxy]
def zmk (n:Nat) (hf:q58 P 12 (z51.below ztp n)):q58 P 32 (zbh.below j0q (n+1)):=by
  refine qkl mixed (qdh (qh9 z8o (qh9 hf qk5))) (W:=zrx) Try.func32 (by kernel_rfl) (show 1<=1 by decide) (show 1<=1 by decide) (λs=>by kernel_rfl) λ⟨S,(x:SV),a,v⟩=>(zmj n S x a v).mpr ?_
  rintro⟨hmu,hS,hkS,haf,hv,hq⟩ ⟨p,_,hx,ha,hvo⟩
  have hmu:SizeOf.sizeOf v<n+1:=hmu
  have xl:=GV.x_len hvo
  have yl:=GV.y_len hvo
  have fl:a.f.2.1=a.fs.length:=ha.2.2.1.1
  have bl:a.br.2.1=a.brs.length:=ha.2.2.2.1.1
  have hvs:=hv
  rw[GV.sm_eq]at hvs
  obtain⟨_,_,vl,kl,hsz,_⟩:=hvs
  have txs:∀q,v.ok q->slP txV v.y v.ks q:=λq h=>by rw[GV.ok_eq]at h;exact h.2.1
  simp only[sbS,exists_const,forall_const,Int.toNat_natCast,xl,yl,fl,bl,Bool.or_eq_true,Bool.or_eq_false_iff]
  have bad:okQ a v.l.length v.ks v.b=false->inF S a v=false:=λh=>by unfold inF;rw[h];rfl
  have child:∀{j:Nat} (hj:j<v.l.length),SizeOf.sizeOf v.l[j]<n:=λ{j} hj=>by
    have h1:=z7a hj
    have:SizeOf.sizeOf v.l<SizeOf.sizeOf v:=by cases v;simp[GV.l];omega
    omega
  have fdrop:∀{j:Nat} (hj:j<v.l.length),PV.fitL S (z0c a v.b) j ((GV.pvs v.l).drop j)=(PV.fits S (z0c a v.b j) (v.l[j]).pv&&PV.fitL S (z0c a v.b) (j+1) ((GV.pvs v.l).drop (j+1))):=λ{j} hj=>by
    have:=z53 (S:=S) (f:=z0c a v.b) (l:=GV.pvs v.l) (j:=j) (by rw[GV.pvs_len];exact hj)
    rw[z3i hj]at this;exact this
  have fend:PV.fitL S (z0c a v.b) v.l.length ((GV.pvs v.l).drop v.l.length)=true:=by
    rw[List.drop_of_length_le (by rw[GV.pvs_len];exact Nat.le_refl _),PV.fitL]
  have ok9:a.k=9->okQ a v.l.length v.ks v.b=decide (v.l.length=a.fs.length):=λh=>by unfold okQ;rw[if_pos h]
  have ok14:a.k=14->okQ a v.l.length v.ks v.b=decide (0<=v.b/\v.b<a.brs.length/\v.l.length=1):=λh=>by unfold okQ;rw[if_neg (by omega),if_pos h]
  have ok13:a.k=13->okQ a v.l.length v.ks v.b=(decide (v.l.length=v.ks.length)&&z1q v.ks):=λh=>by unfold okQ;rw[if_neg (by omega),if_neg (by omega),if_pos h]
  have ok12:¬a.k=9->¬a.k=13->¬a.k=14->okQ a v.l.length v.ks v.b=true:=λh1 h2 h3=>by unfold okQ;rw[if_neg h1,if_neg h3,if_neg h2]
  refine⟨⟨λh9=>⟨λh=>bad (by rw[ok9 h9];exact decide_eq_false (by omega)),λh=>⟨by omega,by rw[ok9 h9];exact decide_eq_true (by omega)⟩⟩,λh9=>⟨λh13=>⟨λh=>bad (by rw[ok13 h13,decide_eq_false (by omega)];rfl),λh=>⟨⟨0,rfl,Nat.zero_le _,rfl,λh=>absurd h (by omega)⟩,?_⟩⟩,λh13=>⟨λh14=> ?_,λh14=>⟨h14,ok12 h9 h13 h14⟩⟩⟩⟩,?_⟩
  · rintro j ⟨hj,hk,hvv⟩
    have bad13:z1q v.ks=false->inF S a v=false:=λg=>bad (by rw[ok13 h13,g,Bool.and_false])
    refine⟨λhlt=> ?_,λhge=>⟨by omega,?_⟩⟩
    · have hjk:j<v.ks.length:=by omega
      have tx:=λq (hq:z05 S x q/\a.ok q/\v.ok q)=>z7f (txs q hq.2.2) hjk
      have hsj:=hsz _ (List.getElem_mem hjk)
      have bv:vld v.ks[j]=false->inF S a v=false:=λhb=>bad13 (z70 hjk hb)
      have t0:=tx p ⟨hx,ha,hvo⟩
      refine⟨⟨by omega,by omega⟩,t0.1,v.ks[j],λq hq=>(tx q hq).2,hsj,λhb=>⟨λ_=>bv hb,λh=>by rw[hb]at h;cases h⟩,λhg=>⟨λh0=> ?_,λh0=>⟨λh=>absurd h h0,λ_=>⟨λhb=>bv hb,λ_=> ?_⟩⟩⟩⟩
      · have hj1:j- 1<v.ks.length:=by omega
        have e:((j:Int)- 1).toNat=j- 1:=by omega
        rw[e]
        have tx1:=λq (hq:z05 S x q/\a.ok q/\v.ok q)=>z7f (txs q hq.2.2) hj1
        have kd:=z56 (ks:=v.ks) (j:=j- 1) (by omega)
        simp only[show j- 1+1=j by omega]at kd
        rw[if_neg (by omega)]at hk
        refine⟨⟨by omega,by omega⟩,t0.1,v.ks[j],λq hq=>(tx q hq).2,⟨by omega,by omega⟩,⟨by omega,by omega⟩,t0.1,v.ks[j- 1],λq hq=>(tx1 q hq).2,λ_=>⟨λhb=>bv hb,λ_=>⟨λhl=> ?_,λhl=> ?_⟩⟩,λh=>absurd h0 h⟩
        · have:=(z9z _ _).1 hl
          exact bad13 (by rw[hk,kd,this,Bool.and_false];rfl)
        · have:qea v.ks[j- 1] v.ks[j]=true:=by
            cases hb:qea v.ks[j- 1] v.ks[j]with
            |true=>rfl
            | false=>
              rcases(z9z _ _).2 hb with g|g
              · rw[hl.1]at g;cases g
              · exact absurd g hl.2
          refine⟨⟨by omega,by omega⟩,j+1,by omega,⟨by omega,?_,λ_ _=>hg⟩,by omega⟩
          rw[if_neg (by omega),Nat.add_sub_cancel,hk,kd,this,hvv (by omega) (by omega)];rfl
      · obtain rfl:j=0:=by omega
        exact⟨⟨by omega,by omega⟩,1,rfl,⟨by omega,by simp,λ_ _=>hg⟩,by omega⟩
    · obtain rfl:j=v.ks.length:=by omega
      have:z1q v.ks=true:=by
        by_cases h0:v.ks.length=0
        · rw[List.length_eq_zero_iff]at h0;rw[h0,z1q]
        · rw[if_neg h0]at hk
          have:=hvv (by omega) (Nat.le_refl _)
          rw[hk,List.drop_eq_getElem_cons (by omega),show v.ks.length- 1+1=v.ks.length by omega,List.drop_length,z1q]
          exact this
      rw[ok13 h13,this,Bool.and_true];exact decide_eq_true (by omega)
  · have bd:¬(0<=v.b/\v.b<a.brs.length/\v.l.length=1)->inF S a v=false:=λh=>bad (by rw[ok14 h14];exact decide_eq_false h)
    refine⟨λd1=>⟨λ_=>⟨λd2=>⟨λ_=>⟨λd3=> ?_,λd3=>⟨λh=>d3 h,λ_=>bd (by omega)⟩⟩,λh=>absurd d2 h⟩,λd2=>⟨λh=>d2 h,λ_=>bd (by omega)⟩⟩,λh=>absurd d1 h⟩,λd1=>⟨λh=>d1 h,λ_=>bd (by omega)⟩⟩
    have hl1:v.l.length=1:=by omega
    have h0:0<v.l.length:=by omega
    obtain⟨b,hb⟩:=Int.eq_ofNat_of_zero_le d1
    have hbl:b<a.brs.length:=by omega
    have hbt:v.b.toNat=b:=by omega
    rw[hbt]
    have hty:z0c a v.b 0=a.brs[b]:=by
      unfold z0c
      rw[if_neg h9,if_pos h14,hbt,List.getD_eq_getElem?_getD,List.getElem?_eq_getElem hbl];rfl
    have hd:=fdrop h0
    have fe:=fend
    rw[hl1]at fe
    rw[List.drop_zero,hty,Nat.zero_add,fe,Bool.and_true]at hd
    have hin:inF S a v=PV.fits S a.brs[b] (v.l[0]).pv:=by
      unfold inF;rw[ok14 h14,decide_eq_true ⟨d1,d2,hl1⟩,hd];rfl
    refine⟨⟨by omega,by omega⟩,(z1u ha hbl).1,a.brs[b],λq hq=>(z1u hq.2.1 hbl).2,⟨by omega,by omega⟩,(GV.cells_at hvo h0).1,v.l[0].n,v.l[0].s,v.l[0].x.1,v.l[0].x.2.1,v.l[0].x.2.2,v.l[0].y.1,v.l[0].y.2.1,v.l[0].y.2.2,v.l[0].b,λq hq=>(GV.cells_at hq.2.2 h0).2,⟨S,x,a.brs[b],v.l[0]⟩,rfl,rfl,rfl,rfl,rfl,rfl,rfl,rfl,rfl,rfl,rfl,rfl,rfl,⟨child h0,hS,hkS,GV.sm_at hv h0⟩,λq hq=>⟨hq.1,GV.ok_at hq.2.2 h0⟩,?_⟩
    exact⟨λ_=>hin,λh=>absurd d3 h⟩
  · rintro⟨h14,hok⟩
    refine⟨⟨0,rfl,Nat.zero_le _,by simp⟩,?_⟩
    rintro j ⟨hj,ht⟩
    refine⟨λhlt=> ?_,λhge=> ?_⟩
    · have hjl:j<v.l.length:=by omega
      have hd:=fdrop hjl
      refine⟨⟨λh9=> ?_,λh9=>by unfold z0c;rw[if_neg h9,if_neg h14]⟩,⟨by omega,by omega⟩,(GV.cells_at hvo hjl).1,v.l[j].n,v.l[j].s,v.l[j].x.1,v.l[j].x.2.1,v.l[j].x.2.2,v.l[j].y.1,v.l[j].y.2.1,v.l[j].y.2.2,v.l[j].b,λq hq=>(GV.cells_at hq.2.2 hjl).2,⟨S,x,z0c a v.b j,v.l[j]⟩,rfl,rfl,rfl,rfl,rfl,rfl,rfl,rfl,rfl,rfl,rfl,rfl,rfl,⟨child hjl,hS,hkS,GV.sm_at hv hjl⟩,λq hq=>⟨hq.1,GV.ok_at hq.2.2 hjl⟩,λhb=> ?_,λhb=>⟨⟨by omega,by omega⟩,j+1,by omega,⟨by omega,?_⟩,by omega⟩⟩
      · have hjf:j<a.fs.length:=by
          rw[ok9 h9]at hok;have:=of_decide_eq_true hok;omega
        have fa:=λq (hq:z05 S x q/\a.ok q/\v.ok q)=>z1y hq.2.1 hjf
        refine⟨⟨by omega,by omega⟩,(fa p ⟨hx,ha,hvo⟩).1,a.fs[j].ty,λq hq=> ?_,by unfold z0c;rw[if_pos h9,List.getElem?_eq_getElem hjf]⟩
        intro i w hi
        cases i with
        |zero=>have:=(fa q hq).2 2 w hi;rw[Addr.add_add];exact this
        |succ i=>simp at hi
      · unfold inF;rw[←ht,hd,hb,Bool.false_and,Bool.and_false]
      · rw[←ht,hd,hb,Bool.true_and]
    · obtain rfl:j=v.l.length:=by omega
      unfold inF
      rw[hok,←ht,fend];rfl
def zm6(n:Nat) (hf:q58 P 32 (zbh.below j0q (n+1))):q58 P 12 (z51.below ztp (n+1)):=by
  refine qkl mixed (qdh (qh9 z6z (qh9 z8o (qh9 hf qk5)))) (W:=zru) Try.func12 (by kernel_rfl) (show 1<=1 by decide) (show 1<=1 by decide) (λs=>by kernel_rfl) λ⟨S,(x:SV),(t:Int),v⟩=>(zm5 n S x t v).mpr ?_
  rintro⟨hmu,hS,hkS,hv⟩ ⟨p,_,hx,hvo⟩
  have hmu:SizeOf.sizeOf v<n+1:=hmu
  have xl:=GV.x_len hvo
  have yl:=GV.y_len hvo
  have sl:x.2.1=S.length:=hx.1.1
  have hvs:=hv
  rw[GV.sm_eq]at hvs
  obtain⟨hn,hs,vl,kl,hsz,_⟩:=hvs
  simp only[sbS,exists_const,forall_const,Int.toNat_natCast,xl,yl,sl]
  have hfit:PV.fits S t v.pv=if t<0\/S.length<=t then false else match S[t.toNat]? with
    |none=>false
    | some a=>if isN a.k=true then okN a v.n&&decide (v.s.size=0)&&z96 v.l.length v.ks.length v.b else
      if isT a.k=true then okT a v.s&&decide (v.n=0)&&z96 v.l.length v.ks.length v.b else
      if isQ a.k=true then okP a v.l.length v.ks v.b&&PV.fitL S (z0c a v.b) 0 (GV.pvs v.l)&&decide (v.n=0)&&decide (v.s.size=0)else false:=by
    rw[GV.pv_eq,PV.fits,GV.pvs_len]<;>rfl
  refine⟨⟨x,t⟩,rfl,sl,rfl,rfl,?_⟩
  simp only[sl]
  refine⟨λh=> ?_,λh=> ?_⟩
  · rw[hfit,if_pos]
    by_cases h1:0<=t
    · rw[decide_eq_true h1,Bool.true_and]at h;have:=of_decide_eq_false h;omega
    · omega
  rw[Bool.and_eq_true,decide_eq_true_eq,decide_eq_true_eq]at h
  obtain⟨j,rfl⟩:=Int.eq_ofNat_of_zero_le h.1
  have hj:j<S.length:=by omega
  have hae:atS S (j:Int)=S[j]:=by unfold atS;rw[Int.toNat_natCast,List.getElem?_eq_getElem hj];rfl
  rw[if_neg (by omega)]at hfit
  rw[hae]
  simp only[Int.toNat_natCast,List.getElem?_eq_getElem hj]at hfit⊢
  have hat:=λq (hq:z05 S x q/\v.ok q)=>z2d hq.1 hj
  have hao:=λq (hq:z05 S x q/\v.ok q)=>hq.1.2 S[j] (List.getElem_mem hj)
  have hsm:=hS.2 S[j] (List.getElem_mem hj)
  have hkk:=hkS S[j] (List.getElem_mem hj)
  have syl:S[j].sy.2.1=S[j].sys.length:=(hao p ⟨hx,hvo⟩).2.1.1
  refine⟨⟨by omega,by omega⟩,(hat p ⟨hx,hvo⟩).1,S[j].k,S[j].nm,S[j].al.1,S[j].al.2.1,S[j].al.2.2,S[j].it,S[j].sy.1,S[j].sy.2.1,S[j].sy.2.2,S[j].hd,S[j].df,S[j].sz,S[j].f.1,S[j].f.2.1,S[j].f.2.2,S[j].br.1,S[j].br.2.1,S[j].br.2.2,λq hq=>(hat q hq).2,?_⟩
  have hao2:=λq (hq:z05 S x q/\v.ok q)=>hao q hq
  generalize S[j]=a at*
  clear hat hao hae
  have w64:IntKind.wrap .i64 v.n=if v.n<9223372036854775808 then v.n else v.n- 18446744073709551616:=by
    unfold IntKind.wrap;simp[IntKind.bits,IntKind.signed];omega
  have u64:IntKind.wrap .u64 (a.sys.length:Int)=a.sys.length:=by rw[z5c];omega
  simp only[syl,u64]
  have kinds:a.k=1\/a.k=2\/a.k=3\/a.k=4\/a.k=5\/a.k=6\/a.k=7\/a.k=8\/a.k=9\/a.k=10\/a.k=11\/a.k=12\/a.k=13\/a.k=14:=by omega
  have hin:isQ a.k=true->z13 S a v=inF S a v:=λh=>by
    unfold isQ at h
    have h:=of_decide_eq_true h
    unfold z13 isN isT
    rw[if_neg (by omega),if_neg (by simp;omega),if_neg (by simp;omega)]
  have hbadB:zd3 a v=true↔(a.k≠13/\0<v.ks.length)\/(a.k≠14/\v.b≠0):=by
    unfold zd3;simp
  have hbadF:zd3 a v=false↔¬((a.k≠13/\0<v.ks.length)\/(a.k≠14/\v.b≠0)):=by
    rw[←hbadB];simp
  have sE:(v.s=mkS [])↔v.s.size=0:=z75
  have key:PV.fits S (j:Int) v.pv=(!zd3 a v&&z13 S a v&&(nB a.k||decide (v.n=0))&&(isT a.k||decide (v.s=mkS []))&&(isQ a.k||decide (v.l.length=0))):=by
    rw[hfit,Bool.eq_iff_iff]
    by_cases hN:isN a.k=true
    · have hk1:=of_decide_eq_true hN
      have hT:isT a.k=false:=decide_eq_false (by omega)
      have hQ:isQ a.k=false:=decide_eq_false (by omega)
      rw[if_pos hN,hT,hQ]
      have hok:(z13 S a v&&(nB a.k||decide (v.n=0)))=okN a v.n:=by
        unfold z13
        by_cases h1:a.k=1
        · rw[if_pos h1];unfold nB okN;rw[if_pos h1,decide_eq_false (by omega)];rfl
        · rw[if_neg h1,if_pos hN];unfold nB;rw[decide_eq_true (by omega)];simp
      have e:(!zd3 a v&&z13 S a v&&(nB a.k||decide (v.n=0))&&(false||decide (v.s=mkS []))&&(false||decide (v.l.length=0)))=(!zd3 a v&&(z13 S a v&&(nB a.k||decide (v.n=0)))&&(false||decide (v.s=mkS []))&&(false||decide (v.l.length=0))):=by simp only[Bool.and_assoc]
      rw[e,hok]
      unfold z96
      simp only[Bool.and_eq_true,Bool.or_eq_true,Bool.not_eq_true',decide_eq_true_eq,hbadF,sE,Bool.false_eq_true,false_or]
      constructor
      · rintro⟨⟨h1,h2⟩,⟨h3,h4⟩,h5⟩;exact⟨⟨⟨by omega,h1⟩,h2⟩,h3⟩
      · rintro⟨⟨⟨h1,h2⟩,h3⟩,h4⟩;exact⟨⟨h2,h3⟩,⟨h4,by omega⟩,by omega⟩
    · rw [if_neg hN]
      have hN':isN a.k=false:=by simpa using hN
      have nn:nB a.k=false:=by
        have:=of_decide_eq_false hN'
        exact decide_eq_false (by omega)
      by_cases hT:isT a.k=true
      · have hk1:=of_decide_eq_true hT
        have hQ:isQ a.k=false:=decide_eq_false (by omega)
        have hok:z13 S a v=okT a v.s:=by unfold z13;rw[if_neg (by omega),if_neg hN,if_pos hT]
        rw[if_pos hT,hQ,nn,hT,hok]
        unfold z96
        simp only[Bool.and_eq_true,Bool.or_eq_true,Bool.not_eq_true',decide_eq_true_eq,hbadF,sE,Bool.false_eq_true,false_or,true_or,and_true]
        constructor
        · rintro⟨⟨h1,h2⟩,⟨h3,h4⟩,h5⟩;exact⟨⟨⟨by omega,h1⟩,h2⟩,h3⟩
        · rintro⟨⟨⟨h1,h2⟩,h3⟩,h4⟩;exact⟨⟨h2,h3⟩,⟨h4,by omega⟩,by omega⟩
      · have hT':isT a.k=false:=by simpa using hT
        have hQ:isQ a.k=true:=by
          have h1:=of_decide_eq_false hT'
          have h2:=of_decide_eq_false hN'
          exact decide_eq_true (by omega)
        have hk1:=of_decide_eq_true hQ
        rw[if_neg hT,if_pos hQ,hQ,nn,hT',hin hQ]
        have hop:okP a v.l.length v.ks v.b=(!zd3 a v&&okQ a v.l.length v.ks v.b):=by
          unfold okP okQ
          by_cases hb:v.ks.length>0/\a.k≠13\/v.b≠0/\a.k≠14
          · rw[if_pos hb,hbadB.2 (by omega)];rfl
          · rw[if_neg hb,hbadF.2 (by omega)];rfl
        unfold inF
        rw[hop]
        simp only[Bool.and_eq_true,Bool.or_eq_true,Bool.not_eq_true',decide_eq_true_eq,hbadF,sE,Bool.false_eq_true,false_or,true_or,and_true]
        constructor
        · rintro⟨⟨⟨⟨h1,h2⟩,h3⟩,h4⟩,h5⟩;exact⟨⟨⟨h1,h2,h3⟩,h4⟩,h5⟩
        · rintro⟨⟨⟨h1,h2,h3⟩,h4⟩,h5⟩;exact⟨⟨⟨⟨h1,h2⟩,h3⟩,h4⟩,h5⟩
  have tri:∀k:Int,a.k=k->(isN k=true\/isT k=true)->z13 S a v=(if k=1 then true else if isN k=true then okN a v.n else okT a v.s)/\isT a.k=isT k/\nB a.k=nB k/\isQ a.k=isQ k:=λk hk hh=>by
    subst hk
    refine⟨?_,rfl,rfl,rfl⟩
    unfold z13
    by_cases h1:a.k=1
    · rw[if_pos h1,if_pos h1]
    · rw[if_neg h1,if_neg h1]
      by_cases hN:isN a.k=true
      · rw[if_pos hN,if_pos hN]
      · rw[if_neg hN,if_neg hN,if_pos (hh.resolve_left hN)]
  have oN:∀k:Int,a.k=k->okN a v.n=(if k=1 then decide (v.n=0)else if k=2 then decide (v.n<=1)else if k=3 then decide (v.n<2147483648\/18446744071562067968<=v.n)else if k=5 then decide (v.n<4294967296)else if k=10 then decide (v.n<a.sys.length)else true):=λk hk=>by subst hk;rfl
  have oT:∀k:Int,a.k=k->okT a v.s=(if k=8 then vld v.s else if k=11 then decide ((v.s.size:Int)=a.sz)else true):=λk hk=>by subst hk;rfl
  clear hfit
  refine⟨⟨λh1=> ?_,λh1=>⟨λh2=> ?_,λh2=>⟨λh3=>⟨λh5=>⟨λ_=> ?_,λh=>absurd h5 h⟩,λh5=>⟨λh=>absurd h h5,λ_=> ?_⟩⟩,λh3=>⟨⟨trivial,λh4=> ?_,λh4=> ?_⟩,λh46=> ?_,λh46=>⟨λh5=> ?_,λh5=>⟨λh10=> ?_,λh10=>⟨λh7=> ?_,λh7=>⟨λh8=>⟨hs,?_⟩,λh8=>⟨λh11=> ?_,λh11=> ?_⟩⟩⟩⟩⟩⟩⟩⟩⟩,⟨λh13=>⟨λhk=> ?_,λhk=>⟨λh14=> ?_,λh14=> ?_⟩⟩,λh13=>⟨λh14=> ?_,λh14=> ?_⟩⟩,λhB=> ?_,λhB=>⟨λho=>⟨λhn'=>⟨λht=>⟨λhq=> ?_,λhq=> ?_⟩,λht=>⟨λhs'=>⟨λhq=> ?_,λhq=> ?_⟩,λhs'=> ?_⟩⟩,λhn'=>⟨λhn0=>⟨λht=>⟨λhq=> ?_,λhq=> ?_⟩,λht=>⟨λhs'=>⟨λhq=> ?_,λhq=> ?_⟩,λhs'=> ?_⟩⟩,λhn0=> ?_⟩⟩,λho=> ?_⟩⟩
  · have:=tri 1 h1 (.inl rfl);exact this
  · have:=tri 2 h2 (.inl rfl);rw[oN 2 h2]at this;exact this
  · have:=tri 3 h3 (.inl rfl);rw[oN 3 h3]at this
    refine⟨this.1.trans ?_,this.2⟩
    show decide (v.n<2147483648\/18446744071562067968<=v.n)=_
    rw[w64]at h5⊢
    split at h5<;>exact z08 (by omega)
  · have:=tri 3 h3 (.inl rfl);rw[oN 3 h3]at this
    refine⟨this.1.trans ?_,this.2⟩
    show decide (v.n<2147483648\/18446744071562067968<=v.n)=_
    rw[w64]at h5
    split at h5<;>exact decide_eq_false (by omega)
  · unfold b46;rw[h4];rfl
  · unfold b46;rw[decide_eq_false h4];rfl
  · unfold b46 at h46
    rw[Bool.or_eq_true,decide_eq_true_eq,decide_eq_true_eq]at h46
    rcases h46 with h|h
    · have:=tri 4 h (.inl rfl);rw[oN 4 h]at this;exact this
    · have:=tri 6 h (.inl rfl);rw[oN 6 h]at this;exact this
  · have:=tri 5 h5 (.inl rfl);rw[oN 5 h5]at this;exact this
  · have:=tri 10 h10 (.inl rfl);rw[oN 10 h10]at this;exact this
  · have:=tri 7 h7 (.inr rfl);rw[oT 7 h7]at this;exact this
  · have:=tri 8 h8 (.inr rfl);rw[oT 8 h8]at this;exact this
  · have:=tri 11 h11 (.inr rfl);rw[oT 11 h11]at this;exact this
  · have hb6:¬a.k=4/\¬a.k=6:=by
      unfold b46 at h46
      rw[Bool.or_eq_false_iff,decide_eq_false_iff_not,decide_eq_false_iff_not]at h46;exact h46
    have hQ:isQ a.k=true:=decide_eq_true (by omega)
    refine⟨⟨S,x,a,v⟩,rfl,sl,rfl,rfl,rfl,rfl,rfl,rfl,rfl,rfl,syl,rfl,rfl,rfl,rfl,rfl,rfl,rfl,rfl,rfl,rfl,rfl,rfl,rfl,xl,rfl,rfl,yl,rfl,rfl,⟨hmu,hS,hkS,hsm.1,hv,hQ⟩,λq hq=>⟨hq.1,hao2 q hq,hq.2⟩,hin hQ,decide_eq_false (by unfold isQ at hQ;have:=of_decide_eq_true hQ;omega),decide_eq_false (by unfold isQ at hQ;have:=of_decide_eq_true hQ;omega),hQ⟩
  · exact hbadB.2 (.inl ⟨h13,by omega⟩)
  · by_cases hb:v.b=0
    · rw[decide_eq_true hb];exact hbadF.2 (by omega)
    · rw[decide_eq_false hb];exact hbadB.2 (.inr ⟨h14,hb⟩)
  · exact hbadF.2 (by omega)
  · by_cases hb:v.b=0
    · rw[decide_eq_true hb];exact hbadF.2 (by omega)
    · rw[decide_eq_false hb];exact hbadB.2 (.inr ⟨h14,hb⟩)
  · exact hbadF.2 (by omega)
  · rw[key,hB];rfl
  all_goals first
    | (rw[key,hB,ho,hn',ht,hq];simp[hn0,hs'];done)
    | (rw[key,hB,ho,hn',ht];simp[hn0,hs'];done)
    | (rw[key,hB,ho,hn',ht,hq];simp[hn0];done)
    | (rw[key,hB,ho,hn',ht,hq];simp[hs'];done)
    | (rw[key,hB,ho,hn',ht];simp[hs'];done)
    | (rw[key,hB,ho,hn',ht,hq];simp;done)
    | (rw[key,hB,ho,hn'];simp[hn0];done)
    | (rw[key,hB,ho];simp;done)
def zgv:∀n,q58 P 12 (z51.below ztp n)
 |0=>Ct.below_zero (by decide) (by decide) (Sen.enters_of Try.func12 (by kernel_rfl)) λs=>⟨rfl,rfl⟩
 |n+1=>zm6 n (zmk n (zgv n))
def zgk:q58 P 12 z51:=Ct.of_below zgv
def z9j:CtR:=ctN (List AT×SV×Int×GJ) (λ⟨S,x,t,g⟩=>[scA x, .sv (.int .i64 t),g.av]) (λ⟨S,x,t,g⟩=>z0a S/\g.wf) (λ⟨S,x,t,g⟩=>sgM S x g) (Int×GV) (λ_ _=>True) (λ_ ⟨e,v⟩=>vM v) λ_ ⟨e,v⟩=> .tup [v.av, .sv (.int .i64 e)]
def sM(S:List AT) (x:SV):PF:=⟨true,z05 S x,λ_ _ h e=>z18 h e⟩
def z6i:CtR:=ctN (List AT×SV) (λ⟨S,x⟩=>[scA x]) (λ⟨S,x⟩=>z0a S) (λ⟨S,x⟩=>sM S x) (Int×Int×Int) (λ_ _=>True) (λ_ _=>{}) λ_ ⟨e,t,i⟩=> .tup [.sv (.int .i64 e), .sv (.int .i64 t), .sv (.int .i64 i)]
def zik:z6i.σ->WayF:=λ⟨S,x⟩=>{
 ann:=λid t _=>match id with
  |0=>some {σ:=Nat,pre:=λj=>j<=S.length,t:=λj=>[(5, .sv (.int .i64 (j:Int)))],h:=λ_=>[],more:=0,μ:=λj=>S.length- j,keep:=[1]}
  |_=>some {σ:=Nat,t:=λk=>[(6, .sv (.int .i64 (k:Int)))],h:=λ_=>[],more:=0,μ:=λk=>100- k,keep:=[1,5]}}
abbrev RcS:=SV×List Int×Int
def zdz:RcS->Prop:=λ⟨x,L,n⟩=>0<=n/\n<=L.length/\z0g L
def z6o:CtR where
 σ:=RcS
 args:=λ⟨x,L,n⟩=>[.ptr 1 0]
 h:=λ⟨x,L,n⟩=>pkO x n
 m:=2
 pre:=zdz
 mem:=λ⟨x,L,n⟩=>byM x L
 β:=λ_=>GJ×Int
 post:=λ⟨x,L,n⟩ ⟨g,n'⟩=>g.wf/\n<=n'/\n'<=L.length
 pm:=λ_ ⟨g,n'⟩=>gM g
 r:=λ_ ⟨g,n'⟩=>g.av
 h':=λ⟨x,L,n⟩ ⟨g,n'⟩=>pkO x n'
 m':=2
def zsm:CtR where
 σ:=RcS
 args:=λ⟨x,L,n⟩=>[.ptr 1 0]
 h:=λ⟨x,L,n⟩=>pkO x n
 m:=2
 pre:=zdz
 mem:=λ⟨x,L,n⟩=>byM x L
 β:=λ_=>List AT×SV×Bool×Int
 post:=λ⟨x,L,n⟩ ⟨S,y,b,n'⟩=>z0a S/\(b=true->S≠[])/\n<=n'/\n'<=L.length
 pm:=λ_ ⟨S,y,b,n'⟩=>sM S y
 r:=λ_ ⟨S,y,b,n'⟩=> .tup [scA y, .sv (.bool b)]
 h':=λ⟨x,L,n⟩ ⟨S,y,b,n'⟩=>pkO x n'
 m':=2
section
variable (x0:VlB) (x1:List AT) (x2:SV) (x3:GJ) (x4:Int×GV) (x5:Prop) (x6:(Option Addr×Nat×Nat)×Int)
 def jbk:= !(decide (0<=x6.2)&&decide (x6.2<(↑x6.1.2.1:Int)))
 def jbj:=GV.n x4.2=0/\GV.s x4.2=mkS []/\(GV.x x4.2).1=noA/\(GV.x x4.2).2.1=0/\(GV.x x4.2).2.2=0/\(GV.y x4.2).1=noA/\(GV.y x4.2).2.1=0/\(GV.y x4.2).2.2=0/\GV.b x4.2=0/\x5
 def jjk:=((!decide (x0.2.1=0))=true->∃(i0:Int×GV),jbj i0 (i0.1=x0.2.1/\True/\(∀i1,(True/\z05 x1 x2 i1/\GJ.ok x3 i1)/\GV.ok x0.2.2 i1->GV.ok i0.2 i1)/\True))/\((!decide (x0.2.1=0))=false->∃(i2:Int×GV),GV.n i2.2=GV.n x0.2.2/\GV.s i2.2=GV.s x0.2.2/\(GV.x i2.2).1=(GV.x x0.2.2).1/\(GV.x i2.2).2.1=(GV.x x0.2.2).2.1/\(GV.x i2.2).2.2=(GV.x x0.2.2).2.2/\(GV.y i2.2).1=(GV.y x0.2.2).1/\(GV.y i2.2).2.1=(GV.y x0.2.2).2.1/\(GV.y i2.2).2.2=(GV.y x0.2.2).2.2/\GV.b i2.2=GV.b x0.2.2/\i2.1=0/\True/\(∀i3,(True/\z05 x1 x2 i3/\GJ.ok x3 i3)/\GV.ok x0.2.2 i3->GV.ok i2.2 i3)/\True)
end
def ze8(S:List AT) (x:SV) (t:Int) (g:GJ):qkj P (qfv [(30,j0l)]) (qgy [(83,cVl)]) Try.f48 z9j (λ_=>{}) ⟨S,x,t,g⟩=(z0a S/\GJ.wf g->(∃(p:Pub),True/\z05 S x p/\GJ.ok g p)->∃(s:(Option Addr×Nat×Nat)×Int),s.1.1=x.1/\s.1.2.1=x.2.1/\s.1.2.2=x.2.2/\s.2=t/\True/\((jbk s)=true->∃(b:Int×GV),jbj b (b.1=1/\True/\(∀(p:Pub),True/\z05 S x p/\GJ.ok g p->GV.ok b.2 p)/\True))/\((jbk s)=false->∃(s:VlS),s.2.2.2.1=t/\GJ.k s.2.2.2.2.1=GJ.k g/\GJ.n s.2.2.2.2.1=GJ.n g/\GJ.s s.2.2.2.2.1=GJ.s g/\(GJ.y s.2.2.2.2.1).1=(GJ.y g).1/\(GJ.y s.2.2.2.2.1).2.1=(GJ.y g).2.1/\(GJ.y s.2.2.2.2.1).2.2=(GJ.y g).2.2/\(GJ.x s.2.2.2.2.1).1=(GJ.x g).1/\(GJ.x s.2.2.2.2.1).2.1=(GJ.x g).2.1/\(GJ.x s.2.2.2.2.1).2.2=(GJ.x g).2.2/\s.2.2.2.2.2=1/\s.2.1.1=x.1/\s.2.1.2.1=x.2.1/\s.2.1.2.2=x.2.2/\s.2.2.1=0/\(z0a s.1/\(0<=s.2.2.2.1/\s.2.2.2.1<(↑(length s.1):Int))/\GJ.wf s.2.2.2.2.1/\(0<=s.2.2.1/\s.2.2.1<=2000)/\1<=s.2.2.2.2.2/\s.2.2.2.2.2<=21)/\(∀(p:Pub),True/\z05 S x p/\GJ.ok g p->z05 s.1 s.2.1 p/\GJ.ok s.2.2.2.2.1 p)/\∀(b:VlB),z0t s.2.2.1 b->(∃(p:Pub),(True/\z05 S x p/\GJ.ok g p)/\GV.ok b.2.2 p)->jjk b S x g)):=by kernel_rfl
def zic:=λS x t g=>Eq.trans (ze8 S x t g) (by delta jbk jbj jjk;exact rfl)
section
variable (x0:SV) (x1:List AT) (x2 x3:Nat) (x4:Int×GV) (x5:Prop) (x6:Option Addr) (x7:Nat)
 abbrev zyh:=x0.1=x0.1/\x0.2.1=x0.2.1/\x0.2.2=x0.2.2/\x5
 def j6o:=zyh x0 ((∀i0,True/\z05 x1 x0 i0->True/\z05 x1 x0 i0)/\x5)
 abbrev zpx:=(↑x2:Int)<(↑x0.2.1:Int)
 def zyi:=(∀i0,True/\z05 x1 x0 i0->q3f i0 (Addr.add (adr x0.1 (toNat (↑x2:Int)*10)) 8) [slice x6 x3 x7])
 abbrev zpw:=Jb ((↑x2:Int)+1)
 def jjt:=zpw x2/\∃(i0:Nat),(↑x3:Int)=(↑x3:Int)/\(↑i0:Int)=(↑x2:Int)+1/\j6o x0 x1 (True/\(100:Nat)- i0<100- x2/\True)
 def jjr:=zpw x2/\∃(i0:Nat),(↑x3:Int)=(↑x3:Int)/\(↑i0:Int)=(↑x2:Int)+1/\zyh x0 ((∀i1,(True/\z05 x1 x0 i1)/\GV.ok x4.2 i1->True/\z05 x1 x0 i1)/\True/\(100:Nat)- i0<100- x2/\True)
 def jjq:=((!decide (x4.1=0))=true->∃(i0:Int×Int×Int),i0.1=x4.1/\i0.2.1=(↑x2:Int)/\i0.2.2=(↑x3:Int)/\True/\True)/\((!decide (x4.1=0))=false->jjr x0 x1 x3 x2 x4)
 def jjp:=(0<=(↑x2:Int)/\zpx x0 x2)/\x0.1≠noA/\∃i0,∃(i1:Nat),∃(i2:Nat),zyi x0 x1 x2 i1 i0 i2/\(0<=(↑x3:Int)/\(↑x3:Int)<(↑i1:Int))/\i0≠noA/\∃i4,∃i5,∃(i6:Nat),∃(i7:Nat),∃(i8:Int),∃(i9:Bool),∃(i10:Int),∃(i11:Int),∃i12,∃i13,∃(i14:Nat),∃(i15:Nat),∃i16,∃(i17:Nat),∃(i18:Nat),(∀i19,True/\z05 x1 x0 i19->q3f i19 (adr i0 (toNat (↑x3:Int)*9)) [string i4,slice i5 i6 i7,int i64 i8,bool i9,int i64 i10,int i64 i11,string i12,slice i13 i14 i15,slice i16 i17 i18])/\((!i9)=true->jjt x0 x1 x3 x2)/\((!i9)=false->∃(i22:List AT×(Option Addr×Nat×Nat)×Int×GJ),i22.2.1.1=x0.1/\i22.2.1.2.1=x0.2.1/\i22.2.1.2.2=x0.2.2/\i22.2.2.1=i8/\GJ.k i22.2.2.2=i10/\GJ.n i22.2.2.2=i11/\GJ.s i22.2.2.2=i12/\(GJ.y i22.2.2.2).1=i13/\(GJ.y i22.2.2.2).2.1=i14/\(GJ.y i22.2.2.2).2.2=i15/\(GJ.x i22.2.2.2).1=i16/\(GJ.x i22.2.2.2).2.1=i17/\(GJ.x i22.2.2.2).2.2=i18/\(z0a i22.1/\GJ.wf i22.2.2.2)/\(∀i23,True/\z05 x1 x0 i23->z05 i22.1 i22.2.1 i23/\GJ.ok i22.2.2.2 i23)/\∀(i24:Int×GV),True->(∃i25,(True/\z05 x1 x0 i25)/\GV.ok i24.2 i25)->jjq x0 x1 x2 x3 i24)
 def jjs:=zpw x2/\∃(i0:Nat),(↑i0:Int)=(↑x2:Int)+1/\j6o x0 x1 (i0<=length x1/\length x1- i0<length x1- x2/\True)
 def jjo:=(0<=(↑x2:Int)/\zpx x0 x2)/\x0.1≠noA/\∃i0,∃(i1:Nat),∃(i2:Nat),zyi x0 x1 x2 i1 i0 i2/\Ji ((↑x3:Int)<(↑i1:Int)) (jjp x0 x1 x2 x3) (jjs x0 x1 x2)
 def jjn:=(∃(i0:Nat),(↑x2:Int)=(↑x2:Int)/\(↑i0:Int)=0/\j6o x0 x1 (True/\True))/\∀(i2:Nat),True->jjo x0 x1 x2 i2
 def jjm:=Ji (zpx x0 x2) (jjn x0 x1 x2) (∃(i38:Int×Int×Int),i38.1=0/\i38.2.1=0/\i38.2.2=0/\True/\True)
 def jjl:=(∃(i0:Nat),(↑i0:Int)=0/\j6o x0 x1 (i0<=length x1/\True))/\∀(i2:Nat),i2<=length x1->jjm x0 x1 i2
end
def zdb(S:List AT) (x:SV):qkj P (qfv []) (qgy [(48,z9j)]) Try.f25 z6i (zik) ⟨S,x⟩=(z0a S->(∃(p:Pub),True/\z05 S x p)->jjl x S):=by kernel_rfl
def zg6:=λS x=>Eq.trans (zdb S x) (by delta Ji Jb Jt Jf zyh j6o zpx zyi zpw jjt jjr jjq jjp jjs jjo jjn jjm jjl;exact rfl)
def ze0(x:SV) (L:List Int) (n:Int):qkh P (qfv []) (qgy [(47,z24)]) Try.f24 z6o (λ_=>{}) ⟨x,L,n⟩=(zdz (x,L,n)->(∃(p:Pub),True/\slP byV x L p)->∃(s:ByteArray×TrS),s.1=mkS [84,111,112]/\s.2.2.2.2.1=0/\s.2.1.1=x.1/\s.2.1.2.1=x.2.1/\s.2.1.2.2=x.2.2/\s.2.2.2.1=n/\z00 txV s.2.2.2.2.2=[string (mkS [84,111,112])]/\length s.2.2.2.2.2=nat_lit 1/\(size s.1<100/\z40 3 s.2)/\(∀(p:Pub),True/\slP byV x L p->slP byV s.2.1 s.2.2.1 p)/\∀(b:TrB),z15 s.2.2.1 s.2.2.2.1 s.2.2.2.2.2 b->(∃(p:Pub),(True/\slP byV x L p)/\GJ.ok b.1 p)->∃(b_1:GJ×Int),GJ.k b_1.1=GJ.k b.1/\GJ.n b_1.1=GJ.n b.1/\GJ.s b_1.1=GJ.s b.1/\(GJ.y b_1.1).1=(GJ.y b.1).1/\(GJ.y b_1.1).2.1=(GJ.y b.1).2.1/\(GJ.y b_1.1).2.2=(GJ.y b.1).2.2/\(GJ.x b_1.1).1=(GJ.x b.1).1/\(GJ.x b_1.1).2.1=(GJ.x b.1).2.1/\(GJ.x b_1.1).2.2=(GJ.x b.1).2.2/\x.1=s.2.1.1/\x.2.1=s.2.1.2.1/\x.2.2=s.2.1.2.2/\b_1.2=b.2.1/\(GJ.wf b_1.1/\n<=b_1.2/\b_1.2<=(↑(length L):Int))/\(∀(p:Pub),(True/\slP byV x L p)/\GJ.ok b.1 p->GJ.ok b_1.1 p)/\True):=by kernel_rfl
section
variable (x0:List AT×(Option Addr×Nat×Nat)×Int) (x1:SV) (x2:RcS) (x3:GJ×Int) (x4:Int) (x5:List Int) (x6:List AT×(Option Addr×Nat×Nat)×Bool×Int) (x7:Prop)
 def jbm:=x6.2.1.1=x0.2.1.1/\x6.2.1.2.1=x0.2.1.2.1/\x6.2.1.2.2=x0.2.1.2.2/\x7
 def jbl:=x1.1=x2.1.1/\x1.2.1=x2.1.2.1/\x1.2.2=x2.1.2.2/\x6.2.2.2=x3.2/\(z0a x6.1/\(x6.2.2.1=true->x6.1≠[])/\x4<=x6.2.2.2/\x6.2.2.2<=(↑(length x5):Int))/\(∀i0,((True/\slP byV x1 x5 i0)/\GJ.ok x3.1 i0)/\z05 x0.1 x0.2.1 i0->z05 x6.1 x6.2.1 i0)/\True
 def jju:=((!decide (x0.2.2=0))=true->∃(i0:List AT×(Option Addr×Nat×Nat)×Bool×Int),jbm x0 i0 (i0.2.2.1=false/\jbl x0 x1 x2 x3 x4 x5 i0))/\((!decide (x0.2.2=0))=false->∃(i2:List AT×Option Addr×Nat×Nat),i2.2.1=x0.2.1.1/\i2.2.2.1=x0.2.1.2.1/\i2.2.2.2=x0.2.1.2.2/\z0a i2.1/\(∀i3,((True/\slP byV x1 x5 i3)/\GJ.ok x3.1 i3)/\z05 x0.1 x0.2.1 i3->z05 i2.1 i2.2 i3)/\∀(i4:Int×Int×Int),True->∃(i5:List AT×(Option Addr×Nat×Nat)×Bool×Int),jbm x0 i5 (i5.2.2.1=decide (i4.1=0)/\jbl x0 x1 x2 x3 x4 x5 i5))
end
def zln(x:SV) (L:List Int) (n:Int):qkj P (qfv []) (qgy [(24,z6o),(23,zfz),(25,z6i)]) Try.f9 zsm (λ_=>{}) ⟨x,L,n⟩=(zdz (x,L,n)->(∃(p:Pub),True/\slP byV x L p)->∃(s:RcS),s.1.1=x.1/\s.1.2.1=x.2.1/\s.1.2.2=x.2.2/\s.2.2=n/\zdz s/\(∀(p:Pub),True/\slP byV x L p->slP byV s.1 s.2.1 p)/\∀(b:GJ×Int),GJ.wf b.1/\s.2.2<=b.2/\b.2<=(↑(length s.2.1):Int)->(∃(p:Pub),(True/\slP byV x L p)/\GJ.ok b.1 p)->∃(s_1:GJ),GJ.k s_1=GJ.k b.1/\GJ.n s_1=GJ.n b.1/\GJ.s s_1=GJ.s b.1/\(GJ.y s_1).1=(GJ.y b.1).1/\(GJ.y s_1).2.1=(GJ.y b.1).2.1/\(GJ.y s_1).2.2=(GJ.y b.1).2.2/\(GJ.x s_1).1=(GJ.x b.1).1/\(GJ.x s_1).2.1=(GJ.x b.1).2.1/\(GJ.x s_1).2.2=(GJ.x b.1).2.2/\GJ.wf s_1/\(∀(p:Pub),(True/\slP byV x L p)/\GJ.ok b.1 p->GJ.ok s_1 p)/\∀(b_1:List AT×(Option Addr×Nat×Nat)×Int),z0a b_1.1/\(b_1.2.2=0->b_1.1≠[])->(∃(p:Pub),((True/\slP byV x L p)/\GJ.ok b.1 p)/\z05 b_1.1 b_1.2.1 p)->jju b_1 x s b n L):=by kernel_rfl
def zsj:=λx L n=>Eq.trans (zln x L n) (by delta jbm jbl jju;exact rfl)
def zid:q1u P 48 z9j:=by
 refine qjr mixed (qdh (qh9 z6z qk5)) (qe7 (qh8 j20 qk4)) (W:=λ_=>{}) Try.func48 (by kernel_rfl) (show 1<=1 by decide) (show 1<=1 by decide) (λs=>by kernel_rfl) λ⟨S,(x:SV),(t:Int),g⟩=>(zic S x t g).mpr ?_
 rintro⟨hS,hg⟩ ⟨p,_,hx,hgo⟩
 have sl:x.2.1=S.length:=hx.1.1
 simp only[sbS,exists_const,forall_const,Int.toNat_natCast]
 refine⟨⟨x,t⟩,rfl,rfl,rfl,rfl,λh=>⟨⟨1,zV⟩,rfl,rfl,rfl,rfl,rfl,rfl,rfl,rfl,rfl,rfl,λq hq=>z3m q⟩,λh=> ?_⟩
 simp only[sl,Bool.and_eq_true,decide_eq_true_eq]at h
 refine⟨⟨S,x,0,t,g,1⟩,rfl,rfl,rfl,rfl,rfl,rfl,rfl,rfl,rfl,rfl,rfl,rfl,rfl,rfl,rfl,⟨hS,h,hg,⟨(by show(0:Int)<=0;decide),(by show(0:Int)<=2000;decide)⟩,(by show(1:Int)<=1;decide),(by show(1:Int)<=21;decide)⟩,λq hq=>hq,?_⟩
 rintro⟨a,e,v⟩ _ _
 exact⟨λ_=>⟨⟨e,zV⟩,rfl,rfl,rfl,rfl,rfl,rfl,rfl,rfl,rfl,rfl,λq hq=>z3m q⟩,λ_=>⟨⟨0,v⟩,rfl,rfl,rfl,rfl,rfl,rfl,rfl,rfl,rfl,rfl,λq hq=>hq.2⟩⟩
def zg7:q1u P 25 z6i:=by
  refine qjr mixed (qdh qk5) (qe7 (qh8 zid qk4)) (W:=zik) Try.func25 (by kernel_rfl) (show 1<=1 by decide) (show 1<=1 by decide) (λs=>by kernel_rfl) λ⟨S,(x:SV)⟩=>(zg6 S x).mpr ?_
  rintro hS ⟨p,_,hx⟩
  have sl:x.2.1=S.length:=hx.1.1
  have h60:=hS.1
  simp only[sbS,exists_const,forall_const,Int.toNat_natCast,sl]
  refine⟨⟨0,rfl,Nat.zero_le _⟩,?_⟩
  rintro j hj
  refine⟨λhlt=>⟨⟨0,rfl⟩,λk=> ?_⟩,λhge=>⟨⟨0,0,0⟩,rfl,rfl,rfl⟩⟩
  have hjl:j<S.length:=by omega
  have hat:=λq (hq:z05 S x q)=>z2d hq hjl
  have hao:=λq (hq:z05 S x q)=>hq.2 S[j] (List.getElem_mem hjl)
  have hgd:=hS.2 S[j] (List.getElem_mem hjl)
  generalize S[j]=a at*
  obtain⟨_,_,fl,_⟩:=z1f (hao p hx)
  have hf30:=hgd.2.2.2.2.2.2.2.1
  have c8:∀q,z05 S x q->q3f q ((adr x.1 (j*10)).add 8) [.slice a.f.1 a.fs.length a.f.2.2]:=λq hq i v hi=>by
    cases i with
    | zero=>
      rw[←fl]at hi
      have:=(hat q hq).2 8 v hi
      rw[Addr.add_add];exact this
    |succ i=>simp at hi
  refine⟨⟨by omega,by omega⟩,(hat p hx).1,a.f.1,a.fs.length,a.f.2.2,c8,λhk=>⟨⟨by omega,by omega⟩,(hat p hx).1,a.f.1,a.fs.length,a.f.2.2,c8,⟨by omega,by omega⟩,?_⟩,λhk=>⟨⟨by omega,by omega⟩,j+1,by omega,by omega,by omega⟩⟩
  have hkl:k<a.fs.length:=by omega
  have hff:=hgd.2.2.2.2.1 _ (List.getElem_mem hkl)
  have fok:=λq (hq:z05 S x q)=>(hao q hq).2.2.2.2 a.fs[k] (List.getElem_mem hkl)
  have fat:=λq (hq:z05 S x q)=>z1y (hao q hq) hkl
  have hk100:k<100:=by omega
  generalize a.fs[k]=f at*
  refine⟨(fat p hx).1,f.nm,f.al.1,f.al.2.1,f.al.2.2,f.ty,f.hd,f.df.k,f.df.n,f.df.s,f.df.y.1,f.df.y.2.1,f.df.y.2.2,f.df.x.1,f.df.x.2.1,f.df.x.2.2,λq hq=>(fat q hq).2,λ_=>⟨⟨by omega,by omega⟩,k+1,by omega,by omega⟩,λ_=>⟨⟨S,x,f.ty,f.df⟩,rfl,sl,rfl,rfl,rfl,rfl,rfl,rfl,rfl,rfl,rfl,rfl,rfl,⟨hS,hff.2⟩,λq hq=>⟨hq,(fok q hq).2⟩,?_⟩⟩
  rintro⟨e,v⟩ _
  exact⟨λ_=>⟨⟨e,j,k⟩,rfl,rfl,rfl⟩,λ_=>⟨⟨by omega,by omega⟩,k+1,by omega,λq hq=>hq.1,by omega⟩⟩
def ze1:q1u P 24 z6o:=by
 refine qjq mixed (qdh qk5) (qe7 (qh8 zne qk4)) (W:=λ_=>{}) Try.func24 (by kernel_rfl) (show 1<=2 by decide) (show 2<=2 by decide) (λs=>by kernel_rfl) λ⟨(x:SV),L,(n:Int)⟩=>(ze0 x L n).mpr ?_
 rintro⟨hn0,hn1,hL⟩ ⟨p,_,hx⟩
 simp only[sbS,exists_const,forall_const,Int.toNat_natCast]
 refine⟨⟨mkS [84,111,112],x,L,n,0,[mkS [84,111,112]]⟩,rfl,rfl,rfl,rfl,rfl,rfl,rfl,rfl,⟨(by show(3:Nat)<100;decide),⟨hn0,hn1,hL,(by show(0:Int)<=0;decide),(by show(0:Int)<=3;decide),(by show((1:Nat):Int)<=n+1;omega),λt ht=>(by simp at ht;subst ht;show 3<100;decide)⟩⟩,λq hq=>hq,?_⟩
 rintro⟨g,n',N'⟩ ⟨hw,h1,h2,_⟩ _
 exact⟨⟨g,n'⟩,rfl,rfl,rfl,rfl,rfl,rfl,rfl,rfl,rfl,rfl,rfl,rfl,rfl,⟨hw,h1,h2⟩,λq hq=>hq.2⟩
def zsk:q1u P 9 zsm:=by
 refine qjr mixed (qdh qk5) (qe7 (qh8 ze1 (qh8 zmf (qh8 zg7 qk4)))) (W:=λ_=>{}) Try.func9 (by kernel_rfl) (show 1<=2 by decide) (show 2<=2 by decide) (λs=>by kernel_rfl) λ⟨(x:SV),L,(n:Int)⟩=>(zsj x L n).mpr ?_
 rintro⟨hn0,hn1,hL⟩ ⟨p,_,hx⟩
 simp only[sbS,exists_const,forall_const,Int.toNat_natCast]
 refine⟨⟨x,L,n⟩,rfl,rfl,rfl,rfl,⟨hn0,hn1,hL⟩,λq hq=>hq,?_⟩
 rintro⟨g,n'⟩ ⟨hw,h1,h2⟩ _
 refine⟨g,rfl,rfl,rfl,rfl,rfl,rfl,rfl,rfl,rfl,hw,λq hq=>hq.2,?_⟩
 rintro⟨S,y,e⟩ ⟨hS,hne⟩ _
 simp only at hS hne⊢
 refine⟨λhe=>⟨⟨S,y,false,n'⟩,rfl,rfl,rfl,rfl,trivial,trivial,trivial,rfl,⟨hS,λh=>(by cases h),h1,h2⟩,λq hq=>hq.2⟩,λhe=>⟨⟨S,y⟩,rfl,rfl,rfl,hS,λq hq=>hq.2,?_⟩⟩
 rintro⟨e2,t,i⟩
 exact⟨⟨S,y,decide (e2=0),n'⟩,rfl,rfl,rfl,rfl,trivial,trivial,trivial,rfl,⟨hS,λ_=>hne he,h1,h2⟩,λq hq=>hq.2⟩
section
def rAt(R:List Int) (t:Int):Int:=R.getD t.toNat (-1)
def ini(a:AT):Int:=if a.k=9\/a.k=14 then -1 else 0
def z88(R:List Int):List Int->Int->Int
 | [],m=>m
 |b::l,m=>z88 R l (if 0<=rAt R b/\(m<0\/rAt R b<m)then rAt R b else m)
def z82(R:List Int):List AF->Int->Int
 | [],m=>m+1
 |f::l,m=>if rAt R f.ty<0 then -1 else z82 R l (if m<rAt R f.ty then rAt R f.ty else m)
def rkd(R:List Int) (a:AT):Int:=if a.k=14 then(if z88 R a.brs (-1)<0 then -1 else z88 R a.brs (-1)+1)else z82 R a.fs 0
def rkS(S:List AT) (R:List Int):List Int:=List.zipWith (λa r=>if 0<=r then r else rkd R a) S R
def rkN(S:List AT):Nat->List Int
 |0=>S.map ini
 |k+1=>rkS S (rkN S k)
def z04(S:List AT):List Int:=rkN S (S.length+1)
def chG(R B:List Int):Nat->Nat->Nat->Nat
 |0,i,m=>m
 |c+1,i,m=>chG R B c (i+1) (if 0<=rAt R (B.getD i 0)/\(rAt R (B.getD m 0)<0\/rAt R (B.getD i 0)<rAt R (B.getD m 0))then i else m)
def chF(R B:List Int):Nat:=chG R B B.length 0 0
def wMn(a b:Int):Int:=if 1000000<a+b then 1000000 else a+b
def wfs(W:List Int) (i:Nat):List AF->List Int
 | []=>W
 |f::l=>wfs (W.set i (wMn (rAt W i) (rAt W f.ty))) i l
def wU(R W:List Int) (i:Nat) (a:AT):List Int:=if a.k=14 then(W.set i 1).set i (wMn (rAt (W.set i 1) i) (rAt (W.set i 1) (a.brs.getD (chF R a.brs) 0)))else W.set i 1
def w1(R W:List Int) (i:Nat) (a:AT):List Int:=wfs (wU R W i a) i a.fs
def zo5(S:List AT) (R:List Int) (k:Int):Nat->Nat->List Int->List Int
 |0,i,W=>W
 |c+1,i,W=>zo5 S R k c (i+1) (if rAt R i=k then w1 R W i (S.getD i zA)else W)
def wall(S:List AT) (R:List Int):Nat->Int->List Int->List Int
 |0,k,W=>W
 |c+1,k,W=>wall S R c (k+1) (zo5 S R k S.length 0 W)
def wts(S:List AT) (R:List Int):List Int:=wall S R (S.length+1) 0 (List.replicate S.length 0)
def lsB(S:List AT) (t:Int):Bool:=(decide (0<=t)&&decide (t<(S.length:Int)))&&decide (0<=rAt (z04 S) t)&&decide (rAt (wts S (z04 S)) t<=2000)
def z9w(R:List Int) (i:Nat):rAt R i=R.getD i (-1):=by unfold rAt;rw[Int.toNat_natCast]
variable {R:List Int}
def z1b{i:Nat} (h:i<R.length):rAt R i=R[i]:=by rw[z9w,List.getD_eq_getElem?_getD,List.getElem?_eq_getElem h];rfl
def zu9{i:Nat} (h:i<R.length):rAt R i∈R:=by rw[z1b h];exact List.getElem_mem h
def z78(S:List AT) (R:List Int) (h:R.length=S.length):(rkS S R).length=S.length:=by unfold rkS;simp[h]
def z2k(S:List AT):∀k,(rkN S k).length=S.length
 |0=>by rw[rkN];simp
 |k+1=>by rw[rkN];exact z78 S _ (z2k S k)
variable {S:List AT}
def zhu(h:R.length=S.length) {i:Nat} (hi:i<S.length):rAt (rkS S R) i=if 0<=rAt R i then rAt R i else rkd R S[i]:=by
 rw[z1b (by rw[z78 S R h];exact hi),z1b (by omega)]
 unfold rkS
 simp
def z9b(R:List Int):∀(l:List Int) (m:Int), -1<=m-> -1<=z88 R l m/\(0<=z88 R l m->z88 R l m=m\/∃b∈l,rAt R b=z88 R l m)
  | [],m,h=>by rw[z88];exact⟨h,λ_=> .inl rfl⟩
  | b ::l,m,h=>by
    rw[z88]
    split
    next hc=>
      obtain⟨h1,h2⟩:=z9b R l (rAt R b) (by omega)
      refine⟨h1,λh0=> .inr ?_⟩
      rcases h2 h0 with e|⟨c,hcm,e⟩
      · exact⟨b,List.mem_cons_self,e.symm⟩
      · exact⟨c,List.mem_cons_of_mem _ hcm,e⟩
    next hc=>
      obtain⟨h1,h2⟩:=z9b R l m h
      refine⟨h1,λh0=> ?_⟩
      rcases h2 h0 with e|⟨c,hcm,e⟩
      · exact .inl e
      · exact .inr ⟨c,List.mem_cons_of_mem _ hcm,e⟩
def z9r (R:List Int):∀(l:List AF) (m:Int),0<=m->z82 R l m= -1\/(m<z82 R l m/\(∀f∈l,0<=rAt R f.ty/\rAt R f.ty<z82 R l m)/\(z82 R l m=m+1\/∃f∈l,rAt R f.ty+1=z82 R l m))
  | [],m,h=>by rw[z82];exact .inr ⟨by omega,λf hf=>(by cases hf), .inl rfl⟩
  | g :: l, m,h=>by
    rw[z82]
    split
    · exact .inl rfl
    next hg =>
      split
      next hm=>
        rcases z9r R l (rAt R g.ty) (by omega)with e|⟨h1,h2,h3⟩
        · exact .inl e
        · refine .inr ⟨by omega,λf hf=> ?_, .inr ?_⟩
          · rcases List.mem_cons.1 hf with rfl|hf
            · exact⟨by omega,h1⟩
            · exact h2 f hf
          · rcases h3 with e|⟨f,hf,e⟩
            · exact⟨g,List.mem_cons_self,e.symm⟩
            · exact⟨f,List.mem_cons_of_mem _ hf,e⟩
      next hm=>
        rcases z9r R l m h with e|⟨h1,h2,h3⟩
        · exact .inl e
        · refine .inr ⟨h1,λf hf=> ?_,?_⟩
          · rcases List.mem_cons.1 hf with rfl|hf
            · exact⟨by omega,by omega⟩
            · exact h2 f hf
          · rcases h3 with e|⟨f,hf,e⟩
            · exact .inl e
            · exact .inr ⟨f,List.mem_cons_of_mem _ hf,e⟩
def RKI(S:List AT) (R:List Int) (K:Int):Prop:=R.length=S.length/\∀(i:Nat) (h:i<S.length),(-1<=rAt R i/\rAt R i<=K)/\(S[i].k≠9->S[i].k≠14->rAt R i=0)/\(S[i].k=9->0<=rAt R i->∀f∈S[i].fs,0<=rAt R f.ty/\rAt R f.ty<rAt R i)/\(S[i].k=14->0<=rAt R i->∃b∈S[i].brs,0<=rAt R b/\rAt R b<rAt R i)/\(2<=rAt R i->∃j,j<S.length/\rAt R j+1=rAt R i)
def z12{n:Nat} {t:Int} (h:0<=t/\t<n):∃j:Nat,j<n/\t=(j:Int):=by
 obtain⟨j,rfl⟩:=Int.eq_ofNat_of_zero_le h.1
 exact⟨j,by omega,rfl⟩
def zlc {K:Int} (hS:z0a S) (h:RKI S R K) (hK:0<=K):RKI S (rkS S R) (K+1):=by
 obtain⟨hl,h⟩:=h
 refine⟨z78 S R hl,λi hi=> ?_⟩
 have hg:=hS.2 S[i] (List.getElem_mem hi)
 have keep:∀t:Int,(0<=t/\t<(S.length:Int))->0<=rAt R t->rAt (rkS S R) t=rAt R t:=λt ht h0=>by
  obtain⟨j,hj,rfl⟩:=z12 ht
  rw[zhu hl hj,if_pos h0]
 have hb:∀t:Int,(0<=t/\t<(S.length:Int))->rAt R t<=K:=λt ht=>by
  obtain⟨j,hj,rfl⟩:=z12 ht
  exact(h j hj).1.2
 obtain⟨⟨b1,b2⟩,p1,p2,p3,p4⟩:=h i hi
 have fty:=λf (hf:f∈S[i].fs)=>(hg.2.2.2.2.1 f hf).1
 have bty:=hg.2.2.1
 rw[zhu hl hi]
 split
 next h0=>
  refine⟨⟨b1,by omega⟩,p1,λhk _ f hf=> ?_,λhk _=> ?_,λh2=> ?_⟩
  ·have:=p2 hk h0 f hf
   rw[keep _ (fty f hf) this.1];exact this
  ·obtain⟨b,hbm,q1,q2⟩:=p3 hk h0
   exact⟨b,hbm,by rw[keep _ (bty b hbm) q1];exact⟨q1,q2⟩⟩
  ·obtain⟨j,hj,e⟩:=p4 h2
   exact⟨j,hj,by rw[keep j ⟨by omega,by omega⟩ (by omega)];exact e⟩
 next h0 =>
  unfold rkd
  by_cases hk14:S[i].k=14
  ·rw [if_pos hk14]
   obtain⟨c1,c2⟩:=z9b R S[i].brs (-1) (by omega)
   split
   next hn=>exact⟨⟨by omega,by omega⟩,λ_ h=>absurd hk14 h,λh=>absurd h (by omega),λ_ h=>absurd h (by omega),λh=>absurd h (by omega)⟩
   next hn=>
    rcases c2 (by omega)with e|⟨b,hbm,e⟩
    ·omega
    ·have:=hb b (bty b hbm)
     refine⟨⟨by omega,by omega⟩,λ_ h=>absurd hk14 h,λh=>absurd h (by omega),λ_ _=>⟨b,hbm,?_⟩,λh2=> ?_⟩
     ·rw[keep _ (bty b hbm) (by omega)];omega
     ·obtain⟨j,hj,rfl⟩:=z12 (bty b hbm)
      exact⟨j,hj,by rw[keep j ⟨by omega,by omega⟩ (by omega)];omega⟩
  ·rw [if_neg hk14]
   by_cases hk9:S[i].k=9
   ·rcases z9r R S[i].fs 0 (by omega)with e|⟨h1,h2,h3⟩
    ·rw[e];exact⟨⟨by omega,by omega⟩,λh=>absurd hk9 h,λ_ h=>absurd h (by omega),λh=>absurd h hk14,λh=>absurd h (by omega)⟩
    ·refine⟨⟨by omega,?_⟩,λh=>absurd hk9 h,λ_ _ f hf=> ?_,λh=>absurd h hk14,λh2'=> ?_⟩
     ·rcases h3 with e|⟨f,hf,e⟩
      ·omega
      ·have:=hb f.ty (fty f hf);omega
     ·have:=h2 f hf
      rw[keep _ (fty f hf) this.1];exact this
     ·rcases h3 with e|⟨f,hf,e⟩
      ·omega
      ·have:=h2 f hf
       obtain⟨j,hj,ej⟩:=z12 (fty f hf)
       rw[ej]at this e
       exact⟨j,hj,by rw[keep j ⟨by omega,by omega⟩ this.1];omega⟩
   ·exact absurd (p1 hk9 hk14) (by omega)
def zld(S:List AT):RKI S (S.map ini) 0:=by
 refine⟨by simp,λi hi=> ?_⟩
 have e:rAt (S.map ini) i=ini S[i]:=by rw[z1b (by simpa using hi)];simp
 rw[e]
 unfold ini
 split
 next h=>exact⟨⟨by omega,by omega⟩,λh1 h2=>by omega,λ_ h=>absurd h (by omega),λ_ h=>absurd h (by omega),λh=>absurd h (by omega)⟩
 next h=>exact⟨⟨by omega,by omega⟩,λ_ _=>rfl,λh1=>absurd (Or.inl h1) h,λh1=>absurd (Or.inr h1) h,λh=>absurd h (by omega)⟩
def zse{S:List AT} (hS:z0a S):∀k:Nat,RKI S (rkN S k) k
  |0=>zld S
  | k+1=>by
    have:=zlc hS (zse hS k) (by omega)
    rw[rkN];exact this
def zd1(hS:z0a S):RKI S (z04 S) (S.length+1):=by
 have:=zse hS (S.length+1)
 unfold z04;exact this
def zcc:∀{l R:List Int},l.Nodup->(∀x∈l,x∈R)->l.length<=R.length
  | [],R,_,_=>Nat.zero_le _
  | x::l,R,hn,h=>by
    rw[List.nodup_cons]at hn
    have hx:=h x List.mem_cons_self
    have:=zcc (l:=l) (R:=R.erase x) hn.2 λy hy=>(List.mem_erase_of_ne (λe=>by subst e;exact hn.1 hy)).2 (h y (List.mem_cons_of_mem _ hy))
    rw[List.length_erase_of_mem hx]at this
    have h0:0<R.length:=List.length_pos_of_mem hx
    rw[List.length_cons];omega
def ja7{S:List AT} {R:List Int} {K:Int} (h:RKI S R K) {i:Nat} (hi:i<S.length):rAt R i<=S.length:=by
  obtain⟨hl,h⟩:=h
  have down:∀d:Nat,∀j,j<S.length->rAt R j=d->∀m:Nat,1<=m->m<=d->(m:Int)∈R:=by
    intro d
    induction d with
    |zero=>intro j hj e m h1 h2;omega
    | succ d ih=>
      intro j hj e m h1 h2
      by_cases hm:m=d+1
      · have:=zu9 (R:=R) (i:=j) (by omega)
        rw[e]at this;rw[hm];exact this
      · obtain⟨j2,hj2,e2⟩:=(h j hj).2.2.2.2 (by omega)
        exact ih j2 hj2 (by omega) m h1 (by omega)
  by_cases h0:rAt R i<=0
  · omega
  obtain⟨d,hd⟩:=Int.eq_ofNat_of_zero_le (show 0<=rAt R i by omega)
  have hs:=down d i hi hd
  have:=zcc (l:=(List.range d).map λ(m:Nat)=>((m+1:Nat):Int)) (R:=R) (by
    unfold List.Nodup
    rw[List.pairwise_map]
    exact(List.nodup_range (n:=d)).imp λ{a b} h e=>h (by simp at e;omega)) λx hx=>by
      obtain⟨m,hm,rfl⟩:=List.mem_map.1 hx
      rw[List.mem_range]at hm
      exact hs (m+1) (by omega) (by omega)
  simp at this
  omega
end
section
def zbo(R B:List Int):∀(c i m:Nat),c+i=B.length->m<B.length->chG R B c i m<B.length/\(0<=rAt R (B.getD m 0)->0<=rAt R (B.getD (chG R B c i m) 0)/\rAt R (B.getD (chG R B c i m) 0)<=rAt R (B.getD m 0))/\∀j,i<=j->j<B.length->0<=rAt R (B.getD j 0)->0<=rAt R (B.getD (chG R B c i m) 0)/\rAt R (B.getD (chG R B c i m) 0)<=rAt R (B.getD j 0)
  |0,i,m,h,hm=>by rw[chG];exact⟨hm,λh=>⟨h,by omega⟩,λj h1 h2=>by omega⟩
  | c + 1,i,m,h,hm=>by
    rw[chG]
    split
    next hc=>
      obtain⟨h1,h2,h3⟩:=zbo R B c (i+1) i (by omega) (by omega)
      have h2:=h2 hc.1
      refine⟨h1,λh0=>⟨h2.1,by omega⟩,λj hj1 hj2 hj3=> ?_⟩
      by_cases e:j=i
      · subst e;exact h2
      · exact h3 j (by omega) hj2 hj3
    next hc=>
      obtain⟨h1,h2,h3⟩:=zbo R B c (i+1) m (by omega) hm
      refine⟨h1,h2,λj hj1 hj2 hj3=> ?_⟩
      by_cases e:j=i
      · subst e
        have:=h2 (by omega)
        exact⟨this.1,by omega⟩
      · exact h3 j (by omega) hj2 hj3
def zbn{R B:List Int} (h:B≠[]):chF R B<B.length:=by
 have:0<B.length:=List.length_pos_iff.2 h
 exact(zbo R B B.length 0 0 (by omega) this).1
def z3e{B:List Int} {i:Nat} (h:i<B.length):B.getD i 0∈B:=by rw[List.getD_eq_getElem?_getD,List.getElem?_eq_getElem h];exact List.getElem_mem h
variable {S:List AT} {R:List Int} {K:Int}
def z6s(h:RKI S R K) {i:Nat} (hi:i<S.length) (hk:S[i].k=14) (h0:0<=rAt R i):chF R S[i].brs<S[i].brs.length/\0<=rAt R (S[i].brs.getD (chF R S[i].brs) 0)/\rAt R (S[i].brs.getD (chF R S[i].brs) 0)<rAt R i:=by
 obtain⟨b,hb,h1,h2⟩:=(h.2 i hi).2.2.2.1 hk h0
 obtain⟨j,hj,rfl⟩:=List.getElem_of_mem hb
 have:=(zbo R S[i].brs S[i].brs.length 0 0 (by omega) (by omega)).2.2 j (by omega) hj
 have ej:S[i].brs.getD j 0=S[i].brs[j]:=by rw[List.getD_eq_getElem?_getD,List.getElem?_eq_getElem hj];rfl
 rw[ej]at this
 have:=this h1
 exact⟨zbn (λe=>by rw[e]at hj;simp at hj),this.1,Int.lt_of_le_of_lt this.2 h2⟩
variable {W:List Int}
def z25{i j:Nat} (hi:i<W.length) (v:Int):rAt (W.set i v) j=if j=i then v else rAt W j:=by
 rw[z9w,z9w,List.getD_eq_getElem?_getD,List.getD_eq_getElem?_getD]
 by_cases h:j=i
 ·subst h;rw[List.getElem?_set_self hi,if_pos rfl];rfl
 ·rw[List.getElem?_set_ne (λe=>h e.symm),if_neg h]
def z2s{i:Nat} {t:Int} (hi:i<W.length) (v:Int) (ht:0<=t):rAt (W.set i v) t=if t=i then v else rAt W t:=by
 obtain⟨j,rfl⟩:=Int.eq_ofNat_of_zero_le ht
 rw[z25 hi]
 by_cases h:j=i
 ·subst h;rw[if_pos rfl,if_pos rfl]
 ·rw[if_neg h,if_neg (by omega)]
def WB(n:Nat) (W:List Int):Prop:=W.length=n/\∀i,i<n->0<=rAt W i/\rAt W i<=1000000
def zle{n:Nat} (h:WB n W) {t:Int} (ht:0<=t/\t<n):0<=rAt W t/\rAt W t<=1000000:=by
 obtain⟨j,hj,rfl⟩:=z12 ht
 exact h.2 j hj
def z66{n:Nat} (h:WB n W) {i:Nat} (hi:i<n) {v:Int} (hv:0<=v/\v<=1000000):WB n (W.set i v):=by
 refine⟨by rw[List.length_set];exact h.1,λj hj=> ?_⟩
 rw[z25 (by have:=h.1;omega)]
 split
 ·exact hv
 ·exact h.2 j hj
def zcw{a b:Int} (ha:0<=a) (hb:0<=b):0<=wMn a b/\wMn a b<=1000000:=by unfold wMn;split<;>omega
def z3y(W:List Int):List AF->Int
 | []=>0
 |f::l=>rAt W f.ty+z3y W l
def zdk(n:Nat) (l:List AF):Prop:=∀f∈l,0<=f.ty/\f.ty<n
def z7c{n:Nat} {W:List Int} (h:WB n W):∀{l:List AF},zdk n l->0<=z3y W l
  | [],_=>Int.le_refl _
  | f::l,hl=>by
    have h1:=zle h (hl f List.mem_cons_self)
    have h2:=z7c h (l:=l) λg hg=>hl g (List.mem_cons_of_mem _ hg)
    rw[z3y];omega
def z2t{W V:List Int}:∀{l:List AF},(∀f∈l,rAt V f.ty=rAt W f.ty)->z3y V l=z3y W l
 | [],_=>rfl
 |f::l,h=>by rw[z3y,z3y,h f List.mem_cons_self,z2t λg hg=>h g (List.mem_cons_of_mem _ hg)]
def zhw{n:Nat} {W:List Int} (h:WB n W):∀{l:List AF},zdk n l->∀f∈l,rAt W f.ty<=z3y W l
  | g::l,hl,f,hf=>by
    have h2:=z7c h (l:=l) λg hg=>hl g (List.mem_cons_of_mem _ hg)
    have h1:=zle h (hl g List.mem_cons_self)
    rw[z3y]
    rcases List.mem_cons.1 hf with rfl|hf
    · omega
    · have:=zhw h (λg hg=>hl g (List.mem_cons_of_mem _ hg)) f hf;omega
def zs7{n:Nat} {i:Nat} (hi:i<n):∀{l:List AF} {W:List Int},WB n W->zdk n l->WB n (wfs W i l)/\(∀t:Int,0<=t->t≠i->rAt (wfs W i l) t=rAt W t)/\rAt W i<=rAt (wfs W i l) i/\((∀f∈l,f.ty≠i)->wMn (rAt W i) (z3y W l)<=rAt (wfs W i l) i)
  | [],W,h,hl=>by
    rw[wfs,z3y]
    refine⟨h,λ_ _ _=>rfl,Int.le_refl _,λ_=> ?_⟩
    have:=h.2 i hi
    unfold wMn;split<;>omega
  | f ::l,W,h,hl=>by
    have hil:i<W.length:=by have:=h.1;omega
    have h1:=zle h (hl f List.mem_cons_self)
    have h0:=h.2 i hi
    have hw:=z66 h hi (zcw h0.1 h1.1)
    have hl2:zdk n l:=λg hg=>hl g (List.mem_cons_of_mem _ hg)
    obtain⟨a1,a2,a3,a4⟩:=zs7 hi hw hl2
    rw[z25 hil,if_pos rfl]at a3 a4
    rw[wfs]
    refine⟨a1,λt ht hne=> ?_,?_,λhne=> ?_⟩
    · rw[a2 t ht hne,z2s hil _ ht,if_neg hne]
    · refine Int.le_trans ?_ a3
      unfold wMn;split<;>omega
    · have a4:=a4 λg hg=>hne g (List.mem_cons_of_mem _ hg)
      have e:z3y (W.set i (wMn (rAt W i) (rAt W f.ty))) l=z3y W l:=z2t λg hg=>by
        rw[z2s hil _ (hl2 g hg).1,if_neg (hne g (List.mem_cons_of_mem _ hg))]
      rw[e]at a4
      have hp:=z7c h hl2
      refine Int.le_trans ?_ a4
      rw[z3y]
      unfold wMn
      (repeat' split)<;>omega
def WI(R W:List Int) (i:Nat) (a:AT):Prop:=1<=rAt W i/\(a.k=9->wMn 1 (z3y W a.fs)<=rAt W i)/\(a.k=14->wMn 1 (rAt W (a.brs.getD (chF R a.brs) 0))<=rAt W i)
def jag{R W:List Int} (hS:z0a S) (h:RKI S R K) (hW:WB S.length W) {i:Nat} (hi:i<S.length) (h0:0<=rAt R i):WB S.length (w1 R W i S[i])/\(∀t:Int,0<=t->t≠i->rAt (w1 R W i S[i]) t=rAt W t)/\WI R (w1 R W i S[i]) i S[i]:=by
 have hg:=hS.2 S[i] (List.getElem_mem hi)
 have hf:zdk S.length S[i].fs:=λf hf=>(hg.2.2.2.2.1 f hf).1
 have hil:i<W.length:=by have:=hW.1;omega
 have hr:=h.2 i hi
 have A:WB S.length (wU R W i S[i])/\(∀t:Int,0<=t->t≠i->rAt (wU R W i S[i]) t=rAt W t)/\1<=rAt (wU R W i S[i]) i/\(S[i].k≠14->rAt (wU R W i S[i]) i=1)/\(S[i].k=14->rAt (wU R W i S[i]) i=wMn 1 (rAt W (S[i].brs.getD (chF R S[i].brs) 0))):=by
  have hw1:=z66 hW hi (v:=1) (by omega)
  have hil1:i<(W.set i 1).length:=by rw[List.length_set];exact hil
  unfold wU
  split
  next hk=>
   obtain⟨c1,c2,c3⟩:=z6s h hi hk h0
   have hb:=hg.2.2.1 _ (z3e c1)
   have hne:S[i].brs.getD (chF R S[i].brs) 0≠(i:Int):=λe=>by rw[e]at c3;omega
   have e1:rAt (W.set i 1) i=1:=by rw[z25 hil,if_pos rfl]
   have e2:rAt (W.set i 1) (S[i].brs.getD (chF R S[i].brs) 0)=rAt W (S[i].brs.getD (chF R S[i].brs) 0):=by rw[z2s hil _ hb.1,if_neg hne]
   rw[e1,e2]
   have hv:=zle hW hb
   refine⟨z66 hw1 hi (zcw (by omega) hv.1),λt ht hne=> ?_,?_,λh=>absurd hk h,λ_=> ?_⟩
   ·rw[z2s hil1 _ ht,if_neg hne,z2s hil _ ht,if_neg hne]
   ·rw[z25 hil1,if_pos rfl];unfold wMn;split<;>omega
   ·rw[z25 hil1,if_pos rfl]
  next hk=>
   refine⟨hw1,λt ht hne=>by rw[z2s hil _ ht,if_neg hne],by rw[z25 hil,if_pos rfl];exact Int.le_refl _,λ_=>by rw[z25 hil,if_pos rfl],λh=>absurd h hk⟩
 obtain⟨A1,A2,A3,A4,A5⟩:=A
 obtain⟨b1,b2,b3,b4⟩:=zs7 hi A1 hf
 unfold w1
 refine⟨b1,λt ht hne=>by rw[b2 t ht hne,A2 t ht hne],by omega,λhk=> ?_,λhk=> ?_⟩
 ·have hlt:=hr.2.2.1 hk h0
  have hne:∀f∈S[i].fs,f.ty≠(i:Int):=λf hf e=>by have:=hlt f hf;rw[e]at this;omega
  have b4:=b4 hne
  rw[A4 (by omega)]at b4
  rw[z2t (W:=wU R W i S[i]) λf hfm=>b2 f.ty (hf f hfm).1 (hne f hfm)]
  exact b4
 ·obtain⟨c1,c2,c3⟩:=z6s h hi hk h0
  have hb:=hg.2.2.1 _ (z3e c1)
  have hne:S[i].brs.getD (chF R S[i].brs) 0≠(i:Int):=λe=>by rw[e]at c3;omega
  rw[b2 _ hb.1 hne,A2 _ hb.1 hne,←A5 hk];exact b3
def WK(S:List AT) (R:List Int) (k:Int) (i:Nat) (W:List Int):Prop:=WB S.length W/\∀(j:Nat) (h:j<S.length),0<=rAt R j->(rAt R j<k\/rAt R j=k/\j<i)->WI R W j S[j]
def zsg{R W:List Int} {K k:Int} (hS:z0a S) (h:RKI S R K) (hk:0<=k) {i:Nat} (hi:i<S.length) (hW:WK S R k i W):WK S R k (i+1) (if rAt R i=k then w1 R W i (S.getD i zA)else W):=by
 have e:S.getD i zA=S[i]:=by rw[List.getD_eq_getElem?_getD,List.getElem?_eq_getElem hi];rfl
 rw[e]
 split
 next hr=>
  obtain⟨a1,a2,a3⟩:=jag hS h hW.1 hi (by omega)
  refine⟨a1,λj hj h0 hc=> ?_⟩
  by_cases hji:j=i
  ·subst hji;exact a3
  have hw:=hW.2 j hj h0 (by omega)
  have hr9:=λh9=>(h.2 j hj).2.2.1 h9 h0
  have hgf:=λf (hf:f∈S[j].fs)=>((hS.2 S[j] (List.getElem_mem hj)).2.2.2.2.1 f hf).1.1
  have hgb:=λb (hb:b∈S[j].brs)=>((hS.2 S[j] (List.getElem_mem hj)).2.2.1 b hb).1
  have hij:(j:Int)≠(i:Int):=by omega
  have hj0:0<=(j:Int):=by omega
  have hrk:rAt R j<=k:=by omega
  rw[←hr]at hrk
  have ne:∀t:Int,rAt R t<rAt R j->t≠(i:Int):=λt h1 e=>by rw[e]at h1;exact absurd hrk (Int.not_le.2 h1)
  refine⟨by rw[a2 j hj0 hij];exact hw.1,λh9=> ?_,λh14=> ?_⟩
  ·rw[z2t (W:=W) λf hf=>a2 f.ty (hgf f hf) (ne _ (hr9 h9 f hf).2),a2 j hj0 hij]
   exact hw.2.1 h9
  ·obtain⟨c1,c2,c3⟩:=z6s h hj h14 h0
   rw[a2 _ (hgb _ (z3e c1)) (ne _ c3),a2 j hj0 hij]
   exact hw.2.2 h14
 next hr=>exact⟨hW.1,λj hj h0 hc=>hW.2 j hj h0 (by
  by_cases hji:j=i
  ·subst hji;omega
  ·omega)⟩
def zj7{S:List AT} {R:List Int} {K k:Int} (hS:z0a S) (h:RKI S R K) (hk:0<=k):∀(c i:Nat) (W:List Int),c+i=S.length->WK S R k i W->WK S R (k+1) 0 (zo5 S R k c i W)
  | 0,i,W,hc,hW=>by
    rw[zo5]
    exact⟨hW.1,λj hj h0 hc=>hW.2 j hj h0 (by omega)⟩
  | c+1,i,W,hc,hW=>by
    rw[zo5]
    exact zj7 hS h hk c (i+1) _ (by omega) (zsg hS h hk (by omega) hW)
def ziz{S:List AT} {R:List Int} {K:Int} (hS:z0a S) (h:RKI S R K):∀(c:Nat) (k:Int) (W:List Int),0<=k->WK S R k 0 W->WK S R (k+c) 0 (wall S R c k W)
  |0,k,W,hk,hW=>by rw[wall];simpa using hW
  | c+1,k,W,hk,hW=>by
    rw[wall]
    have:=ziz hS h c (k+1) _ (by omega) (zj7 hS h hk S.length 0 W (by omega) hW)
    rw[show k+((c+1:Nat):Int)=k+1+c by omega];exact this
def zd0(hS:z0a S) (h:RKI S R K):WB S.length (wts S R)/\∀(j:Nat) (hj:j<S.length),0<=rAt R j->WI R (wts S R) j S[j]:=by
 have h0:WK S R 0 0 (List.replicate S.length 0):=⟨⟨by simp,λi hi=>by rw[z1b (by simpa using hi)];simp⟩,λj hj h1 h2=>by omega⟩
 have:=ziz hS h (S.length+1) 0 _ (by omega) h0
 refine⟨this.1,λj hj h1=>this.2 j hj h1 (.inl ?_)⟩
 have:=ja7 h hj
 omega
def z1l{t:Int}:lsB S t=true↔(0<=t/\t<(S.length:Int))/\0<=rAt (z04 S) t/\rAt (wts S (z04 S)) t<=2000:=by
 unfold lsB
 simp[and_assoc]
def z9q{S:List AT} (hS:z0a S) {i:Nat} (hi:i<S.length) (hk:S[i].k=9) (h:lsB S i=true):1+z3y (wts S (z04 S)) S[i].fs<=rAt (wts S (z04 S)) i/\∀f∈S[i].fs,lsB S f.ty=true:=by
 obtain⟨_,h1,h2⟩:=z1l.1 h
 have hR:=zd1 hS
 obtain⟨w1,w2⟩:=zd0 hS hR
 have hw:=(w2 i hi h1).2.1 hk
 have hg:=hS.2 S[i] (List.getElem_mem hi)
 have hf:zdk S.length S[i].fs:=λf hf=>(hg.2.2.2.2.1 f hf).1
 have e:1+z3y (wts S (z04 S)) S[i].fs<=rAt (wts S (z04 S)) i:=by
  unfold wMn at hw
  split at hw<;>omega
 refine⟨e,λf hfm=>z1l.2 ⟨hf f hfm,((hR.2 i hi).2.2.1 hk h1 f hfm).1,?_⟩⟩
 have:=zhw w1 hf f hfm
 omega
def zh9(hS:z0a S) {i:Nat} (hi:i<S.length) (hk:S[i].k=14) (h:lsB S i=true):1+rAt (wts S (z04 S)) (S[i].brs.getD (chF (z04 S) S[i].brs) 0)<=rAt (wts S (z04 S)) i:=by
 obtain⟨_,h1,h2⟩:=z1l.1 h
 have hR:=zd1 hS
 obtain⟨w1,w2⟩:=zd0 hS hR
 have hw:=(w2 i hi h1).2.2 hk
 unfold wMn at hw
 split at hw<;>omega
end
section
def kzs:List ByteArray->Nat
 | []=>0
 |k::l=>k.size+10+kzs l
mutual
def PV.wt:PV->Nat
 | .mk n s l ks b=>30+0*s.size+kzs ks+PV.wts l
def PV.wts:List PV->Nat
 | []=>0
 |v::l=>PV.wt v+PV.wts l
end
def z2m:∀(l m:List PV),PV.wts (l++m)=PV.wts l+PV.wts m
 | [],m=>by rw[PV.wts];simp
 |v::l,m=>by rw[List.cons_append,PV.wts,PV.wts,z2m l m];omega
def z41(v:PV):PV.wts [v]=PV.wt v:=by rw[PV.wts,PV.wts];rfl
def j2c:∀v:PV,30<=PV.wt v
 | .mk n s l ks b=>by rw[PV.wt];omega
def zj8:∀{l:List PV} {v:PV},v∈l->PV.wt v<=PV.wts l
  | a::l,v,h=>by
    rw[PV.wts]
    rcases List.mem_cons.1 h with rfl|h
    · omega
    · have:=zj8 h;omega
def za3:∀l:List PV,30*l.length<=PV.wts l
  | []=>by simp
  | v::l=>by
    have:=za3 l
    have:=j2c v
    rw[PV.wts,List.length_cons];omega
def z71:∀{l:List ByteArray} {k:ByteArray},k∈l->k.size<=kzs l
  | a::l,v,h=>by
    rw[kzs]
    rcases List.mem_cons.1 h with rfl|h
    · omega
    · have:=z71 h;omega
def z3v:∀(l m:List ByteArray),kzs (l++m)=kzs l+kzs m
 | [],m=>by rw[kzs];simp
 |v::l,m=>by rw[List.cons_append,kzs,kzs,z3v l m];omega
def z26(l:List PV) (k:Nat):PV.wts (l.take k)+PV.wts (l.drop k)=PV.wts l:=by rw[←z2m,List.take_append_drop]
variable {l:List PV}
def zj9{k:Nat} (h:k<l.length) (w:PV):PV.wts (l.set k w)+PV.wt l[k]=PV.wts l+PV.wt w:=by
 have e:=z26 l k
 rw[List.drop_eq_getElem_cons h,PV.wts]at e
 rw[List.set_eq_take_append_cons_drop,if_pos h,z2m,PV.wts];omega
def z5a:∀{l:List PV},PV.sms l↔∀v∈l,v.sm
 | []=>by unfold PV.sms;simp
 |v::l=>by unfold PV.sms;rw[z5a (l:=l)];simp
mutual
def PV.nar:PV->Prop
 | .mk n s l ks b=>s.size<=1000000/\l.length<=1000/\ks.length<=1000/\PV.nars l
def PV.nars:List PV->Prop
 | []=>True
 |v::l=>PV.nar v/\PV.nars l
end
def z76:∀{l:List PV},PV.nars l↔∀v∈l,v.nar
 | []=>by unfold PV.nars;simp
 |v::l=>by unfold PV.nars;rw[z76 (l:=l)];simp
def PV.sn(v:PV):Prop:=v.sm/\v.nar
variable {s:ByteArray} {ks:List ByteArray}
def z38{n:Int} {b:Int} (hn:0<=n/\n<18446744073709551616) (hs:s.size<=1000000) (hl:l.length<=1000) (hk:ks.length<=1000) (hks:∀k∈ks,k.size<9223372036854775808) (h:∀v∈l,v.sn):(PV.mk n s l ks b).sn:=⟨by rw[PV.sm];exact⟨hn,by omega,by omega,by omega,hks,z5a.2 λv hv=>(h v hv).1⟩,by rw[PV.nar];exact⟨hs,hl,hk,z76.2 λv hv=>(h v hv).2⟩⟩
def j1m{n:Int} {b:Int} (h:(PV.mk n s l ks b).sn):(0<=n/\n<18446744073709551616)/\s.size<=1000000/\l.length<=1000/\ks.length<=1000/\(∀k∈ks,k.size<9223372036854775808)/\∀v∈l,v.sn:=by
 obtain⟨h1,h2⟩:=h
 rw[PV.sm]at h1
 rw[PV.nar]at h2
 exact⟨h1.1,h2.1,h2.2.1,h2.2.2.1,h1.2.2.2.2.1,λv hv=>⟨z5a.1 h1.2.2.2.2.2 v hv,z76.1 h2.2.2.2 v hv⟩⟩
mutual
def PV.ss:PV->Prop
 | .mk n s l ks b=>s.size<=1000001/\PV.sss l
def PV.sss:List PV->Prop
 | []=>True
 |v::l=>PV.ss v/\PV.sss l
end
def z7b:∀{l:List PV},PV.sss l↔∀v∈l,v.ss
 | []=>by unfold PV.sss;simp
 |v::l=>by unfold PV.sss;rw[z7b (l:=l)];simp
mutual
def zro:∀{v:PV},v.nar->v.ss
  | .mk n s l ks b,h=>by
    rw[PV.nar]at h
    rw[PV.ss]
    exact⟨by omega,nars_sss h.2.2.2⟩
def nars_sss:∀{l:List PV},PV.nars l->PV.sss l
  | [],_=>by unfold PV.sss;trivial
  | v::l,h=>by
    unfold PV.nars at h
    unfold PV.sss
    exact⟨zro h.1,nars_sss h.2⟩
end
def PV.sz(v:PV):Prop:=v.sm/\v.ss
def PV.sn.sz{v:PV} (h:v.sn):v.sz:=⟨h.1,zro h.2⟩
def z4x{S:List AT} {f:Nat->Int}:∀{l:List PV} {i:Nat},(∀(j:Nat) (h:j<l.length),PV.fits S (f (i+j)) l[j]=true)->PV.fitL S f i l=true
  | [],i,h=>by rw[PV.fitL]
  | v ::l,i,h=>by
    rw[PV.fitL]
    have h0:=h 0 (by simp)
    have:=z4x (S:=S) (f:=f) (l:=l) (i:=i+1) λj hj=>by
      have:=h (j+1) (by simp;omega)
      rw[show i+1+j=i+(j+1)by omega];simpa using this
    rw[this]
    simpa using h0
variable {S:List AT}
def zbu{f:Nat->Int} {t:Int} (hf:∀i,f i=t) {l:List PV} (h:∀v∈l,PV.fits S t v=true):PV.fitL S f 0 l=true:=
 z4x λj hj=>by rw[hf];exact h _ (List.getElem_mem hj)
variable {i:Nat}
def zrf(hi:i<S.length) {n:Int} (hk:isN S[i].k=true) (h:okN S[i] n=true):PV.fits S i (.mk n (mkS []) [] [] 0)=true:=by
 rw[PV.fits,if_neg (by omega)]
 simp only[Int.toNat_natCast,List.getElem?_eq_getElem hi]
 rw[if_pos hk,h];rfl
def zgl(hi:i<S.length) {s:ByteArray} (hk:isT S[i].k=true) (h:okT S[i] s=true):PV.fits S i (.mk 0 s [] [] 0)=true:=by
 have hn:isN S[i].k=false:=by
  unfold isT at hk;have:=of_decide_eq_true hk
  unfold isN;exact decide_eq_false (by omega)
 rw[PV.fits,if_neg (by omega)]
 simp only[Int.toNat_natCast,List.getElem?_eq_getElem hi]
 rw[if_neg (by rw[hn];decide),if_pos hk,h];rfl
def zbv(hi:i<S.length) {l:List PV} {ks:List ByteArray} {b:Int} (hk:isQ S[i].k=true) (h:okP S[i] l.length ks b=true) (hl:PV.fitL S (z0c S[i] b) 0 l=true):PV.fits S i (.mk 0 (mkS []) l ks b)=true:=by
 have hq:=hk
 unfold isQ at hq;have hq:=of_decide_eq_true hq
 have hn:isN S[i].k=false:=by unfold isN;exact decide_eq_false (by omega)
 have ht:isT S[i].k=false:=by unfold isT;exact decide_eq_false (by omega)
 rw[PV.fits,if_neg (by omega)]
 simp only[Int.toNat_natCast,List.getElem?_eq_getElem hi]
 rw[if_neg (by rw[hn];decide),if_neg (by rw[ht];decide),if_pos hk,h,hl];rfl
def zc0(hi:i<S.length) (hk:S[i].k=9) {l:List PV} (hl:l.length=S[i].fs.length) (h:∀(j:Nat) (h1:j<l.length) (h2:j<S[i].fs.length),PV.fits S (S[i].fs[j]).ty l[j]=true):PV.fits S i (.mk 0 (mkS []) l [] 0)=true:=by
 refine zbv hi (by unfold isQ;exact decide_eq_true (.inl hk)) ?_ (z4x λj hj=> ?_)
 ·unfold okP
  rw[if_neg (by simp),if_pos hk];exact decide_eq_true hl
 ·have e:z0c S[i] 0 (0+j)=(S[i].fs[j]'(by omega)).ty:=by
   unfold z0c
   rw[if_pos hk,Nat.zero_add,List.getElem?_eq_getElem (by omega)]
  rw[e];exact h j hj (by omega)
def zc1(hi:i<S.length) (hk:S[i].k=14) {b:Nat} (hb:b<S[i].brs.length) {v:PV} (h:PV.fits S (S[i].brs.getD b 0) v=true):PV.fits S i (.mk 0 (mkS []) [v] [] b)=true:=by
 refine zbv hi (by unfold isQ;exact decide_eq_true (by omega)) ?_ (z4x λj hj=> ?_)
 ·unfold okP
  rw[if_neg (by simp[hk]),if_neg (by omega),if_pos hk];exact decide_eq_true ⟨by omega,by omega,rfl⟩
 ·obtain rfl:j=0:=by simp at hj;exact hj
  have e:z0c S[i] (b:Int) (0+0)=S[i].brs.getD b 0:=by
   unfold z0c
   rw[if_neg (by omega),if_pos hk,Int.toNat_natCast]
  rw[e];exact h
def zbx(hi:i<S.length) (hk:S[i].k=12) {l:List PV} (h:∀v∈l,PV.fits S S[i].it v=true):PV.fits S i (.mk 0 (mkS []) l [] 0)=true:=by
 refine zbv hi (by unfold isQ;exact decide_eq_true (by omega)) ?_ (zbu (λj=> ?_) h)
 ·unfold okP
  rw[if_neg (by simp),if_neg (by omega),if_neg (by omega),if_neg (by omega)]
 ·unfold z0c
  rw[if_neg (by omega),if_neg (by omega)]
def zbz(hi:i<S.length) (hk:S[i].k=13) {l:List PV} {ks:List ByteArray} (hl:ks.length=l.length) (hks:z1q ks=true) (h:∀v∈l,PV.fits S S[i].it v=true):PV.fits S i (.mk 0 (mkS []) l ks 0)=true:=by
 refine zbv hi (by unfold isQ;exact decide_eq_true (by omega)) ?_ (zbu (λj=> ?_) h)
 ·unfold okP
  rw[if_neg (by omega),if_neg (by omega),if_neg (by omega),if_pos hk,hks,decide_eq_true hl.symm];rfl
 ·unfold z0c
  rw[if_neg (by omega),if_neg (by omega)]
def hdL(a:ByteArray):List ByteArray->Bool
 | []=>true
 |j::_=>qea a j
def z55(a:ByteArray) (l:List ByteArray):z1q (a::l)=(vld a&&hdL a l&&z1q l):=by
 cases l with
 |nil=>rw[z1q,hdL,z1q];simp
 |cons j l=>rw[z1q,hdL]
def z8j(k a:ByteArray) (l:List ByteArray):qad k (a::l)=if qea a k=true then a::qad k l else if a=k then a::l else k::a::l:=by
 unfold qad z21
 rw[kIx]
 by_cases h:qea a k=true
 ·rw[if_pos h,if_pos h]
  simp only[List.getElem?_cons_succ,List.take_succ_cons,List.drop_succ_cons]
  split<;>rfl
 ·rw[if_neg h,if_neg h]
  simp only[List.getElem?_cons_zero,List.take_zero,List.drop_zero,List.nil_append,decide_eq_true_eq,Option.some.injEq]
def zu4{a k:ByteArray} {l:List ByteArray} (h:qea a k=true) (hl:hdL a l=true):hdL a (qad k l)=true:=by
  cases l with
  |nil=>unfold qad z21;simp[kIx,hdL,h]
  | cons j l=>
    rw[z8j]
    split
    · exact hl
    · split
      · exact hl
      · exact h
def zc5{k:ByteArray} (hk:vld k=true):∀{l:List ByteArray},z1q l=true->z1q (qad k l)=true
  | [],_=>by unfold qad z21;simp[kIx,z1q,hk]
  | a ::l,h=>by
    have h0:=h
    rw[z55,Bool.and_eq_true,Bool.and_eq_true]at h
    obtain⟨⟨h1,h2⟩,h3⟩:=h
    rw[z8j]
    split
    next hl=>rw[z55,h1,zu4 hl h2,zc5 hk h3];rfl
    next hl=>
      split
      · exact h0
      next hne=>
        rw[z55,hk,h0]
        rw[hdL]
        rcases(z9z k a).2 (by simpa using hl)with g|g
        · rw[g];rfl
        · exact absurd g.symm hne
variable {k:ByteArray}
def znb{w v:PV} (h:v∈z97 k ks l w):v=w\/v∈l:=by
 unfold z97 at h
 split at h
 ·rcases List.mem_or_eq_of_mem_set h with h|h
  ·exact .inr h
  ·exact .inl h
 ·rcases List.mem_append.1 h with h|h
  ·exact .inr (List.mem_of_mem_take h)
  ·rcases List.mem_cons.1 h with h|h
   ·exact .inl h
   ·exact .inr (List.mem_of_mem_drop h)
def zna{x:ByteArray} (h:x∈qad k ks):x=k\/x∈ks:=by
 unfold qad at h
 split at h
 ·exact .inr h
 ·rcases List.mem_append.1 h with h|h
  ·exact .inr (List.mem_of_mem_take h)
  ·rcases List.mem_cons.1 h with h|h
   ·exact .inl h
   ·exact .inr (List.mem_of_mem_drop h)
def zu7{w:PV}:PV.wts (z97 k ks l w)<=PV.wts l+PV.wt w:=by
 unfold z97
 split
 ·by_cases h:kIx k ks<l.length
  ·have:=zj9 h w;omega
  ·rw[List.set_eq_of_length_le (by omega)];omega
 ·have:=z26 l (kIx k ks)
  rw[z2m,PV.wts];omega
def zu5:kzs (qad k ks)<=kzs ks+k.size+10:=by
 unfold qad
 split
 ·omega
 ·have:kzs (ks.take (kIx k ks))+kzs (ks.drop (kIx k ks))=kzs ks:=by rw[←z3v,List.take_append_drop]
  rw[z3v,kzs];omega
end
def inM(y:SV) (R:List Int):PF:=⟨true,slP inV y R,λ_ _ h e=>z0d h e⟩
def inL(R:List Int):List SV->PF
 | [y]=>inM y R
 |_=>{}
def gIn(R:List Int):GS:=some {β:=Unit,ks:=[1],pre:=λ_=>True,mem:=λ_ xs=>inL R xs}
def srM(S:List AT) (x y:SV) (R:List Int):PF:=⟨true,λp=>z05 S x p/\slP inV y R p,λ_ _ h e=>⟨z18 h e.1,z0d h e.2⟩⟩
def arM(a:AT) (y:SV) (R:List Int):PF:=⟨true,λp=>a.ok p/\slP inV y R p,λ_ _ h e=>⟨AT.ok_mono h e.1,z0d h e.2⟩⟩
def zue(n:Nat) (R:List Int):Prop:=R.length=n/\∀t:Int,0<=t/\t<n-> -1<=rAt R t/\rAt R t<=100
def rid:AV->Option Nat
 | .ssl r _ _ _ _=>some r
 | .msl r _ _=>some r
 |_=>none
def j8z(t:T AV) (k:Nat):Option Nat:=match t.get k with
 |some a=>rid a
 |none=>none
def jc6(t:T AV) (k:Nat):Option Nat:=match t.get k with
 |some (.ptr b _)=>some b
 |_=>none
abbrev RdS:=List AT×SV×Int×SV×List Int
def z9i:Ct:=ctP RdS (λ⟨S,x,t,y,R⟩=>[scA x, .sv (.int .i64 t),svA y]) (λ⟨S,x,t,y,R⟩=>z0a S/\zue S.length R/\0<=t/\t<S.length) (λ⟨S,x,t,y,R⟩=>srM S x y R) λ⟨S,x,t,y,R⟩=> .sv (.int .i64 (rkd R (atS S t)))
def ziq:RdS->WayF:=λ⟨S,x,t,y,R⟩=>{
 ann:=λid _ _=>match id with
  |0=>some {σ:=Nat×Int,pre:=λ⟨j,m⟩=>j<=(atS S t).brs.length/\(-1<=m/\m<=100)/\z88 R ((atS S t).brs.drop j) m=z88 R (atS S t).brs (-1),t:=λ⟨j,m⟩=>[(9, .sv (.int .i64 (j:Int))),(8, .sv (.int .i64 m))],h:=λ_=>[],more:=0,μ:=λ⟨j,m⟩=>(atS S t).brs.length- j,keep:=[2,7]}
  |_=>some {σ:=Nat×Int,pre:=λ⟨j,m⟩=>j<=(atS S t).fs.length/\(0<=m/\m<=100)/\z82 R ((atS S t).fs.drop j) m=z82 R (atS S t).fs 0,t:=λ⟨j,m⟩=>[(12, .sv (.int .i64 (j:Int))),(11, .sv (.int .i64 m))],h:=λ_=>[],more:=0,μ:=λ⟨j,m⟩=>(atS S t).fs.length- j,keep:=[2,7]}}
def z6n:Ct where
 σ:=List AT×SV
 args:=λ⟨S,x⟩=>[scA x]
 h:=λ_=>[]
 m:=1
 pre:=λ⟨S,x⟩=>z0a S
 mem:=λ⟨S,x⟩=>sM S x
 r:=λ_=> .tsl 1
 h':=λ_=>[]
 m':=2
 g:=λ⟨S,x⟩=>gIn (z04 S)
def z4g(A B:List Int) (i:Nat):List Int:=A.take i++B.drop i
def zir:z6n.σ->WayF:=λ⟨S,x⟩=>{
  pub:=λi k=>match i,k with
    |8,0=>[3]
    |17,1=>[67]
    |_,_=>[]
  ann :=λid t _=>match id with
    | 0=>match j8z t 3 with
      |some r=>some {σ:=Nat,pre:=λj=>j<=S.length,t:=λj=>[(4, .sv (.int .i64 (j:Int)))],h:=λj=>[(r, .row 3 0 (z00 inV (z4g (S.map ini) (List.replicate S.length 0) j)))],more:=0,μ:=λj=>S.length- j,keep:=[1,3]}
      |none=>none
    |2=>some {σ:=Nat×SV,pre:=λ⟨j,y⟩=>j<=S.length+1,mem:=λ⟨j,y⟩=>inM y (rkN S j),t:=λ⟨j,y⟩=>[(5, .sv (.int .i64 (j:Int))),(3,svA y)],h:=λ_=>[],more:=0,μ:=λ⟨j,y⟩=>S.length+1- j,keep:=[1]}
    | _ =>match slI t 5 with
      | some k=>match j8z t 6 with
        |some r=>some {σ:=Nat,pre:=λi=>i<=S.length,t:=λi=>[(7, .sv (.int .i64 (i:Int)))],h:=λi=>[(r, .row 3 0 (z00 inV (z4g (rkS S (rkN S k.toNat)) (rkN S k.toNat) i)))],more:=0,μ:=λi=>S.length- i,keep:=[1,3,5,6]}
        |none=>none
      |none=>none}
def z50:Ct:=ctP (AT×SV×List Int) (λ⟨a,y,R⟩=>[a.av,svA y]) (λ⟨a,y,R⟩=>R.length<1000/\a.brs.length<=30/\∀b∈a.brs,0<=b/\b<R.length) (λ⟨a,y,R⟩=>arM a y R) λ⟨a,y,R⟩=> .sv (.int .i64 (chF R a.brs:Nat))
def chB(R B:List Int) (i m:Nat):Bool:=decide (0<=rAt R (B.getD i 0)/\(rAt R (B.getD m 0)<0\/rAt R (B.getD i 0)<rAt R (B.getD m 0)))
def zil:z50.σ->WayF:=λ⟨a,y,R⟩=>{
  cut :=λr t _=>match r with
    | 6 =>match slI t 6 with
      | some i=>match slI t 5 with
        |some m=>some {σ:=Unit,t:=λ_=>[(52, .sv (.bool (chB R a.brs i.toNat m.toNat)))],h:=λ_=>[],more:=0,μ:=λ_=>0,keep:=[1,2,5,6]}
        |none=>none
      |none=>none
    |_=>none
  ann:=λ_ _ _=>some {σ:=Nat×Nat,pre:=λ⟨i,m⟩=>i<=a.brs.length/\m<=i/\(m=i->m=0)/\chG R a.brs (a.brs.length- i) i m=chF R a.brs,t:=λ⟨i,m⟩=>[(6, .sv (.int .i64 (i:Int))),(5, .sv (.int .i64 (m:Int)))],h:=λ_=>[],more:=0,μ:=λ⟨i,m⟩=>a.brs.length- i,keep:=[1,2]}}
abbrev WtS:=List AT×SV×SV×List Int
def z6q:Ct where
 σ:=WtS
 args:=λ⟨S,x,y,R⟩=>[scA x,svA y]
 h:=λ_=>[]
 m:=1
 pre:=λ⟨S,x,y,R⟩=>z0a S/\zue S.length R
 mem:=λ⟨S,x,y,R⟩=>srM S x y R
 r:=λ_=> .tsl 1
 h':=λ_=>[]
 m':=2
 g:=λ⟨S,x,y,R⟩=>gIn (wts S R)
def z84(S:List AT) (R:List Int) (k:Int) (i:Nat) (W:List Int):List Int:=wall S R (S.length- k.toNat) (k+1) (zo5 S R k (S.length- i) i W)
def zcz:WtS->WayF:=λ⟨S,x,y,R⟩=>{
  pubE:=[86]
  ann :=λid t _=>match j8z t 5 with
    | some r=>match id with
      |0=>some {σ:=Nat×List Int,pre:=λ⟨k,W⟩=>k<=S.length+1/\WB S.length W/\wall S R (S.length+1- k) k W=wts S R,t:=λ⟨k,W⟩=>[(6, .sv (.int .i64 (k:Int)))],h:=λ⟨k,W⟩=>[(r, .row 3 0 (z00 inV W))],more:=0,μ:=λ⟨k,W⟩=>S.length+1- k,keep:=[1,2,5]}
      | 2=>match slI t 6 with
        |some k=>some {σ:=Nat×List Int,pre:=λ⟨i,W⟩=>i<=S.length/\WB S.length W/\z84 S R k i W=wts S R,t:=λ⟨i,W⟩=>[(7, .sv (.int .i64 (i:Int)))],h:=λ⟨i,W⟩=>[(r, .row 3 0 (z00 inV W))],more:=0,μ:=λ⟨i,W⟩=>S.length- i,keep:=[1,2,5,6]}
        |none=>none
      | _ =>match slI t 6 with
        | some k=>match slI t 7 with
          |some i=>some {σ:=Nat×List Int,pre:=λ⟨m,W⟩=>m<=(atS S i).fs.length/\WB S.length W/\z84 S R k (i.toNat+1) (wfs W i.toNat ((atS S i).fs.drop m))=wts S R,t:=λ⟨m,W⟩=>[(9, .sv (.int .i64 (m:Int)))],h:=λ⟨m,W⟩=>[(r, .row 3 0 (z00 inV W))],more:=0,μ:=λ⟨m,W⟩=>(atS S i).fs.length- m,keep:=[1,2,5,6,7,8]}
          |none=>none
        |none=>none
    |none=>none
  cut :=λi t _=>match i with
    | 13=>match j8z t 5 with
      | some r=>match slI t 6 with
        | some k=>match slI t 7 with
          |some i=>some {σ:=List Int,pre:=λW=>WB S.length W/\z84 S R k (i.toNat+1) (wfs W i.toNat (atS S i).fs)=wts S R,t:=λW=>[],h:=λW=>[(r, .row 3 0 (z00 inV W))],more:=0,μ:=λ_=>0,keep:=[1,2,5,6,7,8]}
          |none=>none
        |none=>none
      |none=>none
    |_=>none}
def zB(n:Nat):ByteArray:=mkS (List.replicate n 0)
def lsW(S:List AT) (t:Int):Int:=rAt (wts S (z04 S)) t
def lsQ(S:List AT) (t:Int) (v:GV):Prop:=PV.fits S t v.pv=true/\v.pv.sn/\(v.pv.wt:Int)<=30*lsW S t/\((atS S t).k=12\/(atS S t).k=13->v=zV)
abbrev LsS:=List AT×SV×Int×SV
def z33:CtR:=ctN LsS (λ⟨S,x,t,y⟩=>[scA x, .sv (.int .i64 t),svA y]) (λ⟨S,x,t,y⟩=>z0a S/\lsB S t=true) (λ⟨S,x,t,y⟩=>srM S x y (z04 S)) GV (λ⟨S,x,t,y⟩ v=>lsQ S t v) (λ_ v=>vM v) λ_ v=>v.av
def ztr:LsS->Nat:=λ⟨S,x,t,y⟩=>(rAt (z04 S) t).toNat
def lsI(S:List AT) (t:Int) (j:Nat) (l:List PV):Prop:=l.length=j/\j<=(atS S t).fs.length/\(∀(i:Nat) (h1:i<l.length) (h2:i<(atS S t).fs.length),PV.fits S ((atS S t).fs[i]).ty l[i]=true)/\(∀v∈l,v.sn)/\(PV.wts l:Int)<=30*z3y (wts S (z04 S)) ((atS S t).fs.take j)
def zio:LsS->WayF:=λ⟨S,x,t,y⟩=>{
 pubE:=[49,65]
 spl:=λi=>match i with
  |10=>some 10
  |14=>some 8
  |_=>none
 flo:=λi=>match i with
  |10=>some (10,[0,1])
  |14=>some (8,[0])
  |_=>none
 ann:=λ_ tt _=>match jc6 tt 8 with
  |some vb=>some {σ:=Nat×List GV,pre:=λ⟨j,fs⟩=>lsI S t j (GV.pvs fs),mem:=λ⟨j,fs⟩=>gsM fs,t:=λ⟨j,fs⟩=>[(9, .sv (.int .i64 (j:Int)))],h:=λ⟨j,fs⟩=>[(vb,rwO 40 fs.length 41),(40, .row 37 0 (z00 GV.cells fs))],more:=60,μ:=λ⟨j,fs⟩=>(atS S t).fs.length- j,keep:=[2,3,6,7,8]}
  |none=>none}
def z9f:CtR:=ctN (List AT×SV×Int) (λ⟨S,x,t⟩=>[scA x, .sv (.int .i64 t)]) (λ⟨S,x,t⟩=>z0a S) (λ⟨S,x,t⟩=>sM S x) (GV×Bool) (λ⟨S,x,t⟩ ⟨v,b⟩=>b=lsB S t/\v.pv.sn/\v.pv.wt<=60000/\(b=true->PV.fits S t v.pv=true)/\(b=false\/(atS S t).k=12\/(atS S t).k=13->v=zV)) (λ_ ⟨v,b⟩=>vM v) λ_ ⟨v,b⟩=> .tup [v.av, .sv (.bool b)]
def zg1:CtR:=ctN (List AT×SV×Int) (λ⟨S,x,t⟩=>[scA x, .sv (.int .i64 t)]) (λ⟨S,x,t⟩=>z0a S/\(atS S t).k=12) (λ⟨S,x,t⟩=>sM S x) Bool (λ⟨S,x,t⟩ b=>b=lsB S t) (λ_ _=>vM zV) λ_ b=> .tup [.agg [.int .u64 0, .str [], .nsl, .nsl, .int .i64 0], .sv (.bool b)]
end
end Go.Proofs.Ytpanaicglidfjaa.Wd
