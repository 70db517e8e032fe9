/-
  What the functions do: contracts, and their questions answered. No condition but what its theorems ask.
-/
import Derived.Test.YtpanaicglidfjaaT9
import Derived.WalkKit
import Derived.ProofKit
import Derived.OpenShut
import Derived.ShutString
import Derived.ChangeOld
import Derived.Lib.SmallJoins
namespace Go.Proofs.Ytpanaicglidfjaa.Wd
open Go.Proofs.Ytpanaicglidfjaa.Eng Go.Proofs.Ytpanaicglidfjaa.Sen Go.RowKit
set_option linter.defProp false
set_option linter.unusedVariables false
set_option linter.unusedSimpArgs false
set_option maxRecDepth 1000000
noncomputable section
theorem avalR_ok(c:Nat) (ha:q0d P 14 ((q7w qoq).below qiu c)):q0d P 14 ((q7w is12).below qiu (c+1)):=by
 refine q0v mixed (q05 (q01 qbp (q01 qhv q06))) (q0g (q04 ha (q04 qpu (q04 qjt q0q)))) (W:=wAVal true) Try.func14 (by kernel_rfl) (show 1<=2 by decide) (show 2<=2 by decide) (λs=>by kernel_rfl) λ⟨S,(x:SV),(t:Int),(d:Int),(y:SV),L,(n:Int)⟩=>(qwv c S x t d y L n).mpr ?_
 rintro⟨hmu,hS,ht,hkap,⟨hd0,hd6⟩,hn0,hn1,hL⟩ ⟨p,_,hx,hy⟩
 have hmu:(10- d).toNat<c+1:=hmu
 obtain⟨i,hi,rfl⟩:=q22 ht
 have hkap:S[i].k=12:=by have:=hkap;unfold is12 at this;rw[q1n hi]at this;exact this
 have sl:x.2.1=S.length:=hx.1.1
 have hat:=λq (hq:q0l S x q)=>q5r hq hi
 have hao:=λq (hq:q0l S x q)=>hq.2 S[i] (List.getElem_mem hi)
 have hg:=hS.2 S[i] (List.getElem_mem hi)
 have h60:=hS.1
 obtain⟨_,syl,fl,bl⟩:=q2r (hao p hx)
 have hkk:=hg.1
 have hit:=hg.2.1
 have hbr:=hg.2.2.1
 have hne:=hg.2.2.2.1
 have hfr:=λf (hf:f∈S[i].fs)=>(hg.2.2.2.2.1 f hf).1
 have hsy:=hg.2.2.2.2.2.1
 have hf30:=hg.2.2.2.2.2.2.2.1
 have hb30:=hg.2.2.2.2.2.2.2.2.1
 have hs30:=hg.2.2.2.2.2.2.2.2.2
 clear hg
 have hLl:=hL.1
 have nb:=q2k hn1
 have nr:=λ(m:Int) (h:0<m)=>q28 (n:=n) (m:=m) hL h
 have ix:∀{m:Int} (h:0<m),∃r:Nat,(r:Int)<m/\q0s L n m=r:=λ{m} h=>by
  obtain⟨r,hr⟩:=Int.eq_ofNat_of_zero_le (nr m h).1
  exact⟨r,by have:=(nr m h).2;omega,hr⟩
 simp only[decide_eq_true_eq,decide_eq_false_iff_not,Bool.not_eq_true',Bool.not_eq_false',true_and,and_true,eq_self,imp_self,implies_true,exists_const,forall_const,Int.toNat_natCast,sl,q1n hi]
 refine⟨⟨S,x,(i:Int)⟩,rfl,sl,rfl,rfl,⟨hS,by show(atS S (i:Int)).k=12;rw[q1n hi];exact hkap⟩,λq hq=>hq.1,?_⟩
 rintro bb hb ⟨p1,⟨hx1,hy1⟩,hv⟩
 simp only at hb
 have nn:n<=q0f L n/\q0f L n<=L.length:=⟨nb.1,nb.2.1⟩
 have zsn:zV.pv.sn:=by rw[qe4];exact q7k (by decide) (by rw[ms0];decide) (by decide) (by decide) (λk hk=>by cases hk) λv hv=>by cases hv
 have zwt:zV.pv.wt<=10060000:=by rw[qe4,q5f,PV.wts,kzs,ms0];decide
 have zft:bb=true->PV.fits S i zV.pv=true:=λh=>(qlf hS hi (hb.symm.trans h) (by omega) (by omega) (by omega)).1
 have fin0:∃b:AvB,b.1.n=0/\b.1.s=mkS []/\b.1.x.1=noA/\b.1.x.2.1=0/\b.1.x.2.2=0/\b.1.y.1=noA/\b.1.y.2.1=0/\b.1.y.2.2=0/\b.1.b=0/\b.2.1=bb/\b.2.2=n/\q0w S i d L n b.1 b.2.1 b.2.2/\∀q,(q0l S x q/\slP byV y L q)/\zV.ok q->b.1.ok q:=⟨⟨zV,bb,n⟩,rfl,rfl,rfl,rfl,rfl,rfl,rfl,rfl,rfl,rfl,rfl,⟨hb,⟨Int.le_refl _,hn1⟩,zsn,Nat.le_trans zwt (q6z d),zft⟩,λq _=>q6d q⟩
 refine⟨λ_=>fin0,λhbt=>⟨λ_=>fin0,λhd5=>⟨L,λq hq=>hq.1.2,λ_=>fin0,λhov=> ?_⟩⟩⟩
 clear fin0
 have H:AvH S i hi zV d:=⟨hS,hb.symm.trans hbt,zft hbt,zsn,zwt,λ_=>rfl,by omega⟩
 refine⟨⟨by omega,by omega⟩,(hat p1 hx1).1,S[i].k,S[i].nm,S[i].al.1,S[i].al.2.1,S[i].al.2.2,S[i].it,S[i].sy.1,S[i].sy.2.1,S[i].sy.2.2,S[i].hd,S[i].df,S[i].sz,S[i].f.1,S[i].f.2.1,S[i].f.2.2,S[i].br.1,S[i].br.2.1,S[i].br.2.2,λq hq=>(hat q hq.1.1).2,λk=>absurd hkap (by omega),λ_=>⟨λk=>absurd hkap (by omega),λ_=>⟨λk=>absurd hkap (by omega),λ_=>⟨λk=>absurd hkap (by omega),λ_=>⟨λk=>absurd hkap (by omega),λ_=>⟨λk=>absurd hkap (by omega),λ_=>⟨λk=>absurd hkap (by omega),λ_=>⟨λk=>absurd hkap (by omega),λ_=>⟨λk=>absurd hkap (by omega),λ_=>⟨λk=>absurd hkap (by omega),λ_=>⟨⟨λh=> ?_,λh=>absurd hkap h⟩,λham=> ?_,λham=> ?_⟩⟩⟩⟩⟩⟩⟩⟩⟩⟩⟩
 ·unfold qlt;exact q11 ⟨λg=>h,λg=> .inl g⟩
 ·obtain⟨r,hr,e⟩:=ix (m:=4) (by decide)
  have tin:=hit (.inl hkap)
  have gok:∀(q:Pub) (a:Option Addr) (cc:Nat) (fs:List GV),fs.length<=cc->q1l q a (List.take (fs.length*5) (q00 GV.cells fs))->GV.oks fs q->(GV.mk 0 (mkS []) (a,fs.length,cc) fs (none,0,0) [] 0).ok q:=λq a cc fs h1 h2 h3=>by
   rw[qe9]at h2
   unfold GV.ok
   exact⟨⟨rfl,h1,h2⟩,q0c,h3⟩
  refine⟨L,⟨hn0,hn1,by decide,by decide,hL⟩,λq hq=>hq.1.2,⟨⟨r,q0f L n,[]⟩,e.symm,rfl,rfl,λq hq=>GV.oks_iff.2 λv h=>(by cases h),⟨⟨by show(0:Int)<=r;omega,by rw[GV.pvs];show(r:Int)+0<=3;omega⟩,nn,λw hw=>(by rw[GV.pvs]at hw;cases hw),by rw[GV.pvs,PV.wts];exact Nat.zero_le _⟩⟩,?_⟩
  rintro⟨m,n1,fs⟩ hI ⟨p2,hp2,hfs⟩
  have hI:arI S S[i] L d n m n1 (GV.pvs fs):=hI
  simp only at hfs⊢
  have hI1:=hI.1
  rw[GV.pvs_len]at hI1
  have hI2:=hI.2.1
  refine⟨λhpos=> ?_,λhneg a cc _=>⟨⟨.mk 0 (mkS []) (a,fs.length,cc) fs (none,0,0) [] 0,true,n1⟩,rfl,rfl,rfl,rfl,rfl,rfl,rfl,rfl,rfl,by simp[hbt],rfl,avArr H hkap hI,λq hq=>gok q a cc fs hq.2.1 hq.2.2 hq.1.2⟩⟩
  refine⟨⟨by omega,by omega⟩,⟨S,x,S[i].it,d+1,y,L,n1⟩,rfl,sl,rfl,rfl,rfl,rfl,rfl,rfl,rfl,⟨by show(10- (d+1)).toNat<c;omega,hS,tin,trivial,⟨by show 0<=d+1;omega,by show d+1<=6;omega⟩,by show 0<=n1;omega,hI2.2,hL⟩,λq hq=>hq.1.1,?_⟩
  rintro⟨w,b2,n2⟩ hw _
  have hw:q0w S S[i].it (d+1) L n1 w b2 n2:=hw
  simp only
  have hw1:=hw.2.1
  have hI3:arI S S[i] L d n m n2 (GV.pvs fs):=⟨hI.1,⟨by show n<=n2;omega,hw1.2⟩,hI.2.2⟩
  refine⟨λhb2 a cc _=>⟨⟨.mk 0 (mkS []) (a,fs.length,cc) fs (none,0,0) [] 0,true,n2⟩,rfl,rfl,rfl,rfl,rfl,rfl,rfl,rfl,rfl,by simp[hbt],trivial,trivial,trivial,rfl,avArr H hkap hI3,λq hq=>gok q a cc fs hq.2.1 hq.2.2 hq.1.1.2⟩,λhb2=>⟨λ_=> ?_,λh=>absurd hkap h⟩⟩
  subst hb2
  exact⟨q03 q0y fs,by omega,⟨by omega,by omega⟩,⟨m- 1,n2,fs++[w]⟩,rfl,trivial,trivial,trivial,rfl,by simp,by rw[q0e];rfl,λq hq=>hq.1.1,λq hq=>q9y hq.1.2 (q52 hq.2),arI_snoc hpos hI hw,by show(m- 1).toNat<m.toNat;omega⟩
 ·unfold qlt at ham;exact absurd (of_decide_eq_false ham) (λg=>g (.inl hkap))
theorem qy3(c:Nat) (ha:q0d P 14 ((q7w qoq).below qiu c)):q0d P 14 ((q7w qoq).below qiu (c+1)):=by
 have hA:=avalR_ok c ha
 have hM:=avalO_ok c ha
 refine⟨hA.1,hA.2.1,hA.2.2.1,λs=> ?_⟩
 obtain⟨h0,e0,rA⟩:=hA.2.2.2 s
 obtain⟨h1,e1,rM⟩:=hM.2.2.2 s
 have e:h1=h0:=Option.some.inj (e1.symm.trans e0)
 subst e
 refine⟨h1,e0,λF I w vs a1 a2 a3 a4 hp a5 a6 a7=> ?_⟩
 obtain⟨m,p1,p2,p3,p4⟩:=hp
 by_cases h:(atS s.1 s.2.2.1).k=12
 ·exact rA F I w vs a1 a2 a3 a4 ⟨m,p1,p2,h,p4⟩ a5 a6 a7
 ·exact rM F I w vs a1 a2 a3 a4 ⟨m,p1,p2,h,p4⟩ a5 a6 a7
theorem ql9:∀c,q0d P 14 ((q7w qoq).below qiu c)
 |0=>CtR.below_zero (by decide) (by decide) (Sen.enters_of Try.func14 (by kernel_rfl)) λs=>rfl
 |c+1=>qy3 c (ql9 c)
theorem aval_fin:q0d P 14 (q7w qoq):=CtR.of_below ql9
mutual
def PV.cn:PV->Int
 | .mk n s l ks b=>1+ks.length+PV.cns l
def PV.cns:List PV->Int
 | []=>0
 |v::l=>PV.cn v+PV.cns l
end
mutual
def PV.nu:PV->Int
 | .mk n s l ks b=>1+PV.nus l
def PV.nus:List PV->Int
 | []=>0
 |v::l=>PV.nu v+PV.nus l
end
mutual
def PV.dp:PV->Int
 | .mk n s l ks b=>if 0<(l.length:Int)+ks.length then PV.dps l+1 else 0
def PV.dps:List PV->Int
 | []=>0
 |v::l=>if PV.dps l<PV.dp v then PV.dp v else PV.dps l
end
mutual
theorem PV.cn_nu:∀v:PV,1<=PV.nu v/\PV.nu v<=PV.cn v/\0<=PV.dp v/\PV.dp v<=PV.cn v
  | .mk n s l ks b=>by
    have h:=PV.cns_nus l
    rw[PV.nu,PV.cn,PV.dp]
    refine⟨by omega,by omega,by split<;>omega,by split<;>omega⟩
theorem PV.cns_nus:∀l:List PV,0<=PV.nus l/\PV.nus l<=PV.cns l/\0<=PV.dps l/\PV.dps l<=PV.cns l
  | []=>by rw[PV.nus,PV.cns,PV.dps];omega
  | v::l=>by
    have h:=PV.cn_nu v
    have g:=PV.cns_nus l
    rw[PV.nus,PV.cns,PV.dps]
    refine⟨by omega,by omega,by split<;>omega,by split<;>omega⟩
end
theorem PV.cns_app:∀(l m:List PV),PV.cns (l++m)=PV.cns l+PV.cns m
 | [],m=>by rw[PV.cns];simp
 |v::l,m=>by rw[List.cons_append,PV.cns,PV.cns,PV.cns_app l m];omega
theorem PV.nus_app:∀(l m:List PV),PV.nus (l++m)=PV.nus l+PV.nus m
 | [],m=>by rw[PV.nus];simp
 |v::l,m=>by rw[List.cons_append,PV.nus,PV.nus,PV.nus_app l m];omega
theorem PV.dps_app:∀(l m:List PV),PV.dps (l++m)=if PV.dps l<PV.dps m then PV.dps m else PV.dps l
  | [],m=>by
    have:=PV.cns_nus m
    rw[List.nil_append,show PV.dps []=0 by rw[PV.dps]];split<;>omega
  | v::l,m=>by
    rw[List.cons_append,PV.dps,PV.dps,PV.dps_app l m]
    (repeat' split)<;>omega
theorem PV.cns_take{l:List PV} {j:Nat} (h:j<l.length):PV.cns (l.take (j+1))=PV.cns (l.take j)+PV.cn l[j]:=by
 rw[List.take_succ_eq_append_getElem h,PV.cns_app,PV.cns,PV.cns];omega
theorem PV.nus_take{l:List PV} {j:Nat} (h:j<l.length):PV.nus (l.take (j+1))=PV.nus (l.take j)+PV.nu l[j]:=by
 rw[List.take_succ_eq_append_getElem h,PV.nus_app,PV.nus,PV.nus];omega
theorem PV.dps_take{l:List PV} {j:Nat} (h:j<l.length):PV.dps (l.take (j+1))=if PV.dps (l.take j)<PV.dp l[j]then PV.dp l[j]else PV.dps (l.take j):=by
 have:=PV.cn_nu l[j]
 have e:PV.dps [l[j]]=PV.dp l[j]:=by rw[PV.dps,show PV.dps []=0 by rw[PV.dps]];split<;>omega
 rw[List.take_succ_eq_append_getElem h,PV.dps_app,e]
theorem PV.cns_le{l:List PV} {j:Nat}:PV.cns (l.take j)<=PV.cns l:=by
 have h:=PV.cns_app (l.take j) (l.drop j)
 rw[List.take_append_drop]at h
 have:=PV.cns_nus (l.drop j)
 omega
theorem PV.cn_le{l:List PV} {j:Nat} (h:j<l.length):PV.cns (l.take j)+PV.cn l[j]<=PV.cns l:=by
 have:=PV.cns_le (l:=l) (j:=j+1)
 rw[PV.cns_take h]at this;exact this
def vLt(v:GV):Prop:=v.pv.sm/\PV.cn v.pv<=2000000
def muV:GV->Nat:=λv=>SizeOf.sizeOf v
def cSzA:Ct:=ctP GV (λv=>[v.av]) (λv=>vLt v) (λv=>vM v) λv=> .tup [.sv (.int .i64 (PV.dp v.pv)), .sv (.int .i64 (PV.nu v.pv))]
def wSzA:GV->WayF:=λv=>{
 ann:=λ_ _ _=>some {σ:=Nat,pre:=λj=>j<=v.l.length,t:=λj=>[(11, .sv (.int .i64 (j:Int))),(2, .sv (.int .i64 (PV.dps ((GV.pvs v.l).take j)))),(3, .sv (.int .i64 (1+PV.nus ((GV.pvs v.l).take j))))],h:=λ_=>[],more:=0,μ:=λj=>v.l.length- j,keep:=[0,1,9,10]}}
noncomputable section
variable (x0:GV) (x1:Nat) (x2:Nat) (x3:Prop)
 abbrev zcs5:=(GV.x x0).1=(GV.x x0).1/\(GV.x x0).2.1=(GV.x x0).2.1/\(GV.x x0).2.2=(GV.x x0).2.2/\x3
 abbrev zcs3:=GV.n x0=GV.n x0/\GV.s x0=GV.s x0/\zcs5 x0 ((GV.y x0).1=(GV.y x0).1/\(GV.y x0).2.1=(GV.y x0).2.1/\(GV.y x0).2.2=(GV.y x0).2.2/\GV.b x0=GV.b x0/\x3)
 abbrev qgd:=List.take x1 (GV.pvs (GV.l x0))
 abbrev qoo:=(↑(GV.x x0).2.1:Int)
 abbrev zcs11:=(∀(i0:Pub),True/\GV.ok x0 i0->True/\GV.ok x0 i0)/\x1<=List.length (GV.l x0)/\x3
 abbrev zcs2:=(0<=(↑x1:Int)/\(↑x1:Int)<(qoo x0))/\(GV.x x0).1≠noA/\∃(i0:Int),∃(i1:ByteArray),∃(i2:Option Addr),∃(i3:Nat),∃(i4:Nat),∃(i5:Option Addr),∃(i6:Nat),∃(i7:Nat),∃(i8:Int),(∀(i9:Pub),True/\GV.ok x0 i9->q02 i9 (adr (GV.x x0).1 (Int.toNat (↑x1:Int)*5)) [Value.int IntKind.u64 i0,Value.string i1,Value.slice i2 i3 i4,Value.slice i5 i6 i7,Value.int IntKind.i64 i8])/\∃(i10:GV),GV.n i10=i0/\GV.s i10=i1/\(GV.x i10).1=i2/\(GV.x i10).2.1=i3/\(GV.x i10).2.2=i4/\(GV.y i10).1=i5/\(GV.y i10).2.1=i6/\(GV.y i10).2.2=i7/\GV.b i10=i8/\(muV i10<x2/\vLt i10)/\(∀(i11:Pub),True/\GV.ok x0 i11->GV.ok i10 i11)/\((-9223372036854775808:Int)<=1+PV.nus (qgd x0 x1)+PV.nu (GV.pv i10)/\(1:Int)+PV.nus (qgd x0 x1)+PV.nu (GV.pv i10)<=9223372036854775807)/\((-9223372036854775808:Int)<=(↑x1:Int)+1/\(↑x1:Int)+1<=9223372036854775807)/\∃(i12:Nat),zcs3 x0 ((1:Int)+PV.nus (qgd x0 i12)=1+PV.nus (qgd x0 x1)+PV.nu (GV.pv i10)/\(↑i12:Int)=(↑x1:Int)+1/\zcs5 x0 ((PV.dps (qgd x0 i12)=if PV.dp (GV.pv i10)>PV.dps (qgd x0 x1)then PV.dp (GV.pv i10)else PV.dps (qgd x0 x1))/\(qoo x0)=(qoo x0)/\zcs3 x0 (zcs11 x0 i12 (List.length (GV.l x0)- i12<List.length (GV.l x0)- x1/\True))))
 abbrev zcs9:=(↑(GV.y x0).2.1:Int)
 abbrev zcs6:=((-9223372036854775808:Int)<=PV.dps (qgd x0 x1)+1/\PV.dps (qgd x0 x1)+1<=9223372036854775807)/\PV.dp (GV.pv x0)=PV.dps (qgd x0 x1)+1/\PV.nu (GV.pv x0)=1+PV.nus (qgd x0 x1)/\True
 abbrev zcs10:=PV.dp (GV.pv x0)=PV.dps (qgd x0 x1)/\PV.nu (GV.pv x0)=1+PV.nus (qgd x0 x1)/\True
 abbrev zcs4:=((-9223372036854775808:Int)<=(qoo x0)+(zcs9 x0)/\(qoo x0)+(zcs9 x0)<=9223372036854775807)/\(decide (0<(qoo x0)+(zcs9 x0))=true->zcs6 x0 x1)/\(decide (0<(qoo x0)+(zcs9 x0))=false->zcs10 x0 x1)
 abbrev zcs1:=(decide ((↑x1:Int)<(qoo x0))=true->zcs2 x0 x1 x2)/\(decide ((↑x1:Int)<(qoo x0))=false->zcs4 x0 x1)
 abbrev zcs0:=(∃(i0:Nat),zcs3 x0 ((1:Int)+PV.nus (qgd x0 i0)=1/\(↑i0:Int)=0/\zcs5 x0 (PV.dps (qgd x0 i0)=0/\(qoo x0)=(qoo x0)/\zcs3 x0 (zcs11 x0 i0 True))))/\∀(i2:Nat),i2<=List.length (GV.l x0)->zcs1 x0 i2 x1
end
theorem szA_eqz(n:Nat) (v:GV):q2h P (q0r [(33,cSzA.below muV n)]) Try.f33 (cSzA.below muV (n+1)) (wSzA) v=(muV v<n+1/\vLt v->(∃(p:Pub),True/\GV.ok v p)->zcs0 v n):=by kernel_rfl
def szA_eq(n:Nat) (v:GV):=Eq.trans (szA_eqz n v) (by delta zcs5 zcs3 qgd qoo zcs11 zcs2 zcs9 zcs6 zcs10 zcs4 zcs1 zcs0;exact rfl)
theorem gv_at{v:GV} {j:Nat} (hj:j<v.l.length) {q:Pub} (h:v.ok q):v.x.1≠noA/\q02 q (adr v.x.1 (j*5)) (v.l[j]).cells:=q1m q0y (by decide) (by rw[GV.ok_eq]at h;exact h.1) hj
theorem gv_kid{v:GV} {j:Nat} (hj:j<v.l.length) {q:Pub} (h:v.ok q):(v.l[j]).ok q:=GV.oks_at (by rw[GV.ok_eq]at h;exact h.2.2) hj
theorem gv_lens{v:GV} {q:Pub} (h:v.ok q):v.x.2.1=v.l.length/\v.y.2.1=v.ks.length:=by
 rw[GV.ok_eq]at h;exact⟨h.1.1,h.2.1.1⟩
theorem qey{v:GV} {j:Nat} (hj:j<v.l.length):j<(GV.pvs v.l).length:=by rw[GV.pvs_len];exact hj
theorem mu_kid{v:GV} {j:Nat} (hj:j<v.l.length):muV v.l[j]<muV v:=by
 have h1:=q9z hj
 have h2:SizeOf.sizeOf v.l<SizeOf.sizeOf v:=by cases v;simp[GV.l];omega
 exact Nat.lt_trans h1 h2
theorem cn_v(v:GV):PV.cn v.pv=1+v.ks.length+PV.cns (GV.pvs v.l):=by rw[GV.pv_eq,PV.cn]
theorem sm_kid{v:GV} (h:v.pv.sm) {j:Nat} (hj:j<v.l.length):(v.l[j]).pv.sm:=by
 rw[GV.sm_eq]at h
 have:=PV.sms_at h.2.2.2.2.2 (qey hj)
 rw[q5p hj]at this;exact this
theorem lt_kid{v:GV} (h:vLt v) {j:Nat} (hj:j<v.l.length):vLt v.l[j]:=by
 refine⟨sm_kid h.1 hj,?_⟩
 have h1:=PV.cn_le (qey hj)
 rw[q5p hj]at h1
 have h2:=(PV.cns_nus ((GV.pvs v.l).take j)).2
 have h3:=h.2
 rw[cn_v]at h3
 omega
theorem szA_ok(n:Nat) (hc:q15 P 33 (cSzA.below muV n)):q15 P 33 (cSzA.below muV (n+1)):=by
 refine q0h mixed (q05 (q01 hc q06)) (W:=wSzA) Try.func33 (by kernel_rfl) (show 1<=1 by decide) (show 1<=1 by decide) (λs=>by kernel_rfl) λ(v:GV)=>(szA_eq n v).mpr ?_
 rintro⟨hmu,hv⟩ ⟨p,_,hp⟩
 obtain⟨hxl,hyl⟩:=gv_lens hp
 have hl:=hv.1
 rw[GV.sm_eq]at hl
 have hcn:=hv.2
 rw[cn_v]at hcn
 have hcs:=PV.cns_nus (GV.pvs v.l)
 have hnu:PV.nu v.pv=1+PV.nus (GV.pvs v.l):=by rw[GV.pv_eq,PV.nu]
 have hdp:PV.dp v.pv=if 0<((GV.pvs v.l).length:Int)+v.ks.length then PV.dps (GV.pvs v.l)+1 else 0:=by rw[GV.pv_eq,PV.dp]
 rw[GV.pvs_len]at hdp
 simp only[decide_eq_true_eq,decide_eq_false_iff_not,Bool.not_eq_true',Bool.not_eq_false',true_and,and_true,eq_self,imp_self,implies_true,Int.toNat_natCast]
 refine⟨⟨0,?_,rfl,?_,Nat.zero_le _⟩,λj hj=>⟨λhlt=> ?_,λhge=> ?_⟩⟩
 ·rw[List.take_zero,PV.nus];omega
 ·rw[List.take_zero,PV.dps]
 ·have hjl:j<v.l.length:=by omega
  have hk:=PV.cn_le (qey hjl)
  have ht:=PV.nus_take (qey hjl)
  have hd:=PV.dps_take (qey hjl)
  rw[q5p hjl]at hk ht hd
  have h0:=PV.cns_nus ((GV.pvs v.l).take j)
  have h1:=PV.cn_nu (v.l[j]).pv
  refine⟨by omega,(gv_at hjl hp).1,v.l[j].n,v.l[j].s,v.l[j].x.1,v.l[j].x.2.1,v.l[j].x.2.2,v.l[j].y.1,v.l[j].y.2.1,v.l[j].y.2.2,v.l[j].b,λq hq=>(gv_at hjl hq).2,v.l[j],?_⟩
  simp only[true_and,eq_self]
  refine⟨⟨?_,lt_kid hv hjl⟩,λq hq=>gv_kid hjl hq,by omega,by omega,j+1,?_,rfl,hd,by omega,by omega⟩
  ·have:=mu_kid hjl;omega
  ·rw[ht];omega
 ·obtain rfl:j=v.l.length:=by omega
  rw[List.take_of_length_le (by rw[GV.pvs_len];exact Nat.le_refl _),hnu,hdp]
  refine⟨by omega,λh=>⟨by omega,?_,rfl⟩,λh=>⟨?_,rfl⟩⟩
  ·rw[if_pos (by omega)]
  ·rw[if_neg (by omega)]
   have h0:GV.pvs v.l=[]:=List.eq_nil_of_length_eq_zero (by rw[GV.pvs_len];omega)
   rw[h0,PV.dps]
theorem qtm:∀n,q15 P 33 (cSzA.below muV n)
 |0=>Ct.below_zero (by decide) (by decide) (Sen.enters_of Try.func33 (by kernel_rfl)) λs=>⟨rfl,rfl⟩
 |n+1=>szA_ok n (qtm n)
theorem szA_fin:q15 P 33 cSzA:=Ct.of_below qtm
def q8r:Ct where
 σ:=Unit
 args:=λ_=>[]
 h:=λ_=>[]
 m:=1
 r:=λ_=> .bool true
 h':=λ_=>[]
 m':=1
 g:=λ_=>none
def qko:q8r.σ->WayF:=λ_=>{pub:=λi k=>match i,k with
 |3,1=>[10]
 |4,2=>[7]
 |_,_=>[]}
def cMade:Ct where
 σ:=SV
 args:=λx=>[svA x]
 h:=λ_=>[]
 m:=1
 r:=λ_=> .ptr 1 0
 h':=λx=>pkO x 0
 m':=2
 g:=λ_=>none
noncomputable section
variable (x0:Nat->Option Obj) (x1:Nat) (x2:Nat) (x3:Nat) (x4:Nat) (x5:FtS) (x6:Int) (x7:Prop) (x8:GV×GV) (x9:GV)
 abbrev zct2:=True/\∀(i0:Nat) (i1:Value),[Value.int IntKind.u64 5,Value.string (mkS []),Value.slice noA 0 0,Value.slice noA 0 0,Value.int IntKind.i64 0][i0]? =some i1->q2q x0 (Addr.add (Addr.mk x1 x2 none) i0)=some i1
 abbrev zct0:=(zct2 x0 x1 x2)/\∀(i2:Nat) (i3:Value),[Value.int IntKind.i64 3,Value.string (mkS []),Value.slice noA 0 0,Value.int IntKind.i64 0,Value.slice noA 0 0,Value.bool false,Value.string (mkS []),Value.int IntKind.i64 0,Value.slice noA 0 0,Value.slice noA 0 0,Value.int IntKind.i64 12,Value.string (mkS []),Value.slice noA 0 0,Value.int IntKind.i64 0,Value.slice noA 0 0,Value.bool false,Value.string (mkS []),Value.int IntKind.i64 0,Value.slice noA 0 0,Value.slice noA 0 0][i2]? =some i3->q2q x0 (Addr.add (Addr.mk x3 x4 none) i2)=some i3
 abbrev zct1:=x5.2.1.1=some (Addr.mk x1 (x2+nat_lit 0) none)/\x5.2.1.2.1=nat_lit 2/\x5.2.1.2.2=nat_lit 2/\x5.2.2.1=x6/\GV.n x5.2.2.2=0/\GV.s x5.2.2.2=mkS []/\(GV.x x5.2.2.2).1=some (Addr.mk x3 (x4+nat_lit 0) none)/\(GV.x x5.2.2.2).2.1=nat_lit 1/\(GV.x x5.2.2.2).2.2=nat_lit 1/\(GV.y x5.2.2.2).1=noA/\(GV.y x5.2.2.2).2.1=0/\(GV.y x5.2.2.2).2.2=0/\GV.b x5.2.2.2=0/\(small x5.1/\PV.sm (GV.pv x5.2.2.2))/\(∀(i0:Pub),(zct0 i0 x3 x4 x1 x2)->q0l x5.1 x5.2.1 i0/\GV.ok x5.2.2.2 i0)/\x7
 abbrev zct3:=GV.n x8.1=0/\GV.s x8.1=mkS []/\(GV.x x8.1).1=some (Addr.mk x1 (x2+nat_lit 0) none)/\(GV.x x8.1).2.1=nat_lit 1/\(GV.x x8.1).2.2=nat_lit 1/\(GV.y x8.1).1=noA/\(GV.y x8.1).2.1=0/\(GV.y x8.1).2.2=0/\GV.b x8.1=0/\GV.n x8.2=0/\GV.s x8.2=mkS []/\x7
 abbrev zct4:=(GV.y x8.2).1=noA/\(GV.y x8.2).2.1=0/\(GV.y x8.2).2.2=0/\GV.b x8.2=0/\(PV.sm (GV.pv x8.1)/\PV.sm (GV.pv x8.2))/\(∀(i0:Pub),(zct0 i0 x1 x2 x3 x4)->GV.ok x8.1 i0/\GV.ok x8.2 i0)/\x7
 abbrev zct5:=(decide (PV.dp (GV.pv x9)=1)=true->true=decide (PV.nu (GV.pv x9)=2)/\True)/\(decide (PV.dp (GV.pv x9)=1)=false->False)
end
theorem qgg(u:Unit):q2h P (q0r [(16,qfn),(33,cSzA),(34,qgt)]) Try.f13 q8r (qko) u=(True->∀(b s u:Nat),(∃(p:Pub),True/\q02 p (Addr.mk b s none) [Value.int IntKind.u64 5,Value.string (mkS []),Value.slice noA 0 0,Value.slice noA 0 0,Value.int IntKind.i64 0])->∃(s_1:GV),GV.n s_1=0/\GV.s s_1=mkS []/\(GV.x s_1).1=some (Addr.mk b (s+nat_lit 0) none)/\(GV.x s_1).2.1=nat_lit 1/\(GV.x s_1).2.2=nat_lit 1/\(GV.y s_1).1=noA/\(GV.y s_1).2.1=0/\(GV.y s_1).2.2=0/\GV.b s_1=0/\vLt s_1/\(∀(p:Pub),(zct2 p b s)->GV.ok s_1 p)/\∀(b_1 s_2 u:Nat),(∃(p:Pub),(zct2 p b s)/\q02 p (Addr.mk b_1 s_2 none) [Value.int IntKind.i64 3,Value.string (mkS []),Value.slice noA 0 0,Value.int IntKind.i64 0,Value.slice noA 0 0,Value.bool false,Value.string (mkS []),Value.int IntKind.i64 0,Value.slice noA 0 0,Value.slice noA 0 0,Value.int IntKind.i64 12,Value.string (mkS []),Value.slice noA 0 0,Value.int IntKind.i64 0,Value.slice noA 0 0,Value.bool false,Value.string (mkS []),Value.int IntKind.i64 0,Value.slice noA 0 0,Value.slice noA 0 0])->∃(s_3:FtS),zct1 b_1 s_2 b s s_3 1 ((PV.fits s_3.1 s_3.2.2.1 (GV.pv s_3.2.2.2)=true->∃(s_4:FtS),zct1 b_1 s_2 b s s_4 0 (((!PV.fits s_4.1 s_4.2.2.1 (GV.pv s_4.2.2.2))=true->∃(s_5:GV×GV),zct3 b s ((GV.x s_5.2).1=some (Addr.mk b (s+nat_lit 0) none)/\(GV.x s_5.2).2.1=nat_lit 1/\(GV.x s_5.2).2.2=nat_lit 1/\zct4 b s b_1 s_2 ((PV.same (GV.pv s_5.1) (GV.pv s_5.2)=true->∃(s_6:GV×GV),zct3 b s ((GV.x s_6.2).1=noA/\(GV.x s_6.2).2.1=0/\(GV.x s_6.2).2.2=0/\zct4 b s b_1 s_2 (((!PV.same (GV.pv s_6.1) (GV.pv s_6.2))=true->zct5 s_1)/\((!PV.same (GV.pv s_6.1) (GV.pv s_6.2))=false->False)) s_6) s_6)/\(PV.same (GV.pv s_5.1) (GV.pv s_5.2)=false->False)) s_5) s_5)/\((!PV.fits s_4.1 s_4.2.2.1 (GV.pv s_4.2.2.2))=false->False)))/\(PV.fits s_3.1 s_3.2.2.1 (GV.pv s_3.2.2.2)=false->False))):=by kernel_rfl
def qm7(u:Unit):=Eq.trans (qgg u) (by delta zct2 zct0 zct1 zct3 zct4 zct5;exact rfl)
theorem made_eq(x:SV):q2h P (λ_=>none) Try.f8 cMade (λ_=>{}) x=(True->Prod.fst x=Prod.fst x/\Prod.fst (Prod.snd x)=Prod.fst (Prod.snd x)/\Prod.snd (Prod.snd x)=Prod.snd (Prod.snd x)/\(0:Int)=(0:Int)/\True):=by kernel_rfl
theorem made_ok:q15 P 8 cMade:=by
 refine q0h mixed q1o (W:=λ_=>{}) Try.func8 (by kernel_rfl) (by decide) (by decide) (λs=>by kernel_rfl) λ(x:SV)=>(made_eq x).mpr ?_
 simp only[true_and,and_true,eq_self,imp_self,implies_true]
theorem q7m{S:List AT} (h:q0j S):small S:=⟨by have:=h.1;omega,λe he=>by have:=(h.2 e he).2.2.2.2.2.2.2;omega⟩
theorem qo9{S:List AT} (h:q0j S):q4m S:=λe he=>(h.2 e he).1
def tK(k it:Int):AT:=⟨k,mkS [],(none,0,0),[],it,(none,0,0),[],false,mkS [],0,(none,0,0),[],(none,0,0),[]⟩
def S20:List AT:=[tK 3 0,tK 12 0]
def bV:GV:= .mk 5 (mkS []) (none,0,0) [] (none,0,0) [] 0
def aV(x:SV):GV:= .mk 0 (mkS []) x [bV] (none,0,0) [] 0
def aP:PV:= .mk 0 (mkS []) [.mk 5 (mkS []) [] [] 0] [] 0
theorem qr5(x:SV):(aV x).pv=aP:=by unfold aV bV;rw[GV.pv,GV.pvs,GV.pvs,GV.pv,GV.pvs];rfl
theorem tK_ok(k it:Int) (p:Pub):(tK k it).ok p:=⟨q0c,q0c,q0c,q0c,λf hf=>absurd hf (by simp[tK])⟩
theorem qs5{p:Pub} {b s:Nat} (h:q02 p ⟨b,s,none⟩ (q00 AT.cells S20)):q0l S20 (some ⟨b,s+0,none⟩,2,2) p:=
 ⟨⟨rfl,Nat.le_refl _, .inr ⟨_,rfl,rfl,h⟩⟩,λe he=>by simp[S20]at he;rcases he with rfl|rfl<;>exact tK_ok _ _ _⟩
theorem qg8:small S20:=⟨by decide,λe he=>by simp[S20]at he;rcases he with rfl|rfl<;>decide⟩
theorem bV_ok(p:Pub):bV.ok p:=by unfold bV GV.ok GV.oks;exact⟨q0c,q0c,trivial⟩
theorem qnv{p:Pub} {b s:Nat} (h:q02 p ⟨b,s,none⟩ (q00 GV.cells [bV])):(aV (some ⟨b,s+0,none⟩,1,1)).ok p:=by
 unfold aV GV.ok;unfold GV.oks;unfold GV.oks
 exact⟨⟨rfl,Nat.le_refl _, .inr ⟨_,rfl,rfl,h⟩⟩,q0c,bV_ok p,trivial⟩
theorem aP_sm:aP.sm:=by
 unfold aP PV.sm PV.sms PV.sms PV.sm PV.sms
 exact⟨⟨by decide,by decide⟩,by decide,by decide,by decide,λk h=>by simp at h,⟨⟨by decide,by decide⟩,by decide,by decide,by decide,λk h=>by simp at h,trivial⟩,trivial⟩
theorem aP_cn:PV.cn aP=2:=by decide+kernel
theorem aP_dp:PV.dp aP=1:=by decide+kernel
theorem aP_nu:PV.nu aP=2:=by decide+kernel
theorem aP_fit:PV.fits S20 1 aP=true:=by decide+kernel
theorem qtx:PV.fits S20 0 aP=false:=by decide+kernel
theorem aP_same:PV.same aP zV.pv=false:=by decide+kernel
theorem zP_sm:zV.pv.sm:=by
 unfold zV GV.pv GV.pvs PV.sm PV.sms
 exact⟨⟨by decide,by decide⟩,by decide,by decide,by decide,λk h=>by simp at h,trivial⟩
theorem qm2:q15 P 13 q8r:=by
 refine q0h mixed (q05 (q01 qkz (q01 szA_fin (q01 same_fin q06)))) (W:=qko) Try.func13 (by kernel_rfl) (by decide) (by decide) (λs=>by kernel_rfl) λ(u:Unit)=>(qm7 u).mpr ?_
 intro _ b s u _
 have ep:=λx=>qr5 x
 have sm:∀x,(aV x).pv.sm:=λx=>by rw[qr5];exact aP_sm
 have lt:∀x,vLt (aV x):=λx=>⟨sm x,by rw[qr5,aP_cn];decide⟩
 simp only[decide_eq_true_eq,decide_eq_false_iff_not,Bool.not_eq_true',Bool.not_eq_false',true_and,and_true,eq_self,imp_self,implies_true,exists_const]
 refine⟨aV (some ⟨b,s+0,none⟩,1,1),rfl,rfl,rfl,rfl,rfl,rfl,rfl,rfl,rfl,lt _,λp h=>qnv h,?_⟩
 intro b1 s1 u1 _
 refine⟨⟨S20,(some ⟨b1,s1+0,none⟩,2,2),1,aV (some ⟨b,s+0,none⟩,1,1)⟩,rfl,rfl,rfl,rfl,rfl,rfl,rfl,rfl,rfl,rfl,rfl,rfl,rfl,⟨qg8,sm _⟩,λp h=>⟨qs5 h.2,qnv h.1⟩,?_⟩
 simp only[qr5,aP_fit,qtx]
 have hs1:=qft aP
 refine⟨λ_=>⟨⟨S20,(some ⟨b1,s1+0,none⟩,2,2),0,aV (some ⟨b,s+0,none⟩,1,1)⟩,rfl,rfl,rfl,rfl,rfl,rfl,rfl,rfl,rfl,rfl,rfl,rfl,rfl,⟨qg8,sm _⟩,λp h=>⟨qs5 h.2,qnv h.1⟩,λ_=>⟨⟨aV (some ⟨b,s+0,none⟩,1,1),aV (some ⟨b,s+0,none⟩,1,1)⟩,rfl,rfl,rfl,rfl,rfl,rfl,rfl,rfl,rfl,rfl,rfl,rfl,rfl,rfl,rfl,rfl,rfl,rfl,⟨sm _,sm _⟩,λp h=>⟨qnv h.1,qnv h.1⟩,λ_=>⟨⟨aV (some ⟨b,s+0,none⟩,1,1),zV⟩,rfl,rfl,rfl,rfl,rfl,rfl,rfl,rfl,rfl,rfl,rfl,rfl,rfl,rfl,rfl,rfl,rfl,rfl,⟨sm _,zP_sm⟩,λp h=>⟨qnv h.1,q6d p⟩,?_⟩,?_⟩,?_⟩,?_⟩
 all_goals simp[qr5,hs1,aP_same,aP_fit,qtx,aP_dp,aP_nu]
abbrev LtS:=SV×List Int×SV×List Int×Int×Int
def twM(x:SV) (L:List Int) (y:SV) (M:List Int):PF:=⟨true,λp=>slP byV x L p/\slP byV y M p,λ_ _ h e=>⟨q0i h e.1,q0i h e.2⟩⟩
def qwo(L:List Int):Prop:=L.length<9223372036854775808/\∀b∈L,0<=b/\b<256
def cLawAT:Ct:=ctP LtS (λ⟨x,L,y,M,how,n⟩=>[svA x,svA y, .sv (.int .u8 how), .sv (.int .u64 n)]) (λ⟨x,L,y,M,how,n⟩=>qwo L/\qwo M/\(0<=how/\how<256)/\0<=n/\n<18446744073709551616) (λ⟨x,L,y,M,how,n⟩=>twM x L y M) λ_=> .sv (.bool true)
def wLawAT:LtS->WayF:=λ_=>{
 spl:=λi=>match i with
  |8=>some 3
  |_=>none
 flo:=λi=>match i with
  |8=>some (7,[3])
  |_=>none}
noncomputable section
variable (x0:AvB) (x1:Int) (x2:Int) (x3:SV) (x4:List Int) (x5:SV) (x6:List Int) (x7:List AT×(Option Addr×Nat×Nat)×Bool×Int) (x8:FtS) (x9:GV) (x10:FtS) (x11:Prop) (x12:Nat->Option Obj) (x13:Option Addr×Nat×Nat)
 abbrev qv4:=x1<(↑x3.2.1:Int)
 abbrev zcu16:=x13.1=x3.1/\x13.2.1=x3.2.1/\x13.2.2=x3.2.2/\True/\x11
 abbrev qgp:=(True/\slP byV x3 x4 x12/\slP byV x5 x6 x12)/\q0l x7.1 x7.2.1 x12
 abbrev qp6:=Value.slice x7.2.1.1 x7.2.1.2.1 x7.2.1.2.2
 abbrev zcu14:=x8.2.1.1=x7.2.1.1/\x8.2.1.2.1=x7.2.1.2.1/\x8.2.1.2.2=x7.2.1.2.2/\x8.2.2.1=0/\x11
 abbrev zcu12:=(∀(i0:Pub),((qgp x3 x4 x5 x6 x7 i0)/\GV.ok x0.1 i0)/\GV.ok x9 i0->q0l x8.1 x8.2.1 i0/\GV.ok x8.2.2.2 i0)
 abbrev qll:=PV.fits x8.1 x8.2.2.1 (GV.pv x8.2.2.2)=PV.fits x8.1 x8.2.2.1 (GV.pv x8.2.2.2)
 abbrev zcu10:=zcu14 x7 x8 (GV.n x8.2.2.2=GV.n x9/\GV.s x8.2.2.2=GV.s x9/\(GV.x x8.2.2.2).1=(GV.x x9).1/\(GV.x x8.2.2.2).2.1=(GV.x x9).2.1/\(GV.x x8.2.2.2).2.2=(GV.x x9).2.2/\(GV.y x8.2.2.2).1=(GV.y x9).1/\(GV.y x8.2.2.2).2.1=(GV.y x9).2.1/\(GV.y x8.2.2.2).2.2=(GV.y x9).2.2/\GV.b x8.2.2.2=GV.b x9/\x11)
 abbrev zcu18:=Value.slice (GV.x x9).1 (GV.x x9).2.1 (GV.x x9).2.2
 abbrev zcu19:=Value.slice (GV.y x9).1 (GV.y x9).2.1 (GV.y x9).2.2
 abbrev zcu8:=AV.agg [AV.sv (qp6 x7)]=AV.agg [AV.sv (qp6 x7)]/\AV.agg [AV.sv (Value.int IntKind.u64 (GV.n x9)),AV.sv (Value.string (GV.s x9)),AV.sv (zcu18 x9),AV.sv (zcu19 x9),AV.sv (Value.int IntKind.i64 (GV.b x9))]=AV.agg [AV.sv (Value.int IntKind.u64 (GV.n x9)),AV.sv (Value.string (GV.s x9)),AV.sv (zcu18 x9),AV.sv (zcu19 x9),AV.sv (Value.int IntKind.i64 (GV.b x9))]/\x11
 abbrev zcu6:=zcu8 x7 x9 (true=decide (PV.fits x8.1 x8.2.2.1 (GV.pv x8.2.2.2)=PV.fits x10.1 x10.2.2.1 (GV.pv x10.2.2.2))/\True)
 abbrev zcu7:=zcu8 x7 x9 (true=false/\True)
 abbrev zcu2:=qll x8/\qll x8/\∃(i0:FtS),zcu10 x7 i0 x9 ((small i0.1/\PV.sm (GV.pv i0.2.2.2))/\zcu12 x0 x3 x4 x5 x6 x7 i0 x9/\qll x8/\qll x8/\qll x8/\∃(i2:FtS),zcu10 x7 i2 x9 ((small i2.1/\q4m i2.1/\PV.sm (GV.pv i2.2.2.2))/\zcu12 x0 x3 x4 x5 x6 x7 i2 x9/\qll x8/\(PV.fits x8.1 x8.2.2.1 (GV.pv x8.2.2.2)=true->zcu6 x7 i0 x9 i2)/\(PV.fits x8.1 x8.2.2.1 (GV.pv x8.2.2.2)=false->zcu7 x7 x9)))
 abbrev zcu13:=qll x8/\qll x8/\qll x8/\qll x8/\qll x8/\qll x8/\(PV.fits x8.1 x8.2.2.1 (GV.pv x8.2.2.2)=true->False)/\(PV.fits x8.1 x8.2.2.1 (GV.pv x8.2.2.2)=false->true=false/\True)
 abbrev zcu0:=((!x0.2.1)=true->true=true/\True)/\((!x0.2.1)=false->∃(i0:TuS),GV.n i0.1=GV.n x0.1/\GV.s i0.1=GV.s x0.1/\(GV.x i0.1).1=(GV.x x0.1).1/\(GV.x i0.1).2.1=(GV.x x0.1).2.1/\(GV.x i0.1).2.2=(GV.x x0.1).2.2/\(GV.y i0.1).1=(GV.y x0.1).1/\(GV.y i0.1).2.1=(GV.y x0.1).2.1/\(GV.y i0.1).2.2=(GV.y x0.1).2.2/\GV.b i0.1=GV.b x0.1/\i0.2.1=x1/\i0.2.2=x2/\((PV.sn (GV.pv i0.1)/\PV.wt (GV.pv i0.1)<100000000000000000)/\(0<=i0.2.1/\i0.2.1<256)/\0<=i0.2.2/\i0.2.2<18446744073709551616)/\(∀(i1:Pub),(qgp x3 x4 x5 x6 x7 i1)/\GV.ok x0.1 i1->GV.ok i0.1 i1)/\∀(i2:GV),q4g i0.1 i2->(∃(i3:Pub),((qgp x3 x4 x5 x6 x7 i3)/\GV.ok x0.1 i3)/\GV.ok i2 i3)->∃(i4:FtS),zcu14 x7 i4 (GV.n i4.2.2.2=GV.n x0.1/\GV.s i4.2.2.2=GV.s x0.1/\(GV.x i4.2.2.2).1=(GV.x x0.1).1/\(GV.x i4.2.2.2).2.1=(GV.x x0.1).2.1/\(GV.x i4.2.2.2).2.2=(GV.x x0.1).2.2/\(GV.y i4.2.2.2).1=(GV.y x0.1).1/\(GV.y i4.2.2.2).2.1=(GV.y x0.1).2.1/\(GV.y i4.2.2.2).2.2=(GV.y x0.1).2.2/\GV.b i4.2.2.2=GV.b x0.1/\(small i4.1/\PV.sm (GV.pv i4.2.2.2))/\zcu12 x0 x3 x4 x5 x6 x7 i4 i2/\(PV.fits i4.1 i4.2.2.1 (GV.pv i4.2.2.2)=true->zcu2 x0 x3 x4 x5 x6 x7 i4 i2)/\(PV.fits i4.1 i4.2.2.1 (GV.pv i4.2.2.2)=false->zcu13 i4)))
 abbrev zcu5:=∃(i0:Option Addr×Nat×Nat),zcu16 x3 (AV.agg [AV.sv (qp6 x7)]=AV.agg [AV.sv (qp6 x7)]/\∃(i1:AvS),i1.2.1.1=x7.2.1.1/\i1.2.1.2.1=x7.2.1.2.1/\i1.2.1.2.2=x7.2.1.2.2/\i1.2.2.1=0/\i1.2.2.2.1=0/\i1.2.2.2.2.1.1=i0.1/\i1.2.2.2.2.1.2.1=i0.2.1/\i1.2.2.2.2.1.2.2=i0.2.2/\i1.2.2.2.2.2.2=0/\(q0j i1.1/\(0<=i1.2.2.1/\i1.2.2.1<(↑(List.length i1.1):Int))/\qoq (atS i1.1 i1.2.2.1)/\(0<=i1.2.2.2.1/\i1.2.2.2.1<=6)/\0<=i1.2.2.2.2.2.2/\i1.2.2.2.2.2.2<=(↑(List.length i1.2.2.2.2.2.1):Int)/\q0t i1.2.2.2.2.2.1)/\(∀(i2:Pub),qgp x5 x4 x3 x6 x7 i2->q0l i1.1 i1.2.1 i2/\slP byV i1.2.2.2.2.1 i1.2.2.2.2.2.1 i2)/\∀(i3:AvB),q0w i1.1 i1.2.2.1 i1.2.2.2.1 i1.2.2.2.2.2.1 i1.2.2.2.2.2.2 i3.1 i3.2.1 i3.2.2->(∃(i4:Pub),(qgp x5 x4 x3 x6 x7 i4)/\GV.ok i3.1 i4)->zcu0 i3 x1 x2 x5 x4 x3 x6 x7) i0
 abbrev zcu4:=(zcu5 x1 x2 x3 x4 x5 x6 x7)/\zcu5 x1 x2 x3 x4 x5 x6 x7
 abbrev zcu3:=((!x7.2.2.1)=true->true=true/\True)/\((!x7.2.2.1)=false->zcu4 x1 x2 x3 x4 x5 x6 x7)
 abbrev zcu1:=(decide (qv4 60 x3)=true->true=true/\True)/\(decide (qv4 60 x3)=false->∃(i0:Option Addr×Nat×Nat),zcu16 x5 (∃(i1:RcS),i1.1.1=i0.1/\i1.1.2.1=i0.2.1/\i1.1.2.2=i0.2.2/\i1.2.2=0/\qna i1/\(∀(i2:Pub),True/\slP byV x5 x4 i2/\slP byV x3 x6 i2->slP byV i1.1 i1.2.1 i2)/\∀(i3:List AT×(Option Addr×Nat×Nat)×Bool×Int),q0j i3.1/\(i3.2.2.1=true->i3.1≠[])/\i1.2.2<=i3.2.2.2/\i3.2.2.2<=(↑(List.length i1.2.1):Int)->(∃(i4:Pub),qgp x5 x4 x3 x6 i3 i4)->zcu3 x1 x2 x3 x4 x5 x6 i3) i0)
end
theorem qqr(x:SV) (L:List Int) (y:SV) (M:List Int) (how n:Int):askX P (q0r [(13,q8r),(8,cMade),(16,qfn),(12,q98)]) (q1s [(9,cAvro),(14,q7w qoq),(15,q67)]) Try.f4 cLawAT (wLawAT) ⟨x,L,y,M,how,n⟩=(qwo L/\qwo M/\(0<=how/\how<256)/\0<=n/\n<18446744073709551616->(∃(p:Pub),True/\slP byV x L p/\slP byV y M p)->∃(s:Unit),True/\(decide (qv4 120 x)=true->true=true/\True)/\(decide (qv4 120 x)=false->zcu1 how n y L x M)):=by kernel_rfl
def lawAT_eq(x:SV) (L:List Int) (y:SV) (M:List Int) (how n:Int):=Eq.trans (qqr x L y M how n) (by delta qv4 zcu16 qgp qp6 zcu14 zcu12 qll zcu10 zcu18 zcu19 zcu8 zcu6 zcu7 zcu2 zcu13 zcu0 zcu5 zcu4 zcu3 zcu1;exact rfl)
theorem qyt:q15 P 4 cLawAT:=by
  refine ask_okX mixed (q05 (q01 qm2 (q01 made_ok (q01 qkz (q01 qu0 q06))))) (q0g (q04 avro_ok (q04 aval_fin (q04 qlh q0q)))) (W:=wLawAT) Try.func4 (by kernel_rfl) (show 1<=1 by decide) (show 1<=1 by decide) (λs=>by kernel_rfl) λ⟨(x:SV),L,(y:SV),M,(how:Int),(n:Int)⟩=>(lawAT_eq x L y M how n).mpr ?_
  rintro⟨⟨hL,hLb⟩,⟨hM,hMb⟩,⟨hh0,hh1⟩,hn0,hn1⟩ ⟨p,_,hx,hy⟩
  have hxl:x.2.1=L.length:=hx.1
  have hyl:y.2.1=M.length:=hy.1
  simp only[decide_eq_true_eq,decide_eq_false_iff_not,Bool.not_eq_true',Bool.not_eq_false',true_and,and_true,eq_self,imp_self,implies_true,exists_const,forall_const,Int.toNat_natCast,hxl,hyl]
  refineλh120 h60=>⟨x,rfl,hxl,rfl,⟨x,L,0⟩,rfl,rfl,rfl,rfl,⟨by show(0:Int)<=0;decide,by show(0:Int)<=_;omega,by omega,hLb⟩,λq hq=>hq.1,?_⟩
  rintro⟨S,z,b,n'⟩ ⟨hS,hne, -, -⟩ ⟨p2,hp2,hz⟩
  refineλhb=>⟨?xa,?xb⟩
  case xa|xb=>
    have hS0:0<S.length:=List.length_pos_iff.2 (hne hb)
    refine⟨y,rfl,hyl,rfl,⟨S,z,0,0,y,M,0⟩,rfl,rfl,rfl,rfl,rfl,rfl,rfl,rfl,rfl,⟨hS,⟨by show(0:Int)<=0;decide,by show(0:Int)<(S.length:Int);omega⟩,trivial,⟨by show(0:Int)<=0;decide,by show(0:Int)<=6;decide⟩,by show(0:Int)<=0;decide,by show(0:Int)<=(M.length:Int);omega,by show M.length<1000000;omega,hMb⟩,λq hq=>⟨hq.2,hq.1.2⟩,?_⟩
    rintro⟨v,b2,n2⟩ hv _
    have hv:q0w S 0 0 M 0 v b2 n2:=hv
    obtain⟨v1,v2,v3,v4,v5⟩:=hv
    simp only
    intro hb2
    have hf:=v5 hb2
    have hw0:avW 0<100000000000000000:=by decide
    refine⟨⟨v,how,n⟩,rfl,rfl,rfl,rfl,rfl,rfl,rfl,rfl,rfl,rfl,rfl,⟨⟨v3,by show v.pv.wt<_;omega⟩,⟨hh0,hh1⟩,hn0,hn1⟩,λq hq=>hq.2,?_⟩
    rintro w hw _
    have hw:q4g v w:=hw
    refine⟨⟨S,z,0,v⟩,rfl,rfl,rfl,rfl,rfl,rfl,rfl,rfl,rfl,rfl,rfl,rfl,rfl,⟨q7m hS,v3.1⟩,λq hq=>⟨hq.1.1.2,hq.1.2⟩,λ_=>⟨⟨S,z,0,w⟩,rfl,rfl,rfl,rfl,rfl,rfl,rfl,rfl,rfl,rfl,rfl,rfl,rfl,⟨q7m hS,hw.1⟩,λq hq=>⟨hq.1.1.2,hq.2⟩,⟨S,z,0,w⟩,rfl,rfl,rfl,rfl,rfl,rfl,rfl,rfl,rfl,rfl,rfl,rfl,rfl,⟨q7m hS,qo9 hS,hw.1⟩,λq hq=>⟨hq.1.1.2,hq.2⟩,?_⟩,?_⟩
    · simp[hf]
    · simp[hf]
 open Go.ChangeShapes Go.WideShapes Go.ChangeAt Go.Joins Go.Deep
abbrev pubW(w:World):Pub:=q32 (λ_ b=>b<w.heap.size) w
theorem qjr{w:World} {a:Addr} {v:Value} (h:w.cell? a=some v):q2q (pubW w) a=some v/\a.spot=none:=by
  unfold World.cell? at h
  cases ho:w.heap[a.block]? with
  |none=>rw[ho]at h;cases h
  | some o=>
    have hlt:a.block<w.heap.size:=(Array.getElem?_eq_some_iff.1 ho).1
    have hp:pubW w a.block=some o:=q0m.2 ⟨hlt,ho⟩
    rw[ho]at h
    unfold q2q
    rw[hp]
    cases o<;>simp only at h<;>first|cases h|skip
    cases hs:a.spot with
    |none=>rw[hs]at h;simp[qn5,hs]at h⊢;exact h
    |some k=>rw[hs]at h;simp at h
theorem qly{p:Pub} {a:Addr} {x y:List Value} (h1:q02 p a x) (h2:q02 p (a.add x.length) y):q02 p a (x++y):=λj v hj=>by
 by_cases hx:j<x.length
 ·rw[List.getElem?_append_left hx]at hj;exact h1 j v hj
 ·rw[List.getElem?_append_right (by omega)]at hj
  have:=h2 _ v hj
  rw[Addr.add_add,show x.length+(j- x.length)=j by omega]at this;exact this
theorem qfy{α:Type} {f:α->List Value} {p:Pub} {k:Nat}:∀(l:List α) (a:Addr),(∀g∈l,(f g).length=k)->(∀(i:Nat) (h:i<l.length),q02 p (a.add (i*k)) (f l[i]))->q02 p a (q00 f l)
  | [],a,_,_=>λj v hj=>by simp[q00]at hj
  | g::l,a,hf,h=>by
    have h0:=h 0 (by simp)
    have e:a.add (0*k)=a:=by unfold Addr.add;rw[if_pos (by omega)]
    rw[e]at h0
    show q02 p a (f g++q00 f l)
    refine qly h0 ?_
    rw[hf g List.mem_cons_self]
    refine qfy l (a.add k) (λg hg=>hf g (List.mem_cons_of_mem _ hg)) λi hi=> ?_
    have:=h (i+1) (by simp;omega)
    rw[Addr.add_add,show k+i*k=(i+1)*k by rw[Nat.succ_mul];omega]
    simpa using this
theorem law_of2{f:Nat} {C:Ct} (h:q15 P f C) (s:C.σ) (vs:List Value) (ha:∀I,VRs I (C.args s) vs) (hh:C.h s=[]) (r:Value) (hr:C.r s= .sv r) (w:World) (hp:C.pre s) (hm:(C.mem s).ok (pubW w)):
  Calls P f ⟨vs⟩ w λe w'=>e= .returned r/\Below w.heap.size w w':=by
 obtain⟨h1,h2,_,h4⟩:=h
 obtain⟨h0,h1',e1,e2,h5⟩:=h4 s
 rw[hh]at e1
 cases e1
 refine(h5 (λ_ b=>b<w.heap.size) (λi=>if i=0 then some (0,0,0)else none) w vs (ha _) ⟨λid o b t h=> ?_,λid id' o o' b t t' h=> ?_,λid o b t h=> ?_⟩ (λ_ h=>h) (λ_ h=>h) hp hm (λi hi=>if_neg (by omega)) (if_pos rfl)).mono λe w' he=> ?_
 ·rw[T.get_e]at h;cases h
 ·rw[T.get_e]at h;cases h
 ·rw[T.get_e]at h;cases h
 obtain⟨z,I',rfl,hz,hg,_⟩:=he
 rw[hr]at hz
 cases hz
 exact⟨rfl,⟨hg.same.1,hg.same.2,hg.same.3,hg.size,λk hk=>hg.fr k hk⟩⟩
def RowIn(w:World) (a:Option Addr) (len cap:Nat) (z:List Int):Prop:=(a=none/\len=0/\cap=0/\z=[])\/∃x,a=some x/\len<=cap/\cap<=maxLen/\z.length=cap/\(∀i,i<z.length->w.cell? (x.add i)=some (.int .u8 (z.getD i 0)))/\∀n∈z,(Lit.int .u8 n).wf=true
theorem row_in{w:World} {a:Option Addr} {len cap:Nat} {z:List Int} (h:RowIn w a len cap z):∃L:List Int,slP byV (a,len,cap) L (pubW w)/\L.length<9223372036854775808/\∀b∈L,0<=b/\b<256:=by
  rcases h with⟨rfl,rfl,rfl,rfl⟩|⟨x,rfl,hl,hm,hz,hc,hw⟩
  · exact⟨[],⟨rfl,Nat.le_refl _, .inl ⟨rfl,trivial⟩⟩,by simp,λb hb=>by cases hb⟩
  have hlen:(z.take len).length=len:=by rw[List.length_take];omega
  have hat:∀(i:Nat) (hi:i<(z.take len).length),w.cell? (x.add i)=some (.int .u8 (z.take len)[i]):=λi hi=>by
    have hiz:i<z.length:=by omega
    have:=hc i hiz
    rw[List.getD_eq_getElem?_getD,List.getElem?_eq_getElem hiz]at this
    simpa using this
  refine⟨z.take len,⟨hlen.symm,hl,?_⟩,by unfold maxLen at hm;omega,λb hb=> ?_⟩
  · by_cases h0:z.take len=[]
    · rw[h0];exact .inl ⟨rfl,trivial⟩
    · have hpos:0<(z.take len).length:=List.length_pos_iff.2 h0
      have e0:x.add 0=x:=by unfold Addr.add;rw[if_pos rfl]
      have hp0:=qjr (hat 0 hpos)
      rw[e0]at hp0
      refine .inr ⟨x,rfl,hp0.2,qfy (k:=1) _ x (λg _=>rfl) λi hi j v hj=> ?_⟩
      cases j with
      |succ j=>simp[byV]at hj
      | zero=>
        have:=(qjr (hat i hi)).1
        rw[Addr.add_add,show i*1+0=i by omega,this,←hj];rfl
  · have hw:=hw b (List.mem_of_mem_take hb)
    simp only[Lit.wf,Bool.and_eq_true,decide_eq_true_eq]at hw
    have h1:IntKind.min .u8=0:=by decide
    have h2:IntKind.max .u8=255:=by decide
    omega
theorem wf_u8{n:Int} (h:(Lit.int .u8 n).wf=true):0<=n/\n<256:=by
 simp only[Lit.wf,Bool.and_eq_true,decide_eq_true_eq]at h
 have h1:IntKind.min .u8=0:=by decide
 have h2:IntKind.max .u8=255:=by decide
 omega
theorem wf_u64{n:Int} (h:(Lit.int .u64 n).wf=true):0<=n/\n<18446744073709551616:=by
 simp only[Lit.wf,Bool.and_eq_true,decide_eq_true_eq]at h
 have h1:IntKind.min .u64=0:=by decide
 have h2:IntKind.max .u64=18446744073709551615:=by decide
 omega
theorem turned_law_wf(a0:Option Addr) (len0 cap0:Nat) (z0:List Int) (a1:Option Addr) (len1 cap1:Nat) (z1:List Int) (a2 a3:Int) (w:World) (w0:RowIn w a0 len0 cap0 z0) (w1:RowIn w a1 len1 cap1 z1) (w2:(Lit.int .u8 a2).wf=true) (w3:(Lit.int .u64 a3).wf=true):Calls P 4 #[.slice a0 len0 cap0, .slice a1 len1 cap1, .int .u8 a2, .int .u64 a3] w λe w'=>e= .returned (.bool true)/\Below w.heap.size w w':=by
 obtain⟨L,hx,hL⟩:=row_in w0
 obtain⟨M,hy,hM⟩:=row_in w1
 exact law_of2 qyt ⟨(a0,len0,cap0),L,(a1,len1,cap1),M,a2,a3⟩ [.slice a0 len0 cap0, .slice a1 len1 cap1, .int .u8 a2, .int .u64 a3] (λI=> .cons (.sv _) (.cons (.sv _) (.cons (.sv _) (.cons (.sv _) .nil)))) rfl (.bool true) rfl w ⟨hL,hM,wf_u8 w2,(wf_u64 w3).1,(wf_u64 w3).2⟩ ⟨hx,hy⟩
end
end Go.Proofs.Ytpanaicglidfjaa.Wd
