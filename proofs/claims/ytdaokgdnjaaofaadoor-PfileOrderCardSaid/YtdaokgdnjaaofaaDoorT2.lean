/-
  What the functions do: contracts, and their questions answered. No condition but what its theorems ask.
-/
import Derived.Test.YtdaokgdnjaaofaaDoorT1
namespace Go.Proofs.YtdaokgdnjaaofaaDoor.Wd
open Go.Proofs.YtdaokgdnjaaofaaDoor.Eng Go.Proofs.YtdaokgdnjaaofaaDoor.Sen Go.RowKit
set_option linter.defProp false
set_option linter.unusedVariables false
set_option linter.unusedSimpArgs false
set_option maxRecDepth 1000000
open Go.Value (int string slice bool)
open Go.IntKind (i64 u64 u8 u32 i32)
open _root_.List (length take drop)
open _root_.ByteArray (size)
open _root_.Int (toNat)
noncomputable section
def z68:List Int->List Value
 | []=>[]
 |b::l=> .int .u8 b::z68 l
def byP(x:SV) (L:List Int) (p:Pub):Prop:=x.2.1=L.length/\qmq p x.1 x.2.1 x.2.2 (z68 L)
def byM(x:SV) (L:List Int):PF:=⟨true,byP x L,λ_ _ h e=>⟨e.1,q6p h e.2⟩⟩
def zdj(L:List Int):Prop:=L.length<1000000/\∀b∈L,0<=b/\b<256
def z9r(L:List Int) (n m:Int):Int:=if L.length<=n then 0 else Int.tmod (L.getD n.toNat 0) m
def zgd(L:List Int) (n:Int):Int:=if L.length<=n then n else n+1
def pkO(x:SV) (n:Int):List (Nat×AO):=[(1, .cells 71 (some 0) false [svA x, .sv (.int .i64 n)])]
def zan(L:List Int) (n:Int):Prop:=0<=n/\n<=L.length/\zdj L
def zl7:Ct where
 σ:=SV×List Int×Int×Int
 args:=λ⟨x,L,n,m⟩=>[.ptr 1 0, .sv (.int .i64 m)]
 h:=λ⟨x,L,n,m⟩=>pkO x n
 m:=2
 pre:=λ⟨x,L,n,m⟩=>zan L n/\0<m/\m<1000000
 mem:=λ⟨x,L,n,m⟩=>byM x L
 r:=λ⟨x,L,n,m⟩=> .sv (.int .i64 (z9r L n m))
 h':=λ⟨x,L,n,m⟩=>pkO x (zgd L n)
 m':=2
 g:=λ_=>none
def zdm:Ct where
 σ:=SV
 args:=λx=>[svA x]
 h:=λ_=>[]
 m:=1
 r:=λ_=> .ptr 1 0
 h':=λx=>pkO x 0
 m':=2
 g:=λ_=>none
abbrev StS:=SV×List ByteArray×SV×List ByteArray
def cSt:Ct where
 σ:=StS
 args:=λ⟨x,l,y,m⟩=>[svA x,svA y]
 h:=λ_=>[]
 m:=1
 pre:=λ⟨x,l,y,m⟩=>l.length<1000000
 mem:=λ⟨x,l,y,m⟩=>⟨true,λp=>rwP stV l x p/\rwP stV m y p,λ_ _ h e=>⟨z16 h e.1,z16 h e.2⟩⟩
 r:=λ⟨x,l,y,m⟩=> .sv (.bool (decide (l=m)))
 h':=λ_=>[]
 m':=1
 g:=λ_=>none
def wSt:cSt.σ->WayF:=λ⟨x,l,y,m⟩=>{ann:=λ_ _ _=>some {σ:=Nat,pre:=λi=>i<=l.length/\l.take i=m.take i,t:=λi=>[(5, .sv (.int .i64 (i:Nat)))],h:=λ_=>[],more:=0,μ:=λi=>l.length- i,keep:=[0,1]}}
def zmw(i:Nat):List Pq:=[([32],[105,109,112,111,114,116]),([32],[39,97+i,39]),([],[59])]
def zmz(i:Nat):List Pq:=[([32],[109,101,115,115,97,103,101]),([32],[97+i]),([32],[123]),([32],[105,110,116,51,50]),([32],[120]),([32],[61]),([32],[49]),([],[59]),([32],[125])]
def zmt(i:Nat):List Pq:=[([32],[101,110,117,109]),([32],[97+i]),([32],[123]),([32],[88]),([32],[61]),([32],[48]),([],[59]),([32],[125])]
def zlv:List Pq:=[([32],[59])]
def zgc:List Pq:=[([],[115,121,110,116,97,120]),([],[61]),([],[39,112,114,111,116,111,51,39]),([],[59])]
def z47(b:Int) (i:Nat):List Pq:=if b=0 then zmw i else if b=1 then zmz i else if b=2 then zmt i else zlv
def pkB(L:List Int) (j:Nat):Int:=Int.tmod (L.getD j 0) 4
def zem(L:List Int) (i:Nat):List Pq:=(List.range i).flatMap λj=>z47 (pkB L j) j
def prO(L:List Int) (i:Nat):List Pq:=zgc++zem L i
def nmO(k:Int) (L:List Int) (i:Nat):List ByteArray:=(List.range i).flatMap λj=>if pkB L j=k then [mkS [97+j]]else []
def txO(L:List Int) (i:Nat):ByteArray:=mkS (z00 [] (prO L i))
abbrev OrS:=SV×List Int
def kwVs:Array Value:= #[.string (mkS [100,111,117,98,108,101]), .string (mkS [102,108,111,97,116]), .string (mkS [105,110,116,51,50]), .string (mkS [105,110,116,54,52]), .string (mkS [117,105,110,116,51,50]), .string (mkS [117,105,110,116,54,52]), .string (mkS [115,105,110,116,51,50]), .string (mkS [115,105,110,116,54,52]), .string (mkS [102,105,120,101,100,51,50]), .string (mkS [102,105,120,101,100,54,52]), .string (mkS [115,102,105,120,101,100,51,50]), .string (mkS [115,102,105,120,101,100,54,52]), .string (mkS [98,111,111,108]), .string (mkS [115,116,114,105,110,103]), .string (mkS [98,121,116,101,115])]
def kwP(p:Pub):Prop:=∃e fr,p 0=some (.cells kwVs e fr)
def bgM:PF:=⟨true,λp=>hG.ok p/\kwP p,λ_ _ h e=>⟨PF.ok_mono h e.1,e.2.imp λ_ e=>e.imp λ_ e=>h _ _ e⟩⟩
def lwM(x:SV) (L:List Int):PF:=⟨true,λp=>byP x L p/\bgM.ok p,λ_ _ h e=>⟨⟨e.1.1,q6p h e.1.2⟩,PF.ok_mono h e.2⟩⟩
def zmr:Ct where
 σ:=OrS
 args:=λ⟨x,L⟩=>[svA x]
 h:=λ_=>[]
 m:=1
 pre:=λ⟨x,L⟩=>L.length<9223372036854775808/\(∀b∈L,0<=b/\b<256)
 mem:=λ⟨x,L⟩=>lwM x L
 r:=λ_=> .sv (.bool true)
 h':=λ_=>[]
 m':=1
 g:=λ_=>none
def z22:Ct:=ctS Unit (λ_=>[]) (λ_=>some ()) (λ_=>True) (λ_=>bgM) λ_=> .sv (.bool true)
def zn2:OrS->WayF:=λ⟨x,L⟩=>{
 ann:=λid tt hh=>match id with
  |0=>some {σ:=Nat,pre:=λi=>i<=L.length,t:=λi=>[(3, .sv (.string (txO L i))),(4, .ssl 100 0 (nmO 0 L i).length 1 101),(5, .ssl 102 0 (nmO 1 L i).length 1 103),(6, .ssl 104 0 (nmO 2 L i).length 1 105),(7, .sv (.int .i64 (i:Nat)))],h:=λi=>[rwO 100 ((nmO 0 L i).flatMap stV),rwO 102 ((nmO 1 L i).flatMap stV),rwO 104 ((nmO 2 L i).flatMap stV)],more:=150,μ:=λi=>L.length- i,keep:=[0]}
  |3=>some {σ:=Nat,pre:=λi=>i<=(nmO 1 L L.length).length,t:=λi=>[(12, .sv (.int .i64 (i:Nat)))],h:=λ_=>[],more:=0,μ:=λi=>(nmO 1 L L.length).length- i,keep:=[0,4,5,6,9]}
  |_=>some {σ:=Nat,pre:=λi=>i<=(nmO 2 L L.length).length,t:=λi=>[(13, .sv (.int .i64 (i:Nat)))],h:=λ_=>[],more:=0,μ:=λi=>(nmO 2 L L.length).length- i,keep:=[0,4,5,6,9]}
 pub:=λi k=>match i,k with
  |20,0=>[4,5,6]
  |_,_=>[]}
section
variable (x0:SV) (x1:Int) (x2:List Int) (x3:Int) (x4:Prop)
 abbrev zmo:=x0.1=x0.1/\x0.2.1=x0.2.1/\x0.2.2=x0.2.2/\x4
 def zq1:=z9r x2 x1 x3=0/\zmo x0 (zgd x2 x1=x1/\True)
 def zq0:=Jb (x1+1)/\Jb (x1+1- 1)/\(0<=x1+1- 1/\x1+1- 1<(↑x0.2.1:Int))/\x0.1≠noA/\∃(i0:Int),(∀i1,True/\byP x0 x2 i1->q4o i1 (adr x0.1 (toNat (x1+1- 1)*1)) [int u8 i0])/\Jb (i0)/\x3≠0/\z9r x2 x1 x3=Int.tmod i0 x3/\zmo x0 (zgd x2 x1=x1+1/\True)
 def zpz:=Ji ((↑x0.2.1:Int)<=x1) (zq1 x0 x1 x2 x3) (zq0 x0 x1 x2 x3)
end
def zei(x:SV) (L:List Int) (n m:Int):qr6 P (λ_=>none) Go.Proofs.Tryd.f10 zl7 (λ_=>{}) ⟨x,L,n,m⟩=(zan L n/\0<m/\m<1000000->(∃(p:Pub),True/\byP x L p)->zpz x n L m):=by kernel_rfl
def zi3:=λx L n m=>Eq.trans (zei x L n m) (by delta Ji Jb Jt Jf zmo zq1 zq0 zpz;exact rfl)
def ze6(x:SV):qr6 P (λ_=>none) Go.Proofs.Tryd.f9 zdm (λ_=>{}) x=(True->Prod.fst x=Prod.fst x/\Prod.fst (Prod.snd x)=Prod.fst (Prod.snd x)/\Prod.snd (Prod.snd x)=Prod.snd (Prod.snd x)/\(0:Int)=(0:Int)/\True):=by kernel_rfl
section
variable (x0 x1:SV) (x2 x3:List ByteArray) (x4:Nat) (x5:Prop)
 abbrev zdg:=(↑x0.2.1:Int)
 def zjo:=x0.1=x0.1/\x0.2.1=x0.2.1/\x0.2.2=x0.2.2/\x5
 def zmp:=(∀i0,True/\rwP stV x2 x0 i0/\rwP stV x3 x1 i0->True/\rwP stV x2 x0 i0/\rwP stV x3 x1 i0)/\(x4<=length x2/\take x4 x2=take x4 x3)/\x5
 def zq6:=Jb ((↑x4:Int)+1)/\∃(i0:Nat),zjo x0 (zjo x1 ((↑i0:Int)=(↑x4:Int)+1/\zmp x0 x1 x2 x3 i0 (length x2- i0<length x2- x4/\True)))
 def zq5:=(0<=(↑x4:Int)/\(↑x4:Int)<(zdg x0))/\x0.1≠noA/\∃i0,(∀i1,True/\rwP stV x2 x0 i1/\rwP stV x3 x1 i1->q4o i1 (adr x0.1 (toNat (↑x4:Int)*1)) [string i0])/\(0<=(↑x4:Int)/\(↑x4:Int)<(zdg x1))/\x1.1≠noA/\∃i2,(∀i3,True/\rwP stV x2 x0 i3/\rwP stV x3 x1 i3->q4o i3 (adr x1.1 (toNat (↑x4:Int)*1)) [string i2])/\((!decide (i0=i2))=true->Jf (x2=x3)/\True)/\((!decide (i0=i2))=false->zq6 x0 x1 x2 x3 x4)
 def zq4:=Ji ((↑x4:Int)<(zdg x0)) (zq5 x0 x1 x2 x3 x4) (Jt (x2=x3)/\True)
 def zq3:=(∃(i0:Nat),zjo x0 (zjo x1 ((↑i0:Int)=0/\zmp x0 x1 x2 x3 i0 True)))/\∀(i2:Nat),i2<=length x2/\take i2 x2=take i2 x3->zq4 x0 x1 x2 x3 i2
 def zq2:=((!decide ((zdg x0)=(zdg x1)))=true->Jf (x2=x3)/\True)/\((!decide ((zdg x0)=(zdg x1)))=false->zq3 x0 x1 x2 x3)
end
def z8j(x:SV) (l:List ByteArray) (y:SV) (m:List ByteArray):qr6 P (λ_=>none) Go.Proofs.Tryd.f8 cSt (wSt) ⟨x,l,y,m⟩=(length l<1000000->(∃(p:Pub),True/\rwP stV l x p/\rwP stV m y p)->zq2 x y l m):=by kernel_rfl
def zaq:=λx l y m=>Eq.trans (z8j x l y m) (by delta Ji Jb Jt Jf zdg zjo zmp zq6 zq5 zq4 zq3 zq2;exact rfl)
section
variable (x0:SV) (x1:List Int) (x2:Nat) (x3:PB) (x4:Option Addr) (x5 x6:Nat) (x7:Option Addr) (x8:Nat) (x9:Option Addr) (x10:Nat) (x11:Nat->Option Obj) (x12:Int) (x13:ByteArray) (x14:Prop) (x15:ByteArray) (x16:Nat) (x17:Int)
 abbrev zg5:=∃(i0:Int),q88 x11 (Addr.mk 1 0 none)=some (int i64 i0)
 def zg4:=(zg5 x11)/\kwP x11
 def z1h:=True/\byP x0 x1 x11/\zg4 x11
 abbrev zc5:=(↑x0.2.1:Int)
 def z2i:=x0.1=x0.1/\x0.2.1=x0.2.1/\x0.2.2=x0.2.2/\x14
 abbrev zc4:=Int.tmod x12 (4:Int)=x17
 abbrev z9n:=Jb ((↑x2:Int)+1)
 def zc1:=length (List.flatMap stV (nmO x12 x1 x2))=length (nmO x12 x1 x2)*1/\(length (nmO x12 x1 x2)+nat_lit 1)*16<=140737488355328/\z9n x2/\x14
 def z54:=(↑x2:Int)=(↑x5:Int)+1
 def z2m:=length (nmO x12 x1 x2)=length (nmO x12 x1 x5)
 def zc3:=length (nmO x12 x1 x2)=length (nmO x12 x1 x5)+nat_lit 1
 def z2l:=List.flatMap stV (nmO x12 x1 x2)=List.flatMap stV (nmO x12 x1 x5)
 def zc2:=List.flatMap stV (nmO x12 x1 x2)=List.flatMap stV (nmO x12 x1 x5)++[string x13]
 def z9m:=(∀i0,z1h x0 x1 i0->z1h x0 x1 i0)/\x2<=length x1/\length x1- x2<length x1- x5/\True
 def zjy:=size (txO x1 x2)+size (mkS [32,105,109,112,111,114,116,32,39])<=9223372036854775807/\size (txO x1 x2++mkS [32,105,109,112,111,114,116,32,39])+size x13<=9223372036854775807/\size (txO x1 x2++mkS [32,105,109,112,111,114,116,32,39]++x13)+size (mkS [39,59])<=9223372036854775807/\zc1 x1 x2 0 (∃(i0:Nat),z2i x0 (txO x1 i0=txO x1 x2++mkS [32,105,109,112,111,114,116,32,39]++x13++mkS [39,59]/\z54 i0 x2/\z2m x1 i0 x2 1/\zc3 x1 i0 x2 0/\z2m x1 i0 x2 2/\z2l x1 i0 x2 2/\zc2 x1 i0 x2 0 x13/\z2l x1 i0 x2 1/\z9m x0 x1 i0 x2))
 def zjw:=size (txO x1 x2)+size (mkS [32,109,101,115,115,97,103,101,32])<=9223372036854775807/\size (txO x1 x2++mkS [32,109,101,115,115,97,103,101,32])+size x13<=9223372036854775807/\size (txO x1 x2++mkS [32,109,101,115,115,97,103,101,32]++x13)+size (mkS [32,123,32,105,110,116,51,50,32,120,32,61,32,49,59,32,125])<=9223372036854775807/\zc1 x1 x2 1 (∃(i0:Nat),z2i x0 (txO x1 i0=txO x1 x2++mkS [32,109,101,115,115,97,103,101,32]++x13++mkS [32,123,32,105,110,116,51,50,32,120,32,61,32,49,59,32,125]/\z54 i0 x2/\zc3 x1 i0 x2 1/\z2m x1 i0 x2 0/\z2m x1 i0 x2 2/\z2l x1 i0 x2 2/\z2l x1 i0 x2 0/\zc2 x1 i0 x2 1 x13/\z9m x0 x1 i0 x2))
 def zjx:=size (txO x1 x2)+size (mkS [32,101,110,117,109,32])<=9223372036854775807/\size (txO x1 x2++mkS [32,101,110,117,109,32])+size x13<=9223372036854775807/\size (txO x1 x2++mkS [32,101,110,117,109,32]++x13)+size (mkS [32,123,32,88,32,61,32,48,59,32,125])<=9223372036854775807/\zc1 x1 x2 2 (∃(i0:Nat),z2i x0 (txO x1 i0=txO x1 x2++mkS [32,101,110,117,109,32]++x13++mkS [32,123,32,88,32,61,32,48,59,32,125]/\z54 i0 x2/\z2m x1 i0 x2 1/\z2m x1 i0 x2 0/\zc3 x1 i0 x2 2/\zc2 x1 i0 x2 2 x13/\z2l x1 i0 x2 0/\z2l x1 i0 x2 1/\z9m x0 x1 i0 x2))
 def zk1:=size (txO x1 x2)+size (mkS [32,59])<=9223372036854775807/\z9n x2/\∃(i0:Nat),z2i x0 (txO x1 i0=txO x1 x2++mkS [32,59]/\z54 i0 x2/\z2m x1 i0 x2 1/\z2m x1 i0 x2 0/\z2m x1 i0 x2 2/\z2l x1 i0 x2 2/\z2l x1 i0 x2 0/\z2l x1 i0 x2 1/\z9m x0 x1 i0 x2)
 abbrev zjt:=Ji (zc4 x12 2) (zjx x0 x1 x2 x13) (zk1 x0 x1 x2)
 abbrev zjq:=Ji (zc4 x12 1) (zjw x0 x1 x2 x13) (zjt x0 x1 x2 x12 x13)
 def zjp:=((-9223372036854775808:Int)<=97+(↑x2:Int)/\(97:Int)+(↑x2:Int)<=9223372036854775807)/\∃i0,size i0=1/\qmc [int u8 (IntKind.wrap u8 ((97:Int)+(↑x2:Int)))] 0 (q1z i0)/\(0<=(↑x2:Int)/\(↑x2:Int)<(zc5 x0))/\x0.1≠noA/\∃(i1:Int),(∀i2,z1h x0 x1 i2->q4o i2 (adr x0.1 (toNat (↑x2:Int)*1)) [int u8 i1])/\(4:Int)≠0/\Ji (zc4 i1 0) (zjy x0 x1 x2 i0) (zjq x0 x1 x2 i1 i0)
 def z53:=length (nmO x12 x1 x2)<=x5/\qoo x11 x4 (take (length (nmO x12 x1 x2)*nat_lit 1) (List.flatMap stV (nmO x12 x1 x2)))
 def z6y:=((((z1h x0 x1 x11)/\PB.ok x3 x11)/\z53 x1 x2 x4 x5 x11 0)/\z53 x1 x2 x7 x6 x11 1)/\z53 x1 x2 x9 x8 x11 2
 abbrev z9o:=(↑(PB.x2 x3).2.1:Int)
 abbrev z3j:=(↑(length (nmO x12 x1 x2)):Int)
 abbrev z9p:=(↑(PB.x3 x3).2.1:Int)
 def z2k:=x4=x4/\length (nmO x12 x1 x2)=length (nmO x12 x1 x2)/\x5=x5/\x14
 def z9l:=z2k x1 x2 x4 x5 2 (mkS []=mkS []/\(PB.x1 x3).1=(PB.x1 x3).1/\(PB.x1 x3).2.1=(PB.x1 x3).2.1/\(PB.x1 x3).2.2=(PB.x1 x3).2.2/\(PB.x2 x3).1=(PB.x2 x3).1/\(PB.x2 x3).2.1=(PB.x2 x3).2.1/\(PB.x2 x3).2.2=(PB.x2 x3).2.2/\(PB.x3 x3).1=(PB.x3 x3).1/\(PB.x3 x3).2.1=(PB.x3 x3).2.1/\(PB.x3 x3).2.2=(PB.x3 x3).2.2/\(∀i0,z6y x0 x1 x2 x3 x7 x6 x8 x9 x5 x4 i0->z6y x0 x1 x2 x3 x7 x6 x8 x9 x5 x4 i0)/\x10<=length (nmO x12 x1 (length x1))/\x14)
 abbrev z55:=nmO x12 x1 (length x1)
 def z6v:=(!decide (x13=x15))= !decide (x13=x15)
 def z2j:=z6v x13 x15/\z6v x13 x15/\x14
 def zg3:=z6v x13 x15/\z2j x13 (z2j x13 (z2j x13 (((!decide (x13=x15))=true->true=false/\True)/\((!decide (x13=x15))=false->False)) x15) x15) x15
 def zk5:=z9n x2/\∃(i0:Nat),z2i x0 (z2k x1 x5 x4 x6 1 (z2k x1 x5 x7 x8 0 (z54 i0 x2/\z9l x0 x1 x5 x3 x9 x10 x8 x7 x6 x4 i0 1 (length (z55 x1 1)- i0<length (z55 x1 1)- x2/\True))))
 def zk3:=((!decide ((↑x2:Int)=1))=true->true=false/\True)/\((!decide ((↑x2:Int)=1))=false->zk5 x0 x1 x5 x3 x4 x6 x8 x7 x10 x9 x16)
 def zk0:=z6v x13 x15/\z2j x13 ((0<=(↑x2:Int)/\(↑x2:Int)<(z9o x3))/\(PB.x2 x3).1≠noA/\z2j x13 (∃i0,∃(i1:Nat),∃(i2:Nat),(∀i3,z6y x0 x1 x5 x3 x4 x6 x8 x7 x10 x9 i3->q4o i3 (Addr.add (adr (PB.x2 x3).1 (toNat (↑x2:Int)*7)) 1) [slice i0 i1 i2])/\z2j x13 (((!decide (x13=x15))=true->true=false/\True)/\((!decide (x13=x15))=false->zk3 x0 x1 i1 x3 x7 x2 x5 x4 x8 x9 x6 x10)) x15) x15) x15
 def zjv:=(0<=(↑x2:Int)/\(↑x2:Int)<(z9o x3))/\(PB.x2 x3).1≠noA/\∃i0,(∀i1,z6y x0 x1 x5 x3 x4 x6 x8 x7 x10 x9 i1->q4o i1 (Addr.add (adr (PB.x2 x3).1 (toNat (↑x2:Int)*7)) 0) [string i0])/\(0<=(↑x2:Int)/\(↑x2:Int)<(z3j x1 x5 1))/\x7≠noA/\∃i2,(∀i3,z6y x0 x1 x5 x3 x4 x6 x8 x7 x10 x9 i3->q4o i3 (adr x7 (toNat (↑x2:Int)*1)) [string i2])/\((!decide (i0=i2))=true->zg3 i0 i2)/\((!decide (i0=i2))=false->zk0 x0 x1 x2 x3 x4 x5 x6 x7 x8 x9 x10 i0 i2)
 def zk4:=z9n x2/\∃(i0:Nat),z2i x0 (z2k x1 x5 x4 x6 1 (z54 i0 x2/\z2k x1 x5 x7 x8 0 (z9l x0 x1 x5 x3 x9 x10 x8 x7 x6 x4 i0 2 (length (z55 x1 2)- i0<length (z55 x1 2)- x2/\True))))
 def zk2:=((!decide ((↑x2:Int)=1))=true->true=false/\True)/\((!decide ((↑x2:Int)=1))=false->zk4 x0 x1 x5 x3 x4 x6 x8 x7 x10 x9 x16)
 def zjz:=z6v x13 x15/\z2j x13 ((0<=(↑x2:Int)/\(↑x2:Int)<(z9p x3))/\(PB.x3 x3).1≠noA/\z2j x13 (∃i0,∃(i1:Nat),∃(i2:Nat),(∀i3,z6y x0 x1 x5 x3 x4 x6 x8 x7 x10 x9 i3->q4o i3 (Addr.add (adr (PB.x3 x3).1 (toNat (↑x2:Int)*2)) 1) [slice i0 i1 i2])/\z2j x13 (((!decide (x13=x15))=true->true=false/\True)/\((!decide (x13=x15))=false->zk2 x0 x1 i1 x3 x7 x2 x5 x4 x8 x9 x6 x10)) x15) x15) x15
 def zju:=(0<=(↑x2:Int)/\(↑x2:Int)<(z9p x3))/\(PB.x3 x3).1≠noA/\∃i0,(∀i1,z6y x0 x1 x5 x3 x4 x6 x8 x7 x10 x9 i1->q4o i1 (Addr.add (adr (PB.x3 x3).1 (toNat (↑x2:Int)*2)) 0) [string i0])/\(0<=(↑x2:Int)/\(↑x2:Int)<(z3j x1 x5 2))/\x9≠noA/\∃i2,(∀i3,z6y x0 x1 x5 x3 x4 x6 x8 x7 x10 x9 i3->q4o i3 (adr x9 (toNat (↑x2:Int)*1)) [string i2])/\((!decide (i0=i2))=true->zg3 i0 i2)/\((!decide (i0=i2))=false->zjz x0 x1 x2 x3 x4 x5 x6 x7 x8 x9 x10 i0 i2)
 def zjs:=Ji ((↑x2:Int)<(z3j x1 x5 2)) (zju x0 x1 x2 x3 x4 x5 x6 x7 x8 x9 x10) (∃(i10:Option Addr×Nat×Nat),i10.1=x0.1/\i10.2.1=x0.2.1/\i10.2.2=x0.2.2/\True/\∃(i11:(Option Addr×Nat×Nat)×List Int×Int×Int),i11.2.2.2=1/\i11.1.1=i10.1/\i11.1.2.1=i10.2.1/\i11.1.2.2=i10.2.2/\i11.2.2.1=0/\(zan i11.2.1 i11.2.2.1/\0<i11.2.2.2/\i11.2.2.2<1000000)/\(∀i12,z6y x0 x1 x5 x3 x4 x6 x8 x7 x10 x9 i12->byP i11.1 i11.2.1 i12)/\true=decide (z9r i11.2.1 i11.2.2.1 i11.2.2.2=0)/\True)
 def zjr:=(∃(i0:Nat),z2i x0 (z2k x1 x2 x4 x5 1 ((↑i0:Int)=0/\z2k x1 x2 x7 x6 0 (z9l x0 x1 x2 x3 x9 x8 x6 x7 x5 x4 i0 2 True))))/\∀(i2:Nat),i2<=length (z55 x1 2)->zjs x0 x1 i2 x3 x7 x2 x6 x4 x5 x9 x8
 def zqf:=Ji ((↑x2:Int)<(z3j x1 x5 1)) (zjv x0 x1 x2 x3 x4 x5 x6 x7 x8 x9 x10) (zjr x0 x1 x5 x3 x7 x8 x6 x4 x10 x9)
 def zqe:=(∃(i0:Nat),z2i x0 (z2k x1 x2 x4 x5 1 (z2k x1 x2 x7 x6 0 ((↑i0:Int)=0/\z9l x0 x1 x2 x3 x9 x8 x6 x7 x5 x4 i0 1 True))))/\∀(i4:Nat),i4<=length (z55 x1 1)->zqf x0 x1 i4 x3 x7 x2 x6 x4 x5 x9 x8
 def zqd:=((!decide ((z9p x3)=(z3j x1 x2 2)))=true->true=false/\True)/\((!decide ((z9p x3)=(z3j x1 x2 2)))=false->zqe x0 x1 x2 x3 x4 x5 x6 x7 x8 x9)
 def zqc:=((!decide ((z9o x3)=(z3j x1 x2 1)))=true->true=false/\True)/\((!decide ((z9o x3)=(z3j x1 x2 1)))=false->zqd x0 x1 x2 x3 x4 x5 x6 x7 x8 x9)
 def zqb:=((!decide (PB.e x3=0))=true->true=false/\True)/\((!decide (PB.e x3=0))=false->∃(i0:StS),i0.1.1=(PB.x1 x3).1/\i0.1.2.1=(PB.x1 x3).2.1/\i0.1.2.2=(PB.x1 x3).2.2/\i0.2.2.1.1=x4/\i0.2.2.1.2.1=length (nmO 0 x1 x2)/\i0.2.2.1.2.2=x5/\length i0.2.1<1000000/\(∀i1,z6y x0 x1 x2 x3 x4 x5 x6 x7 x8 x9 i1->rwP stV i0.2.1 i0.1 i1/\rwP stV i0.2.2.2 i0.2.2.1 i1)/\((!decide (i0.2.1=i0.2.2.2))=true->true=false/\True)/\((!decide (i0.2.1=i0.2.2.2))=false->zqc x0 x1 x2 x3 x7 x6 x5 x4 x8 x9))
 def zqa:=Ji ((↑x2:Int)<(zc5 x0)) (zjp x0 x1 x2) (∃(i20:PsS),i20.1=txO x1 x2/\(size i20.1<100000/\lxR i20.1=(i20.2,(0:Nat),(0:Nat))/\tP i20.2)/\(∀i21,z1h x0 x1 i21->zg5 i21)/\∀(i24:PB),z1l i20.2 i24->(∃i25,(z1h x0 x1 i25)/\PB.ok i24 i25)->∀(i27 i28 i29:Nat) (i30:Option Addr) (i31 i32:Nat),(∃i33,((z1h x0 x1 i33)/\PB.ok i24 i33)/\z53 x1 x2 i30 i32 i33 0)->∀(i35 i36 i37:Nat) (i38:Option Addr) (i39 i40:Nat),(∃i41,(((z1h x0 x1 i41)/\PB.ok i24 i41)/\z53 x1 x2 i30 i32 i41 0)/\z53 x1 x2 i38 i40 i41 1)->∀(i43 i44 i45:Nat) (i46:Option Addr) (i47 i48:Nat),(∃i49,z6y x0 x1 x2 i24 i30 i32 i40 i38 i48 i46 i49)->zqb x0 x1 x2 i24 i30 i32 i40 i38 i48 i46)
 def zq9:=(∃(i0:Nat),z2i x0 (txO x1 i0=mkS [115,121,110,116,97,120,61,39,112,114,111,116,111,51,39,59]/\(↑i0:Int)=0/\length (nmO 1 x1 i0)=0/\length (nmO 0 x1 i0)=0/\length (nmO 2 x1 i0)=0/\(∀i1,z1h x0 x1 i1->z1h x0 x1 i1)/\i0<=length x1/\True))/\∀(i4:Nat),i4<=length x1->zqa x0 x1 i4
 def zq8:=Ji (25<(zc5 x0)) (true=true/\True) (zq9 x0 x1)
 def zq7:=True/\(∀i0,z1h x0 x1 i0->zg4 i0)/\((!true)=true->true=false/\True)/\((!true)=false->zq8 x0 x1)
end
def zek(x:SV) (L:List Int):qr8 P (qkv [(6,z22),(8,cSt),(9,zdm),(10,zl7)]) (qm5 [(7,z5c)]) Go.Proofs.Tryd.f4 zmr (zn2) ⟨x,L⟩=((length L<9223372036854775808/\∀(b:Int),b∈L->0<=b/\b<256)->(∃(p:Pub),z1h x L p)->zq7 x L):=by kernel_rfl
def zi8:=λx L=>Eq.trans (zek x L) (by delta Ji Jb Jt Jf zg5 zg4 z1h zc5 z2i zc4 z9n zc1 z54 z2m zc3 z2l zc2 z9m zjy zjw zjx zk1 zjt zjq zjp z53 z6y z9o z3j z9p z2k z9l z55 z6v z2j zg3 zk5 zk3 zk0 zjv zk4 zk2 zjz zju zjs zjr zqf zqe zqd zqc zqb zqa zq9 zq8 zq7;exact rfl)
def z0x(a b:List Nat):mkS (a++b)=mkS a++mkS b:=by
 apply ByteArray.ext
 unfold mkS
 simp[List.map_append]
def z05(e:List Nat):∀a b:List Pq,z00 e (a++b)=z00 [] a++z00 e b
 | [],b=>rfl
 |x::a,b=>by rw[List.cons_append,z00,z00,z05 e a b];simp only[List.append_assoc]
def z7k{α:Type} {f:α->List Value} {k:Nat} (hk:∀x,(f x).length=k):∀(l:List α) {i:Nat} (hi:i<l.length) {j:Nat} (hj:j<k),(l.flatMap f)[i*k+j]? =(f l[i])[j]?
  | x::l,0,_,j,hj=>by
    rw[List.flatMap_cons,Nat.zero_mul,Nat.zero_add,List.getElem?_append_left (by rw[hk];exact hj)];rfl
  | x::l,i+1,hi,j,hj=>by
    rw[List.flatMap_cons,List.getElem?_append_right (by rw[hk,Nat.succ_mul];omega),hk,show(i+1)*k+j- k=i*k+j by rw[Nat.succ_mul];omega,z7k hk l (by simpa using hi) hj];rfl
def z3u{α:Type} {f:α->List Value} {k:Nat} (hk:∀x,(f x).length=k) {l:List α} {p:Pub} {a:Option Addr} (h:qoo p a (l.flatMap f)) {i:Nat} (hi:i<l.length) {j:Nat} (hj:j<k) {v:Value} (hv:(f l[i])[j]? =some v):a≠noA/\q4o p ((adr a (i*k)).add j) [v]:=by
  have e:=z7k hk l hi hj
  rcases h with⟨h,_⟩|⟨a,rfl,h1,h2⟩
  · rw[h,hv]at e;cases e
  · refine⟨by simp,λj' w hw=> ?_⟩
    cases j' with
    |succ j'=>simp at hw
    | zero=>
      have:w=v:=by simpa using hw.symm
      subst this
      show q88 p (((a.add (i*k)).add j).add 0)=some w
      rw[zgv a h1]
      have:(a.add (i*k+j)).add 0=a.add (i*k+j):=by
        show(if(0:Nat)=0 then _ else _)=_
        rw[if_pos rfl]
      rw[this]
      exact h2 _ w (by rw[e,hv])
def z3x{l:List ByteArray} {p:Pub} {a:Option Addr} (h:qoo p a (l.flatMap stV)) {i:Nat} (hi:i<l.length):a≠noA/\q4o p (adr a (i*1)) [.string l[i]]:=by
 have:=z3u (f:=stV) (k:=1) (λ_=>rfl) h hi (j:=0) (by decide) (v:= .string l[i]) rfl
 refine⟨this.1,?_⟩
 have e:∀b:Addr,b.add 0=b:=λb=>by
  show(if(0:Nat)=0 then _ else _)=_
  rw[if_pos rfl]
 rw[←e (adr a (i*1))];exact this.2
def z1v:∀(L:List Int) {i:Nat} (hi:i<L.length),(z68 L)[i]? =some (.int .u8 L[i])
  |b::L,0,_=>rfl
  | b::L,i+1,hi=>by
    show(z68 L)[i]? =_
    rw[z1v L (i:=i) (by simpa using hi)];rfl
def z9w{x:SV} {L:List Int} {p:Pub} (h:byP x L p) {i:Nat} (hi:i<L.length):x.1≠noA/\q4o p (adr x.1 (i*1)) [.int .u8 L[i]]:=by
  obtain⟨x1,n,c⟩:=x
  obtain⟨h1,h2⟩:=h
  rcases h2.2 with⟨h,_⟩|⟨a,rfl,h1,h2⟩
  · have:=z1v L hi
    rw[h]at this;cases this
  · refine⟨by simp,λj v hj=> ?_⟩
    cases j with
    |succ j=>simp at hj
    | zero=>
      show q88 p ((a.add (i*1)).add 0)=some v
      rw[zgv a h1]
      exact h2 _ v (by rw[Nat.mul_one,Nat.add_zero,z1v L hi];exact hj)
def zi4:q7w P 10 zl7:=by
 refine qr9 mixed z06 (W:=λ_=>{}) Go.Proofs.Tryd.func10 (by kernel_rfl) (by decide) (by decide) (λs=>by kernel_rfl) λ⟨(x:SV),(L:List Int),(n:Int),(m:Int)⟩=>(zi3 x L n m).mpr ?_
 rintro⟨⟨hn0,hn1,hL,hb⟩,hm0,hm1⟩ ⟨p,_,hp⟩
 have hx:x.2.1=L.length:=hp.1
 simp only[sbS,Int.toNat_natCast,hx]
 obtain⟨i,rfl⟩:=Int.eq_ofNat_of_zero_le hn0
 have e:((i:Int)+1- 1).toNat=i:=by omega
 refine⟨λh=>⟨?_,?_⟩,λh=> ?_⟩
 ·unfold z9r;rw[if_pos h]
 ·unfold zgd;rw[if_pos h]
 ·have hi:i<L.length:=by omega
  rw[e]
  refine⟨by omega,by omega,by omega,(z9w hp hi).1,L[i],λq hq=>(z9w hq hi).2,?_⟩
  have r:z9r L i m=Int.tmod L[i] m:=by
   unfold z9r
   rw[if_neg h,Int.toNat_natCast,List.getD_eq_getElem?_getD,List.getElem?_eq_getElem hi];rfl
  have hbi:=hb L[i] (List.getElem_mem hi)
  have nn:zgd L i=i+1:=by unfold zgd;rw[if_neg h]
  rw[r,nn]
  exact⟨by omega,by omega,rfl,rfl⟩
def ze7:q7w P 9 zdm:=by
 refine qr9 mixed z06 (W:=λ_=>{}) Go.Proofs.Tryd.func9 (by kernel_rfl) (by decide) (by decide) (λs=>by kernel_rfl) λ(x:SV)=>(ze6 x).mpr ?_
 intros
 simp
def zar:q7w P 8 cSt:=by
 refine qr9 mixed z06 (W:=wSt) Go.Proofs.Tryd.func8 (by kernel_rfl) (by decide) (by decide) (λs=>by kernel_rfl) λ⟨(x:SV),l,(y:SV),m⟩=>(zaq x l y m).mpr ?_
 rintro hl ⟨p,_,hx,hy⟩
 have lx:x.2.1=l.length:=hx.1
 have ly:y.2.1=m.length:=hy.1
 simp only[sbS,Int.toNat_natCast,lx,ly]
 refine⟨λh e=>h (by rw[e]),λh=> ?_⟩
 have hlm:l.length=m.length:=by omega
 refine⟨⟨0,rfl,Nat.zero_le _,rfl⟩,λi hi=>⟨λhlt=> ?_,λhge=> ?_⟩⟩
 ·have h1:i<l.length:=by omega
  have h2:i<m.length:=by omega
  refine⟨⟨by omega,by omega⟩,(z3x hx.2.2 h1).1,l[i],λq hq=>(z3x hq.1.2.2 h1).2,⟨by omega,by omega⟩,(z3x hy.2.2 h2).1,m[i],λq hq=>(z3x hq.2.2.2 h2).2,λhne e=>hne (by simp only[e]),λhe=>⟨⟨by omega,by omega⟩,i+1,by omega,⟨by omega,?_⟩,by omega⟩⟩
  rw[List.take_add_one,List.take_add_one,hi.2,List.getElem?_eq_getElem h1,List.getElem?_eq_getElem h2,he]
 ·have hi2:=hi.2
  rw[List.take_of_length_le (by omega),List.take_of_length_le (by omega)]at hi2
  exact hi2
section
def POb:List Pq->Bool
 | []=>true
 |x::l=>WK x.2&&(decide (x.1=[])||decide (x.1=[32]))&&(!z8z x.2|| !za7 ((z00 [] l).headD 0))&&POb l
def ndB:List Pq->Bool
 | []=>true
 | [x]=> !z8z x.2
 |_::l=>ndB l
def wdB(l:List Pq):Bool:=l.all λx=>(x.1++x.2).all (λc=>decide (c<256))&&z1n.all λw=> !decide (w=(z2g x.2).2.1)
def gdB(l:List Pq):Bool:=POb l&&(ndB l&&wdB l)
structure Gd(e:List Nat) (l:List Pq):Prop where
 po:POA e l
 by':∀x∈l,(∀c∈x.1++x.2,c<256)/\(z2g x.2).2.1∉z1n
def zc7:∀{l:List Pq},POb l=true->POA [] l
  | [],_=>trivial
  | x::l,h=>by
    unfold POb at h
    simp only[Bool.and_eq_true,Bool.or_eq_true,decide_eq_true_eq]at h
    refine⟨h.1.1.1,h.1.1.2,λhw=> ?_,zc7 h.2⟩
    have:=h.1.2
    rw[hw]at this
    simpa using this
def zlc{l:List Pq} (h:gdB l=true):Gd [] l:=by
 unfold gdB wdB at h
 simp only[Bool.and_eq_true,List.all_eq_true]at h
 refine⟨zc7 h.1,λx hx=> ?_⟩
 have:=h.2.2 x hx
 simp only[decide_eq_true_eq,Bool.not_eq_true',decide_eq_false_iff_not]at this
 exact⟨this.1,λh=>this.2 _ h rfl⟩
def zdv(e:List Nat) {x:Pq} {l b:List Pq} (hx:WK x.2=true):(z00 e (x::l++b)).headD 0=(z00 [] (x::l)).headD 0:=by
  show(x.1++(x.2++z00 e (l++b))).headD 0=(x.1++(x.2++z00 [] l)).headD 0
  have:=(z4q (r:=[]) hx).2.2
  cases h1:x.1 with
  |cons c q=>rfl
  | nil=>
    cases h2:x.2 with
    |nil=>exact absurd h2 this
    |cons c q=>rfl
def z6z{e:List Nat} {b:List Pq} (hb:POA e b):∀{a:List Pq},POA [] a->ndB a=true->POA e (a++b)
  | [],_,_=>hb
  | [x],h,hn=>by
    refine⟨h.1,h.2.1,λhw=> ?_,hb⟩
    unfold ndB at hn
    rw[hw]at hn;cases hn
  | x::y::a,h,hn=>by
    refine⟨h.1,h.2.1,λhw=> ?_,z6z hb h.2.2.2 (by unfold ndB at hn;exact hn)⟩
    rw[show(y::a).append b=y::a++b from rfl,zdv e h.2.2.2.1]
    exact h.2.2.1 hw
variable {e:List Nat}
def Gd.app{a b:List Pq} (ha:gdB a=true) (hb:Gd e b):Gd e (a++b):=by
 have g:=zlc ha
 unfold gdB at ha
 simp only[Bool.and_eq_true]at ha
 refine⟨z6z hb.po g.po ha.2.1,λx hx=> ?_⟩
 rcases List.mem_append.1 hx with hx|hx
 ·exact g.by' x hx
 ·exact hb.by' x hx
def Gd.flat{e:List Nat} {f:Nat->List Pq} {b:List Pq} (hb:Gd e b):∀(n j:Nat),(∀i,j<=i->i<j+n->gdB (f i)=true)->Gd e ((List.range' j n).flatMap f++b)
  |0,j,_=>by rw[List.range'_zero];exact hb
  | n+1,j,h=>by
    rw[List.range'_succ,List.flatMap_cons,List.append_assoc]
    exact Gd.app (h j (Nat.le_refl _) (by omega)) (Gd.flat hb n (j+1) λi h1 h2=>h i (by omega) (by omega))
def Gd.nil:Gd e []:=⟨trivial,λx hx=>by cases hx⟩
def Gd.lt{e:List Nat} (he:SpA e):∀{l:List Pq},(∀x∈l,∀c∈x.1++x.2,c<256)->∀c∈z00 e l,c<256
  | [],_,c,hc=>by
    rcases he with rfl|rfl
    · cases hc
    · have:c=32:=by simpa[z00]using hc
      omega
  | x::l,h,c,hc=>by
    rw[z00,←List.append_assoc]at hc
    rcases List.mem_append.1 hc with hc|hc
    · exact h x List.mem_cons_self c hc
    · exact Gd.lt he (λy hy=>h y (List.mem_cons_of_mem _ hy)) c hc
def zi1:mkS []∉z1n:=by
 have:(z1n.all λw=> !decide (w=mkS []))=true:=by decide+kernel
 intro h
 have:=List.all_eq_true.1 this _ h
 simp at this
def z8q{e:List Nat}:∀{l:List Pq} (o:Nat),(∀x∈l,(z2g x.2).2.1∉z1n)->∀t∈z0j e o l,t.2.1∉z1n
  | [],o,_,t,ht=>by
    have:t=(5,mkS [],0,o+e.length):=by simpa[z0j]using ht
    rw[this];exact zi1
  | x::l,o,h,t,ht=>by
    rw[z0j]at ht
    rcases List.mem_cons.1 ht with rfl|ht
    · exact h x List.mem_cons_self
    · exact z8q _ (λy hy=>h y (List.mem_cons_of_mem _ hy)) t ht
def Gd.lex{e:List Nat} (he:SpA e) {l:List Pq} (h:Gd e l) (hs:(z00 e l).length<=3000):(mkS (z00 e l)).size<100000/\lxR (mkS (z00 e l))=(z0j e 0 l,0,0)/\tP (z0j e 0 l):=by
  refine⟨by rw[q0u];omega,zab he (Gd.lt he λx hx=>(h.by' x hx).1) h.po hs,⟨?_,z8q 0 λx hx=>(h.by' x hx).2⟩,?_⟩
  · obtain⟨m,a,_,e2⟩:=z3b e l 0
    rw[e2]
    have:∀l:List Pq,(∀x∈l,WK x.2=true)->l.length<=(z00 e l).length:=by
      intro l hl
      induction l with
      |nil=>exact Nat.zero_le _
      | cons x l ih=>
        have:=ih λy hy=>hl y (List.mem_cons_of_mem _ hy)
        have h1:=List.length_pos_iff.2 (z4q (r:=[]) (hl x List.mem_cons_self)).2.2
        rw[z00,List.length_append,List.length_append,List.length_cons];omega
    have w:∀l:List Pq,POA e l->∀x∈l,WK x.2=true:=by
      intro l
      induction l with
      |nil=>intro _ x hx;cases hx
      | cons y l ih=>
        rintro⟨h1,_,_,h4⟩ x hx
        rcases List.mem_cons.1 hx with rfl|hx
        · exact h1
        · exact ih h4 x hx
    have:=this l (w l h.po)
    omega
  · obtain⟨m,a,e1,_⟩:=z3b e l 0
    exact⟨m,a,e1⟩
def zif{x:SV} {e:List Nat} {l:List Pq} (hP:tP (z0j e 0 (zgc++l))):∃c,c.P/\St c (l.map wdK)/\z3l x (z0j e 0 (zgc++l))=ptL ⟨c,⟨[],[],[]⟩⟩:=by
 have s0:St ⟨x,z0j e 0 (zgc++l),0,0⟩ (syK++l.map wdK):=St.start (by rw[z4p,List.map_append];rfl)
 exact⟨_,(Rc.rfl.sy (c:=⟨x,z0j e 0 (zgc++l),0,0⟩)).P hP,s0.sy,rfl⟩
end
section
def zdu:gdB zgc=true:=by decide+kernel
def z8d:∀j,j<26->gdB (zmw j)=true/\gdB (zmz j)=true/\gdB (zmt j)=true/\gdB zlv=true/\plB (mkS [97+j])=true/\isLet (97+j)=true:=by decide+kernel
def z8b{j:Nat} (hj:j<26) (b:Int):gdB (z47 b j)=true:=by
 obtain⟨h1,h2,h3,h4,_⟩:=z8d j hj
 unfold z47
 split
 ·exact h1
 split
 ·exact h2
 split
 ·exact h3
 ·exact h4
def zao(b:Int) (j:Nat):(z00 [] (z47 b j)).length<=40:=by
 unfold z47
 split
 ·show 12<=40;decide
 split
 ·show 27<=40;decide
 split
 ·show 18<=40;decide
 ·show 2<=40;decide
def zen(L:List Int) (i:Nat):zem L (i+1)=zem L i++z47 (pkB L i) i:=by
 unfold zem
 rw[List.range_succ,List.flatMap_append,List.flatMap_cons,List.flatMap_nil,List.append_nil]
def z4l(k:Int) (L:List Int) (i:Nat):nmO k L (i+1)=nmO k L i++(if pkB L i=k then [mkS [97+i]]else []):=by
 unfold nmO
 rw[List.range_succ,List.flatMap_append,List.flatMap_cons,List.flatMap_nil,List.append_nil]
variable {L:List Int}
def z5q{k:Int} {i:Nat} (h:pkB L i=k):nmO k L (i+1)=nmO k L i++[mkS [97+i]]:=by rw[z4l,if_pos h]
def z0h{k:Int} {i:Nat} (h:pkB L i≠k):nmO k L (i+1)=nmO k L i:=by rw[z4l,if_neg h,List.append_nil]
def z1k(k:Int) (L:List Int):∀i,(nmO k L i).length<=i
  |0=>Nat.le_refl _
  | i+1=>by
    have:=z1k k L i
    rw[z4l,List.length_append]
    split<;>simp only[List.length_singleton,List.length_nil]<;>omega
def z4m(L:List Int) (i:Nat):z00 [] (prO L (i+1))=z00 [] (prO L i)++z00 [] (z47 (pkB L i) i):=by
 unfold prO
 rw[zen,←List.append_assoc,z05]
def z8a(L:List Int):∀i,(z00 [] (prO L i)).length<=16+40*i
  |0=>by show 16<=16;decide
  | i+1=>by
    have:=z8a L i
    have:=zao (pkB L i) i
    rw[z4m,List.length_append];omega
def zew(L:List Int) (i:Nat):(txO L i).size<=16+40*i:=by
 unfold txO;rw[q0u];exact z8a L i
def fO(L:List Int) (i:Nat):PFl:=⟨nmO 0 L i,(nmO 1 L i).map λx=>(x,1),(nmO 2 L i).map λx=>(x,1)⟩
def zej{j:Nat} (hj:j<25) {c:Cu} {l:List K3} (hP:c.P) (h:St c ((z47 (pkB L j) j).map wdK++l)):St (c.pt (fO L j)) l/\c.ptF (fO L j)=fO L (j+1):=by
 obtain⟨_,_,_,_,hp,hl⟩:=z8d j (by omega)
 have e97:wdK ([32],[97+j])=(1,mkS [97+j],0):=by
  show z2g [97+j]=_
  rw[z0b,if_pos hl]
 have l0:=z1k 0 L j
 have l1:=z1k 1 L j
 have l2:=z1k 2 L j
 have m1:(fO L j).ms.length<30:=by show((nmO 1 L j).map _).length<30;rw[List.length_map];omega
 have m2:(fO L j).en.length<30:=by show((nmO 2 L j).map _).length<30;rw[List.length_map];omega
 have m0:(fO L j).im.length<30:=by show(nmO 0 L j).length<30;omega
 unfold z47 at h
 by_cases h0:pkB L j=0
 ·rw[if_pos h0]at h
  have h:St c ((1,imW,0)::(3,mkS [97+j],0)::(4,smW,0)::l):=h
  have:=ptI h m0
  refine⟨this.1,this.2.trans ?_⟩
  unfold fO
  rw[z5q h0,z0h (by omega),z0h (by omega)]
 rw[if_neg h0]at h
 by_cases h1:pkB L j=1
 ·rw[if_pos h1]at h
  have h:St c ((1,mgW,0)::wdK ([32],[97+j])::(4,obW,0)::(1,mkS [105,110,116,51,50],0)::(1,mkS [120],0)::(4,eqW,0)::(2,mkS [],1)::(4,smW,0)::(4,cbW,0)::l):=h
  rw[e97]at h
  have:=ptM h hP hp (by decide+kernel) (z0q (by decide)) (z0q (by decide)) (z0q (by decide)) m1
  refine⟨this.1,this.2.trans ?_⟩
  unfold fO
  rw[z5q h1,z0h (by omega),z0h (by omega),List.map_append];rfl
 rw[if_neg h1]at h
 by_cases h2:pkB L j=2
 ·rw[if_pos h2]at h
  have h:St c ((1,euW,0)::wdK ([32],[97+j])::(4,obW,0)::(1,mkS [88],0)::(4,eqW,0)::(2,mkS [],0)::(4,smW,0)::(4,cbW,0)::l):=h
  rw[e97]at h
  have:=ptE (g:=0) h hP hp (by decide+kernel) (by decide) m2
  refine⟨this.1,this.2.trans ?_⟩
  unfold fO
  rw[z5q h2,z0h (by omega),z0h (by omega),List.map_append];rfl
 rw[if_neg h2]at h
 have h:St c ((4,smW,0)::l):=h
 have:=ptS (f:=fO L j) h
 refine⟨this.1,this.2.trans ?_⟩
 unfold fO
 rw[z0h (by omega),z0h (by omega),z0h (by omega)]
def zlr(b:Int) (j:Nat):∃k w n l,(z47 b j).map wdK=(k,w,n)::l/\k≠5:=by
 unfold z47
 split
 ·exact⟨1,imW,0,_,rfl,by decide⟩
 split
 ·exact⟨1,mgW,0,_,rfl,by decide⟩
 split
 ·exact⟨1,euW,0,_,rfl,by decide⟩
 ·exact⟨4,smW,0,_,rfl,by decide⟩
def zcv{L:List Int} {n:Nat} (hn:n<=25):∀(k j:Nat) (c:Cu),j+k=n->c.P->St c (((List.range' j k).flatMap λj=>z47 (pkB L j) j).map wdK)->∃d:Cu,d.e=0/\ptL ⟨c,fO L j⟩=⟨d,fO L n⟩
  | 0,j,c,hj,hP,h=>by
    rw[List.range'_zero]at h
    have h:St c []:=h
    have:j=n:=by omega
    subst this
    exact⟨c,h.1,z2r (z1t h)⟩
  | k +1,j,c,hj,hP,h=>by
    rw[List.range'_succ,List.flatMap_cons,List.map_append]at h
    obtain⟨h1,h2⟩:=zej (by omega) hP h
    obtain⟨k0,w,m,l,e,hk⟩:=zlr (pkB L j) j
    have hg:z46 ⟨c,fO L j⟩=true:=by
      rw[e]at h
      exact z27 h hk
    rw[z5r (s:=⟨c,fO L j⟩) hP hg]
    have:zge ⟨c,fO L j⟩=⟨c.pt (fO L j),fO L (j+1)⟩:=congrArg (PtS.mk _) h2
    rw[this]
    exact zcv hn k (j+1) _ (by omega) (z8e ⟨c,fO L j⟩ hP hg).1 h1
def zcu(L:List Int) {n:Nat} (hn:n<=25):(txO L n).size<100000/\lxR (txO L n)=(z0j [] 0 (prO L n),0,0)/\tP (z0j [] 0 (prO L n)):=by
 have g:Gd [] (prO L n):=by
  refine Gd.app zdu ?_
  unfold zem
  rw[List.range_eq_range',←List.append_nil (List.flatMap _ _)]
  exact Gd.nil.flat n 0 λi _ h=>z8b (by omega) _
 have:=z8a L n
 exact g.lex (.inl rfl) (by omega)
def zi7(L:List Int) {n:Nat} (hn:n<=25) (x:SV):(z3l x (z0j [] 0 (prO L n))).c.e=0/\(z3l x (z0j [] 0 (prO L n))).f=fO L n:=by
 obtain⟨c,hP,hs,e⟩:=zif (x:=x) (e:=[]) (l:=zem L n) (zcu L hn).2.2
 unfold zem at hs
 rw[List.range_eq_range']at hs
 obtain⟨d,h1,h2⟩:=zcv hn n 0 c (by omega) hP hs
 have e:z3l x (z0j [] 0 (prO L n))=⟨d,fO L n⟩:=e.trans h2
 rw[e]
 exact⟨h1,rfl⟩
end
def zgx:∀(l:List Nat),(∀x∈l,x<256)->q1z (mkS l)=l.map λx=>Value.int .u8 (x:Nat)
  | [],_=>rfl
  | c::l,h=>by
    have:=zgx l λx hx=>h x (List.mem_cons_of_mem _ hx)
    have hc:=h c List.mem_cons_self
    unfold q1z mkS at*
    simp only[List.map_cons]at*
    rw[this]
    congr 1
    simp[Nat.mod_eq_of_lt hc]
def one_sub{i:Nat} (h:i<26):qmc [.int .u8 (IntKind.wrap .u8 (97+(i:Int)))] 0 (q1z (mkS [97+i])):=by
  have e:IntKind.wrap .u8 (97+(i:Int))=((97+i:Nat):Int):=by
    have:=(by decide+kernel:∀i,i<26->IntKind.wrap .u8 (97+((i:Nat):Int))=((97+i:Nat):Int)) i h
    exact this
  rw[e]
  intro j v hj
  cases j with
  |succ j=>simp[q1z,mkS]at hj
  | zero=>
    rw[zgx _ (λx hx=>by simp only[List.mem_singleton]at hx;omega)]at hj
    exact hj
def tx3(L:List Int) (i:Nat) {a b:List Nat} (h:z00 [] (z47 (pkB L i) i)=a++([97+i]++b)):txO L (i+1)=txO L i++mkS a++mkS [97+i]++mkS b:=by
 unfold txO
 rw[z4m,h,z0x,z0x,z0x]
 simp only[ByteArray.append_assoc]
def tx1(L:List Int) (i:Nat) {a:List Nat} (h:z00 [] (z47 (pkB L i) i)=a):txO L (i+1)=txO L i++mkS a:=by
 unfold txO
 rw[z4m,h,z0x]
def z32{k:Int} {L:List Int} {i:Nat} (h:pkB L i=k):(nmO k L (i+1)).length=(nmO k L i).length+1/\(nmO k L (i+1)).flatMap stV=(nmO k L i).flatMap stV++[.string (mkS [97+i])]:=by
 rw[z5q h,List.length_append,z1r];exact⟨rfl,rfl⟩
def z5s(a b:ByteArray):(a++b).size=a.size+b.size:=ByteArray.size_append
def zi9(hB:q7w P 6 z22):q7w P 4 zmr:=by
 refine qq9 mixed (qhc (qmn hB (qmn zar (qmn ze7 (qmn zi4 qqs))))) (qig (qmm z3s qqr)) (W:=zn2) Go.Proofs.Tryd.func4 (by kernel_rfl) (by decide) (by decide) (λs=>by kernel_rfl) λ⟨(x:SV),L⟩=>(zi8 x L).mpr ?_
 rintro⟨hL,hL8⟩ ⟨p0,_,hx,⟨m0,hm0⟩,_⟩
 have hxl:x.2.1=L.length:=hx.1
 refine⟨trivial,λq hq=>hq.2.2,λh=>absurd h (by decide),λ_=>⟨λ_=>⟨rfl,trivial⟩,λh25=> ?_⟩⟩
 have h25:L.length<=25:=by
  have:=of_decide_eq_false h25
  rw[hxl]at this;omega
 refine⟨⟨0,rfl,rfl,rfl,rfl,rfl,rfl,rfl,rfl,λq hq=>hq,Nat.zero_le _,trivial⟩,λi hi=>⟨λhlt=> ?_,λhge=> ?_⟩⟩
 ·have hlt:i<L.length:=by
   have:=of_decide_eq_true hlt
   rw[hxl]at this;omega
  have hbi:=hL8 _ (List.getElem_mem hlt)
  have ep:pkB L i=Int.tmod L[i] 4:=by
   unfold pkB
   rw[List.getD_eq_getElem?_getD,List.getElem?_eq_getElem hlt];rfl
  have sz:=zew L i
  have bnd: -9223372036854775808<=(i:Int)+1/\(i:Int)+1<=9223372036854775807:=by omega
  have len1:∀k,((nmO k L i).flatMap stV).length=(nmO k L i).length*1:=λk=>z03 (f:=stV) (λ_=>rfl) _
  have len2:∀k,((nmO k L i).length+1)*16<=140737488355328:=λk=>by have:=z1k k L i;omega
  have ns:(mkS [97+i]).size=1:=q0u _
  refine⟨⟨by omega,by omega⟩,mkS [97+i],ns,one_sub (by omega),⟨by omega,by rw[hxl];omega⟩,(z9w hx hlt).1,L[i],λq hq=>(z9w hq.2.1 hlt).2,by decide,?_⟩
  rw[←ep]
  refine⟨λh0=> ?_,λh0=>⟨λh1=> ?_,λh1=>⟨λh2=> ?_,λh2=> ?_⟩⟩⟩
  ·have h0:=of_decide_eq_true h0
   have n1:nmO 1 L (i+1)=nmO 1 L i:=z0h (by omega)
   have n2:nmO 2 L (i+1)=nmO 2 L i:=z0h (by omega)
   have n0:=z32 h0
   simp only[z5s,q0u,List.length_cons,List.length_nil]
   refine⟨by omega,by omega,by omega,len1 0,len2 0,bnd,i+1,trivial,trivial,trivial,tx3 L i (by rw[h0];rfl),by omega,by rw[n1],n0.1,by rw[n2],by rw[n2],n0.2,by rw[n1],λq hq=>hq,by omega,by omega,trivial⟩
  ·have h0:=of_decide_eq_false h0
   have h1:=of_decide_eq_true h1
   have n0:nmO 0 L (i+1)=nmO 0 L i:=z0h (by omega)
   have n2:nmO 2 L (i+1)=nmO 2 L i:=z0h (by omega)
   have n1:=z32 h1
   simp only[z5s,q0u,List.length_cons,List.length_nil]
   refine⟨by omega,by omega,by omega,len1 1,len2 1,bnd,i+1,trivial,trivial,trivial,tx3 L i (by rw[h1];rfl),by omega,n1.1,by rw[n0],by rw[n2],by rw[n2],by rw[n0],n1.2,λq hq=>hq,by omega,by omega,trivial⟩
  ·have h0:=of_decide_eq_false h0
   have h1:=of_decide_eq_false h1
   have h2:=of_decide_eq_true h2
   have n0:nmO 0 L (i+1)=nmO 0 L i:=z0h (by omega)
   have n1:nmO 1 L (i+1)=nmO 1 L i:=z0h (by omega)
   have n2:=z32 h2
   simp only[z5s,q0u,List.length_cons,List.length_nil]
   refine⟨by omega,by omega,by omega,len1 2,len2 2,bnd,i+1,trivial,trivial,trivial,tx3 L i (by rw[h2];rfl),by omega,by rw[n1],by rw[n0],n2.1,n2.2,by rw[n0],by rw[n1],λq hq=>hq,by omega,by omega,trivial⟩
  ·have h0:=of_decide_eq_false h0
   have h1:=of_decide_eq_false h1
   have h2:=of_decide_eq_false h2
   have n0:nmO 0 L (i+1)=nmO 0 L i:=z0h (by omega)
   have n1:nmO 1 L (i+1)=nmO 1 L i:=z0h (by omega)
   have n2:nmO 2 L (i+1)=nmO 2 L i:=z0h (by omega)
   have e:z47 (pkB L i) i=zlv:=by
    unfold z47;rw[if_neg h0,if_neg h1,if_neg h2]
   simp only[z5s,q0u,List.length_cons,List.length_nil]
   refine⟨by omega,bnd,i+1,trivial,trivial,trivial,tx1 L i (by rw[e];rfl),by omega,by rw[n1],by rw[n0],by rw[n2],by rw[n2],by rw[n0],by rw[n1],λq hq=>hq,by omega,by omega,trivial⟩
 ·have:i=L.length:=by
   have:=of_decide_eq_false hge
   rw[hxl]at this;omega
  subst this
  have lx:=zcu L h25
  refine⟨(txO L L.length,z0j [] 0 (prO L L.length)),rfl,lx,λq hq=>hq.2.2.1,λb hb hbp b1 s2 u a n c h4 b2 s3 u2 a2 n2 c2 h5 b3 s4 u3 a4 n4 c4 h6=> ?_⟩
  obtain⟨xx,e1,e2⟩:=hb
  obtain⟨r1,r2⟩:=zi7 L h25 xx
  have e0:b.e=0:=e1.symm.trans r1
  have ef:b.d.pf=fO L L.length:=(e2 e0).trans r2
  have i1:b.d.im=nmO 0 L L.length:=congrArg PFl.im ef
  have i2:b.d.ms.map (λx=>(x.1,x.2.1.2.1))=(nmO 1 L L.length).map (λx=>(x,1)):=congrArg PFl.ms ef
  have i3:b.d.en.map (λx=>(x.1,x.2.2.1))=(nmO 2 L L.length).map (λx=>(x,1)):=congrArg PFl.en ef
  obtain⟨q1,⟨⟨⟨⟨_,g0⟩,g1⟩,g2⟩,g3⟩⟩:=h6
  rw[e0]
  refine⟨λh=>absurd h (by decide),λ_=> ?_⟩
  have R:∀(k:Int) {q:Pub} {a:Option Addr},qoo q a (List.take ((nmO k L L.length).length*1) ((nmO k L L.length).flatMap stV))->qoo q a ((nmO k L L.length).flatMap stV):=λk {q a} h=>z3a (z03 (f:=stV) (λ_=>rfl) _) h
  have l2:b.d.ms.length=(nmO 1 L L.length).length:=by
   have:=congrArg List.length i2
   rwa [List.length_map,List.length_map]at this
  have l3:b.d.en.length=(nmO 2 L L.length).length:=by
   have:=congrArg List.length i3
   rwa [List.length_map,List.length_map]at this
  have x2l:b.x2.2.1=(nmO 1 L L.length).length:=g0.2.1.1.trans l2
  have x3l:b.x3.2.1=(nmO 2 L L.length).length:=g0.2.2.1.trans l3
  have at2:∀(i:Nat) (h:i<b.d.ms.length) (h':i<(nmO 1 L L.length).length),b.d.ms[i].1=(nmO 1 L L.length)[i]/\b.d.ms[i].2.1.2.1=1:=λi h h'=>by
   have:=congrArg (λl=>l[i]?) i2
   simp only[List.getElem?_map,List.getElem?_eq_getElem h,List.getElem?_eq_getElem h',Option.map_some,Option.some.injEq,Prod.mk.injEq]at this
   exact this
  have at3:∀(i:Nat) (h:i<b.d.en.length) (h':i<(nmO 2 L L.length).length),b.d.en[i].1=(nmO 2 L L.length)[i]/\b.d.en[i].2.2.1=1:=λi h h'=>by
   have:=congrArg (λl=>l[i]?) i3
   simp only[List.getElem?_map,List.getElem?_eq_getElem h,List.getElem?_eq_getElem h',Option.map_some,Option.some.injEq,Prod.mk.injEq]at this
   exact this
  have ln0:=z1k 0 L L.length
  have ln1:=z1k 1 L L.length
  have ln2:=z1k 2 L L.length
  refine⟨(b.x1,b.d.im,(a,(nmO 0 L L.length).length,c),nmO 0 L L.length),rfl,rfl,rfl,rfl,rfl,rfl,by rw[i1];show(nmO 0 L L.length).length<1000000;omega,λq hq=>⟨hq.1.1.1.2.1,rfl,hq.1.1.2.1,R 0 hq.1.1.2.2⟩,λh=> ?_,λ_=>⟨λh=> ?_,λ_=>⟨λh=> ?_,λ_=>⟨?_,λi hi=>⟨λhlt=> ?_,λ_=>⟨?_,λi hi=>⟨λhlt=> ?_,λ_=> ?_⟩⟩⟩⟩⟩⟩⟩
  ·rw[show decide (b.d.im=nmO 0 L L.length)=true from decide_eq_true i1]at h
   exact absurd h (by decide)
  ·rw[x2l,decide_eq_true rfl]at h
   exact absurd h (by decide)
  ·rw[x3l,decide_eq_true rfl]at h
   exact absurd h (by decide)
  ·exact⟨0,rfl,rfl,rfl,rfl,rfl,rfl,rfl,rfl,rfl,rfl,rfl,rfl,rfl,rfl,rfl,rfl,rfl,rfl,rfl,rfl,rfl,rfl,rfl,λq hq=>hq,Nat.zero_le _,trivial⟩
  ·have hlt:=of_decide_eq_true hlt
   have h1:i<(nmO 1 L L.length).length:=by omega
   have h2:i<b.d.ms.length:=by omega
   obtain⟨w1,w2⟩:=at2 i h2 h1
   have C0:∀q,PB.ok b q->_/\q4o q ((adr b.x2.1 (i*7)).add 0) [.string b.d.ms[i].1]:=λq hq=>z3u (f:=fmV) (k:=7) (λ_=>rfl) hq.2.1.2.2 h2 (by decide) rfl
   have C1:∀q,PB.ok b q->_/\q4o q ((adr b.x2.1 (i*7)).add 1) [svV b.d.ms[i].2.1]:=λq hq=>z3u (f:=fmV) (k:=7) (λ_=>rfl) hq.2.1.2.2 h2 (by decide) rfl
   have bnd: -9223372036854775808<=(i:Int)+1/\(i:Int)+1<=9223372036854775807:=by omega
   refine⟨⟨by omega,by rw[x2l];omega⟩,(C0 q1 g0).1,_,λq hq=>(C0 q hq.1.1.1.2).2,⟨by omega,by omega⟩,(z3x (R 1 g2.2) h1).1,_,λq hq=>(z3x (R 1 hq.1.2.2) h1).2,λh=> ?_,λ_=> ?_⟩
   ·rw[w1,decide_eq_true rfl]at h
    exact absurd h (by decide)
   rw[w1]
   refine⟨rfl,rfl,rfl,⟨by omega,by rw[x2l];omega⟩,(C0 q1 g0).1,rfl,rfl,_,_,_,λq hq=>(C1 q hq.1.1.1.2).2,rfl,rfl,λh=> ?_,λ_=>⟨λh=> ?_,λ_=>⟨bnd,i+1,rfl,rfl,rfl,rfl,rfl,rfl,rfl,rfl,rfl,by omega,rfl,rfl,rfl,rfl,rfl,rfl,rfl,rfl,rfl,rfl,rfl,rfl,rfl,λq hq=>hq,by omega,by omega,trivial⟩⟩⟩
   ·rw[decide_eq_true rfl]at h
    exact absurd h (by decide)
   ·rw[w2]at h
    exact absurd h (by decide)
  ·exact⟨0,rfl,rfl,rfl,rfl,rfl,rfl,rfl,rfl,rfl,rfl,rfl,rfl,rfl,rfl,rfl,rfl,rfl,rfl,rfl,rfl,rfl,rfl,rfl,λq hq=>hq,Nat.zero_le _,trivial⟩
  ·have hlt:=of_decide_eq_true hlt
   have h1:i<(nmO 2 L L.length).length:=by omega
   have h2:i<b.d.en.length:=by omega
   obtain⟨w1,w2⟩:=at3 i h2 h1
   have C0:∀q,PB.ok b q->_/\q4o q ((adr b.x3.1 (i*2)).add 0) [.string b.d.en[i].1]:=λq hq=>z3u (f:=peV) (k:=2) (λ_=>rfl) hq.2.2.2.2 h2 (by decide) rfl
   have C1:∀q,PB.ok b q->_/\q4o q ((adr b.x3.1 (i*2)).add 1) [svV b.d.en[i].2]:=λq hq=>z3u (f:=peV) (k:=2) (λ_=>rfl) hq.2.2.2.2 h2 (by decide) rfl
   have bnd: -9223372036854775808<=(i:Int)+1/\(i:Int)+1<=9223372036854775807:=by omega
   refine⟨⟨by omega,by rw[x3l];omega⟩,(C0 q1 g0).1,_,λq hq=>(C0 q hq.1.1.1.2).2,⟨by omega,by omega⟩,(z3x (R 2 g3.2) h1).1,_,λq hq=>(z3x (R 2 hq.2.2) h1).2,λh=> ?_,λ_=> ?_⟩
   ·rw[w1,decide_eq_true rfl]at h
    exact absurd h (by decide)
   rw[w1]
   refine⟨rfl,rfl,rfl,⟨by omega,by rw[x3l];omega⟩,(C0 q1 g0).1,rfl,rfl,_,_,_,λq hq=>(C1 q hq.1.1.1.2).2,rfl,rfl,λh=> ?_,λ_=>⟨λh=> ?_,λ_=>⟨bnd,i+1,rfl,rfl,rfl,rfl,rfl,rfl,by omega,rfl,rfl,rfl,rfl,rfl,rfl,rfl,rfl,rfl,rfl,rfl,rfl,rfl,rfl,rfl,rfl,λq hq=>hq,by omega,by omega,trivial⟩⟩⟩
   ·rw[decide_eq_true rfl]at h
    exact absurd h (by decide)
   ·rw[w2]at h
    exact absurd h (by decide)
  ·have pk:zan L 0:=⟨Int.le_refl _,by omega,by show L.length<1000000;omega,hL8⟩
   have e0:z9r L 0 1=0:=by
    unfold z9r
    split
    ·rfl
    ·exact Int.tmod_one _
   exact⟨x,rfl,rfl,rfl,trivial,(x,L,0,1),rfl,rfl,rfl,rfl,rfl,⟨pk,by show(0:Int)<1;decide,by show(1:Int)<1000000;decide⟩,λq hq=>hq.1.1.1.1.2.1,by show true=decide (z9r L 0 1=0);rw[e0];rfl,trivial⟩
def rp{α:Type}:Nat->List α->List α
 |0,_=>[]
 |n+1,l=>l++rp n l
def pBs:List (List Nat):=[[109,101,115,115,97,103,101,32,65,32,123,125,32],[101,110,117,109,32,65,32,123,125,32],[105,109,112,111,114,116,32,39,120,39,59,32],[105,110,116,51,50,32,97,32,61,32,49,59,32],[66,32,61,32,48,59,32],[111,110,101,111,102,32,97,32,123,32,105,110,116,51,50,32,98,32,61,32,49,59,32,125,32],[109,101,115,115,97,103,101,32,65,32,123,32]]
def pB(k:Nat):List Nat:=pBs.getD k []
def sxB:List Nat:=[115,121,110,116,97,120,32,61,32,39,112,114,111,116,111,51,39,59]
def hB(k:Nat):List Nat:=if k=3\/k=5 then sxB++[109,101,115,115,97,103,101,32,77,32,123]else if k=4 then sxB++[101,110,117,109,32,69,32,123]else sxB
def eB(n k:Nat):List Nat:=if k=3\/k=5\/k=4 then [125]else if k=6 then rp n [125]else []
def mxI(k:Nat):Int:=if k=6 then 20 else 30
def nI(a:Int):Nat:=(Int.tmod a 45).toNat
def kI(b:Int):Nat:=(Int.tmod b 7).toNat
abbrev MoS:=Int×Int
def zh0:Ct where
 σ:=MoS
 args:=λ⟨a,b⟩=>[.sv (.int .u8 a), .sv (.int .u8 b)]
 h:=λ_=>[]
 m:=1
 pre:=λ⟨a,b⟩=>(0<=a/\a<256)/\0<=b/\b<256
 mem:=λ_=>bgM
 r:=λ_=> .sv (.bool true)
 h':=λ_=>[]
 m':=1
 g:=λ_=>none
def zis:MoS->WayF:=λ⟨a,b⟩=>{
 ann:=λid tt hh=>match id with
  |1=>some {σ:=Nat,pre:=λi=>i<=nI a,t:=λi=>[(10, .sv (.int .i64 (i:Nat))),(7, .sv (.string (mkS (rp i [125]))))],h:=λ_=>[],more:=0,μ:=λi=>nI a- i,keep:=[0,1,5,6,8,9]}
  |_=>some {σ:=Nat,pre:=λi=>i<=nI a,t:=λi=>[(11, .sv (.int .i64 (i:Nat))),(6, .sv (.string (mkS (hB (kI b)++rp i (pB (kI b))))))],h:=λ_=>[],more:=0,μ:=λi=>nI a- i,keep:=[0,1,5,7,8,9]}
 cut:=λi tt hh=>match i with
  |6=>some {σ:=Unit,find:=some λ_ _=>some (),t:=λ_=>[(5, .sv (.int .i64 (nI a:Nat))),(9, .sv (.string (mkS (pB (kI b)))))],h:=λ_=>[],more:=0,μ:=λ_=>0,keep:=[0,1,6,7,8]}
  |18=>some {σ:=Unit,find:=some λ_ _=>some (),t:=λ_=>[(6, .sv (.string (mkS (hB (kI b))))),(7, .sv (.string (mkS (eB (nI a) (kI b))))),(8, .sv (.int .i64 (mxI (kI b))))],h:=λ_=>[],more:=0,μ:=λ_=>0,keep:=[0,1,5,9]}
  |_=>none}
section
variable (x0 x1 x2:Int) (x3:Nat) (x4:PB) (x5:Nat->Option Obj) (x6:Prop)
 abbrev zg9:=∃(i0:Int),q88 x5 (Addr.mk 1 0 none)=some (int i64 i0)
 def zg7:=(zg9 x5)/\kwP x5
 def zga:=True/\zg7 x5
 def z3k:=(∀i0,zga i0->zga i0)
 abbrev z56:=Int.tmod x0 (7:Int)=x1
 def z45:=(↑(nI x0):Int)=(↑(nI x0):Int)/\mkS (pB (kI x1))=mkS (pB (kI x1))/\x6
 def zkd:=x0=x0/\x1=x1/\mkS (eB (nI x0) (kI x1))=mkS [125]/\z45 x0 x1 (mxI (kI x1)=30/\mkS (hB (kI x1))=mkS [115,121,110,116,97,120,32,61,32,39,112,114,111,116,111,51,39,59,109,101,115,115,97,103,101,32,77,32,123]/\z3k/\True/\True)
 def zke:=x0=x0/\x1=x1/\mkS (eB (nI x0) (kI x1))=mkS [125]/\z45 x0 x1 (mxI (kI x1)=30/\mkS (hB (kI x1))=mkS [115,121,110,116,97,120,32,61,32,39,112,114,111,116,111,51,39,59,101,110,117,109,32,69,32,123]/\z3k/\True/\True)
 abbrev zg8:=Jb ((↑x3:Int)+1)
 def zkf:=size (mkS (rp x3 [(125:Nat)]))+size (mkS [125])<=9223372036854775807/\zg8 x3/\∃(i0:Nat),x0=x0/\x1=x1/\mkS (rp i0 [(125:Nat)])=mkS (rp x3 [(125:Nat)])++mkS [125]/\z45 x0 x1 ((↑i0:Int)=(↑x3:Int)+1/\z3k/\i0<=nI x0/\nI x0- i0<nI x0- x3/\True)
 def zg6:=z45 x0 x1 (mxI (kI x1)=x2/\mkS (hB (kI x1))=mkS [115,121,110,116,97,120,32,61,32,39,112,114,111,116,111,51,39,59]/\z3k/\True/\True)
 def zkg:=x0=x0/\x1=x1/\mkS (eB (nI x0) (kI x1))=mkS (rp x3 [(125:Nat)])/\zg6 x0 x1 20
 def zk8:=Ji ((↑x3:Int)<(↑(nI x0):Int)) (zkf x0 x1 x3) (zkg x0 x1 x3)
 def zk7:=(∃(i0:Nat),x0=x0/\x1=x1/\mkS (rp i0 [(125:Nat)])=mkS []/\z45 x0 x1 ((↑i0:Int)=0/\z3k/\i0<=nI x0/\True))/\∀(i2:Nat),i2<=nI x0->zk8 x0 x1 i2
 def zkh:=x0=x0/\x1=x1/\mkS (eB (nI x0) (kI x1))=mkS []/\zg6 x0 x1 30
 abbrev zqm:=Ji (z56 x0 6) (zk7 x1 x0) (zkh x1 x0)
 abbrev zql:=Ji (z56 x0 4) (zke x1 x0) (zqm x0 x1)
 def zmq:=Ji (Int.tmod x0 (7:Int)=x2) (zkd x1 x0) (zql x0 x1)
 abbrev z57:=hB (kI x0)++rp x3 (pB (kI x0))
 def zkc:=size (mkS (z57 x0 x3))+size (mkS (pB (kI x0)))<=9223372036854775807/\zg8 x3/\∃(i0:Nat),x1=x1/\x0=x0/\mkS (eB (nI x1) (kI x0))=mkS (eB (nI x1) (kI x0))/\(↑i0:Int)=(↑x3:Int)+1/\z45 x1 x0 (mxI (kI x0)=mxI (kI x0)/\mkS (z57 x0 i0)=mkS (z57 x0 x3)++mkS (pB (kI x0))/\z3k/\i0<=nI x1/\nI x1- i0<nI x1- x3/\True)
 abbrev z6w:=(↑(PB.x2 x4).2.1:Int)
 abbrev z6x:=(↑(PB.x3 x4).2.1:Int)
 abbrev z9q:=(↑(PB.x1 x4).2.1:Int)
 def zc6:=(Jf (PB.e x4=0)->true=false/\True)
 def zkj:=(Jt (PB.e x4=0)->true=decide ((z6w x4)+(z6x x4)+(z9q x4)=1)/\True)/\zc6 x4
 abbrev zkl:=true=decide ((z6w x4)+(z6x x4)+(z9q x4)=if(1:Int)<(↑(nI x0):Int)then 1 else(↑(nI x0):Int))/\True
 def zki:=(Jt (PB.e x4=0)->zkl x0 x4)/\zc6 x4
 def zkk:=(Jt (PB.e x4=0)->true=decide ((z6w x4)+(z6x x4)+(z9q x4)=(↑(nI x0):Int))/\True)/\zc6 x4
 abbrev zkb:=Ji (z56 x0 6) (zki x1 x4) (zkk x1 x4)
 def zl6:=Ji (Int.tmod x0 (7:Int)=x2) (zkj x4) (zkb x0 x1 x4)
 def zka:=Jb ((z6w x4)+(z6x x4))/\Jb ((z6w x4)+(z6x x4)+(z9q x4))/\(7:Int)≠0/\Ji (z56 x0 3) (zl6 x0 x1 3 x4) (Ji (z56 x0 4) (zl6 x0 x1 4 x4) (zl6 x0 x1 5 x4))
 def zk9:=Ji (mxI (kI x0)<(↑(nI x1):Int)) (true=decide (PB.e x4=3)/\True) (zka x0 x1 x4)
 def zk6:=size (mkS (z57 x0 x3))+size (mkS (eB (nI x1) (kI x0)))<=9223372036854775807/\∃(i0:PsS),i0.1=mkS (z57 x0 x3)++mkS (eB (nI x1) (kI x0))/\(size i0.1<100000/\lxR i0.1=(i0.2,(0:Nat),(0:Nat))/\tP i0.2)/\(∀i1,zga i1->zg9 i1)/\∀(i3:PB),z1l i0.2 i3->(∃i4,(zga i4)/\PB.ok i3 i4)->zk9 x0 x1 i3
 def zqk:=Ji ((↑x3:Int)<(↑(nI x0):Int)) (zkc x1 x0 x3) (zk6 x1 x0 x3)
 def zqj:=(∃(i0:Nat),x0=x0/\x1=x1/\mkS (eB (nI x0) (kI x1))=mkS (eB (nI x0) (kI x1))/\(↑i0:Int)=0/\z45 x0 x1 (mxI (kI x1)=mxI (kI x1)/\mkS (z57 x1 i0)=mkS (hB (kI x1))/\z3k/\i0<=nI x0/\True))/\∀(i4:Nat),i4<=nI x0->zqk x0 x1 i4
 def zqi:=((7:Int)≠0/\Ji (z56 x0 3) (zmq x0 x1 3) (zmq x0 x1 5))/\∀(i42:Unit),True->zqj x1 x0
 def zqh:=(45:Int)≠0/\((-9223372036854775808:Int)<=Int.tmod x0 45/\Int.tmod x0 (45:Int)<=9223372036854775807)/\((7:Int)≠0/\(0<=Int.tmod x1 7/\Int.tmod x1 (7:Int)<(↑(nat_lit 7):Int))/\∃i0,qmc [string (mkS [109,101,115,115,97,103,101,32,65,32,123,125,32]),string (mkS [101,110,117,109,32,65,32,123,125,32]),string (mkS [105,109,112,111,114,116,32,39,120,39,59,32]),string (mkS [105,110,116,51,50,32,97,32,61,32,49,59,32]),string (mkS [66,32,61,32,48,59,32]),string (mkS [111,110,101,111,102,32,97,32,123,32,105,110,116,51,50,32,98,32,61,32,49,59,32,125,32]),string (mkS [109,101,115,115,97,103,101,32,65,32,123,32])] (nat_lit 0+toNat (Int.tmod x1 7)*1) [string i0]/\x0=x0/\x1=x1/\(↑(nI x0):Int)=Int.tmod x0 45/\mkS (pB (kI x1))=i0/\z3k/\True/\True)/\∀(i4:Unit),True->zqi x1 x0
 def zqg:=True/\(∀i0,zga i0->zg7 i0)/\((!true)=true->true=false/\True)/\((!true)=false->zqh x0 x1)
end
def zae(a b:Int):qr8 P (qkv [(6,z22)]) (qm5 [(7,z5c)]) Go.Proofs.Tryd.f3 zh0 (zis) ⟨a,b⟩=((0<=a/\a<256)/\0<=b/\b<256->(∃(p:Pub),zga p)->zqg a b):=by kernel_rfl
def zeb:=λa b=>Eq.trans (zae a b) (by delta Ji Jb Jt Jf zg9 zg7 zga z3k z56 z45 zkd zke zg8 zkf zg6 zkg zk8 zk7 zkh zqm zql zmq z57 zkc z6w z6x z9q zc6 zkj zkl zki zkk zkb zl6 zka zk9 zk6 zqk zqj zqi zqh zqg;exact rfl)
section
def z1m{α:Type} (l:List α):∀n,rp (n+1) l=rp n l++l
  |0=>by show l++[]=[]++l;rw[List.append_nil];rfl
  | n+1=>by
    show l++rp (n+1) l=(l++rp n l)++l
    rw[z1m l n,List.append_assoc]
def Rc.stay{c d:Cu} (r:Rc c d) (h:c.e≠0):d.e=c.e:=by
  induction r with
  |rfl=>rfl
  |nx _ ih=>rw[Cu.nx_e];exact ih
  | fa e _ ih=>
    unfold Cu.fa
    rw[if_neg (by rw[ih];exact h)];exact ih
def Rc.e3{c d:Cu} (r:Rc c d) (h:c.e=3):d.e=3:=by rw[r.stay (by rw[h];decide),h]
variable {c:Cu}
def zha(h:c.e=0):(c.fa 3).e=3:=by unfold Cu.fa;rw[if_pos h]
def z39{S:Type} {L:S->S} {cu:S->Cu} {go:S->Bool} {bd:S->S} (hgo:∀s,(cu s).P->go s=true->L s=L (bd s)) (hno:∀s,go s=false->L s=s) (hz:∀s,(cu s).e≠0->go s=false) (hR:∀s,Rc (cu s) (cu (bd s))) {pk tl:List K3} {I:S->Nat->Prop} (hg:∀s l,St (cu s) (pk++l)->go s=true) (hstep:∀s j l,(cu s).P->I s j->j<30->St (cu s) (pk++l)->St (cu (bd s)) l/\I (bd s) (j+1)) (hfull:∀s j l,(cu s).P->I s j->30<=j->St (cu s) (pk++l)->(cu (bd s)).e=3) (hend:∀s,St (cu s) tl->go s=false):
    ∀m s j,(cu s).P->I s j->j<=30->St (cu s) (rp m pk++tl)->(j+m<=30->St (cu (L s)) tl/\I (L s) (j+m))/\(30<j+m->(cu (L s)).e=3)
  | 0,s,j,hP,hI,hj,hs=>by
    rw[hno s (hend s hs)]
    exact⟨λ_=>⟨hs,hI⟩,λh=>absurd h (by omega)⟩
  | m +1,s,j,hP,hI,hj,hs=>by
    have hs:St (cu s) (pk++(rp m pk++tl)):=by
      rw[←List.append_assoc];exact hs
    rw[hgo s hP (hg s _ hs)]
    by_cases hlt:j<30
    · obtain⟨h1,h2⟩:=hstep s j _ hP hI hlt hs
      have ih:=z39 hgo hno hz hR hg hstep hfull hend m (bd s) (j+1) ((hR s).P hP) h2 (by omega) h1
      rw[show j+1+m=j+(m+1)by omega]at ih
      exact ih
    · have h3:=hfull s j _ hP hI (by omega) hs
      rw[hno (bd s) (hz _ (by rw[h3];decide))]
      exact⟨λh=>absurd h (by omega),λ_=>h3⟩
def tot(f:PFl):Nat:=f.ms.length+f.en.length+f.im.length
def zqr(lim:PFl->Nat) (s:PtS) (j:Nat):Prop:=lim s.f=j/\tot s.f=j
def z8g{lim:PFl->Nat} {pk:List K3} {k0:Nat} {w0:ByteArray} {n0:Nat} {q:List K3} (he:pk=(k0,w0,n0)::q) (hk:k0≠5) (h1:∀(c:Cu) f l,c.P->lim f<30->St c (pk++l)->St (c.pt f) l/\lim (c.ptF f)=lim f+1/\tot (c.ptF f)=tot f+1) (h2:∀(c:Cu) f l,c.P->30<=lim f->St c (pk++l)->(c.pt f).e=3) (m:Nat) (c:Cu) (hP:c.P) (f:PFl) (h0:lim f=0/\tot f=0) (hs:St c (rp m pk)):(m<=30->(ptL ⟨c,f⟩).c.e=0/\tot (ptL ⟨c,f⟩).f=m)/\(30<m->(ptL ⟨c,f⟩).c.e=3):=by
 have r:=z39 (S:=PtS) (L:=ptL) (cu:=λs=>s.c) (go:=z46) (bd:=zge) (pk:=pk) (tl:=[]) (I:=zqr lim) (λs hP hg=>z5r hP hg) (λs hg=>z2r hg) (λs h=>by
  unfold z46;rw[decide_eq_false h];rfl) (λs=>Rc.pt s.c s.f) (λs l h=>by rw[he]at h;exact z27 (c:=s.c) (f:=s.f) h hk) (λs j l hP hI hj hs=>by
   obtain⟨a,b,d⟩:=h1 s.c s.f l hP (by rw[hI.1];exact hj) hs
   exact⟨a,b.trans (by rw[hI.1]),d.trans (by rw[hI.2])⟩) (λs j l hP hI hj hs=>h2 s.c s.f l hP (by rw[hI.1];exact hj) hs) (λs h=>z1t (c:=s.c) (f:=s.f) h) m ⟨c,f⟩ 0 hP h0 (by decide) (by rw[List.append_nil];exact hs)
 rw[Nat.zero_add]at r
 exact⟨λh=>⟨(r.1 h).1.1,(r.1 h).2.2⟩,r.2⟩
def zhv{c:Cu} {w:ByteArray} {d:Nat} {l:List K3} (h:St c ((1,mgW,0)::(1,w,0)::(4,obW,0)::(4,cbW,0)::l)) (hw:plB w=true):St (c.ms (d+1)) l:=by
 obtain⟨q,e2⟩:=h.ms0 hw
 show St ((msL (Cu.ms d) ⟨c.ms0,⟨0,0,0,0⟩⟩).c.tk 4 cbW) l
 rw[z26 (z38 q)];exact q.tk
def z1a{n:Nat} (h:c.e=0) (hn:30<=n):(c.rm n).e=3:=by
 rw[zlu (by omega)];exact zha h
def mgK:List K3:=[(1,mgW,0),(1,mkS [65],0),(4,obW,0),(4,cbW,0)]
def euK:List K3:=[(1,euW,0),(1,mkS [65],0),(4,obW,0),(4,cbW,0)]
def imK:List K3:=[(1,imW,0),(3,mkS [120],0),(4,smW,0)]
def plA:plB (mkS [65])=true/\plB (mkS [97])=true/\plB (mkS [98])=true/\plB (mkS [66])=true/\plB (mkS [77])=true/\plB (mkS [69])=true:=by decide+kernel
def zhu(m:Nat) (c:Cu) (hP:c.P) (hs:St c (rp m mgK)):(m<=30->(ptL ⟨c,⟨[],[],[]⟩⟩).c.e=0/\tot (ptL ⟨c,⟨[],[],[]⟩⟩).f=m)/\(30<m->(ptL ⟨c,⟨[],[],[]⟩⟩).c.e=3):=by
 refine z8g (lim:=λf=>f.ms.length) (k0:=1) (w0:=mgW) (n0:=0) (q:=_) (show mgK=_ from rfl) (by decide) (λc f l hP hl h=> ?_) (λc f l hP hl h=> ?_) m c hP _ ⟨rfl,rfl⟩ hs
 ·have h:St c ((1,mgW,0)::(1,mkS [65],0)::(4,obW,0)::(4,cbW,0)::l):=h
  obtain⟨e1,e2⟩:=z67 (f:=f) (h.no (.inl (by decide))) (h.no (.inr z0a.2.2.1)) h.yes
  have r:c.rm (f.ms.length:Int)=c:=z15 (by omega)
  rw[e1,e2,r]
  refine⟨zhv h plA.1,?_,?_⟩
  ·show(f.ms++[_]).length=f.ms.length+1
   rw[List.length_append];rfl
  ·show(f.ms++[_]).length+f.en.length+f.im.length=f.ms.length+f.en.length+f.im.length+1
   rw[List.length_append,List.length_singleton];omega
 ·have h:St c ((1,mgW,0)::(1,mkS [65],0)::(4,obW,0)::(4,cbW,0)::l):=h
  obtain⟨e1,e2⟩:=z67 (f:=f) (h.no (.inl (by decide))) (h.no (.inr z0a.2.2.1)) h.yes
  rw[e1]
  exact(Rc.ms 20 _).e3 (z1a h.1 hl)
def zla{w:ByteArray} {l:List K3} (h:St c ((1,euW,0)::(1,w,0)::(4,obW,0)::(4,cbW,0)::l)) (hw:plB w=true):St c.en l:=by
 have q:St c.en0 ((4,cbW,0)::l):=((h.nx.pl hw).1).nd
 have g:z4g ⟨c.en0,0⟩=false:=by
  show(decide (c.en0.e=0)&& !c.en0.is 4 cbW)=false
  rw[q.yes];simp
 unfold Cu.en
 rw[z5h g];exact q.tk
def zh7(m:Nat) (c:Cu) (hP:c.P) (hs:St c (rp m euK)):(m<=30->(ptL ⟨c,⟨[],[],[]⟩⟩).c.e=0/\tot (ptL ⟨c,⟨[],[],[]⟩⟩).f=m)/\(30<m->(ptL ⟨c,⟨[],[],[]⟩⟩).c.e=3):=by
 refine z8g (lim:=λf=>f.en.length) (k0:=1) (w0:=euW) (n0:=0) (q:=_) (show euK=_ from rfl) (by decide) (λc f l hP hl h=> ?_) (λc f l hP hl h=> ?_) m c hP _ ⟨rfl,rfl⟩ hs
 ·have h:St c ((1,euW,0)::(1,mkS [65],0)::(4,obW,0)::(4,cbW,0)::l):=h
  obtain⟨e1,e2⟩:=z8c (f:=f) (h.no (.inl (by decide))) (h.no (.inr z0a.2.2.2.1)) (h.no (.inr z0a.2.2.2.2)) h.yes
  have r:c.rm (f.en.length:Int)=c:=z15 (by omega)
  rw[e1,e2,r]
  refine⟨zla h plA.1,?_,?_⟩
  ·show(f.en++[_]).length=f.en.length+1
   rw[List.length_append];rfl
  ·show f.ms.length+(f.en++[_]).length+f.im.length=f.ms.length+f.en.length+f.im.length+1
   rw[List.length_append,List.length_singleton];omega
 ·have h:St c ((1,euW,0)::(1,mkS [65],0)::(4,obW,0)::(4,cbW,0)::l):=h
  obtain⟨e1,e2⟩:=z8c (f:=f) (h.no (.inl (by decide))) (h.no (.inr z0a.2.2.2.1)) (h.no (.inr z0a.2.2.2.2)) h.yes
  rw[e1]
  exact(Rc.en _).e3 (z1a h.1 hl)
def zhe(m:Nat) (c:Cu) (hP:c.P) (hs:St c (rp m imK)):(m<=30->(ptL ⟨c,⟨[],[],[]⟩⟩).c.e=0/\tot (ptL ⟨c,⟨[],[],[]⟩⟩).f=m)/\(30<m->(ptL ⟨c,⟨[],[],[]⟩⟩).c.e=3):=by
 refine z8g (lim:=λf=>f.im.length) (k0:=1) (w0:=imW) (n0:=0) (q:=_) (show imK=_ from rfl) (by decide) (λc f l hP hl h=> ?_) (λc f l hP hl h=> ?_) m c hP _ ⟨rfl,rfl⟩ hs
 ·have h:St c ((1,imW,0)::(3,mkS [120],0)::(4,smW,0)::l):=h
  obtain⟨e1,e2⟩:=ptI (f:=f) h hl
  rw[e2]
  refine⟨e1,?_,?_⟩
  ·show(f.im++[_]).length=f.im.length+1
   rw[List.length_append];rfl
  ·show f.ms.length+f.en.length+(f.im++[_]).length=f.ms.length+f.en.length+f.im.length+1
   rw[List.length_append,List.length_singleton];omega
 ·have h:St c ((1,imW,0)::(3,mkS [120],0)::(4,smW,0)::l):=h
  obtain⟨e1,e2⟩:=zep (f:=f) (h.no (.inl (by decide))) h.yes
  rw[e1]
  exact(((Rc.rfl.nx).an 3).nd 4 smW).e3 (z1a h.1 hl)
end
section
def fdK:List K3:=[(1,mkS [105,110,116,51,50],0),(1,mkS [97],0),(4,eqW,0),(2,mkS [],1),(4,smW,0)]
def evK:List K3:=[(1,mkS [66],0),(4,eqW,0),(2,mkS [],0),(4,smW,0)]
def onK:List K3:=[(1,onW,0),(1,mkS [97],0),(4,obW,0),(1,mkS [105,110,116,51,50],0),(1,mkS [98],0),(4,eqW,0),(2,mkS [],1),(4,smW,0),(4,cbW,0)]
def moK:List K3:=[(1,mgW,0),(1,mkS [77],0),(4,obW,0)]
def eoK:List K3:=[(1,euW,0),(1,mkS [69],0),(4,obW,0)]
def nsK:List K3:=[(1,mgW,0),(1,mkS [65],0),(4,obW,0)]
def cbK:List K3:=[(4,cbW,0)]
variable {c:Cu}
def z8f{f:PFl} (hP:c.P) (hg:z46 ⟨c,f⟩=true):(St (c.pt f) []->ptL ⟨c,f⟩=⟨c.pt f,c.ptF f⟩)/\((c.pt f).e=3->ptL ⟨c,f⟩=⟨c.pt f,c.ptF f⟩):=by
 rw[z5r (s:=⟨c,f⟩) hP hg]
 refine⟨λh=>z2r (z1t h),λh=>z2r ?_⟩
 show(decide ((c.pt f).e=0)&& !decide ((c.pt f).hd.1=5))=false
 rw[h];rfl
def zck{m:Cn} (h:c.e≠0):z5o ⟨c,m⟩=false:=by
 show(decide (c.e=0)&& !c.is 4 cbW)=false
 rw[decide_eq_false h];rfl
variable {pk:List K3}
def zcm{I:Cn->Nat->Prop} {k0:Nat} {w0:ByteArray} {n0:Nat} {q:List K3} (he:pk=(k0,w0,n0)::q) (hk:k0≠4) (h0:I ⟨0,0,0,0⟩ 0) (h1:∀(c:Cu) m j l,c.P->I m j->j<30->St c (pk++l)->St (c.mb (Cu.ms 19) m) l/\I (c.mbN m) (j+1)) (h2:∀(c:Cu) m j l,c.P->I m j->30<=j->St c (pk++l)->(c.mb (Cu.ms 19) m).e=3) (m:Nat) (c:Cu) (hP:c.P) (hs:St c (moK++(rp m pk++cbK))):(m<=30->St (c.ms 20) [])/\(30<m->(c.ms 20).e=3):=by
 have hs:St c ((1,mgW,0)::(1,mkS [77],0)::(4,obW,0)::(rp m pk++cbK)):=hs
 obtain⟨q0,e2⟩:=hs.ms0 plA.2.2.2.2.1
 have P3:c.ms0.P:=(Rc.rfl.ms0).P hP
 have r:=z39 (S:=MS) (L:=msL (Cu.ms 19)) (cu:=λs=>s.c) (go:=z5o) (bd:=zcj (Cu.ms 19)) (pk:=pk) (tl:=cbK) (I:=λs j=>I s.m j) (λs hP hg=>z5p hP hg) (λs hg=>z26 hg) (λs h=>zck (c:=s.c) (m:=s.m) h) (λs=>Rc.mb (Rc.ms 19) s.c s.m) (λs l h=>by rw[he]at h;exact z4i (c:=s.c) (m:=s.m) h (.inl hk)) (λs j l hP hI hj hs=>h1 s.c s.m j l hP hI hj hs) (λs j l hP hI hj hs=>h2 s.c s.m j l hP hI hj hs) (λs h=>z38 (c:=s.c) (m:=s.m) (n:=0) (l:=[]) h) m ⟨c.ms0,⟨0,0,0,0⟩⟩ 0 P3 h0 (by decide) q0
 rw[Nat.zero_add]at r
 refine⟨λh=> ?_,λh=> ?_⟩
 ·have:St (msL (Cu.ms 19) ⟨c.ms0,⟨0,0,0,0⟩⟩).c ((4,cbW,0)::[]):=(r.1 h).1
  exact this.tk
 ·exact(Rc.rfl.tk 4 cbW).e3 (r.2 h)
def zci(m:Nat) (c:Cu) (hP:c.P) (hs:St c (moK++(rp m pk++cbK))) (hm:(m<=30->St (c.ms 20) [])/\(30<m->(c.ms 20).e=3)):(m<=30->(ptL ⟨c,⟨[],[],[]⟩⟩).c.e=0/\tot (ptL ⟨c,⟨[],[],[]⟩⟩).f=1)/\(30<m->(ptL ⟨c,⟨[],[],[]⟩⟩).c.e=3):=by
 have hs:St c ((1,mgW,0)::(1,mkS [77],0)::(4,obW,0)::(rp m pk++cbK)):=hs
 obtain⟨e1,e2⟩:=z67 (f:=⟨[],[],[]⟩) (hs.no (.inl (by decide))) (hs.no (.inr z0a.2.2.1)) hs.yes
 have r:c.rm (([]:List (ByteArray×Nat)).length:Int)=c:=z15 (by decide)
 have o:=z8f hP (z27 (f:=⟨[],[],[]⟩) hs (by decide))
 have e1:c.pt ⟨[],[],[]⟩=c.ms 20:=by rw[e1];show(c.rm _).ms 20=_;rw[r]
 rw[e1,e2]at o
 refine⟨λh=> ?_,λh=> ?_⟩
 ·rw[o.1 (hm.1 h)]
  exact⟨(hm.1 h).1,rfl⟩
 ·rw[o.2 (hm.2 h)]
  exact hm.2 h
def zhb(m:Nat) (c:Cu) (hP:c.P) (hs:St c (moK++(rp m fdK++cbK))):(m<=30->(ptL ⟨c,⟨[],[],[]⟩⟩).c.e=0/\tot (ptL ⟨c,⟨[],[],[]⟩⟩).f=1)/\(30<m->(ptL ⟨c,⟨[],[],[]⟩⟩).c.e=3):=by
 refine zci m c hP hs (zcm (I:=λm j=>m.nF=j) (k0:=1) (w0:=mkS [105,110,116,51,50]) (n0:=0) (q:=_) (show fdK=_ from rfl) (by decide) rfl (λc m j l hP hI hj h=> ?_) (λc m j l hP hI hj h=> ?_) m c hP hs)
 ·have h:St c ((1,mkS [105,110,116,51,50],0)::(1,mkS [97],0)::(4,eqW,0)::(2,mkS [],1)::(4,smW,0)::l):=h
  obtain⟨a,b⟩:=zmy (f:=Cu.ms 19) (m:=m) h plA.2.1 (z0q (by decide)) (z0q (by decide)) (z0q (by decide)) (by omega)
  exact⟨a,by rw[b];show m.nF+1=j+1;omega⟩
 ·have h:St c ((1,mkS [105,110,116,51,50],0)::(1,mkS [97],0)::(4,eqW,0)::(2,mkS [],1)::(4,smW,0)::l):=h
  obtain⟨e1,e2⟩:=ze8 (f:=Cu.ms 19) (m:=m) (h.no (.inl (by decide))) (h.no (.inr (z0q (by decide)))) (h.no (.inr (z0q (by decide)))) (h.no (.inr (z0q (by decide)))) h.hd.1
  rw[e1]
  exact(Rc.rfl.ty).e3 (z1a h.1 (by omega))
def zhd:z5u (mkS [105,110,116,51,50])=false:=by decide+kernel
variable {n:Nat} {l:List K3}
def zlq(h:St c (onK++l)) (hP:c.P) (hn:n<30):St (c.op n) l/\c.opN n=n+1:=by
 have h:St c ((1,onW,0)::(1,mkS [97],0)::(4,obW,0)::(1,mkS [105,110,116,51,50],0)::(1,mkS [98],0)::(4,eqW,0)::(2,mkS [],1)::(4,smW,0)::(4,cbW,0)::l):=h
 have q:St c.op0 ((1,mkS [105,110,116,51,50],0)::(1,mkS [98],0)::(4,eqW,0)::(2,mkS [],1)::(4,smW,0)::(4,cbW,0)::l):=((h.nx.pl plA.2.1).1).nd
 have P3:c.op0.P:=(Rc.op0 c).P hP
 have hg:zak ⟨c.op0,true,n⟩=true:=by
  show(decide (c.op0.e=0)&&(true|| !c.op0.is 4 cbW))=true
  rw[decide_eq_true q.1];rfl
 have st:=zcr (s:=⟨c.op0,true,n⟩) P3 hg
 have o1:c.op0.o1=c.op0:=if_neg (by rw[q.hd.2.1,zhd];simp)
 have o2:c.op0.o2=c.op0:=if_pos q.hd.1
 have o3:c.op0.o3 n=c.op0.ty:=by
  unfold Cu.o3
  rw[o1,o2,z15 (by omega)]
 have bd:zaj ⟨c.op0,true,n⟩=⟨c.op0.ty,false,n+1⟩:=by
  show OS.mk (c.op0.o3 n) false (n+1)=_
  rw[o3]
 have q2:St c.op0.ty ((4,cbW,0)::l):=q.ty plA.2.2.1
 have hg2:zak ⟨c.op0.ty,false,n+1⟩=false:=by
  show(decide (c.op0.ty.e=0)&&(false|| !c.op0.ty.is 4 cbW))=false
  rw[q2.yes];simp
 rw[bd,zcs hg2]at st
 unfold Cu.op Cu.opN
 rw[st]
 exact⟨q2.tk,rfl⟩
def zi5(m:Nat) (c:Cu) (hP:c.P) (hs:St c (moK++(rp m onK++cbK))):(m<=30->(ptL ⟨c,⟨[],[],[]⟩⟩).c.e=0/\tot (ptL ⟨c,⟨[],[],[]⟩⟩).f=1)/\(30<m->(ptL ⟨c,⟨[],[],[]⟩⟩).c.e=3):=by
 refine zci m c hP hs (zcm (I:=λm j=>m.nF=j/\m.nO=j) (k0:=1) (w0:=onW) (n0:=0) (q:=_) (show onK=_ from rfl) (by decide) ⟨rfl,rfl⟩ (λc m j l hP hI hj h0=> ?_) (λc m j l hP hI hj h0=> ?_) m c hP hs)
 all_goals have h:St c ((1,onW,0)::(1,mkS [97],0)::(4,obW,0)::(1,mkS [105,110,116,51,50],0)::(1,mkS [98],0)::(4,eqW,0)::(2,mkS [],1)::(4,smW,0)::(4,cbW,0)::l):=h0
 all_goals obtain⟨e1,e2⟩:=zht (f:=Cu.ms 19) (m:=m) (h.no (.inl (by decide))) (h.no (.inr (z0q (by decide)))) (h.no (.inr (z0q (by decide)))) h.yes
 ·have r:c.rm (m.nO:Int)=c:=z15 (by omega)
  obtain⟨a,b⟩:=zlq (n:=m.nF) h0 hP (by omega)
  rw[e1,e2,r,b]
  exact⟨a,by show m.nF+1=j+1;omega,by show m.nO+1=j+1;omega⟩
 ·rw[e1]
  exact(Rc.op _ _).e3 (z1a h.1 (by omega))
def zdr(h:St c (evK++l)) (hn:n<30):St (c.e1 n) l:=by
 have h:St c ((1,mkS [66],0)::(4,eqW,0)::(2,mkS [],0)::(4,smW,0)::l):=h
 have e0:c.e0 n=c:=by
  unfold Cu.e0;split
  ·exact z15 (by omega)
  ·rfl
 unfold Cu.e1;rw[e0]
 have q:=((h.pl plA.2.2.2.1).1).nd
 have s0:(c.pl.nd 4 eqW).s0=c.pl.nd 4 eqW:=if_neg (by rw[q.hd.2.2];omega)
 unfold Cu.sg;rw[s0]
 exact q.an.1.nd
def zdq(h:St c (evK++l)):z5g ⟨c,n⟩=⟨c.e1 n,n+1⟩/\z4g ⟨c,n⟩=true:=by
 have h:St c ((1,mkS [66],0)::(4,eqW,0)::(2,mkS [],0)::(4,smW,0)::l):=h
 refine⟨if_neg (by show¬c.is 4 smW=true;rw[h.no (.inl (by decide))];simp),?_⟩
 show(decide (c.e=0)&& !c.is 4 cbW)=true
 rw[h.no (.inl (by decide)),decide_eq_true h.1];rfl
def zh8(m:Nat) (c:Cu) (hP:c.P) (hs:St c (eoK++(rp m evK++cbK))):(m<=30->(ptL ⟨c,⟨[],[],[]⟩⟩).c.e=0/\tot (ptL ⟨c,⟨[],[],[]⟩⟩).f=1)/\(30<m->(ptL ⟨c,⟨[],[],[]⟩⟩).c.e=3):=by
 have hs:St c ((1,euW,0)::(1,mkS [69],0)::(4,obW,0)::(rp m evK++cbK)):=hs
 have q0:St c.en0 (rp m evK++cbK):=((hs.nx.pl plA.2.2.2.2.2).1).nd
 have P3:c.en0.P:=(Rc.en0 c).P hP
 have r:=z39 (S:=ES) (L:=enL) (cu:=λs=>s.c) (go:=z4g) (bd:=z5g) (pk:=evK) (tl:=cbK) (I:=λs j=>s.n=j) (λs hP hg=>z7e hP hg) (λs hg=>z5h hg) (λs h=>by
   unfold z4g;rw[decide_eq_false h];rfl) (λs=>by
   unfold z5g;split
   ·exact Rc.rfl.nx
   ·exact Rc.rfl.e1 _) (λs l h=>(zdq (c:=s.c) (n:=s.n) h).2) (λs j l hP hI hj hs=>by
   have e:=(zdq (c:=s.c) (n:=s.n) hs).1
   rw[show z5g s=⟨s.c.e1 s.n,s.n+1⟩from e]
   exact⟨zdr hs (by omega),by show s.n+1=j+1;omega⟩) (λs j l hP hI hj hs=>by
   have e:=(zdq (c:=s.c) (n:=s.n) hs).1
   rw[show z5g s=⟨s.c.e1 s.n,s.n+1⟩from e]
   have hs:St s.c ((1,mkS [66],0)::(4,eqW,0)::(2,mkS [],0)::(4,smW,0)::l):=hs
   have eb:s.c.eB=true:=by
    unfold Cu.eB
    rw[hs.hd.1,hs.hd.2.1,plA.2.2.2.1];rfl
   have e0:s.c.e0 s.n=s.c.rm s.n:=if_pos eb
   show((((s.c.e0 s.n).pl.nd 4 eqW).sg).nd 4 smW).e=3
   rw[e0]
   exact((((Rc.rfl.pl).nd 4 eqW).sg).nd 4 smW).e3 (z1a hs.1 (by omega))) (λs h=>by
   have h:St s.c ((4,cbW,0)::[]):=h
   show(decide (s.c.e=0)&& !s.c.is 4 cbW)=false
   rw[h.yes];simp) m ⟨c.en0,0⟩ 0 P3 rfl (by decide) q0
 rw[Nat.zero_add]at r
 obtain⟨e1,e2⟩:=z8c (f:=⟨[],[],[]⟩) (hs.no (.inl (by decide))) (hs.no (.inr z0a.2.2.2.1)) (hs.no (.inr z0a.2.2.2.2)) hs.yes
 have rr:c.rm (([]:List (ByteArray×Nat)).length:Int)=c:=z15 (by decide)
 have o:=z8f hP (z27 (f:=⟨[],[],[]⟩) hs (by decide))
 have e1:c.pt ⟨[],[],[]⟩=c.en:=by rw[e1];show(c.rm _).en=_;rw[rr]
 rw[e1,e2]at o
 refine⟨λh=> ?_,λh=> ?_⟩
 ·have q1:St (enL ⟨c.en0,0⟩).c ((4,cbW,0)::[]):=(r.1 h).1
  have q2:St c.en []:=q1.tk
  rw[o.1 q2]
  exact⟨q2.1,rfl⟩
 ·have q2:c.en.e=3:=(Rc.rfl.tk 4 cbW).e3 (r.2 h)
  rw[o.2 q2]
  exact q2
def zcq:∀(m d:Nat) (c:Cu) (l:List K3),c.P->St c (nsK++(rp m nsK++(rp (m+1) cbK++l)))->(m<d->St (c.ms d) l)/\(d<=m->(c.ms d).e=3)
  | m,0,c,l,hP,hs=>by
    refine⟨λh=>absurd h (by omega),λ_=> ?_⟩
    show(c.fa 3).ms0.e=3
    exact(Rc.rfl.ms0).e3 (zha hs.1)
  | 0,d+1,c,l,hP,hs=>by
    have hs:St c ((1,mgW,0)::(1,mkS [65],0)::(4,obW,0)::(4,cbW,0)::l):=hs
    exact⟨λ_=>zhv hs plA.1,λh=>absurd h (by omega)⟩
  | m + 1,d+1,c,l,hP,hs=>by
    have hs:St c ((1,mgW,0)::(1,mkS [65],0)::(4,obW,0)::(rp (m+1) nsK++(rp (m+1+1) cbK++l))):=hs
    obtain⟨q0,_⟩:=hs.ms0 plA.1
    have P3:c.ms0.P:=(Rc.rfl.ms0).P hP
    have q1:St c.ms0 (nsK++(rp m nsK++(rp (m+1) cbK++(cbK++l)))):=by
      rw[z1m cbK (m+1)]at q0
      have e:rp (m+1) nsK++(rp (m+1) cbK++cbK++l)=nsK++(rp m nsK++(rp (m+1) cbK++(cbK++l))):=by
        show(nsK++rp m nsK)++_=_
        simp only[List.append_assoc]
      rw[←e];exact q0
    have ih:=zcq m d c.ms0 (cbK++l) P3 q1
    have q2:St c.ms0 ((1,mgW,0)::(1,mkS [65],0)::(4,obW,0)::(rp m nsK++(rp (m+1) cbK++(cbK++l)))):=q1
    have st:=z5p (d:=d) (s:=⟨c.ms0,⟨0,0,0,0⟩⟩) P3 (z4i q2 (.inl (by decide)))
    obtain⟨e1,e2⟩:=zhs (f:=Cu.ms d) (m:=⟨0,0,0,0⟩) (q2.no (.inl (by decide))) q2.yes
    have r:c.ms0.rm ((0:Nat):Int)=c.ms0:=z15 (by decide)
    have bd:zcj (Cu.ms d) ⟨c.ms0,⟨0,0,0,0⟩⟩=⟨c.ms0.ms d,⟨0,0,1,0⟩⟩:=by
      show MS.mk (c.ms0.mb (Cu.ms d) ⟨0,0,0,0⟩) (c.ms0.mbN ⟨0,0,0,0⟩)=_
      rw[e1,e2]
      show MS.mk (Cu.ms d (c.ms0.rm ((0:Nat):Int))) _=_
      rw[r]
    rw[bd]at st
    refine⟨λh=> ?_,λh=> ?_⟩
    · have q3:St (c.ms0.ms d) ((4,cbW,0)::l):=ih.1 (by omega)
      show St ((msL (Cu.ms d) ⟨c.ms0,⟨0,0,0,0⟩⟩).c.tk 4 cbW) l
      rw[st,z26 (z38 q3)]
      exact q3.tk
    · have q3:=ih.2 (by omega)
      show((msL (Cu.ms d) ⟨c.ms0,⟨0,0,0,0⟩⟩).c.tk 4 cbW).e=3
      rw[st,z26 (zck (by rw[q3];decide))]
      exact(Rc.rfl.tk 4 cbW).e3 q3
def zi2(m:Nat) (c:Cu) (hP:c.P) (hs:St c (rp m nsK++rp m cbK)):(m<=20->(ptL ⟨c,⟨[],[],[]⟩⟩).c.e=0/\tot (ptL ⟨c,⟨[],[],[]⟩⟩).f=if 1<m then 1 else m)/\(20<m->(ptL ⟨c,⟨[],[],[]⟩⟩).c.e=3):=by
  cases m with
  | zero=>
    have hs:St c []:=hs
    rw[z2r (z1t hs)]
    exact⟨λ_=>⟨hs.1,rfl⟩,λh=>absurd h (by omega)⟩
  | succ m=>
    have h2:St c (nsK++(rp m nsK++(rp (m+1) cbK++[]))):=by
      rw[List.append_nil,←List.append_assoc];exact hs
    have ih:=zcq m 20 c [] hP h2
    have hs:St c ((1,mgW,0)::(1,mkS [65],0)::(4,obW,0)::(rp m nsK++(rp (m+1) cbK++[]))):=h2
    obtain⟨e1,e2⟩:=z67 (f:=⟨[],[],[]⟩) (hs.no (.inl (by decide))) (hs.no (.inr z0a.2.2.1)) hs.yes
    have r:c.rm (([]:List (ByteArray×Nat)).length:Int)=c:=z15 (by decide)
    have o:=z8f hP (z27 (f:=⟨[],[],[]⟩) hs (by decide))
    have e1:c.pt ⟨[],[],[]⟩=c.ms 20:=by rw[e1];show(c.rm _).ms 20=_;rw[r]
    rw[e1,e2]at o
    refine⟨λh=> ?_,λh=> ?_⟩
    · rw[o.1 (ih.1 (by omega))]
      refine⟨(ih.1 (by omega)).1,?_⟩
      show 1=_
      split<;>omega
    · rw[o.2 (ih.2 (by omega))]
      exact ih.2 (by omega)
end
section
def hd2:List Pq:=[([],[115,121,110,116,97,120]),([32],[61]),([32],[39,112,114,111,116,111,51,39]),([],[59])]
def pM:Nat->List Pq
 |0=>[([],[109,101,115,115,97,103,101]),([32],[65]),([32],[123]),([],[125])]
 |1=>[([],[101,110,117,109]),([32],[65]),([32],[123]),([],[125])]
 |2=>[([],[105,109,112,111,114,116]),([32],[39,120,39]),([],[59])]
 |3=>[([],[105,110,116,51,50]),([32],[97]),([32],[61]),([32],[49]),([],[59])]
 |4=>[([],[66]),([32],[61]),([32],[48]),([],[59])]
 |5=>[([],[111,110,101,111,102]),([32],[97]),([32],[123]),([32],[105,110,116,51,50]),([32],[98]),([32],[61]),([32],[49]),([],[59]),([32],[125])]
 |_=>[([],[109,101,115,115,97,103,101]),([32],[65]),([32],[123])]
def ouM(k:Nat):List Pq:=if k=3\/k=5 then [([],[109,101,115,115,97,103,101]),([32],[77]),([32],[123])]else if k=4 then [([],[101,110,117,109]),([32],[69]),([32],[123])]else []
def gap(j:Nat):List Nat:=if j=0 then []else [32]
def gp(j:Nat):List Pq->List Pq
 | []=>[]
 |x::l=>(gap j,x.2)::l
def z10(n k:Nat):List Pq:=(List.range n).flatMap λj=>gp j (pM k)
def enM(n k:Nat):List Pq:=if k=3\/k=5\/k=4 then [(gap n,[125])]else if k=6 then(List.range n).flatMap (λi=>[(if i=0 then [32]else [],[125])])else []
def eM(n k:Nat):List Nat:=if k<3 then gap n else []
def prM(n k:Nat):List Pq:=hd2++(ouM k++(z10 n k++enM n k))
variable {k:Nat}
def kinds(h:k<7):k=0\/k=1\/k=2\/k=3\/k=4\/k=5\/k=6:=by omega
def zch:gdB hd2=true/\(∀k,k<7->gdB (ouM k)=true/\gdB (gp 0 (pM k))=true/\gdB (gp 1 (pM k))=true)/\gdB [([],[125])]=true/\gdB [([32],[125])]=true:=by decide+kernel
def zce(j:Nat):gap j=gap 0\/gap j=gap 1:=by
 unfold gap
 split
 ·exact .inl rfl
 ·exact .inr rfl
def zdt(h:k<7) (j:Nat):gdB (gp j (pM k))=true:=by
  obtain⟨_,h1,_⟩:=zch
  obtain⟨_,h2,h3⟩:=h1 k h
  have e:gp j (pM k)=gp 0 (pM k)\/gp j (pM k)=gp 1 (pM k):=by
    cases hp:pM k with
    |nil=>exact .inl rfl
    | cons x l=>
      unfold gp
      rcases zce j with e|e<;>rw[e]
      · exact .inl rfl
      · exact .inr rfl
  rcases e with e|e<;>rw[e]
  · exact h2
  · exact h3
def zds(h:k<7) (j:Nat):z00 [] (gp j (pM k))++[32]=gap j++pB k:=by
 rcases kinds h with rfl|rfl|rfl|rfl|rfl|rfl|rfl<;>unfold gap<;>split<;>rename_i h0<;>(first| (rw[h0];rfl)| (unfold gp pM gap;rw[if_neg h0];rfl))
def z3o(n k:Nat):z10 (n+1) k=z10 n k++gp n (pM k):=by
 unfold z10
 rw[List.range_succ,List.flatMap_append,List.flatMap_cons,List.flatMap_nil,List.append_nil]
def z3n{k:Nat} (h:k<7):∀n,z00 [] (z10 n k)++gap n=rp n (pB k)
  |0=>rfl
  | n+1=>by
    rw[z3o,z05,List.append_assoc,show gap (n+1)=[32]from if_neg (by omega),zds h,←List.append_assoc,z3n h n,z1m]
def zel(h:k<7):z00 [] hd2++z00 [] (ouM k)=hB k:=by
 rcases kinds h with rfl|rfl|rfl|rfl|rfl|rfl|rfl<;>rfl
def z77:∀n,z00 [] ((List.range n).flatMap (λi=>[((if i=0 then [32]else []:List Nat),[125])]))=gap n++rp n [125]
  |0=>rfl
  | n +1=>by
    rw[List.range_succ,List.flatMap_append,z05,z77 n,z1m,List.flatMap_cons,List.flatMap_nil,List.append_nil]
    cases n with
    |zero=>rfl
    | succ n=>
      rw[if_neg (by omega),show gap (n+1+1)=gap (n+1)from rfl,List.append_assoc];rfl
def z59(h:k<7) (n:Nat):z00 (eM n k) (prM n k)=hB k++rp n (pB k)++eB n k:=by
 unfold prM
 rw[z05,z05,z05,←List.append_assoc,zel h,List.append_assoc]
 congr 1
 have b:=z3n h n
 rcases kinds h with rfl|rfl|rfl|rfl|rfl|rfl|rfl
 ·show z00 [] (z10 n 0)++gap n=rp n (pB 0)++[]
  rw[b,List.append_nil]
 ·show z00 [] (z10 n 1)++gap n=rp n (pB 1)++[]
  rw[b,List.append_nil]
 ·show z00 [] (z10 n 2)++gap n=rp n (pB 2)++[]
  rw[b,List.append_nil]
 ·show z00 [] (z10 n 3)++(gap n++[125])=rp n (pB 3)++[125]
  rw[←List.append_assoc,b]
 ·show z00 [] (z10 n 4)++(gap n++[125])=rp n (pB 4)++[125]
  rw[←List.append_assoc,b]
 ·show z00 [] (z10 n 5)++(gap n++[125])=rp n (pB 5)++[125]
  rw[←List.append_assoc,b]
 ·show z00 [] (z10 n 6)++z00 [] ((List.range n).flatMap _)=rp n (pB 6)++rp n [125]
  rw[z77,←List.append_assoc,b]
def z3w{α:Type} (l:List α):∀n,(rp n l).length=n*l.length
  |0=>by rw[Nat.zero_mul];rfl
  | n+1=>by
    show(l++rp n l).length=_
    rw[List.length_append,z3w l n,Nat.succ_mul];omega
def zcw(h:k<7):(pB k).length<=25/\(hB k).length<=29:=by
 rcases kinds h with rfl|rfl|rfl|rfl|rfl|rfl|rfl<;>exact⟨by decide,by decide⟩
def zcc(n k:Nat):(eB n k).length<=n+1:=by
 unfold eB
 split
 ·show 1<=_;omega
 split
 ·rw[z3w];show n*1<=_;omega
 ·exact Nat.zero_le _
def z9u(h:k<7) (n:Nat):Gd (eM n k) (prM n k):=by
 obtain⟨g0,g1,g2,g3⟩:=zch
 have gc:∀i,gdB [((if i=0 then [32]else []:List Nat),[125])]=true:=λi=>by
  split
  ·exact g3
  ·exact g2
 have ge:Gd (eM n k) (enM n k):=by
  unfold enM
  split
  ·have:gdB [(gap n,[125])]=true:=by
    rcases zce n with e|e<;>rw[e]
    ·exact g2
    ·exact g3
   rw[←List.append_nil [(gap n,[125])]]
   exact Gd.app this Gd.nil
  split
  ·rw[←List.append_nil (List.flatMap _ _),List.range_eq_range']
   exact Gd.nil.flat n 0 λi _ _=>gc i
  ·exact Gd.nil
 refine Gd.app g0 (Gd.app (g1 k h).1 ?_)
 unfold z10
 rw[List.range_eq_range']
 exact ge.flat n 0 λi _ _=>zdt h i
def zl9(n k:Nat):SpA (eM n k):=by
 unfold eM gap
 split
 ·split
  ·exact .inl rfl
  ·exact .inr rfl
 ·exact .inl rfl
def z5n(h:k<7) {n:Nat} (hn:n<45):(mkS (hB k++rp n (pB k)++eB n k)).size<100000/\lxR (mkS (hB k++rp n (pB k)++eB n k))=(z0j (eM n k) 0 (prM n k),0,0)/\tP (z0j (eM n k) 0 (prM n k)):=by
 have l1:=zcw h
 have l2:=zcc n k
 have l3:=z3w (pB k) n
 have l4:n*(pB k).length<=n*25:=Nat.mul_le_mul_left _ l1.1
 rw[←z59 h n]
 refine(z9u h n).lex (zl9 n k) ?_
 rw[z59 h n,List.length_append,List.length_append];omega
def pKs:Nat->List K3
 |0=>mgK
 |1=>euK
 |2=>imK
 |3=>fdK
 |4=>evK
 |5=>onK
 |_=>nsK
def zle(h:k<7) (j:Nat):(gp j (pM k)).map wdK=pKs k:=by
 rcases kinds h with rfl|rfl|rfl|rfl|rfl|rfl|rfl<;>rfl
def z71{k:Nat} (h:k<7):∀n,(z10 n k).map wdK=rp n (pKs k)
 |0=>rfl
 |n+1=>by rw[z3o,List.map_append,z71 h n,zle h,z1m]
def zh1:∀n,((List.range n).flatMap (λi=>[((if i=0 then [32]else []:List Nat),[125])])).map wdK=rp n cbK
  |0=>rfl
  | n+1=>by
    rw[List.range_succ,List.flatMap_append,List.map_append,zh1 n,z1m,List.flatMap_cons,List.flatMap_nil,List.append_nil];rfl
def z9z(n k:Nat):Nat:=if k<3 then n else if k<6 then 1 else if 1<n then 1 else n
def zac(h:k<7) {n:Nat} (hn:n<45) (x:SV):((n:Int)<=mxI k->(z3l x (z0j (eM n k) 0 (prM n k))).c.e=0/\tot (z3l x (z0j (eM n k) 0 (prM n k))).f=z9z n k)/\(mxI k<n->(z3l x (z0j (eM n k) 0 (prM n k))).c.e=3):=by
 have hP:=(z5n h hn).2.2
 have s0:St ⟨x,z0j (eM n k) 0 (prM n k),0,0⟩ (syK++((ouM k).map wdK++(rp n (pKs k)++(enM n k).map wdK))):=St.start (by
  rw[z4p]
  unfold prM
  rw[List.map_append,List.map_append,List.map_append,z71 h];rfl)
 have s1:=s0.sy
 have P1:((⟨x,z0j (eM n k) 0 (prM n k),0,0⟩:Cu).sy).P:=(Rc.rfl.sy (c:=⟨x,z0j (eM n k) 0 (prM n k),0,0⟩)).P hP
 show((n:Int)<=mxI k->(ptL ⟨(⟨x,z0j (eM n k) 0 (prM n k),0,0⟩:Cu).sy,⟨[],[],[]⟩⟩).c.e=0/\tot (ptL ⟨(⟨x,z0j (eM n k) 0 (prM n k),0,0⟩:Cu).sy,⟨[],[],[]⟩⟩).f=z9z n k)/\(mxI k<n->(ptL ⟨(⟨x,z0j (eM n k) 0 (prM n k),0,0⟩:Cu).sy,⟨[],[],[]⟩⟩).c.e=3)
 generalize (⟨x,z0j (eM n k) 0 (prM n k),0,0⟩:Cu).sy=c at s1 P1⊢
 rcases kinds h with rfl|rfl|rfl|rfl|rfl|rfl|rfl
 ·have s1:St c (rp n mgK++[]):=s1
  rw[List.append_nil]at s1
  have r:=zhu n c P1 s1
  exact⟨λh=>r.1 (by unfold mxI at h;omega),λh=>r.2 (by unfold mxI at h;omega)⟩
 ·have s1:St c (rp n euK++[]):=s1
  rw[List.append_nil]at s1
  have r:=zh7 n c P1 s1
  exact⟨λh=>r.1 (by unfold mxI at h;omega),λh=>r.2 (by unfold mxI at h;omega)⟩
 ·have s1:St c (rp n imK++[]):=s1
  rw[List.append_nil]at s1
  have r:=zhe n c P1 s1
  exact⟨λh=>r.1 (by unfold mxI at h;omega),λh=>r.2 (by unfold mxI at h;omega)⟩
 ·have s1:St c (moK++(rp n fdK++cbK)):=s1
  have r:=zhb n c P1 s1
  exact⟨λh=>r.1 (by unfold mxI at h;omega),λh=>r.2 (by unfold mxI at h;omega)⟩
 ·have s1:St c (eoK++(rp n evK++cbK)):=s1
  have r:=zh8 n c P1 s1
  exact⟨λh=>r.1 (by unfold mxI at h;omega),λh=>r.2 (by unfold mxI at h;omega)⟩
 ·have s1:St c (moK++(rp n onK++cbK)):=s1
  have r:=zi5 n c P1 s1
  exact⟨λh=>r.1 (by unfold mxI at h;omega),λh=>r.2 (by unfold mxI at h;omega)⟩
 ·have s1:St c (rp n nsK++((List.range n).flatMap (λi=>[((if i=0 then [32]else []:List Nat),[125])])).map wdK):=s1
  rw[zh1]at s1
  have r:=zi2 n c P1 s1
  exact⟨λh=>r.1 (by unfold mxI at h;omega),λh=>r.2 (by unfold mxI at h;omega)⟩
end
def zlp{a:Int} (h:0<=a):nI a<45/\Int.tmod a 45=(nI a:Nat):=by
 have h1:0<=Int.tmod a 45:=by rw[Int.tmod_eq_emod_of_nonneg h];exact Int.emod_nonneg _ (by omega)
 have h2:Int.tmod a 45<45:=by rw[Int.tmod_eq_emod_of_nonneg h];exact Int.emod_lt_of_pos _ (by omega)
 unfold nI
 omega
def zlh{a:Int} (h:0<=a):kI a<7/\Int.tmod a 7=(kI a:Nat):=by
 have h1:0<=Int.tmod a 7:=by rw[Int.tmod_eq_emod_of_nonneg h];exact Int.emod_nonneg _ (by omega)
 have h2:Int.tmod a 7<7:=by rw[Int.tmod_eq_emod_of_nonneg h];exact Int.emod_lt_of_pos _ (by omega)
 unfold kI
 omega
def z2q(l:List Nat):ByteArray.size (mkS l)=l.length:=q0u l
def z87{k:Nat} (h:k<7):qmc [Value.string (mkS [109,101,115,115,97,103,101,32,65,32,123,125,32]),Value.string (mkS [101,110,117,109,32,65,32,123,125,32]),Value.string (mkS [105,109,112,111,114,116,32,39,120,39,59,32]),Value.string (mkS [105,110,116,51,50,32,97,32,61,32,49,59,32]),Value.string (mkS [66,32,61,32,48,59,32]),Value.string (mkS [111,110,101,111,102,32,97,32,123,32,105,110,116,51,50,32,98,32,61,32,49,59,32,125,32]),Value.string (mkS [109,101,115,115,97,103,101,32,65,32,123,32])] (0+(k:Int).toNat*1) [Value.string (mkS (pB k))]:=by
  intro j v hj
  cases j with
  |succ j=>simp at hj
  | zero=>
    rw[←hj]
    rcases kinds h with rfl|rfl|rfl|rfl|rfl|rfl|rfl<;>rfl
def zqo{n k:Nat} (h3:k≠3) (h4:k≠4) (h5:k≠5) (h6:k≠6):eB n k=[]/\mxI k=30/\hB k=sxB:=by
 unfold eB mxI hB
 rw[if_neg (by omega),if_neg h6,if_neg h6,if_neg (by omega),if_neg h4]
 exact⟨rfl,rfl,rfl⟩
def zec(hB8:q7w P 6 z22):q7w P 3 zh0:=by
 refine qq9 mixed (qhc (qmn hB8 qqs)) (qig (qmm z3s qqr)) (W:=zis) Go.Proofs.Tryd.func3 (by kernel_rfl) (by decide) (by decide) (λs=>by kernel_rfl) λ⟨a,b⟩=>(zeb a b).mpr ?_
 rintro⟨⟨ha,ha2⟩,hb,hb2⟩ ⟨p0,_,⟨m0,hm0⟩,_⟩
 obtain⟨hn,en⟩:=zlp ha
 obtain⟨hk,ek⟩:=zlh hb
 rw[en,ek]
 have bd:=zcw hk
 have bd2:=zcc (nI a) (kI b)
 have r125:∀i:Nat,i<=nI a->(rp i [125]:List Nat).length=i:=λi _=>by rw[z3w,List.length_singleton,Nat.mul_one]
 have rpB:∀i:Nat,i<=nI a->(rp i (pB (kI b))).length<=1125:=λi hi=>by
  rw[z3w]
  have:i*(pB (kI b)).length<=45*25:=Nat.mul_le_mul (by omega) bd.1
  omega
 have B6:∀(h6:kI b=6),(∃s:Nat,a=a/\b=b/\mkS (rp s [125])=mkS []/\True):=λ_=>⟨0,rfl,rfl,rfl,trivial⟩
 refine⟨trivial,λq hq=>hq.2,λh=>absurd h (by decide),λ_=>⟨by decide,⟨by omega,by omega⟩,⟨by decide,⟨by omega,by show((kI b:Nat):Int)<7;omega⟩,mkS (pB (kI b)),z87 hk,rfl,rfl,rfl,rfl,λq hq=>hq,trivial,trivial⟩,λ_ _=>⟨⟨by decide,λh3=>⟨λ_=> ?_,λh=> ?_⟩,λh3=>⟨λh5=> ?_,λh5=>⟨λh4=> ?_,λh4=>⟨λh6=> ?_,λh6=> ?_⟩⟩⟩⟩,λ_ _=>⟨⟨0,rfl,rfl,rfl,rfl,rfl,rfl,rfl,by show mkS (_++[])=_;rw[List.append_nil],λq hq=>hq,Nat.zero_le _,trivial⟩,λi hi=>⟨λhlt=> ?_,λhge=> ?_⟩⟩⟩⟩⟩
 ·have h3:kI b=3:=by have:=of_decide_eq_true h3;omega
  rw[h3]
  exact⟨rfl,rfl,rfl,rfl,rfl,rfl,rfl,λq hq=>hq,trivial,trivial⟩
 ·rw[h]at h3;cases h3
 ·have h3:kI b=5:=by have:=of_decide_eq_true h5;omega
  rw[h3]
  exact⟨rfl,rfl,rfl,rfl,rfl,rfl,rfl,λq hq=>hq,trivial,trivial⟩
 ·have h3:kI b=4:=by have:=of_decide_eq_true h4;omega
  rw[h3]
  exact⟨rfl,rfl,rfl,rfl,rfl,rfl,rfl,λq hq=>hq,trivial,trivial⟩
 ·have h3:kI b=6:=by have:=of_decide_eq_true h6;omega
  refine⟨⟨0,rfl,rfl,rfl,rfl,rfl,rfl,λq hq=>hq,Nat.zero_le _,trivial⟩,λi hi=>⟨λhlt=> ?_,λhge=> ?_⟩⟩
  ·have hlt:i<nI a:=by have:=of_decide_eq_true hlt;omega
   have l1:=r125 i hi
   rw[z2q,z2q,l1]
   refine⟨by show i+1<=_;omega,by omega,i+1,rfl,rfl,by rw[z1m,z0x],by omega,rfl,rfl,λq hq=>hq,by omega,by omega,trivial⟩
  ·have e:i=nI a:=by have:=of_decide_eq_false hge;omega
   rw[h3,e]
   exact⟨rfl,rfl,rfl,rfl,rfl,rfl,rfl,λq hq=>hq,trivial,trivial⟩
 ·have n3:=of_decide_eq_false h3
  have n4:=of_decide_eq_false h4
  have n5:=of_decide_eq_false h5
  have n6:=of_decide_eq_false h6
  obtain⟨e1,e2,e3⟩:=zqo (n:=nI a) (k:=kI b) (by omega) (by omega) (by omega) (by omega)
  rw[e1,e2,e3]
  exact⟨rfl,rfl,rfl,rfl,rfl,rfl,rfl,λq hq=>hq,trivial,trivial⟩
 ·have hlt:i<nI a:=by have:=of_decide_eq_true hlt;omega
  have:=rpB i hi
  rw[z2q,z2q,List.length_append]
  refine⟨by omega,by omega,i+1,rfl,rfl,rfl,by omega,rfl,rfl,rfl,by rw[z1m,←List.append_assoc,z0x],λq hq=>hq,by omega,by omega,trivial⟩
 ·have e:i=nI a:=by have:=of_decide_eq_false hge;omega
  rw[e]
  have l1:=rpB (nI a) (Nat.le_refl _)
  have lx:=z5n hk hn
  rw[z2q,z2q,List.length_append]
  refine⟨by omega,(mkS (hB (kI b)++rp (nI a) (pB (kI b))++eB (nI a) (kI b)),z0j (eM (nI a) (kI b)) 0 (prM (nI a) (kI b))),by rw[←z0x],lx,λq hq=>hq.2.1,λr hr hrp=> ?_⟩
  obtain⟨q1,_,g0⟩:=hrp
  obtain⟨xx,e1,e2⟩:=hr
  obtain⟨r1,r2⟩:=zac hk hn xx
  refine⟨λh=> ?_,λh=> ?_⟩
  ·have h:=of_decide_eq_true h
   have:r.e=3:=e1.symm.trans (r2 h)
   rw[this];exact⟨rfl,trivial⟩
  ·have h:=of_decide_eq_false h
   have e0:r.e=0:=e1.symm.trans (r1 (by omega)).1
   have et:tot r.d.pf=z9z (nI a) (kI b):=by rw[e2 e0];exact(r1 (by omega)).2
   have ln:r.x2.2.1+r.x3.2.1+r.x1.2.1=z9z (nI a) (kI b):=by
    rw[←et,g0.1.1,g0.2.1.1,g0.2.2.1]
    show _=(r.d.ms.map _).length+(r.d.en.map _).length+r.d.im.length
    rw[List.length_map,List.length_map]
   have cb:z9z (nI a) (kI b)<=45:=by unfold z9z;split;omega;split;omega;split<;>omega
   have li:((r.x2.2.1:Int)+r.x3.2.1+r.x1.2.1)=(z9z (nI a) (kI b):Nat):=by omega
   rw[e0,li]
   refine⟨by omega,by omega,by decide,λh3=>⟨λ_=>⟨λ_=>⟨?_,trivial⟩,λh=>absurd h (by decide)⟩,λh=> ?_⟩,λh3=>⟨λh4=>⟨λ_=>⟨λ_=>⟨?_,trivial⟩,λh=>absurd h (by decide)⟩,λh=> ?_⟩,λh4=>⟨λh5=>⟨λ_=>⟨?_,trivial⟩,λh=>absurd h (by decide)⟩,λh5=>⟨λh6=>⟨λ_=>⟨?_,trivial⟩,λh=>absurd h (by decide)⟩,λh6=>⟨λ_=>⟨?_,trivial⟩,λh=>absurd h (by decide)⟩⟩⟩⟩⟩
   ·have:kI b=3:=by have:=of_decide_eq_true h3;omega
    rw[this];rfl
   ·rw[h]at h3;cases h3
   ·have:kI b=4:=by have:=of_decide_eq_true h4;omega
    rw[this];rfl
   ·rw[h]at h4;cases h4
   ·have:kI b=5:=by have:=of_decide_eq_true h5;omega
    rw[this];rfl
   ·have:kI b=6:=by have:=of_decide_eq_true h6;omega
    rw[this]
    have:z9z (nI a) 6=if 1<nI a then 1 else nI a:=rfl
    rw[this]
    refine(decide_eq_true ?_).symm
    split<;>split<;>omega
   ·have n3:=of_decide_eq_false h3
    have n4:=of_decide_eq_false h4
    have n5:=of_decide_eq_false h5
    have n6:=of_decide_eq_false h6
    have:z9z (nI a) (kI b)=nI a:=if_pos (by omega)
    rw[this]
    exact(decide_eq_true rfl).symm
def zhj:qqt P=true:=by decide+kernel
def zli:qk3 P 81 Extern.BytealgIndexByte.indexByte:=
 ⟨_,Go.Proofs.Tryd.func81,by kernel_rfl,by kernel_rfl,by kernel_rfl,by kernel_rfl⟩
def zcf:q13:=qrg [(81, .idx)]
def z7o:q4t P zcf:=qqh λf k h=>by
 simp only[List.mem_cons,List.not_mem_nil,or_false,Prod.mk.injEq]at h
 obtain⟨rfl,rfl⟩:=h
 exact zli
def zmx:List AV:=[.str [nat_lit 100,nat_lit 111,nat_lit 117,nat_lit 98,nat_lit 108,nat_lit 101], .str [nat_lit 102,nat_lit 108,nat_lit 111,nat_lit 97,nat_lit 116], .str [nat_lit 105,nat_lit 110,nat_lit 116,nat_lit 51,nat_lit 50], .str [nat_lit 105,nat_lit 110,nat_lit 116,nat_lit 54,nat_lit 52], .str [nat_lit 117,nat_lit 105,nat_lit 110,nat_lit 116,nat_lit 51,nat_lit 50], .str [nat_lit 117,nat_lit 105,nat_lit 110,nat_lit 116,nat_lit 54,nat_lit 52], .str [nat_lit 115,nat_lit 105,nat_lit 110,nat_lit 116,nat_lit 51,nat_lit 50], .str [nat_lit 115,nat_lit 105,nat_lit 110,nat_lit 116,nat_lit 54,nat_lit 52], .str [nat_lit 102,nat_lit 105,nat_lit 120,nat_lit 101,nat_lit 100,nat_lit 51,nat_lit 50], .str [nat_lit 102,nat_lit 105,nat_lit 120,nat_lit 101,nat_lit 100,nat_lit 54,nat_lit 52], .str [nat_lit 115,nat_lit 102,nat_lit 105,nat_lit 120,nat_lit 101,nat_lit 100,nat_lit 51,nat_lit 50], .str [nat_lit 115,nat_lit 102,nat_lit 105,nat_lit 120,nat_lit 101,nat_lit 100,nat_lit 54,nat_lit 52], .str [nat_lit 98,nat_lit 111,nat_lit 111,nat_lit 108], .str [nat_lit 115,nat_lit 116,nat_lit 114,nat_lit 105,nat_lit 110,nat_lit 103], .str [nat_lit 98,nat_lit 121,nat_lit 116,nat_lit 101,nat_lit 115]]
def kwO:AO:= .cells 0 none true [.str [nat_lit 100,nat_lit 111,nat_lit 117,nat_lit 98,nat_lit 108,nat_lit 101], .str [nat_lit 102,nat_lit 108,nat_lit 111,nat_lit 97,nat_lit 116], .str [nat_lit 105,nat_lit 110,nat_lit 116,nat_lit 51,nat_lit 50], .str [nat_lit 105,nat_lit 110,nat_lit 116,nat_lit 54,nat_lit 52], .str [nat_lit 117,nat_lit 105,nat_lit 110,nat_lit 116,nat_lit 51,nat_lit 50], .str [nat_lit 117,nat_lit 105,nat_lit 110,nat_lit 116,nat_lit 54,nat_lit 52], .str [nat_lit 115,nat_lit 105,nat_lit 110,nat_lit 116,nat_lit 51,nat_lit 50], .str [nat_lit 115,nat_lit 105,nat_lit 110,nat_lit 116,nat_lit 54,nat_lit 52], .str [nat_lit 102,nat_lit 105,nat_lit 120,nat_lit 101,nat_lit 100,nat_lit 51,nat_lit 50], .str [nat_lit 102,nat_lit 105,nat_lit 120,nat_lit 101,nat_lit 100,nat_lit 54,nat_lit 52], .str [nat_lit 115,nat_lit 102,nat_lit 105,nat_lit 120,nat_lit 101,nat_lit 100,nat_lit 51,nat_lit 50], .str [nat_lit 115,nat_lit 102,nat_lit 105,nat_lit 120,nat_lit 101,nat_lit 100,nat_lit 54,nat_lit 52], .str [nat_lit 98,nat_lit 111,nat_lit 111,nat_lit 108], .str [nat_lit 115,nat_lit 116,nat_lit 114,nat_lit 105,nat_lit 110,nat_lit 103], .str [nat_lit 98,nat_lit 121,nat_lit 116,nat_lit 101,nat_lit 115]]
def kwH:T AO:= .n .e (some kwO) .e
def kwG:T AV:=(.n .e none (.n (.n (.n (.n (.n (.n .e none (.n (.n (.n .e none (.n (.n (.n (.n (.n .e none (.n (.n .e none (.n .e none (.n .e none (.n .e (some (.ptr (nat_lit 0) (nat_lit 0))) .e)))) none .e)) none .e) none .e) none .e) none .e)) none .e) none .e)) none .e) none .e) none .e) none .e) none .e))
def zdy:T.putS 64 1000000 (some (.ptr 0 0)) (.e:T AV)=some kwG:=by kernel_rfl
def LaidK(w:World):Prop:=∃e fr,w.heap[0]? =some (.cells kwVs e fr)
def kwI:In:=λid=>if id=0 then some (0,0,15)else none
def zdz(id:Nat) (o:AO) (h:kwH.get id=some o):id=0/\o=kwO:=by
 have hp:T.putS 64 0 (some kwO) (.e:T AO)=some kwH:=by kernel_rfl
 rw[T.get_eq,T.get_putS _ _ _ _ _ hp id]at h
 split at h
 ·rename_i e;cases h;exact⟨e,rfl⟩
 ·rw[←T.get_eq,T.get_e]at h;cases h
def zhk(I:In):VRs I zmx kwVs.toList:=by
 have:ofVals kwVs.toList=some zmx:=by kernel_rfl
 exact ofVals_rel I _ _ this
def zhi{I:In} (h:I 0=some (0,0,15)):GOK kwG I:=λn a hn=>by
 rw[T.get_eq,T.get_putS _ _ _ _ _ zdy n]at hn
 split at hn
 ·rename_i e
  cases hn
  subst e
  have e1:1000000- q10=0:=by simp[q10]
  rw[e1]
  exact⟨by unfold q10;omega, .ptr' h rfl⟩
 ·rw[←T.get_eq,T.get_e]at hn;cases hn
def zhl{call:q03} (hc:q17 kwG P call) {f:Nat} {b:Bool} {h:T AO} {nx:Nat} (hb:hasB P f=true) (e:call f [] kwH 1=some (.bool b,h,nx)) (w:World) (hw:LaidK w):
  Calls P f #[] w λe w'=>e= .returned (.bool b)/\Below w.heap.size w w':=by
 obtain⟨e0,fr,hw⟩:=hw
 have hI:∀id b t,kwI id=some (b,t)->id=0/\b=0/\t=(0,15):=λid b t h=>by
  unfold kwI at h
  split at h
  ·rename_i e;cases h;exact⟨e,rfl,rfl⟩
  ·cases h
 refine qkr hc hb e w kwI (λid o b t h1 h2=> ?_) (λid id' o o' b t t' h1 h2 h3 h4=>by rw[(hI _ _ _ h3).1,(hI _ _ _ h4).1]) (λid b t h=> ?_) (zhi (by unfold kwI;rw[if_pos rfl]))
 ·obtain⟨rfl,rfl⟩:=zdz _ _ h1
  obtain⟨_,rfl,rfl⟩:=hI _ _ _ h2
  refine⟨rfl,_,hw,?_⟩
  have:=OR.cells (I:=kwI) (t:=(0,15)) (elem:=0) (elem':=e0) (fz:=none) (g:=true) (pre:=[]) (vs:=kwVs.toList) (rest:=[]) (fr:=fr) (zhk kwI) (λh=>by cases h) rfl rfl (λf hf=>by cases hf) (.inr ⟨rfl,rfl⟩)
  have ew:(⟨[]++(kwVs.toList++[])⟩:Array Value)=kwVs:=by simp
  rw[ew]at this
  exact this
 ·obtain⟨rfl,rfl,rfl⟩:=hI _ _ _ h
  exact⟨by decide,(Array.getElem?_eq_some_iff.1 hw).1⟩
def kwC:q03:=qrv P zcf kwG (λc=>qko [] c) 100
def zhh:q17 kwG P kwC:=qp8 mixed z7o (qpl zhj) (λc=>qko [] c) (λ_ h=>qha h _ (λ_ h=>by cases h)) 100
def z5v:yes (kwC 6 [] kwH 1)=true:=by decide+kernel
def z3m:q7w P 6 z22:=
 qre (Sen.enters_of Go.Proofs.Tryd.func6 (by kernel_rfl)) (λ_=> .bool true) (λs I=> .sv _) λs F w _ hm=>by
  obtain⟨e,fr,h1⟩:kwP (q1k F w):=hm.2
  obtain⟨h,nx,e1⟩:=qru z5v
  exact zhl zhh (by kernel_rfl) e1 w ⟨e,fr,(q06.1 h1).2⟩
section
def zcg{f:Nat} {C:Ct} (h:q7w P f C) (s:C.σ) (vs:List Value) (ha:C.args s=vs.map .sv) (hh:C.h s=[]) (r:Value) (hr:C.r s= .sv r) (w:World) (hp:C.pre s) (hm:(C.mem s).ok (q1k (λ_ b=>b<w.heap.size) w)):
  Calls P f ⟨vs⟩ w λe w'=>e= .returned r/\Below w.heap.size w w':=by
 obtain⟨h1,h2,_,h4⟩:=h
 obtain⟨h0,h1',e1,e2,h5⟩:=h4 s
 rw[hh]at e1
 cases e1
 refine(h5 (λ_ b=>b<w.heap.size) (λi=>if i=0 then some (0,0,0)else none) w vs (by rw[ha];exact VRs.svs vs) ⟨λid o b t h=> ?_,λid id' o o' b t t' h=> ?_,λid o b t h=> ?_⟩ (λ_ h=>h) (λ_ h=>h) hp hm (λi hi=>if_neg (by omega)) (if_pos rfl)).mono λe w' he=> ?_
 ·rw[T.get_e]at h;cases h
 ·rw[T.get_e]at h;cases h
 ·rw[T.get_e]at h;cases h
 obtain⟨z,I',rfl,hz,hg,_⟩:=he
 rw[hr]at hz
 cases hz
 exact⟨rfl,⟨hg.same.1,hg.same.2,hg.same.3,hg.size,λk hk=>hg.fr k hk⟩⟩
def Laid(w:World):Prop:=∃m e fr,w.heap[1]? =some (.cells #[.int .i64 m] e fr)
variable {w:World}
def za6{P:Program} {g:Nat} {t:TypeId} {zero:Array Value} {k:IntKind}
  (h:w.ShapedOpen P) (hg:g<P.globals.size)
  (h0:((begin P (λ_ _=>0) default).world.heap[g]?).bind Obj.row? =some (zero,t)) (hz:zero.size=1)
  (hb:P.buildable t=true) (hc:P.cellTypes P.depth t=some [t]) (hu:P.underlying t=some (.int k)):
  ∃m e fr,w.heap[g]? =some (.cells #[.int k m] e fr):=by
 obtain⟨cs,hh,hs,hr⟩:=h.1 g zero t hg h0
 obtain⟨ts,hts,_,hall⟩:=hr hb
 rw[hc]at hts
 cases hts
 have h1:cs.size=1:=by omega
 obtain⟨u,hu',hok⟩:=hall 0 cs[0] (by simp[h1])
 have:u=t:=by simpa using hu'.symm
 subst this
 unfold Cell.ok at hok
 rw[hu]at hok
 have hcs:cs= #[cs[0]]:=by
  apply Array.ext
  ·simp[h1]
  ·intro i h2 h3
   have:i=0:=by omega
   subst this;simp
 cases hv:cs[0]<;>rw[hv]at hok<;>simp at hok
 case int k' n=>
  rw[hcs,hv,hok.1]at hh
  exact⟨n,_,_,hh⟩
def laid_of(h:w.ShapedOpen P):Laid w:=
 za6 (t:=3) (zero:= #[.int .i64 0]) (k:= .i64) h (by decide+kernel) (by kernel_rfl) (by rfl) (by kernel_rfl) (by kernel_rfl) Go.Proofs.Tryd.underlying3
def zlf(h:Laid w):hG.ok (q1k (λ_ b=>b<w.heap.size) w):=by
 obtain⟨m,e,fr,hw⟩:=h
 refine⟨m,?_⟩
 have hp:q1k (λ_ b=>b<w.heap.size) w 1=some (.cells #[.int .i64 m] e fr):=q06.mpr ⟨(Array.getElem?_eq_some_iff.mp hw).1,hw⟩
 unfold q88
 simp only[hp];rfl
abbrev zlt(w:World):Pub:=q1k (λ_ b=>b<w.heap.size) w
def z5f{a:Addr} {v:Value} (h:w.cell? a=some v):q88 (zlt w) a=some v/\a.spot=none:=by
  unfold World.cell? at h
  cases ho:w.heap[a.block]? with
  |none=>rw[ho]at h;cases h
  | some o=>
    have hlt:a.block<w.heap.size:=(Array.getElem?_eq_some_iff.1 ho).1
    have hp:zlt w a.block=some o:=q06.2 ⟨hlt,ho⟩
    rw[ho]at h
    unfold q88
    rw[hp]
    cases o<;>simp only at h<;>first|cases h|skip
    cases hs:a.spot with
    |none=>rw[hs]at h;simp[qej,hs]at h⊢;exact h
    |some k=>rw[hs]at h;simp at h
def zgu(w:World) (a:Option Addr) (len cap:Nat) (z:List Int):Prop:=(a=none/\len=0/\cap=0/\z=[])\/∃x,a=some x/\len<=cap/\cap<=maxLen/\z.length=cap/\(∀i,i<z.length->w.cell? (x.add i)=some (.int .u8 (z.getD i 0)))/\∀n∈z,(Lit.int .u8 n).wf=true
def z3v:∀L:List Int,(z68 L).length=L.length
 | []=>rfl
 |b::L=>by rw[z68,List.length_cons,List.length_cons,z3v L]
def zie{a:Option Addr} {len cap:Nat} {z:List Int} (h:zgu w a len cap z):∃L:List Int,byP (a,len,cap) L (zlt w)/\L.length<9223372036854775808/\∀b∈L,0<=b/\b<256:=by
 rcases h with⟨rfl,rfl,rfl,rfl⟩|⟨x,rfl,hl,hm,hz,hc,hw⟩
 ·exact⟨[],⟨rfl,Nat.le_refl _, .inl ⟨rfl,z0t⟩⟩,by simp,λb hb=>by cases hb⟩
 have hlen:(z.take len).length=len:=by rw[List.length_take];omega
 have hat:∀(i:Nat) (hi:i<(z.take len).length),w.cell? (x.add i)=some (.int .u8 (z.take len)[i]):=λi hi=>by
  have hiz:i<z.length:=by omega
  have:=hc i hiz
  rw[List.getD_eq_getElem?_getD,List.getElem?_eq_getElem hiz]at this
  simpa using this
 refine⟨z.take len,⟨hlen.symm,hl,?_⟩,by unfold maxLen at hm;omega,λb hb=> ?_⟩
 ·by_cases h0:z.take len=[]
  ·rw[h0];exact .inl ⟨rfl,trivial⟩
  ·have hpos:0<(z.take len).length:=List.length_pos_iff.2 h0
   have e0:x.add 0=x:=by unfold Addr.add;rw[if_pos rfl]
   have hp0:=z5f (hat 0 hpos)
   rw[e0]at hp0
   refine .inr ⟨x,rfl,hp0.2,λj v hj=> ?_⟩
   have hjl:j<(z.take len).length:=by
    have:=(List.getElem?_eq_some_iff.1 hj).1
    rw[z3v]at this;exact this
   rw[z1v _ hjl]at hj
   rw[(z5f (hat j hjl)).1,←hj]
 ·have hw:=hw b (List.mem_of_mem_take hb)
  simp only[Lit.wf,Bool.and_eq_true,decide_eq_true_eq]at hw
  have h1:IntKind.min .u8=0:=by decide
  have h2:IntKind.max .u8=255:=by decide
  omega
def wf_u8{n:Int} (h:(Lit.int .u8 n).wf=true):0<=n/\n<256:=by
 simp only[Lit.wf,Bool.and_eq_true,decide_eq_true_eq]at h
 have h1:IntKind.min .u8=0:=by decide
 have h2:IntKind.max .u8=255:=by decide
 omega
def zc8(h1:Laid w) (h2:LaidK w):bgM.ok (q1k (λ_ b=>b<w.heap.size) w):=by
 obtain⟨e,fr,h⟩:=h2
 exact⟨zlf h1,e,fr,q06.2 ⟨(Array.getElem?_eq_some_iff.1 h).1,h⟩⟩
def ord_law_wf(a0:Option Addr) (len0 cap0:Nat) (z0:List Int) (w:World) (w0:zgu w a0 len0 cap0 z0) (hl:Laid w) (hk:LaidK w):Calls P 4 #[.slice a0 len0 cap0] w λe w'=>e= .returned (.bool true)/\Below w.heap.size w w':=by
 obtain⟨L,hx,hL⟩:=zie w0
 exact zcg (zi9 z3m) ⟨(a0,len0,cap0),L⟩ [.slice a0 len0 cap0] rfl rfl (.bool true) rfl w ⟨hL.1,hL.2⟩ ⟨hx,zc8 hl hk⟩
def most_law_wf(a b:Int) (w:World) (w0:(Lit.int .u8 a).wf=true) (w1:(Lit.int .u8 b).wf=true) (hl:Laid w) (hk:LaidK w):Calls P 3 #[.int .u8 a, .int .u8 b] w λe w'=>e= .returned (.bool true)/\Below w.heap.size w w':=
 zcg (zec z3m) ⟨a,b⟩ [.int .u8 a, .int .u8 b] rfl rfl (.bool true) rfl w ⟨wf_u8 w0,wf_u8 w1⟩ (zc8 hl hk)
end
end
end Go.Proofs.YtdaokgdnjaaofaaDoor.Wd
