/-
  What the functions do: contracts, and their questions answered. No condition but what its theorems ask.
-/
import Derived.Test.YtdaokgdnjaaofaaDoorT1
namespace Go.Proofs.YtdaokgdnjaaofaaDoor.Wd
open Go.Proofs.YtdaokgdnjaaofaaDoor.Eng Go.Proofs.YtdaokgdnjaaofaaDoor.Sen Go.RowKit
set_option linter.defProp false
set_option linter.unusedVariables false
set_option linter.unusedSimpArgs false
set_option maxRecDepth 1000000
open Go.Value (int string slice bool)
open Go.IntKind (i64 u64 u8 u32 i32)
open _root_.List (length take drop)
open _root_.ByteArray (size)
open _root_.Int (toNat)
noncomputable section
section
def POb:List Pq->Bool
 | []=>true
 |x::l=>WK x.2&&(decide (x.1=[])||decide (x.1=[32]))&&(!z8y x.2|| !zac ((z00 [] l).headD 0))&&POb l
def ndB:List Pq->Bool
 | []=>true
 | [x]=> !z8y x.2
 |_::l=>ndB l
def wdB(l:List Pq):Bool:=l.all λx=>(x.1++x.2).all (λc=>decide (c<256))&&z1m.all λw=> !decide (w=(z2r x.2).2.1)
def gdB(l:List Pq):Bool:=POb l&&(ndB l&&wdB l)
structure Gd(e:List Nat) (l:List Pq):Prop where
 po:POA e l
 by':∀x∈l,(∀c∈x.1++x.2,c<256)/\(z2r x.2).2.1∉z1m
def zcq:∀{l:List Pq},POb l=true->POA [] l
  | [],_=>trivial
  | x::l,h=>by
    unfold POb at h
    simp only[Bool.and_eq_true,Bool.or_eq_true,decide_eq_true_eq]at h
    refine⟨h.1.1.1,h.1.1.2,λhw=> ?_,zcq h.2⟩
    have:=h.1.2
    rw[hw]at this
    simpa using this
def znb{l:List Pq} (h:gdB l=true):Gd [] l:=by
 unfold gdB wdB at h
 simp only[Bool.and_eq_true,List.all_eq_true]at h
 refine⟨zcq h.1,λx hx=> ?_⟩
 have:=h.2.2 x hx
 simp only[decide_eq_true_eq,Bool.not_eq_true',decide_eq_false_iff_not]at this
 exact⟨this.1,λh=>this.2 _ h rfl⟩
def zep(e:List Nat) {x:Pq} {l b:List Pq} (hx:WK x.2=true):(z00 e (x::l++b)).headD 0=(z00 [] (x::l)).headD 0:=by
  show(x.1++(x.2++z00 e (l++b))).headD 0=(x.1++(x.2++z00 [] l)).headD 0
  have:=(z4l (r:=[]) hx).2.2
  cases h1:x.1 with
  |cons c q=>rfl
  | nil=>
    cases h2:x.2 with
    |nil=>exact absurd h2 this
    |cons c q=>rfl
def z6q{e:List Nat} {b:List Pq} (hb:POA e b):∀{a:List Pq},POA [] a->ndB a=true->POA e (a++b)
  | [],_,_=>hb
  | [x],h,hn=>by
    refine⟨h.1,h.2.1,λhw=> ?_,hb⟩
    unfold ndB at hn
    rw[hw]at hn;cases hn
  | x::y::a,h,hn=>by
    refine⟨h.1,h.2.1,λhw=> ?_,z6q hb h.2.2.2 (by unfold ndB at hn;exact hn)⟩
    rw[show(y::a).append b=y::a++b from rfl,zep e h.2.2.2.1]
    exact h.2.2.1 hw
variable {e:List Nat}
def Gd.app{a b:List Pq} (ha:gdB a=true) (hb:Gd e b):Gd e (a++b):=by
 have g:=znb ha
 unfold gdB at ha
 simp only[Bool.and_eq_true]at ha
 refine⟨z6q hb.po g.po ha.2.1,λx hx=> ?_⟩
 rcases List.mem_append.1 hx with hx|hx
 ·exact g.by' x hx
 ·exact hb.by' x hx
def Gd.nil:Gd e []:=⟨trivial,λx hx=>by cases hx⟩
def Gd.lt{e:List Nat} (he:SpA e):∀{l:List Pq},(∀x∈l,∀c∈x.1++x.2,c<256)->∀c∈z00 e l,c<256
  | [],_,c,hc=>by
    rcases he with rfl|rfl
    · cases hc
    · have:c=32:=by simpa[z00]using hc
      omega
  | x::l,h,c,hc=>by
    rw[z00,←List.append_assoc]at hc
    rcases List.mem_append.1 hc with hc|hc
    · exact h x List.mem_cons_self c hc
    · exact Gd.lt he (λy hy=>h y (List.mem_cons_of_mem _ hy)) c hc
def zjg:mkS []∉z1m:=by
 have:(z1m.all λw=> !decide (w=mkS []))=true:=by decide+kernel
 intro h
 have:=List.all_eq_true.1 this _ h
 simp at this
def z8m{e:List Nat}:∀{l:List Pq} (o:Nat),(∀x∈l,(z2r x.2).2.1∉z1m)->∀t∈z1x e o l,t.2.1∉z1m
  | [],o,_,t,ht=>by
    have:t=(5,mkS [],0,o+e.length):=by simpa[z1x]using ht
    rw[this];exact zjg
  | x::l,o,h,t,ht=>by
    rw[z1x]at ht
    rcases List.mem_cons.1 ht with rfl|ht
    · exact h x List.mem_cons_self
    · exact z8m _ (λy hy=>h y (List.mem_cons_of_mem _ hy)) t ht
def Gd.lex{e:List Nat} (he:SpA e) {l:List Pq} (h:Gd e l) (hs:(z00 e l).length<=3000):(mkS (z00 e l)).size<100000/\lxR (mkS (z00 e l))=(z1x e 0 l,0,0)/\tP (z1x e 0 l):=by
  refine⟨by rw[q0u];omega,zaj he (Gd.lt he λx hx=>(h.by' x hx).1) h.po hs,⟨?_,z8m 0 λx hx=>(h.by' x hx).2⟩,?_⟩
  · obtain⟨m,a,_,e2⟩:=z3a e l 0
    rw[e2]
    have:∀l:List Pq,(∀x∈l,WK x.2=true)->l.length<=(z00 e l).length:=by
      intro l hl
      induction l with
      |nil=>exact Nat.zero_le _
      | cons x l ih=>
        have:=ih λy hy=>hl y (List.mem_cons_of_mem _ hy)
        have h1:=List.length_pos_iff.2 (z4l (r:=[]) (hl x List.mem_cons_self)).2.2
        rw[z00,List.length_append,List.length_append,List.length_cons];omega
    have w:∀l:List Pq,POA e l->∀x∈l,WK x.2=true:=by
      intro l
      induction l with
      |nil=>intro _ x hx;cases hx
      | cons y l ih=>
        rintro⟨h1,_,_,h4⟩ x hx
        rcases List.mem_cons.1 hx with rfl|hx
        · exact h1
        · exact ih h4 x hx
    have:=this l (w l h.po)
    omega
  · obtain⟨m,a,e1,_⟩:=z3a e l 0
    exact⟨m,a,e1⟩
def zjs{x:SV} {e:List Nat} {l:List Pq} (hP:tP (z1x e 0 (zhq++l))):∃c,c.P/\St c (l.map wdK)/\z4g x (z1x e 0 (zhq++l))=ptL ⟨c,⟨[],[],[]⟩⟩:=by
 have s0:St ⟨x,z1x e 0 (zhq++l),0,0⟩ (syK++l.map wdK):=St.start (by rw[z8l,List.map_append];rfl)
 exact⟨_,(Rc.rfl.sy (c:=⟨x,z1x e 0 (zhq++l),0,0⟩)).P hP,s0.sy,rfl⟩
end
def zeo:gdB zhq=true:=by decide+kernel
def zfk:∀j,j<26->gdB (zet j)=true/\gdB (zss j)=true/\gdB (zso j)=true/\gdB zsu=true/\plB (mkS [97+j])=true/\isLet (97+j)=true:=by decide+kernel
def z8g(a b:ByteArray):(a++b).size=a.size+b.size:=ByteArray.size_append
def rp{α:Type}:Nat->List α->List α
 |0,_=>[]
 |n+1,l=>l++rp n l
def sxB:List Nat:=[115,121,110,116,97,120,32,61,32,39,112,114,111,116,111,51,39,59]
def hB(k:Nat):List Nat:=if k=3\/k=5 then sxB++[109,101,115,115,97,103,101,32,77,32,123]else if k=4 then sxB++[101,110,117,109,32,69,32,123]else sxB
def eB(n k:Nat):List Nat:=if k=3\/k=5\/k=4 then [125]else if k=6 then rp n [125]else []
def pM:Nat->List Pq
 |0=>[([],[109,101,115,115,97,103,101]),([32],[65]),([32],[123]),([],[125])]
 |1=>[([],[101,110,117,109]),([32],[65]),([32],[123]),([],[125])]
 |2=>[([],[105,109,112,111,114,116]),([32],[39,120,39]),([],[59])]
 |3=>[([],[105,110,116,51,50]),([32],[97]),([32],[61]),([32],[49]),([],[59])]
 |4=>[([],[66]),([32],[61]),([32],[48]),([],[59])]
 |5=>[([],[111,110,101,111,102]),([32],[97]),([32],[123]),([32],[105,110,116,51,50]),([32],[98]),([32],[61]),([32],[49]),([],[59]),([32],[125])]
 |_=>[([],[109,101,115,115,97,103,101]),([32],[65]),([32],[123])]
def gap(j:Nat):List Nat:=if j=0 then []else [32]
def eM(n k:Nat):List Nat:=if k<3 then gap n else []
def z5d(l:List Nat):ByteArray.size (mkS l)=l.length:=q0u l
def ziv:qqv P=true:=by decide+kernel
def zng:qk3 P 81 Extern.BytealgIndexByte.indexByte:=
 ⟨_,Go.Proofs.Tryd.func81,by kernel_rfl,by kernel_rfl,by kernel_rfl,by kernel_rfl⟩
def zoy:List AV:=[.str [nat_lit 100,nat_lit 111,nat_lit 117,nat_lit 98,nat_lit 108,nat_lit 101], .str [nat_lit 102,nat_lit 108,nat_lit 111,nat_lit 97,nat_lit 116], .str [nat_lit 105,nat_lit 110,nat_lit 116,nat_lit 51,nat_lit 50], .str [nat_lit 105,nat_lit 110,nat_lit 116,nat_lit 54,nat_lit 52], .str [nat_lit 117,nat_lit 105,nat_lit 110,nat_lit 116,nat_lit 51,nat_lit 50], .str [nat_lit 117,nat_lit 105,nat_lit 110,nat_lit 116,nat_lit 54,nat_lit 52], .str [nat_lit 115,nat_lit 105,nat_lit 110,nat_lit 116,nat_lit 51,nat_lit 50], .str [nat_lit 115,nat_lit 105,nat_lit 110,nat_lit 116,nat_lit 54,nat_lit 52], .str [nat_lit 102,nat_lit 105,nat_lit 120,nat_lit 101,nat_lit 100,nat_lit 51,nat_lit 50], .str [nat_lit 102,nat_lit 105,nat_lit 120,nat_lit 101,nat_lit 100,nat_lit 54,nat_lit 52], .str [nat_lit 115,nat_lit 102,nat_lit 105,nat_lit 120,nat_lit 101,nat_lit 100,nat_lit 51,nat_lit 50], .str [nat_lit 115,nat_lit 102,nat_lit 105,nat_lit 120,nat_lit 101,nat_lit 100,nat_lit 54,nat_lit 52], .str [nat_lit 98,nat_lit 111,nat_lit 111,nat_lit 108], .str [nat_lit 115,nat_lit 116,nat_lit 114,nat_lit 105,nat_lit 110,nat_lit 103], .str [nat_lit 98,nat_lit 121,nat_lit 116,nat_lit 101,nat_lit 115]]
def kwO:AO:= .cells 0 none true [.str [nat_lit 100,nat_lit 111,nat_lit 117,nat_lit 98,nat_lit 108,nat_lit 101], .str [nat_lit 102,nat_lit 108,nat_lit 111,nat_lit 97,nat_lit 116], .str [nat_lit 105,nat_lit 110,nat_lit 116,nat_lit 51,nat_lit 50], .str [nat_lit 105,nat_lit 110,nat_lit 116,nat_lit 54,nat_lit 52], .str [nat_lit 117,nat_lit 105,nat_lit 110,nat_lit 116,nat_lit 51,nat_lit 50], .str [nat_lit 117,nat_lit 105,nat_lit 110,nat_lit 116,nat_lit 54,nat_lit 52], .str [nat_lit 115,nat_lit 105,nat_lit 110,nat_lit 116,nat_lit 51,nat_lit 50], .str [nat_lit 115,nat_lit 105,nat_lit 110,nat_lit 116,nat_lit 54,nat_lit 52], .str [nat_lit 102,nat_lit 105,nat_lit 120,nat_lit 101,nat_lit 100,nat_lit 51,nat_lit 50], .str [nat_lit 102,nat_lit 105,nat_lit 120,nat_lit 101,nat_lit 100,nat_lit 54,nat_lit 52], .str [nat_lit 115,nat_lit 102,nat_lit 105,nat_lit 120,nat_lit 101,nat_lit 100,nat_lit 51,nat_lit 50], .str [nat_lit 115,nat_lit 102,nat_lit 105,nat_lit 120,nat_lit 101,nat_lit 100,nat_lit 54,nat_lit 52], .str [nat_lit 98,nat_lit 111,nat_lit 111,nat_lit 108], .str [nat_lit 115,nat_lit 116,nat_lit 114,nat_lit 105,nat_lit 110,nat_lit 103], .str [nat_lit 98,nat_lit 121,nat_lit 116,nat_lit 101,nat_lit 115]]
def kwH:T AO:= .n .e (some kwO) .e
def kwG:T AV:=(.n .e none (.n (.n (.n (.n (.n (.n .e none (.n (.n (.n .e none (.n (.n (.n (.n (.n .e none (.n (.n .e none (.n .e none (.n .e none (.n .e (some (.ptr (nat_lit 0) (nat_lit 0))) .e)))) none .e)) none .e) none .e) none .e) none .e)) none .e) none .e)) none .e) none .e) none .e) none .e) none .e))
def zew:T.putS 64 1000000 (some (.ptr 0 0)) (.e:T AV)=some kwG:=by kernel_rfl
def LaidK(w:World):Prop:=∃e fr,w.heap[0]? =some (.cells kwVs e fr)
def kwI:In:=λid=>if id=0 then some (0,0,15)else none
def zex(id:Nat) (o:AO) (h:kwH.get id=some o):id=0/\o=kwO:=by
 have hp:T.putS 64 0 (some kwO) (.e:T AO)=some kwH:=by kernel_rfl
 rw[T.get_eq,T.get_putS _ _ _ _ _ hp id]at h
 split at h
 ·rename_i e;cases h;exact⟨e,rfl⟩
 ·rw[←T.get_eq,T.get_e]at h;cases h
def zix(I:In):VRs I zoy kwVs.toList:=by
 have:ofVals kwVs.toList=some zoy:=by kernel_rfl
 exact ofVals_rel I _ _ this
def ziu{I:In} (h:I 0=some (0,0,15)):GOK kwG I:=λn a hn=>by
 rw[T.get_eq,T.get_putS _ _ _ _ _ zew n]at hn
 split at hn
 ·rename_i e
  cases hn
  subst e
  have e1:1000000- q10=0:=by simp[q10]
  rw[e1]
  exact⟨by unfold q10;omega, .ptr' h rfl⟩
 ·rw[←T.get_eq,T.get_e]at hn;cases hn
def ziy{call:q03} (hc:q11 kwG P call) {f:Nat} {b:Bool} {h:T AO} {nx:Nat} (hb:hasB P f=true) (e:call f [] kwH 1=some (.bool b,h,nx)) (w:World) (hw:LaidK w):
  Calls P f #[] w λe w'=>e= .returned (.bool b)/\Below w.heap.size w w':=by
 obtain⟨e0,fr,hw⟩:=hw
 have hI:∀id b t,kwI id=some (b,t)->id=0/\b=0/\t=(0,15):=λid b t h=>by
  unfold kwI at h
  split at h
  ·rename_i e;cases h;exact⟨e,rfl,rfl⟩
  ·cases h
 refine qks hc hb e w kwI (λid o b t h1 h2=> ?_) (λid id' o o' b t t' h1 h2 h3 h4=>by rw[(hI _ _ _ h3).1,(hI _ _ _ h4).1]) (λid b t h=> ?_) (ziu (by unfold kwI;rw[if_pos rfl]))
 ·obtain⟨rfl,rfl⟩:=zex _ _ h1
  obtain⟨_,rfl,rfl⟩:=hI _ _ _ h2
  refine⟨rfl,_,hw,?_⟩
  have:=OR.cells (I:=kwI) (t:=(0,15)) (elem:=0) (elem':=e0) (fz:=none) (g:=true) (pre:=[]) (vs:=kwVs.toList) (rest:=[]) (fr:=fr) (zix kwI) (λh=>by cases h) rfl rfl (λf hf=>by cases hf) (.inr ⟨rfl,rfl⟩)
  have ew:(⟨[]++(kwVs.toList++[])⟩:Array Value)=kwVs:=by simp
  rw[ew]at this
  exact this
 ·obtain⟨rfl,rfl,rfl⟩:=hI _ _ _ h
  exact⟨by decide,(Array.getElem?_eq_some_iff.1 hw).1⟩
def fr(b:Int):Int:=Int.tmod b 4
def to4(b:Int):Nat:=(Int.tmod (Int.tdiv b 4) 4).toNat
def gI(L:List Int) (i:Nat):List Nat:=(L.filter λb=>decide (fr b=(i:Int))).map to4
def z3n(l:List Nat):List Pq:=zhq++l.flatMap zet
def tx4(L:List Int) (i:Nat):ByteArray:=mkS (z00 [] (z3n (gI L i)))
def nm4(i:Nat):ByteArray:=mkS [97+i]
def z5e(L:List Int):Prop:=L.length<=10/\∀b∈L,0<=b/\b<256
inductive TR(L:List Int):Nat->Nat->Prop
 |one {i j} (h:j∈gI L i):TR L i j
 |step {i j k} (h:TR L i j) (g:k∈gI L j):TR L i k
def zhr(L:List Int) (ks:List Nat):Prop:=∀a x b,ks=a++x::b->∀y∈gI L x,y∈a
def SI(L:List Int) (st:List Nat) (ks:List Nat):Prop:=(st.length=4/\∀k,k<4->st.getD k 0<=2)/\(∀k,k<4->(st.getD k 0=2↔k∈ks))/\(ks.Nodup/\∀k∈ks,k<4)/\zhr L ks
def srV(x:ByteArray×ByteArray):List Value:=[.string x.1, .string x.2]
def z4i(L:List Int):List (ByteArray×ByteArray):=(List.range 4).map λi=>(nm4 i,tx4 L i)
structure FL where
 k:Nat
 x1:SV
 x2:SV
 x3:SV
 xs:SV
def flV(f:FL):List Value:=[.string (nm4 f.k), .string (mkS []),svV f.x1,svV f.x2,svV f.x3,svV f.xs]
def kOf(l:List FL):List Nat:=l.map FL.k
def plE(n:Nat):List MapEntry:=(List.range n).map λi=>⟨.string (nm4 i), .int .i64 (i:Nat),i⟩
def z0t(st:List Nat):List Value:=st.map λx=> .int .i64 (x:Nat)
structure LD where
 st:List Nat
 fl:List FL
 e:Int
 f:ByteArray
 a:Int
def ldO(y:SV) (b:Nat) (n:Nat) (d:LD):AO:= .cells 79 (some 0) false [svA y, .map 2, .msl 3 4 1, .ssl b 0 n 6 (b+1), .sv (.int .i64 d.e), .sv (.string d.f), .sv (.int .i64 d.a)]
def LD.H(y:SV) (d:LD) (b:Nat):List (Nat×AO):=[(1,ldO y b d.fl.length d),(2, .mrow (plE 4) 4),(3, .row 3 0 (z0t d.st)),(b, .row 54 0 (d.fl.flatMap flV))]
def srM(y:SV) (L:List Int):PF:=⟨true,λp=>rwP srV (z4i L) y p/\hG.ok p,λ_ _ h e=>⟨z0r h e.1,PF.ok_mono h e.2⟩⟩
abbrev DnS:=SV×List Int×Nat×LD
abbrev DnB:=Bool×LD
def zd2(L:List Int) (st:List Nat) (i:Nat):Prop:=∀g,g<4->st.getD g 0=1->TR L g i
def z1n(L:List Int) (i:Nat) (d:LD):Prop:=z5e L/\i<4/\SI L d.st (kOf d.fl)/\d.st.getD i 0=0/\zd2 L d.st i
def z03(L:List Int) (i:Nat) (d:LD) (b:DnB):Prop:=
 if b.1=true then SI L b.2.st (kOf b.2.fl)/\(∀g,g<4->(b.2.st.getD g 0=1↔d.st.getD g 0=1))/\(∀g,g<4->b.2.st.getD g 0=0->d.st.getD g 0=0)/\(∃ext,kOf b.2.fl=kOf d.fl++ext++[i])/\∀x∈kOf b.2.fl,x∈kOf d.fl\/x=i\/TR L i x
 else b.2.e=6/\∃g,(g=i\/TR L i g)/\TR L g g
def cDn:CtR where
 σ:=DnS
 args:=λ⟨y,L,i,d⟩=>[.ptr 1 0, .sv (.int .i64 (i:Nat))]
 h:=λ⟨y,L,i,d⟩=>d.H y 4
 m:=6
 pre:=λ⟨y,L,i,d⟩=>z1n L i d
 mem:=λ⟨y,L,i,d⟩=>srM y L
 β:=λ_=>DnB
 post:=λ⟨y,L,i,d⟩ b=>z03 L i d b
 r:=λ_ b=> .sv (.bool b.1)
 h':=λ⟨y,L,i,d⟩ b=>b.2.H y 6
 m':=8
def zd8:DnS->Nat:=λ⟨y,L,i,d⟩=>d.st.count 0
abbrev FaS:=SV×List Int×LD×Int×ByteArray×Int
def z6w:Ct where
 σ:=FaS
 args:=λ⟨y,L,d,e,f,a⟩=>[.ptr 1 0, .sv (.int .i64 e), .sv (.string f), .sv (.int .i64 a)]
 h:=λ⟨y,L,d,e,f,a⟩=>d.H y 4
 m:=6
 r:=λ_=> .sv (.bool false)
 h':=λ⟨y,L,d,e,f,a⟩=>(⟨d.st,d.fl,e,f,a⟩:LD).H y 4
 m':=6
 g:=λ_=>none
def ixT(s:ByteArray):List ByteArray->Nat->Int
 | [],_=> -1
 |t::l,k=>if s=t then k else ixT s l (k+1)
abbrev CoS:=List ByteArray×ByteArray
def zec:Ct where
 σ:=CoS
 args:=λ⟨l,s⟩=>[.ssl 1 0 l.length 1 2, .sv (.string s)]
 h:=λ⟨l,s⟩=>[rwO 1 (l.flatMap stV)]
 m:=3
 pre:=λ⟨l,s⟩=>l.length<1000000
 r:=λ⟨l,s⟩=> .sv (.int .i64 (ixT s l 0))
 h':=λ⟨l,s⟩=>[rwO 1 (l.flatMap stV)]
 m':=3
 g:=λ_=>none
def zk5:CoS->WayF:=λ⟨l,s⟩=>{ann:=λ_ _ _=>some {σ:=Nat,pre:=λi=>i<=l.length/\ixT s (l.drop i) i=ixT s l 0,t:=λi=>[(8, .sv (.int .i64 (i:Nat)))],h:=λ_=>[],more:=0,μ:=λi=>l.length- i,keep:=[0,1,7]}}
def zeb:Ct where
 σ:=CoS
 args:=λ⟨l,s⟩=>[.ssl 1 0 l.length 1 2, .sv (.string s)]
 h:=λ⟨l,s⟩=>[rwO 1 (l.flatMap stV)]
 m:=3
 pre:=λ⟨l,s⟩=>l.length<1000000
 r:=λ⟨l,s⟩=> .sv (.bool (decide (0<=ixT s l 0)))
 h':=λ⟨l,s⟩=>[rwO 1 (l.flatMap stV)]
 m':=3
 g:=λ_=>none
def zeq(l:List ByteArray) (s:ByteArray):qr8 P (λ_=>none) Go.Proofs.Tryd.f65 zec (zk5) ⟨l,s⟩=(length l<(1000000:Nat)->(∃(s_1:Nat),length l=length l/\s=s/\(↑(length l):Int)=(↑(length l):Int)/\(↑s_1:Int)=(0:Int)/\List.flatMap stV l=List.flatMap stV l/\(s_1<=length l/\ixT s (drop s_1 l) s_1=ixT s l (0:Nat))/\True)/\∀(s_1:Nat),s_1<=length l/\ixT s (drop s_1 l) s_1=ixT s l (0:Nat)->(decide ((↑s_1:Int)<(↑(length l):Int))=true->((0:Int)<=(↑s_1:Int)/\(↑s_1:Int)<(↑(length l):Int))/\∃(s_2:ByteArray),qmd (List.flatMap stV l) (nat_lit 0+toNat (↑s_1:Int)*nat_lit 1) [string s_2]/\(decide (s=s_2)=true->ixT s l (0:Nat)=(↑s_1:Int)/\List.flatMap stV l=List.flatMap stV l/\True)/\(decide (s=s_2)=false->((-9223372036854775808:Int)<=(↑s_1:Int)+(1:Int)/\(↑s_1:Int)+(1:Int)<=(9223372036854775807:Int))/\∃(s_3:Nat),length l=length l/\s=s/\(↑(length l):Int)=(↑(length l):Int)/\(↑s_3:Int)=(↑s_1:Int)+(1:Int)/\List.flatMap stV l=List.flatMap stV l/\(s_3<=length l/\ixT s (drop s_3 l) s_3=ixT s l (0:Nat))/\length l- s_3<length l- s_1/\True))/\(decide ((↑s_1:Int)<(↑(length l):Int))=false->ixT s l (0:Nat)=(-1:Int)/\List.flatMap stV l=List.flatMap stV l/\True)):=by kernel_rfl
def zeh(l:List ByteArray) (s:ByteArray):qr8 P (qkw [(65,zec)]) Go.Proofs.Tryd.f41 zeb (λ_=>{}) ⟨l,s⟩=(List.length l<(1000000:Nat)->∃(s_1:CoS),List.length s_1.1=List.length l/\s_1.2=s/\List.flatMap stV s_1.1=List.flatMap stV l/\List.length (Prod.fst s_1)<(1000000:Nat)/\decide ((0:Int)<=ixT s l (0:Nat))=decide ((0:Int)<=ixT s_1.2 s_1.1 (0:Nat))/\List.flatMap stV l=List.flatMap stV s_1.1/\True):=by kernel_rfl
def za6(y:SV) (L:List Int) (d:LD) (e:Int) (f:ByteArray) (a:Int):qr8 P (λ_=>none) Go.Proofs.Tryd.f40 z6w (λ_=>{}) ⟨y,L,d,e,f,a⟩=(True->false=false/\Prod.fst y=Prod.fst y/\Prod.fst (Prod.snd y)=Prod.fst (Prod.snd y)/\Prod.snd (Prod.snd y)=Prod.snd (Prod.snd y)/\nat_lit 4=nat_lit 4/\length (LD.fl d)=length (LD.fl d)/\e=e/\f=f/\a=a/\z0t (LD.st d)=z0t (LD.st d)/\plE (4:Nat)=plE (4:Nat)/\nat_lit 4=nat_lit 4/\List.flatMap flV (LD.fl d)=List.flatMap flV (LD.fl d)/\True):=by kernel_rfl
def DI(L:List Int) (i:Nat) (d0:LD) (m:Nat) (d:LD) (vs:List ByteArray):Prop:=
 m<=(gI L i).length/\SI L d.st (kOf d.fl)/\(∀g,g<4->(d.st.getD g 0=1↔d0.st.getD g 0=1\/g=i))/\(∀g,g<4->d.st.getD g 0=0->d0.st.getD g 0=0/\g≠i)/\(∃ext,kOf d.fl=kOf d0.fl++ext)/\(∀x∈kOf d.fl,x∈kOf d0.fl\/TR L i x)/\(∀y∈(gI L i).take m,y∈kOf d.fl)/\vs.length<=m
def wDn:DnS->WayF:=λ⟨y,L,i,d0⟩=>{
 ann:=λ_ _ hh=>some {σ:=Nat×LD×List ByteArray,pre:=λ⟨m,d,vs⟩=>DI L i d0 m d vs,t:=λ⟨m,d,vs⟩=>[(51, .sv (.int .i64 (m:Nat))),(9, .ssl 100 0 vs.length 1 101)],h:=λ⟨m,d,vs⟩=>[(1,ldO y 102 d.fl.length d),(3, .row 3 0 (z0t d.st)),(102, .row 54 0 (d.fl.flatMap flV)),rwO 100 (vs.flatMap stV)],more:=150,μ:=λ⟨m,d,vs⟩=>(gI L i).length- m,keep:=[0,1,5,6,49,50],del:=zne hh 1 3}
 spl:=λi=>match i with
  |21=>some 10
  |_=>none
 flo:=λi=>match i with
  |21=>some (10,[0])
  |_=>none
 flu:=λi=>match i with
  |21=>[(10,[1,2,3,4]),(10,[5]),(10,[6])]
  |_=>[]
 pub:=λi k=>match i,k with
  |21,k+1=>[119]
  |_,_=>[]}
section
variable (x0:Nat) (x1:SV) (x2:List Int) (x3:LD) (x4:Nat) (x5:Nat×LD×List ByteArray) (x6:ByteArray) (x7:PB) (x8:Option Addr) (x9:Int) (x10:ByteArray) (x11:DnB) (x12:DnS) (x13:Prop) (x14:Nat->Option Obj) (x15:CoS) (x16:FaS) (x17:Nat×LD×List ByteArray)
 abbrev zc8:=∃(i0:Int),q88 x14 (Addr.mk 1 0 none)=some (int i64 i0)
 def z6m:=True/\rwP srV (z4i x2) x1 x14/\zc8 x14
 def zha:=(0<=(↑x0:Int)/\(↑x0:Int)<(↑x1.2.1:Int))/\x1.1≠noA/\x13
 def z3i:=(z6m x1 x2 x14)/\PB.ok x7 x14
 def zh6:=x16.1.1=x1.1/\x16.1.2.1=x1.2.1/\x16.1.2.2=x1.2.2/\nat_lit 4=nat_lit 4/\x13
 def z40:=plE (4:Nat)=plE 4/\nat_lit 4=nat_lit 4/\x13
 def zgz:=True/\∃(i0:DnB),i0.1=false/\x1.1=x16.1.1/\x1.2.1=x16.1.2.1/\x1.2.2=x16.1.2.2/\nat_lit 4=nat_lit 4/\length (LD.fl i0.2)=length (LD.fl x16.2.2.1)/\LD.e i0.2=x16.2.2.2.1/\LD.f i0.2=x16.2.2.2.2.1/\LD.a i0.2=x16.2.2.2.2.2/\z0t (LD.st i0.2)=z0t (LD.st x16.2.2.1)/\z40 (List.flatMap flV (LD.fl i0.2)=List.flatMap flV (LD.fl x16.2.2.1)/\z03 x2 x0 x3 i0/\True)
 def zh4:=(PB.x1 x7).1=(PB.x1 x7).1/\(PB.x1 x7).2.1=(PB.x1 x7).2.1/\(PB.x1 x7).2.2=(PB.x1 x7).2.2/\x13
 abbrev z9n:=(↑(PB.x1 x7).2.1:Int)
 def z6l:=zh4 x7 ((z9n x7)=(z9n x7)/\x13)
 def z9l:=x1.1=x1.1/\x1.2.1=x1.2.1/\x1.2.2=x1.2.2/\nat_lit 4=nat_lit 4/\x13
 def z6k:=mkS []=mkS []/\zh4 x7 ((PB.x2 x7).1=(PB.x2 x7).1/\(PB.x2 x7).2.1=(PB.x2 x7).2.1/\(PB.x2 x7).2.2=(PB.x2 x7).2.2/\(PB.x3 x7).1=(PB.x3 x7).1/\(PB.x3 x7).2.1=(PB.x3 x7).2.1/\(PB.x3 x7).2.2=(PB.x3 x7).2.2/\z40 x13)
 def zh0:=∃(i0:FaS),i0.2.2.2.1=x9/\i0.2.2.2.2.1=x6/\i0.2.2.2.2.2=0/\zh6 x1 (length (LD.fl i0.2.2.1)=length (LD.fl x5.2.1)/\LD.e i0.2.2.1=LD.e x5.2.1/\LD.f i0.2.2.1=LD.f x5.2.1/\LD.a i0.2.2.1=LD.a x5.2.1/\z0t (LD.st i0.2.2.1)=z0t (LD.st x5.2.1)/\z40 (List.flatMap flV (LD.fl i0.2.2.1)=List.flatMap flV (LD.fl x5.2.1)/\zgz x0 x1 x2 x3 i0)) i0
 def zh7:=x1.1=x12.1.1/\x1.2.1=x12.1.2.1/\x1.2.2=x12.1.2.2/\nat_lit 4=nat_lit 4/\x13
 def zh9:=length x15.1=length x5.2.2/\x15.2=x6/\List.flatMap stV x15.1=List.flatMap stV x5.2.2/\length x15.1<1000000/\x13
 def z9o:= !decide (0<=ixT x15.2 x15.1 0)
 abbrev zc9:=Jb ((↑x5.1:Int)+1)
 def zh8:=length (List.flatMap stV x15.1)=length x5.2.2*1/\(length x5.2.2+nat_lit 1)*16<=140737488355328/\zc9 x5/\x13
 def z9m:=(↑x0:Int)=(↑x0:Int)/\(↑x5.1:Int)=(↑x17.1:Int)+1/\x6=x6/\x13
 def zh2:=zh7 x1 x12 (length (LD.fl x5.2.1)=length (LD.fl x11.2)/\LD.e x5.2.1=LD.e x11.2/\LD.f x5.2.1=LD.f x11.2/\LD.a x5.2.1=LD.a x11.2/\z0t (LD.st x5.2.1)=z0t (LD.st x11.2)/\x13)
 def z9k:=(∀i0,z3i x1 x2 x7 i0->z3i x1 x2 x7 i0)/\DI x2 x0 x3 x5.1 x5.2.1 x5.2.2/\length (gI x2 x0)- x5.1<length (gI x2 x0)- x17.1/\True
 def zl9:=zh8 x5 (∃(i0:Nat×LD×List ByteArray),z9m x0 i0 x6 (length i0.2.2=length x5.2.2+nat_lit 1/\z6l x7 (zh2 x1 i0 x11 x12 (z6k x7 (List.flatMap stV i0.2.2=List.flatMap stV x15.1++[string x10]/\List.flatMap flV (LD.fl i0.2.1)=List.flatMap flV (LD.fl x11.2)/\z9k x0 x1 x2 x3 i0 x7 x5)))) x5) x15
 def zlb:=zc9 x5/\∃(i0:Nat×LD×List ByteArray),z9m x0 i0 x6 (length i0.2.2=length x5.2.2/\z6l x7 (zh2 x1 i0 x11 x12 (z6k x7 (List.flatMap stV i0.2.2=List.flatMap stV x15.1/\List.flatMap flV (LD.fl i0.2.1)=List.flatMap flV (LD.fl x11.2)/\z9k x0 x1 x2 x3 i0 x7 x5)))) x5
 def zl8:=((!x11.1)=true->∃(i0:DnB),i0.1=false/\zh7 x1 x12 (length (LD.fl i0.2)=length (LD.fl x11.2)/\LD.e i0.2=LD.e x11.2/\LD.f i0.2=LD.f x11.2/\LD.a i0.2=LD.a x11.2/\z0t (LD.st i0.2)=z0t (LD.st x11.2)/\z40 (List.flatMap flV (LD.fl i0.2)=List.flatMap flV (LD.fl x11.2)/\z03 x2 x0 x3 i0/\True)))/\((!x11.1)=false->∃(i1:CoS),zh9 x5 x6 (((z9o i1)=true->zl9 x0 x1 x2 x3 x5 x10 x7 x6 x11 x12 i1)/\((z9o i1)=false->zlb x0 x1 x2 x3 x5 x10 x7 x11 x12 i1)) i1)
 def zh5:=length (LD.fl x5.2.1)=length (LD.fl x17.2.1)/\LD.e x5.2.1=LD.e x17.2.1/\LD.f x5.2.1=LD.f x17.2.1/\LD.a x5.2.1=LD.a x17.2.1/\z0t (LD.st x5.2.1)=z0t (LD.st x17.2.1)/\x13
 def zla:=zh8 x5 (∃(i0:Nat×LD×List ByteArray),z9m x0 i0 x6 (length i0.2.2=length x5.2.2+nat_lit 1/\z6l x7 (z9l x1 (zh5 i0 (z6k x7 (List.flatMap stV i0.2.2=List.flatMap stV x15.1++[string x10]/\List.flatMap flV (LD.fl i0.2.1)=List.flatMap flV (LD.fl x5.2.1)/\z9k x0 x1 x2 x3 i0 x7 x5)) x5))) x5) x15
 def zlc:=zc9 x5/\∃(i0:Nat×LD×List ByteArray),z9m x0 i0 x6 (length i0.2.2=length x5.2.2/\z6l x7 (z9l x1 (zh5 i0 (z6k x7 (List.flatMap stV i0.2.2=List.flatMap stV x15.1/\List.flatMap flV (LD.fl i0.2.1)=List.flatMap flV (LD.fl x5.2.1)/\z9k x0 x1 x2 x3 i0 x7 x5)) x5))) x5
 def zs6:=(0<=x9/\x9<(↑(nat_lit 4):Int))/\∃(i0:Int),qmd (z0t (LD.st x5.2.1)) ((0:Nat)+toNat x9*nat_lit 1) [int i64 i0]/\Ji (i0=0) (∃(i1:DnS),(↑i1.2.2.1:Int)=x9/\i1.1.1=x1.1/\i1.1.2.1=x1.2.1/\i1.1.2.2=x1.2.2/\nat_lit 4=nat_lit 4/\length (LD.fl i1.2.2.2)=length (LD.fl x5.2.1)/\LD.e i1.2.2.2=LD.e x5.2.1/\LD.f i1.2.2.2=LD.f x5.2.1/\LD.a i1.2.2.2=LD.a x5.2.1/\z0t (LD.st i1.2.2.2)=z0t (LD.st x5.2.1)/\z40 (List.flatMap flV (LD.fl i1.2.2.2)=List.flatMap flV (LD.fl x5.2.1)/\(zd8 i1<x0/\z1n i1.2.1 i1.2.2.1 i1.2.2.2)/\(∀i2,z3i x1 x2 x7 i2->rwP srV (z4i i1.2.1) i1.1 i2/\zc8 i2)/\∀(i5:DnB),z03 i1.2.1 i1.2.2.1 i1.2.2.2 i5->zl8 x4 x1 x2 x3 x5 x6 x7 x10 i5 i1)) (∃(i16:CoS),zh9 x5 x6 (((z9o i16)=true->zla x4 x1 x2 x3 x5 x10 x7 x6 i16)/\((z9o i16)=false->zlc x4 x1 x2 x3 x5 x10 x7 i16)) i16)
 def zs5:=(0<=x9/\x9<(↑(nat_lit 4):Int))/\∃(i0:Int),qmd (z0t (LD.st x5.2.1)) ((0:Nat)+toNat x9*nat_lit 1) [int i64 i0]/\Ji (i0=1) (zh0 x0 x1 x2 x3 x5 x6 6) (zs6 x4 x1 x2 x3 x0 x5 x10 x7 x9 x6)
 def zs4:=(0<=(↑x5.1:Int)/\(↑x5.1:Int)<(z9n x7))/\(PB.x1 x7).1≠noA/\∃i0,(∀i1,z3i x1 x2 x7 i1->q4o i1 (adr (PB.x1 x7).1 (toNat (↑x5.1:Int)*1)) [string i0])/\kOK TypeDesc.string (string i0)/\(∀(i3:MapEntry),i3∈plE 4->kOK TypeDesc.string (MapEntry.key i3))/\∃(i4:Int),qph (string i0) (plE 4) (int i64 0)=int i64 i4/\((!qrm (string i0) (plE 4))=true->zh0 x0 x1 x2 x3 x5 x6 10)/\((!qrm (string i0) (plE 4))=false->zs5 x0 x1 x2 x3 x4 x5 x6 x7 i4 i0)
 def zrz:=length (List.flatMap flV (LD.fl x5.2.1))=length (LD.fl x5.2.1)*6/\(length (LD.fl x5.2.1)+nat_lit 1)*128<=140737488355328/\∃(i0:DnB),i0.1=true/\z9l x1 (length (LD.fl i0.2)=length (LD.fl x5.2.1)+nat_lit 1/\LD.e i0.2=LD.e x5.2.1/\LD.f i0.2=LD.f x5.2.1/\LD.a i0.2=LD.a x5.2.1/\z0t (LD.st i0.2)=spl (z0t (LD.st x5.2.1)) ((0:Nat)+toNat (↑x0:Int)*nat_lit 1) [int i64 2]/\z40 (List.flatMap flV (LD.fl i0.2)=List.flatMap flV (LD.fl x5.2.1)++[string x6,string (mkS []),slice (PB.x1 x7).1 (PB.x1 x7).2.1 (PB.x1 x7).2.2,slice (PB.x2 x7).1 (PB.x2 x7).2.1 (PB.x2 x7).2.2,slice (PB.x3 x7).1 (PB.x3 x7).2.1 (PB.x3 x7).2.2,slice x8 (length x5.2.2+nat_lit 1) x4]/\z03 x2 x0 x3 i0/\True))
 def zh1:=length (List.flatMap stV x5.2.2)=length x5.2.2*1/\(length x5.2.2+nat_lit 1)*16<=140737488355328/\∀(i0 i1 i2:Nat) (i3:Option Addr) (i4 i5:Nat),(∃i6,(z3i x1 x2 x7 i6)/\length x5.2.2+nat_lit 1<=i5/\qoq i6 i3 (take ((length x5.2.2+nat_lit 1)*nat_lit 1) (List.flatMap stV x5.2.2++[string x6])))->zrz x0 x1 x2 x3 i5 x5 x6 x7 i3
 def z9p:=(zh1 x0 x1 x2 x3 x5 x6 x7)/\zh1 x0 x1 x2 x3 x5 x6 x7
 def zh3:=((z9p x0 x1 x2 x3 x5 x6 x7)/\z9p x0 x1 x2 x3 x5 x6 x7)/\((z9p x0 x1 x2 x3 x5 x6 x7)/\z9p x0 x1 x2 x3 x5 x6 x7)/\((z9p x0 x1 x2 x3 x5 x6 x7)/\z9p x0 x1 x2 x3 x5 x6 x7)/\((z9p x0 x1 x2 x3 x5 x6 x7)/\z9p x0 x1 x2 x3 x5 x6 x7)/\(z9p x0 x1 x2 x3 x5 x6 x7)/\z9p x0 x1 x2 x3 x5 x6 x7
 def zs3:=(0<=(↑x0:Int)/\(↑x0:Int)<(↑(nat_lit 4):Int))/\(0:Nat)+toNat (↑x0:Int)*nat_lit 1+length [int i64 2]<=length (z0t (LD.st x5.2.1))/\(zh3 x0 x1 x2 x3 x5 x6 x7)/\zh3 x0 x1 x2 x3 x5 x6 x7
 def zs2:=Ji ((↑x5.1:Int)<(z9n x7)) (zs4 x0 x1 x2 x3 x4 x5 x6 x7) (zs3 x0 x1 x2 x3 x5 x6 x7)
 def zs1:=(0<=(↑x0:Int)/\(↑x0:Int)<(↑(nat_lit 4):Int))/\(0:Nat)+toNat (↑x0:Int)*nat_lit 1+length [int i64 1]<=length (z0t (LD.st x3))/\(∃(i0:Nat×LD×List ByteArray),(↑x0:Int)=(↑x0:Int)/\(↑i0.1:Int)=0/\x6=x6/\length i0.2.2=0/\z6l x7 (z9l x1 (length (LD.fl i0.2.1)=length (LD.fl x3)/\LD.e i0.2.1=LD.e x3/\LD.f i0.2.1=LD.f x3/\LD.a i0.2.1=LD.a x3/\z0t (LD.st i0.2.1)=spl (z0t (LD.st x3)) ((0:Nat)+toNat (↑x0:Int)*nat_lit 1) [int i64 1]/\z6k x7 (List.flatMap flV (LD.fl i0.2.1)=List.flatMap flV (LD.fl x3)/\(∀i1,z3i x1 x2 x7 i1->z3i x1 x2 x7 i1)/\DI x2 x0 x3 i0.1 i0.2.1 i0.2.2/\True))))/\∀(i4:Nat×LD×List ByteArray),DI x2 x0 x3 i4.1 i4.2.1 i4.2.2->zs2 x0 x1 x2 x3 x4 i4 x6 x7
 def zs0:=((!decide (PB.e x7=0))=true->∃(i0:FaS),i0.2.2.2.1=PB.e x7/\i0.2.2.2.2.1=x6/\i0.2.2.2.2.2=PB.a x7/\zh6 x1 (length (LD.fl i0.2.2.1)=length (LD.fl x3)/\LD.e i0.2.2.1=LD.e x3/\LD.f i0.2.2.1=LD.f x3/\LD.a i0.2.2.1=LD.a x3/\z0t (LD.st i0.2.2.1)=z0t (LD.st x3)/\z40 (List.flatMap flV (LD.fl i0.2.2.1)=List.flatMap flV (LD.fl x3)/\zgz x0 x1 x2 x3 i0)) i0)/\((!decide (PB.e x7=0))=false->zs1 x0 x1 x2 x3 x4 x6 x7)
 def zry:=zha x0 x1 (∃i0,(∀i1,(z6m x1 x2 i1)->q4o i1 (Addr.add (adr x1.1 (toNat (↑x0:Int)*2)) 0) [string i0])/\zha x0 x1 (∃i3,(∀i4,(z6m x1 x2 i4)->q4o i4 (Addr.add (adr x1.1 (toNat (↑x0:Int)*2)) 1) [string i3])/\∃(i6:PsS),i6.1=i3/\(size i6.1<100000/\lxR i6.1=(i6.2,(0:Nat),(0:Nat))/\tP i6.2)/\(∀i7,(z6m x1 x2 i7)->zc8 i7)/\∀(i10:PB),z28 i6.2 i10->(∃i11,z3i x1 x2 i10 i11)->zs0 x0 x1 x2 x3 x4 i0 i10))
end
def zii(c:Nat) (y:SV) (L:List Int) (i:Nat) (d:LD):qr9 P (qkw [(40,z6w),(41,zeb)]) (qm6 [(7,z6y),(20,cDn.below zd8 c)]) Go.Proofs.Tryd.f20 (cDn.below zd8 (c+1)) (wDn) ⟨y,L,i,d⟩=(zd8 (y,L,i,d)<c+1/\z1n L i d->(∃(p:Pub),z6m y L p)->zry i y L d c):=by kernel_rfl
def zn5:=λc y L i d=>Eq.trans (zii c y L i d) (by delta Ji Jb Jt Jf zc8 z6m zha z3i zh6 z40 zgz zh4 z9n z6l z9l z6k zh0 zh7 zh9 z9o zc9 zh8 z9m zh2 z9k zl9 zlb zl8 zh5 zla zlc zs6 zs5 zs4 zrz zh1 z9p zh3 zs3 zs2 zs1 zs0 zry;exact rfl)
section
variable {L:List Int}
def TR.trans{i j k:Nat} (h:TR L i j) (g:TR L j k):TR L i k:=by
 induction g with
 |one e=>exact .step h e
 |step _ e ih=>exact .step ih e
def TR.cons{i j k:Nat} (h:j∈gI L i) (g:TR L j k):TR L i k:=(TR.one h).trans g
def zn9{b:Int} (h:0<=b):0<=fr b/\fr b<4:=by
 unfold fr
 rw[Int.tmod_eq_emod_of_nonneg h]
 exact⟨Int.emod_nonneg _ (by omega),Int.emod_lt_of_pos _ (by omega)⟩
def zdq{b:Int} (h:0<=b):to4 b<4/\Int.tmod (Int.tdiv b 4) 4=(to4 b:Nat):=by
 have h1:0<=Int.tdiv b 4:=Int.tdiv_nonneg h (by omega)
 have h2:0<=Int.tmod (Int.tdiv b 4) 4/\Int.tmod (Int.tdiv b 4) 4<4:=by
  rw[Int.tmod_eq_emod_of_nonneg h1]
  exact⟨Int.emod_nonneg _ (by omega),Int.emod_lt_of_pos _ (by omega)⟩
 unfold to4
 omega
def z5n(hL:z5e L) {i j:Nat} (h:j∈gI L i):j<4:=by
 unfold gI at h
 obtain⟨b,hb,rfl⟩:=List.mem_map.1 h
 exact(zdq (hL.2 b (List.mem_filter.1 hb).1).1).1
def zcz(L:List Int) (i:Nat):(gI L i).length<=L.length:=by
 unfold gI
 rw[List.length_map]
 exact List.length_filter_le _ _
def TR.lt(hL:z5e L) {i j:Nat} (h:TR L i j):j<4:=by
 cases h with
 |one h=>exact z5n hL h
 |step _ h=>exact z5n hL h
variable {i:Nat}
def z2o{st:List Nat} (hi:i<st.length) (v g:Nat):(st.set i v).getD g 0=if g=i then v else st.getD g 0:=by
 rw[List.getD_eq_getElem?_getD,List.getElem?_set,List.getD_eq_getElem?_getD]
 by_cases h:i=g
 ·subst h;rw[if_pos rfl,if_pos hi,if_pos rfl];rfl
 ·rw[if_neg h,if_neg (λe=>h e.symm)]
def ze9{st ks:List Nat} (h:SI L st ks) (hi:i<4) (h0:st.getD i 0=0):SI L (st.set i 1) ks:=by
 obtain⟨⟨l4,le2⟩,hk,hn,ht⟩:=h
 have gs:=λg=>z2o (st:=st) (i:=i) (by omega) 1 g
 refine⟨⟨by rw[List.length_set];exact l4,λk hk4=> ?_⟩,λk hk4=> ?_,hn,ht⟩
 ·rw[gs];split
  ·omega
  ·exact le2 k hk4
 ·rw[gs];split
  ·rename_i e
   subst e
   exact⟨λh=>absurd h (by decide),λh=>absurd ((hk k hk4).2 h) (by omega)⟩
  ·exact hk k hk4
def z8n{ks:List Nat} (h:zhr L ks) (hi:∀y∈gI L i,y∈ks):zhr L (ks++[i]):=by
 intro a x b e y hy
 rcases List.eq_nil_or_concat b with rfl|⟨b',z,rfl⟩
 ·rw[←List.append_nil (a++[x])]at e
  have e:ks++[i]=a++[x]:=by simpa using e
  have e2:=List.append_inj' e rfl
  obtain⟨rfl,e2⟩:=e2
  cases e2
  exact hi y hy
 ·have e:ks++[i]=(a++x::b')++[z]:=by simpa using e
  have e2:=List.append_inj' e rfl
  exact h a x b' e2.1 y hy
def ze8{st ks:List Nat} (h:SI L st ks) (hi:i<4) (h1:st.getD i 0=1) (hy:∀y∈gI L i,y∈ks):SI L (st.set i 2) (ks++[i]):=by
 obtain⟨⟨l4,le2⟩,hk,⟨hn,hlt⟩,ht⟩:=h
 have gs:=λg=>z2o (st:=st) (i:=i) (by omega) 2 g
 refine⟨⟨by rw[List.length_set];exact l4,λk hk4=> ?_⟩,λk hk4=> ?_,⟨?_,λk h=> ?_⟩,z8n ht hy⟩
 ·rw[gs];split
  ·omega
  ·exact le2 k hk4
 ·rw[gs];split
  ·rename_i e
   subst e
   exact⟨λ_=>List.mem_append.2 (.inr (List.mem_singleton.2 rfl)),λ_=>rfl⟩
  ·rename_i e
   rw[hk k hk4]
   exact⟨λh=>List.mem_append.2 (.inl h),λh=>(List.mem_append.1 h).resolve_right λh=>e (List.mem_singleton.1 h)⟩
 ·rw[List.nodup_append]
  refine⟨hn,(by simp),λa ha b hb e=> ?_⟩
  have:=List.mem_singleton.1 hb
  subst this;subst e
  have:=(hk a hi).2 ha
  omega
 ·rcases List.mem_append.1 h with h|h
  ·exact hlt k h
  ·rw[List.mem_singleton.1 h];exact hi
def LD.at(d:LD) (st:List Nat):LD:=⟨st,d.fl,d.e,d.f,d.a⟩
variable {d:LD}
def z9w(h:z1n L i d):DI L i d 0 (d.at (d.st.set i 1)) []:=by
 obtain⟨hL,hi,hs,h0,hg⟩:=h
 have l4:i<d.st.length:=by rw[hs.1.1];exact hi
 refine⟨Nat.zero_le _,ze9 hs hi h0,λg hg4=> ?_,λg hg4 e=> ?_,⟨[],(List.append_nil _).symm⟩,λx hx=> .inl hx,λy hy=>(by cases hy),Nat.le_refl _⟩
 ·show(d.st.set i 1).getD g 0=1↔_
  rw[z2o l4]
  split
  ·rename_i e;exact⟨λ_=> .inr e,λ_=>rfl⟩
  ·rename_i e;exact⟨λh=> .inl h,λh=>h.resolve_right e⟩
 ·have e:(d.st.set i 1).getD g 0=0:=e
  rw[z2o l4]at e
  split at e
  ·cases e
  ·rename_i hne;exact⟨e,hne⟩
variable {l:List Nat}
def z3s{m k:Nat} (h:l[m]? =some k):l.take (m+1)=l.take m++[k]:=by
 rw[List.take_add_one,h];rfl
def z6p{L:List Int} {i:Nat} {d0:LD} {m:Nat} {d:LD} {vs us:List ByteArray} {k:Nat} (h:DI L i d0 m d vs) (hk:(gI L i)[m]? =some k) (hd:k∈kOf d.fl) (hu:us.length<=vs.length+1):DI L i d0 (m+1) d us:=by
 obtain⟨h1,h2,h3,h4,h5,h6,h7,h8⟩:=h
 have hm:=(List.getElem?_eq_some_iff.1 hk).1
 refine⟨by omega,h2,h3,h4,h5,h6,λy hy=> ?_,by omega⟩
 rw[z3s hk]at hy
 rcases List.mem_append.1 hy with hy|hy
 ·exact h7 y hy
 ·rw[List.mem_singleton.1 hy];exact hd
variable {d0:LD} {m:Nat} {vs:List ByteArray}
def ze6{k:Nat} (hp:z1n L i d0) (h:DI L i d0 m d vs) (hk:(gI L i)[m]? =some k):(d.st.getD k 0=1->∃g,(g=i\/TR L i g)/\TR L g g)/\(zd2 L d.st k):=by
 obtain⟨h1,h2,h3,h4,h5,h6,h7,h8⟩:=h
 have he:k∈gI L i:=List.mem_of_getElem? hk
 have k4:=z5n hp.1 he
 refine⟨λh1=> ?_,λg hg4 hg1=> ?_⟩
 ·rcases(h3 k k4).1 h1 with h|rfl
  ·have:=hp.2.2.2.2 k k4 h
   exact⟨k, .inr (.one he),this.trans (.one he)⟩
  ·exact⟨k, .inl rfl, .one he⟩
 ·rcases(h3 g hg4).1 hg1 with h|rfl
  ·exact(hp.2.2.2.2 g hg4 h).trans (.one he)
  ·exact .one he
def z6o{L:List Int} {i:Nat} {d0:LD} {m:Nat} {d:LD} {vs us:List ByteArray} {k:Nat} {b:DnB} (hp:z1n L i d0) (h:DI L i d0 m d vs) (hk:(gI L i)[m]? =some k) (hk0:d.st.getD k 0=0) (hb:z03 L k d b) (hok:b.1=true) (hu:us.length<=vs.length+1):DI L i d0 (m+1) b.2 us:=by
 obtain⟨h1,h2,h3,h4,⟨ext,h5⟩,h6,h7,h8⟩:=h
 have hm:=(List.getElem?_eq_some_iff.1 hk).1
 have he:k∈gI L i:=List.mem_of_getElem? hk
 unfold z03 at hb
 rw[if_pos hok]at hb
 obtain⟨g1,g2,g3,⟨ext2,g4⟩,g5⟩:=hb
 refine⟨by omega,g1,λg hg4=>(g2 g hg4).trans (h3 g hg4),λg hg4 e=>h4 g hg4 (g3 g hg4 e),⟨ext++ext2++[k],by rw[g4,h5];simp only[List.append_assoc]⟩,λx hx=> ?_,λy hy=> ?_,by omega⟩
 ·rcases g5 x hx with h|rfl|h
  ·exact h6 x h
  ·exact .inr (.one he)
  ·exact .inr (TR.cons he h)
 ·rw[z3s hk]at hy
  rw[g4]
  rcases List.mem_append.1 hy with hy|hy
  ·exact List.mem_append.2 (.inl (List.mem_append.2 (.inl (h7 y hy))))
  ·exact List.mem_append.2 (.inr hy)
def zih{k:Nat} {b:DnB} (hp:z1n L i d0) (h:DI L i d0 m d vs) (hk:(gI L i)[m]? =some k) (hb:z03 L k d b) (hok:b.1=false):z03 L i d0 b:=by
 have he:k∈gI L i:=List.mem_of_getElem? hk
 unfold z03 at hb⊢
 rw[hok,if_neg (by simp)]at hb
 rw[hok,if_neg (by simp)]
 obtain⟨h1,g,h2,h3⟩:=hb
 refine⟨h1,g, .inr ?_,h3⟩
 rcases h2 with rfl|h2
 ·exact .one he
 ·exact TR.cons he h2
def zek{d d':LD} (hp:z1n L i d0) (h:DI L i d0 m d vs) (hm:(gI L i).length<=m) (hst:d'.st=d.st.set i 2) (hks:kOf d'.fl=kOf d.fl++[i]):z03 L i d0 (true,d'):=by
 obtain⟨h1,h2,h3,h4,⟨ext,h5⟩,h6,h7,h8⟩:=h
 rw[List.take_of_length_le hm]at h7
 have l4:i<d.st.length:=by rw[h2.1.1];exact hp.2.1
 have g1:d.st.getD i 0=1:=(h3 i hp.2.1).2 (.inr rfl)
 unfold z03
 rw[if_pos rfl]
 show SI L d'.st (kOf d'.fl)/\(∀g,g<4->(d'.st.getD g 0=1↔_))/\(∀g,g<4->d'.st.getD g 0=0->_)/\(∃ext,kOf d'.fl=kOf d0.fl++ext++[i])/\∀x∈kOf d'.fl,_
 rw[hst,hks]
 refine⟨ze8 h2 hp.2.1 g1 h7,λg hg4=> ?_,λg hg4 e=> ?_,⟨ext,by rw[h5]⟩,λx hx=> ?_⟩
 ·rw[z2o l4]
  split
  ·rename_i e;subst e
   have:=hp.2.2.2.1
   exact⟨λh=>absurd h (by decide),λh=>by rw[this]at h;cases h⟩
  ·rename_i e
   rw[h3 g hg4]
   exact⟨λh=>h.resolve_right e, .inl⟩
 ·rw[z2o l4]at e
  split at e
  ·cases e
  ·exact(h4 g hg4 e).1
 ·rcases List.mem_append.1 hx with hx|hx
  ·rcases h6 x hx with h|h
   ·exact .inl h
   ·exact .inr (.inr h)
  ·exact .inr (.inl (List.mem_singleton.1 hx))
def n40{A:Prop} (h:A):(((A/\A)/\A/\A)/\((A/\A)/\A/\A)/\((A/\A)/\A/\A)/\((A/\A)/\A/\A)/\((A/\A)/\A/\A))/\(((A/\A)/\A/\A)/\((A/\A)/\A/\A)/\((A/\A)/\A/\A)/\((A/\A)/\A/\A)/\((A/\A)/\A/\A)):=by
 have b:(A/\A)/\A/\A:=⟨⟨h,h⟩,h,h⟩
 exact⟨⟨b,b,b,b,b⟩,b,b,b,b,b⟩
def zcu:∀{st tt:List Nat} {i:Nat},st.length=tt.length->(∀g,tt.getD g 1=0->st.getD g 1=0)->i<st.length->st.getD i 1=0->tt.getD i 1≠0->tt.count 0<st.count 0
  | [],_,i,_,_,hi,_,_=>absurd hi (by simp)
  |x::st,[],i,hl,_,_,_,_=>by cases hl
  | x ::st,y::tt,i,hl,hz,hi,h0,h1=>by
    have le:∀{st tt:List Nat},st.length=tt.length->(∀g,tt.getD g 1=0->st.getD g 1=0)->tt.count 0<=st.count 0:=by
      intro st
      induction st with
      | nil=>intro tt hl _;cases tt with
        |nil=>exact Nat.le_refl _
        |cons=>cases hl
      | cons a st ih=>
        intro tt hl hz
        cases tt with
        |nil=>cases hl
        | cons b tt=>
          have:=ih (tt:=tt) (by simpa using hl) λg hg=>hz (g+1) hg
          have h00:b=0->a=0:=hz 0
          rw[List.count_cons,List.count_cons]
          by_cases hb:b=0
          · rw[hb,h00 hb];omega
          · rw[if_neg (by simpa using hb)];omega
    have hl':st.length=tt.length:=by simpa using hl
    have hz':∀g,tt.getD g 1=0->st.getD g 1=0:=λg hg=>hz (g+1) hg
    have h00:y=0->x=0:=hz 0
    rw[List.count_cons,List.count_cons]
    cases i with
    | zero=>
      have h0:x=0:=h0
      have h1:y≠0:=h1
      have:=le hl' hz'
      rw[h0,if_neg (by simpa using h1)]
      simp only[beq_self_eq_true,if_true];omega
    | succ i=>
      have:=zcu hl' hz' (by simpa using hi) h0 h1
      by_cases hy:y=0
      · rw[hy,h00 hy];omega
      · rw[if_neg (by simpa using hy)];omega
def zsp{g v:Nat} (h:l.getD g 1=0):l.getD g 0=0/\g<l.length:=by
  rw[List.getD_eq_getElem?_getD]at h
  cases e:l[g]? with
  |none=>rw[e]at h;cases h
  | some x=>
    rw[e]at h
    rw[List.getD_eq_getElem?_getD,e]
    exact⟨h,(List.getElem?_eq_some_iff.1 e).1⟩
def zna{g:Nat} (h:g<l.length):l.getD g 1=l.getD g 0:=by
 rw[List.getD_eq_getElem?_getD,List.getD_eq_getElem?_getD,List.getElem?_eq_getElem h];rfl
def zi7(hp:z1n L i d0) (h:DI L i d0 m d vs):d.st.count 0<d0.st.count 0:=by
 have e0:d0.st.length=4:=hp.2.2.1.1.1
 have e1:d.st.length=4:=h.2.1.1.1
 have hi:=hp.2.1
 refine zcu (i:=i) (by omega) (λg hg=> ?_) (by omega) (by rw[zna (by omega)];exact hp.2.2.2.1) ?_
 ·obtain⟨a,b⟩:=zsp (v:=0) hg
  have:=(h.2.2.2.1 g (by omega) a).1
  rw[zna (by omega)];exact this
 ·rw[zna (by omega),(h.2.2.1 i hi).2 (.inr rfl)];decide
def za9{j:Nat} (h:j<26):gdB (zet j)=true:=(zfk j h).1
def Gd.flatL{e:List Nat} {f:Nat->List Pq} {b:List Pq} (hb:Gd e b):∀l:List Nat,(∀i∈l,gdB (f i)=true)->Gd e (l.flatMap f++b)
  | [],_=>hb
  | x::l,h=>by
    rw[List.flatMap_cons,List.append_assoc]
    exact Gd.app (h x List.mem_cons_self) (Gd.flatL hb l λi hi=>h i (List.mem_cons_of_mem _ hi))
def z7e:∀l:List Nat,(z00 [] (l.flatMap zet)).length=12*l.length
  | []=>rfl
  | x::l=>by
    rw[List.flatMap_cons,z16,List.length_append,z7e l,List.length_cons]
    show 12+_=_;omega
def zdr(l:List Nat):(z00 [] (z3n l)).length=16+12*l.length:=by
 unfold z3n
 rw[z16,List.length_append,z7e];rfl
def z7f(h:∀j∈l,j<4) (hl:l.length<=10):(mkS (z00 [] (z3n l))).size<100000/\lxR (mkS (z00 [] (z3n l)))=(z1x [] 0 (z3n l),0,0)/\tP (z1x [] 0 (z3n l)):=by
 have g:Gd [] (z3n l):=by
  refine Gd.app zeo ?_
  rw[←List.append_nil (List.flatMap _ _)]
  exact Gd.nil.flatL l λi hi=>za9 (by have:=h i hi;omega)
 exact g.lex (.inl rfl) (by rw[zdr];omega)
def z7g:∀(l:List Nat) (c:Cu) (f:List ByteArray),c.P->f.length+l.length<=10->St c ((l.flatMap zet).map wdK)->∃d:Cu,d.e=0/\ptL ⟨c,⟨f,[],[]⟩⟩=⟨d,⟨f++l.map nm4,[],[]⟩⟩
  | [],c,f,hP,_,h=>by
    have h:St c []:=h
    refine⟨c,h.1,?_⟩
    rw[zdg (zar h),List.map_nil,List.append_nil]
  | x::l,c,f,hP,hl,h=>by
    rw[List.flatMap_cons,List.map_append]at h
    have h:St c ((1,imW,0)::(3,mkS [97+x],0)::(4,smW,0)::(l.flatMap zet).map wdK):=h
    obtain⟨a,b⟩:=ptI (f:=⟨f,[],[]⟩) h (by show f.length<30;rw[List.length_cons]at hl;omega)
    have hg:z5w ⟨c,⟨f,[],[]⟩⟩=true:=zfj h (by decide)
    rw[zdf (s:=⟨c,⟨f,[],[]⟩⟩) hP hg]
    have e:zjm ⟨c,⟨f,[],[]⟩⟩=⟨c.pt ⟨f,[],[]⟩,⟨f++[nm4 x],[],[]⟩⟩:=congrArg (PtS.mk _) b
    rw[e]
    obtain⟨d,d1,d2⟩:=z7g l _ (f++[nm4 x]) (z89 ⟨c,⟨f,[],[]⟩⟩ hP hg).1 (by rw[List.length_append,List.length_singleton];rw[List.length_cons]at hl;omega) a
    refine⟨d,d1,d2.trans ?_⟩
    rw[List.map_cons,List.append_assoc];rfl
def zes(h:∀j∈l,j<4) (hl:l.length<=10) (x:SV):(z4g x (z1x [] 0 (z3n l))).c.e=0/\(z4g x (z1x [] 0 (z3n l))).f=⟨l.map nm4,[],[]⟩:=by
 obtain⟨c,hP,hs,e⟩:=zjs (x:=x) (e:=[]) (l:=l.flatMap zet) (z7f h hl).2.2
 obtain⟨d,h1,h2⟩:=z7g l c [] hP (by simpa using hl) hs
 have e:z4g x (z1x [] 0 (z3n l))=⟨d,⟨l.map nm4,[],[]⟩⟩:=e.trans h2
 rw[e]
 exact⟨h1,rfl⟩
end
section
def zae(s:ByteArray) {l:List ByteArray} {i:Nat} (h:i<l.length) (k:Nat):ixT s (l.drop i) k=if s=l[i]then(k:Int)else ixT s (l.drop (i+1)) (k+1):=by
 rw[List.drop_eq_getElem_cons h];rfl
def zer:q7w P 65 zec:=by
 refine qrb mixed z07 (W:=zk5) Go.Proofs.Tryd.func65 (by kernel_rfl) (by decide) (by decide) (λs=>by kernel_rfl) λ⟨l,s⟩=>(zeq l s).mpr ?_
 rintro hl
 simp only[sbS,Int.toNat_natCast]
 refine⟨⟨0,rfl,Nat.zero_le _,rfl⟩,λi ⟨hi,he⟩=>⟨λhlt=> ?_,λhge=> ?_⟩⟩
 ·have h1:i<l.length:=by omega
  have st:=zae s h1 i
  refine⟨⟨by omega,by omega⟩,l[i],λj v hj=> ?_,λe=> ?_,λe=>⟨⟨by omega,by omega⟩,i+1,by omega,⟨by omega,?_⟩,by omega⟩⟩
  ·have:=z4c (f:=stV) (k:=1) (λ_=>rfl) l h1 (j:=j)
   cases j with
   |succ j=>simp at hj
   |zero=>rw[Nat.zero_add,this (by decide)];exact hj
  ·rw[←he,st,if_pos e]
  ·rw[←he,st,if_neg e]
 ·rw[←he,List.drop_of_length_le (by omega)];rfl
def zei:q7w P 41 zeb:=by
 refine qrb mixed (qhc (qmo zer qqu)) (W:=λ_=>{}) Go.Proofs.Tryd.func41 (by kernel_rfl) (by decide) (by decide) (λs=>by kernel_rfl) λ⟨l,s⟩=>(zeh l s).mpr ?_
 intro hl
 exact⟨(l,s),rfl,rfl,rfl,hl,rfl,rfl,trivial⟩
def za7:q7w P 40 z6w:=by
 refine qrb mixed z07 (W:=λ_=>{}) Go.Proofs.Tryd.func40 (by kernel_rfl) (by decide) (by decide) (λs=>by kernel_rfl) λ⟨y,L,d,e,f,a⟩=>(za6 y L d e f a).mpr ?_
 intros
 simp
def z3r(L:List Int) {i:Nat} (h:i<4):(z4i L).length=4/\∃h':i<(z4i L).length,(z4i L)[i]=(nm4 i,tx4 L i):=by
 have e:(z4i L).length=4:=by unfold z4i;rw[List.length_map,List.length_range]
 refine⟨e,by omega,?_⟩
 unfold z4i
 rw[List.getElem_map,List.getElem_range]
variable {L:List Int}
def z39{y:SV} {p:Pub} (h:rwP srV (z4i L) y p) {i:Nat} (hi:i<4):y.1≠noA/\q4o p ((adr y.1 (i*2)).add 0) [.string (nm4 i)]/\q4o p ((adr y.1 (i*2)).add 1) [.string (tx4 L i)]:=by
 obtain⟨_,h',e⟩:=z3r L hi
 have a:=z5f (f:=srV) (k:=2) (λ_=>rfl) h.2.2 h' (j:=0) (by decide) (v:= .string (nm4 i)) (by rw[e];rfl)
 have b:=z5f (f:=srV) (k:=2) (λ_=>rfl) h.2.2 h' (j:=1) (by decide) (v:= .string (tx4 L i)) (by rw[e];rfl)
 exact⟨a.1,a.2,b.2⟩
def znq:∀k,k<4->qph (.string (nm4 k)) (plE 4) (.int .i64 0)= .int .i64 (k:Nat)/\qrm (.string (nm4 k)) (plE 4)=true
 |0,_=>⟨rfl,rfl⟩
 |1,_=>⟨rfl,rfl⟩
 |2,_=>⟨rfl,rfl⟩
 |3,_=>⟨rfl,rfl⟩
 |k+4,h=>absurd h (by omega)
def zjk:∀e∈plE 4,kOK .string e.key:=by
 intro e he
 unfold plE at he
 obtain⟨k,_,rfl⟩:=List.mem_map.1 he
 exact trivial
variable {st:List Nat}
def zdm{i:Nat} (v:Nat) (h:i<st.length):z0t (st.set i v)=spl (z0t st) (0+((i:Nat):Int).toNat*1) [.int .i64 (v:Nat)]:=by
 rw[Int.toNat_natCast,Nat.mul_one,Nat.zero_add]
 unfold z0t
 show(st.set i v).map _=(st.map _).set i _
 rw[List.map_set]
def zdl{i:Nat} (h:i<st.length):qmd (z0t st) (0+((i:Nat):Int).toNat*1) [.int .i64 (st.getD i 0:Nat)]:=by
  intro j v hj
  cases j with
  |succ j=>simp at hj
  | zero=>
    rw[←hj]
    unfold z0t
    rw[Int.toNat_natCast,Nat.mul_one,Nat.zero_add,Nat.add_zero,List.getElem?_map,List.getElem?_eq_getElem h,List.getD_eq_getElem?_getD,List.getElem?_eq_getElem h];rfl
def zcy(l:List FL):(l.flatMap flV).length=l.length*6:=z02 (f:=flV) (λ_=>rfl) l
def z7t:∀(n:Nat) {l:List Nat},l.Nodup->(∀k∈l,k<n)->l.length<=n
  | 0,l,_,h=>by
    cases l with
    |nil=>exact Nat.le_refl _
    |cons x l=>exact absurd (h x List.mem_cons_self) (by omega)
  | n + 1,l,hn,h=>by
    by_cases hm:n∈l
    · have e1:=List.length_erase_of_mem hm
      have:=z7t n (l:=l.erase n) (hn.erase n) λk hk=>by
        have h1:=(hn.mem_erase_iff).1 hk
        have:=h k h1.2
        have:=h1.1
        omega
      omega
    · have:=z7t n hn λk hk=>by
        have h1:=h k hk
        have:k≠n:=λe=>hm (e ▸ hk)
        omega
      omega
def zen{l:List FL} (h:SI L st (kOf l)):l.length<=4:=by
 have:(kOf l).length<=4:=by
  obtain⟨_,_,⟨hn,hlt⟩,_⟩:=h
  exact z7t 4 hn hlt
 unfold kOf at this
 rwa [List.length_map]at this
def zel(c:Nat) (hd:q39 P 20 (cDn.below zd8 c)):q39 P 20 (cDn.below zd8 (c+1)):=by
 refine qq9 mixed (qhc (qmo za7 (qmo zei qqu))) (qig (qmn z84 (qmn hd qqt))) (W:=wDn) Go.Proofs.Tryd.func20 (by kernel_rfl) (show 1<=6 by decide) (show 6<=8 by decide) (λs=>by kernel_rfl) λ⟨(y:SV),L,i,d⟩=>(zn5 c y L i d).mpr ?_
 rintro⟨hmu,hp⟩ ⟨p0,_,hy0,m0,hm0⟩
 have hi:=hp.2.1
 have hL:=hp.1
 have C:=λ(q:Pub) (h:rwP srV (z4i L) y q)=>z39 h hi
 have y4:y.2.1=4:=hy0.1.trans (z3r L hi).1
 have bi:(0:Int)<=(i:Nat)/\((i:Nat):Int)<(y.2.1:Nat):=⟨by omega,by rw[y4];omega⟩
 have bi4:(0:Int)<=(i:Nat)/\((i:Nat):Int)<((4:Nat):Int):=⟨by omega,by omega⟩
 have lI:(gI L i).length<=10:=Nat.le_trans (zcz L i) hL.1
 have lx:=z7f (l:=gI L i) (λj hj=>z5n hL hj) lI
 have st4:d.st.length=4:=hp.2.2.1.1.1
 have sV:∀st:List Nat,(z0t st).length=st.length:=λst=>List.length_map _
 refine⟨bi,(C p0 hy0).1,nm4 i,λq hq=>(C q hq.2.1).2.1,bi,(C p0 hy0).1,tx4 L i,λq hq=>(C q hq.2.1).2.2,(tx4 L i,z1x [] 0 (z3n (gI L i))),rfl,lx,λq hq=>hq.2.2,λb hb hbp=> ?_⟩
 obtain⟨q1,⟨_,_,_⟩,g0⟩:=hbp
 obtain⟨xx,e1,e2⟩:=hb
 obtain⟨r1,r2⟩:=zes (l:=gI L i) (λj hj=>z5n hL hj) lI xx
 have e0:b.e=0:=e1.symm.trans r1
 have ei:b.d.im=(gI L i).map nm4:=congrArg PFl.im ((e2 e0).trans r2)
 have xl:b.x1.2.1=(gI L i).length:=by rw[g0.1.1,ei,List.length_map]
 rw[e0]
 refine⟨λh=>absurd h (by decide),λ_=>⟨bi4,by rw[sV];show 0+i*1+1<=_;omega,⟨(0,d.at (d.st.set i 1),[]),rfl,rfl,rfl,rfl,rfl,rfl,rfl,rfl,rfl,rfl,rfl,rfl,rfl,rfl,rfl,rfl,zdm 1 (by omega),rfl,rfl,rfl,rfl,rfl,rfl,rfl,rfl,rfl,rfl,rfl,rfl,rfl,λq hq=>hq,z9w hp,trivial⟩,λs3 hDI=> ?_⟩⟩
 obtain⟨m,dc,vs⟩:=s3
 have hDI:DI L i d m dc vs:=hDI
 dsimp only
 refine⟨λhlt=> ?_,λhge=> ?_⟩
 ·have hlt:m<(gI L i).length:=by
   have:=of_decide_eq_true hlt
   rw[xl]at this;omega
  have hk:(gI L i)[m]? =some (gI L i)[m]:=List.getElem?_eq_getElem hlt
  generalize (gI L i)[m]=k at hk
  have k4:k<4:=z5n hL (List.mem_of_getElem? hk)
  have hml:m<b.d.im.length:=by rw[ei,List.length_map];exact hlt
  have em:b.d.im[m]=nm4 k:=by
   have:b.d.im[m]? =some (nm4 k):=by rw[ei,List.getElem?_map,hk];rfl
   rw[List.getElem?_eq_getElem hml]at this
   exact Option.some.inj this
  have A:∀q,PB.ok b q->b.x1.1≠noA/\q4o q (adr b.x1.1 (m*1)) [.string (nm4 k)]:=λq hq=>by
   have:=znx hq.1.2.2 hml
   rwa [em]at this
  obtain⟨v1,v2⟩:=znq k k4
  have sc4:dc.st.length=4:=hDI.2.1.1.1
  have bk:(0:Int)<=(k:Nat)/\((k:Nat):Int)<((4:Nat):Int):=⟨by omega,by omega⟩
  obtain⟨G1,G2⟩:=ze6 hp hDI hk
  have bm: -9223372036854775808<=((m:Nat):Int)+1/\((m:Nat):Int)+1<=9223372036854775807:=by omega
  have lv:vs.length<=10:=by have:=hDI.2.2.2.2.2.2.2;omega
  have lvs:∀us:List ByteArray,(us.flatMap stV).length=us.length*1:=λus=>z02 (f:=stV) (λ_=>rfl) us
  have le2:=hDI.2.1.1.2 k k4
  refine⟨⟨by omega,by rw[xl];show((m:Nat):Int)<_;omega⟩,(A q1 g0).1,nm4 k,λq hq=>(A q hq.2).2,trivial,zjk,(k:Nat),v1,λh=> ?_,λ_=>⟨bk,(dc.st.getD k 0:Nat),zdl (by omega),λh=> ?_,λh1=>⟨bk,(dc.st.getD k 0:Nat),zdl (by omega),λh0=> ?_,λh0=> ?_⟩⟩⟩
  ·rw[v2]at h;cases h
  ·have h1:dc.st.getD k 0=1:=by have:=of_decide_eq_true h;omega
   have post:z03 L i d (false,(⟨dc.st,dc.fl,6,nm4 i,0⟩:LD)):=by
    unfold z03
    rw[if_neg (by simp)]
    exact⟨rfl,G1 h1⟩
   exact⟨(y,L,dc,6,nm4 i,0),rfl,rfl,rfl,rfl,rfl,rfl,rfl,rfl,rfl,rfl,rfl,rfl,rfl,rfl,rfl,trivial,(false,⟨dc.st,dc.fl,6,nm4 i,0⟩),rfl,rfl,rfl,rfl,rfl,rfl,rfl,rfl,rfl,rfl,rfl,rfl,rfl,post,trivial⟩
  ·have h0:dc.st.getD k 0=0:=by have:=of_decide_eq_true h0;omega
   have pre:z1n L k dc:=⟨hL,k4,hDI.2.1,h0,G2⟩
   have hmc:zd8 (y,L,k,dc)<c:=by
    have:=zi7 hp hDI
    show dc.st.count 0<c
    have hmu:d.st.count 0<c+1:=hmu
    omega
   refine⟨(y,L,k,dc),rfl,rfl,rfl,rfl,rfl,rfl,rfl,rfl,rfl,rfl,rfl,rfl,rfl,⟨hmc,pre⟩,λq hq=>⟨hq.1.2.1,hq.1.2.2⟩,λb1 hb1=>⟨λhf=> ?_,λht=> ?_⟩⟩
   ·have hf:b1.1=false:=by simpa using hf
    exact⟨b1,by rw[hf],rfl,rfl,rfl,rfl,rfl,rfl,rfl,rfl,rfl,rfl,rfl,rfl,zih hp hDI hk hb1 hf,trivial⟩
   ·have ht:b1.1=true:=by simpa using ht
    refine⟨(vs,nm4 k),rfl,rfl,rfl,by show vs.length<1000000;omega,λhc=> ?_,λhc=> ?_⟩
    ·exact⟨lvs vs,by omega,bm,(m+1,b1.2,vs++[nm4 k]),rfl,by show((m+1:Nat):Int)=_;omega,rfl,by rw[List.length_append];rfl,rfl,rfl,rfl,rfl,rfl,rfl,rfl,rfl,rfl,rfl,rfl,rfl,rfl,rfl,rfl,rfl,rfl,rfl,rfl,rfl,rfl,rfl,rfl,rfl,rfl,z0q (f:=stV) _ _,rfl,λq hq=>hq,z6o hp hDI hk h0 hb1 ht (by rw[List.length_append];exact Nat.le_refl _),by show(gI L i).length- (m+1)<(gI L i).length- m;omega,trivial⟩
    ·exact⟨bm,(m+1,b1.2,vs),rfl,by show((m+1:Nat):Int)=_;omega,rfl,rfl,rfl,rfl,rfl,rfl,rfl,rfl,rfl,rfl,rfl,rfl,rfl,rfl,rfl,rfl,rfl,rfl,rfl,rfl,rfl,rfl,rfl,rfl,rfl,rfl,rfl,rfl,rfl,λq hq=>hq,z6o hp hDI hk h0 hb1 ht (Nat.le_succ _),by show(gI L i).length- (m+1)<(gI L i).length- m;omega,trivial⟩
  ·have hk2:k∈kOf dc.fl:=by
    rw[←hDI.2.1.2.1 k k4]
    have h1:=of_decide_eq_false h1
    have h0:=of_decide_eq_false h0
    omega
   refine⟨(vs,nm4 k),rfl,rfl,rfl,by show vs.length<1000000;omega,λhc=> ?_,λhc=> ?_⟩
   ·exact⟨lvs vs,by omega,bm,(m+1,dc,vs++[nm4 k]),rfl,by show((m+1:Nat):Int)=_;omega,rfl,by rw[List.length_append];rfl,rfl,rfl,rfl,rfl,rfl,rfl,rfl,rfl,rfl,rfl,rfl,rfl,rfl,rfl,rfl,rfl,rfl,rfl,rfl,rfl,rfl,rfl,rfl,rfl,rfl,z0q (f:=stV) _ _,rfl,λq hq=>hq,z6p hDI hk hk2 (by rw[List.length_append];exact Nat.le_refl _),by show(gI L i).length- (m+1)<(gI L i).length- m;omega,trivial⟩
   ·exact⟨bm,(m+1,dc,vs),rfl,by show((m+1:Nat):Int)=_;omega,rfl,rfl,rfl,rfl,rfl,rfl,rfl,rfl,rfl,rfl,rfl,rfl,rfl,rfl,rfl,rfl,rfl,rfl,rfl,rfl,rfl,rfl,rfl,rfl,rfl,rfl,rfl,rfl,rfl,λq hq=>hq,z6p hDI hk hk2 (Nat.le_succ _),by show(gI L i).length- (m+1)<(gI L i).length- m;omega,trivial⟩
 ·have hm:(gI L i).length<=m:=by
   have:=of_decide_eq_false hge
   rw[xl]at this;omega
  have sc4:dc.st.length=4:=hDI.2.1.1.1
  have lv:vs.length<=10:=by have:=hDI.2.2.2.2.2.2.2;have:=hDI.1;omega
  have lf:=zen hDI.2.1
  refine⟨bi4,by rw[sV];show 0+i*1+1<=_;omega,n40 ⟨z02 (f:=stV) (λ_=>rfl) vs,by omega,λb1 s4 u a n cc hpub=>⟨zcy dc.fl,by omega,(true,⟨dc.st.set i 2,dc.fl++[⟨i,b.x1,b.x2,b.x3,(a,vs.length+1,cc)⟩],dc.e,dc.f,dc.a⟩),rfl,rfl,rfl,rfl,rfl,by show(dc.fl++[_]).length=_;rw[List.length_append];rfl,rfl,rfl,rfl,zdm 2 (by omega),rfl,rfl,z0q (f:=flV) _ _,zek hp hDI hm rfl (by unfold kOf;rw[List.map_append];rfl),trivial⟩⟩⟩
def zn6:q39 P 20 cDn:=CtR.of_below (μ:=zd8) λk=>by
 induction k with
 |zero=>exact CtR.below_zero (by decide) (by decide) (Sen.enters_of Go.Proofs.Tryd.func20 (by kernel_rfl)) λs=>rfl
 |succ k ih=>exact zel k ih
end
structure LB where
 fl:List FL
 x:SV
 e:Int
 f:ByteArray
 a:Int
def zd3(L:List Int) (ks:List Nat):Prop:=zhr L ks/\(ks.Nodup/\∀k∈ks,k<4)/\(∃a,ks=a++[0])/\∀x∈ks,x=0\/TR L 0 x
def zas(L:List Int):Prop:=∃g,(g=0\/TR L 0 g)/\TR L g g
def z5b(L:List Int) (b:LB):Prop:=(b.e=0/\zd3 L (kOf b.fl))\/(b.e=6/\b.fl=[]/\zas L)
def z9y:CtR where
 σ:=SV×List Int
 args:=λ⟨y,L⟩=>[svA y]
 h:=λ_=>[]
 m:=1
 pre:=λ⟨y,L⟩=>z5e L
 mem:=λ⟨y,L⟩=>srM y L
 β:=λ_=>LB
 post:=λ⟨y,L⟩ b=>z5b L b
 pm:=λ_ b=>⟨true,λp=>rwP flV b.fl b.x p,λ_ _ h e=>z0r h e⟩
 r:=λ_ b=> .tup [svA b.x, .sv (.int .i64 b.e), .sv (.string b.f), .sv (.int .i64 b.a)]
 h':=λ_ _=>[]
 m':=1
def zsr(t:T AV) (h:T AO) (k:Nat):Option Nat:=match t.get k with
  | some (.ptr i _)=>match h.get i with
    | some (.cells _ _ _ l)=>match nth l 1 with
      |some (.map m)=>some m
      |_=>none
    |_=>none
  |_=>none
def zk6:z9y.σ->WayF:=λ⟨y,L⟩=>{
 ann:=λi tt hh=>match zsr tt hh 6 with
  |some m=>some {σ:=Nat,pre:=λj=>j<=4,t:=λj=>[(23, .sv (.int .i64 (j:Nat)))],h:=λj=>[(m, .mrow (plE j) j)],more:=0,μ:=λj=>4- j,keep:=[0,6,21,22]}
  |none=>none
 pubE:=[2]}
section
variable (x0:SV) (x1:List Int) (x2:Nat) (x3:DnB) (x4:ByteArray) (x5:Nat->Option Obj) (x6:Prop) (x7:LB) (x8:Option Addr) (x9:DnS)
 abbrev zhd:=∃(i0:Int),q88 x5 (Addr.mk 1 0 none)=some (int i64 i0)
 def zcc:=True/\rwP srV (z4i x1) x0 x5/\zhd x5
 abbrev z3j:=(↑x0.2.1:Int)
 def zca:=(LB.x x7).1=noA/\(LB.x x7).2.1=0/\(LB.x x7).2.2=0/\x6
 def zcb:=z5b x1 x7/\(∀i0,(zcc x0 x1 i0)->rwP flV (LB.fl x7) (LB.x x7) i0)/\True
 def zhe:=x0.1=x0.1/\x0.2.1=x0.2.1/\x0.2.2=x0.2.2/\x6
 def zou:=toNat (z3j x0)=toNat (z3j x0)/\qa0 [int i64 0] (toNat (z3j x0))=qa0 [int i64 0] (toNat (z3j x0))/\(∀i0,(zcc x0 x1 i0)->zcc x0 x1 i0)/\x2<=4/\x6
 def zhc:=kOK TypeDesc.string (string x4)/\(∀(i0:MapEntry),i0∈plE x2->kOK TypeDesc.string (MapEntry.key i0))/\x6
 def zsc:=zhc x2 x4 (Jb ((↑x2:Int)+1)/\∃(i1:Nat),zhe x0 ((↑i1:Int)=(↑x2:Int)+1/\zhe x0 ((z3j x0)=(z3j x0)/\plE i1=qi0 (string x4) (int i64 (↑x2:Int)) (plE x2) x2/\i1=qhz (string x4) (plE x2) x2/\zhe x0 (zou x0 x1 i1 ((4:Nat)- i1<4- x2/\True)))))
 def zsa:=(0<=(↑x2:Int)/\(↑x2:Int)<(z3j x0))/\x0.1≠noA/\∃i0,∃i1,(∀i2,(zcc x0 x1 i2)->q4o i2 (adr x0.1 (toNat (↑x2:Int)*2)) [string i0,string i1])/\zhc x2 i0 (∃(i5:Int),qph (string i0) (plE x2) (int i64 0)=int i64 i5/\(qrm (string i0) (plE x2)=true->∃(i6:LB),zca (LB.e i6=5/\LB.f i6=i0/\LB.a i6=0/\zcb x0 x1 i6) i6)/\(qrm (string i0) (plE x2)=false->zsc x0 x1 x2 i0))
 def zld:=rwP srV (z4i x9.2.1) x9.1 x5/\zhd x5
 def zhb:=length (LD.fl x3.2)<=x2/\qoq x5 x8 (take (length (LD.fl x3.2)*nat_lit 6) (List.flatMap flV (LD.fl x3.2)))
 def zsb:=((!x3.1)=true->∃(i0:LB),zca (LB.e i0=LD.e x3.2/\LB.f i0=LD.f x3.2/\LB.a i0=LD.a x3.2/\zcb x0 x1 i0) i0)/\((!x3.1)=false->∀(i3 i4 i5:Nat) (i6:Option Addr) (i7 i8:Nat),(∃i9,(zcc x0 x1 i9)/\zhb i8 x3 i9 i6)->∃(i11:LB),(LB.x i11).1=i6/\(LB.x i11).2.1=length (LD.fl x3.2)/\(LB.x i11).2.2=i8/\LB.e i11=0/\LB.f i11=mkS []/\LB.a i11=0/\z5b x1 i11/\(∀i12,(zcc x0 x1 i12)/\zhb i8 x3 i12 i6->rwP flV (LB.fl i11) (LB.x i11) i12)/\True)
 def zs9:=Ji ((↑x2:Int)<(z3j x0)) (zsa x0 x1 x2) (∃(i14:DnS),(↑i14.2.2.1:Int)=0/\i14.1.1=x0.1/\i14.1.2.1=x0.2.1/\i14.1.2.2=x0.2.2/\nat_lit 4=toNat (z3j x0)/\length (LD.fl i14.2.2.2)=0/\LD.e i14.2.2.2=0/\LD.f i14.2.2.2=mkS []/\LD.a i14.2.2.2=0/\z0t (LD.st i14.2.2.2)=qa0 [int i64 0] (toNat (z3j x0))/\plE (4:Nat)=plE x2/\nat_lit 4=x2/\z1n i14.2.1 i14.2.2.1 i14.2.2.2/\(∀i15,(zcc x0 x1 i15)->zld i15 i14)/\∀(i18:DnB),z03 i14.2.1 i14.2.2.1 i14.2.2.2 i18->zsb x0 x1 i18)
 def zs8:=(0<=(z3j x0)/\(z3j x0)<=(z3j x0)/\(↑(8:Nat):Int)*(z3j x0)<=140737488355328/\(z3j x0)<140737488355328)/\(∃(i0:Nat),zhe x0 ((↑i0:Int)=0/\zhe x0 ((z3j x0)=(z3j x0)/\plE i0=[]/\i0=nat_lit 0/\zhe x0 (zou x0 x1 i0 True))))/\∀(i4:Nat),i4<=4->zs9 x0 x1 i4
 def zs7:=Ji ((z3j x0)=0) (∃(i0:LB),zca (LB.e i0=10/\LB.f i0=mkS []/\LB.a i0=0/\zcb x0 x1 i0) i0) (zs8 x0 x1)
end
def zah(y:SV) (L:List Int):qr9 P (λ_=>none) (qm6 [(20,cDn)]) Go.Proofs.Tryd.f12 z9y (zk6) (y,L)=(z5e L->(∃(p:Pub),zcc y L p)->zs7 y L):=by kernel_rfl
def zf7:=λy L=>Eq.trans (zah y L) (by delta Ji Jb Jt Jf zhd zcc z3j zca zcb zhe zou zhc zsc zsa zld zhb zsb zs9 zs8 zs7;exact rfl)
def zjl:∀j,j<4->qrm (.string (nm4 j)) (plE j)=false/\qph (.string (nm4 j)) (plE j) (.int .i64 0)= .int .i64 0/\plE (j+1)=qi0 (.string (nm4 j)) (.int .i64 (j:Nat)) (plE j) j/\j+1=qhz (.string (nm4 j)) (plE j) j
 |0,_=>⟨rfl,rfl,rfl,rfl⟩
 |1,_=>⟨rfl,rfl,rfl,rfl⟩
 |2,_=>⟨rfl,rfl,rfl,rfl⟩
 |3,_=>⟨rfl,rfl,rfl,rfl⟩
 |k+4,h=>absurd h (by omega)
def z86(j:Nat):∀e∈plE j,kOK .string e.key:=by
 intro e he
 unfold plE at he
 obtain⟨k,_,rfl⟩:=List.mem_map.1 he
 exact trivial
def ld0:LD:=⟨[0,0,0,0],[],0,mkS [],0⟩
def zey{L:List Int} (hL:z5e L):z1n L 0 ld0:=by
 have z:∀k,k<4->([0,0,0,0]:List Nat).getD k 0=0:=by decide
 refine⟨hL,by decide,⟨⟨rfl,λk hk=> ?_⟩,λk hk=> ?_,⟨List.nodup_nil,λk hk=>(by cases hk)⟩,λa x b e=> ?_⟩,rfl,λg hg h=> ?_⟩
 ·show([0,0,0,0]:List Nat).getD k 0<=2
  rw[z k hk];decide
 ·show([0,0,0,0]:List Nat).getD k 0=2↔k∈[]
  rw[z k hk]
  exact⟨λh=>absurd h (by decide),λh=>(by cases h)⟩
 ·have:([]:List Nat)=a++x::b:=e
  cases a<;>cases this
 ·have h:([0,0,0,0]:List Nat).getD g 0=1:=h
  rw[z g hg]at h;cases h
def zf8:q39 P 12 z9y:=by
 refine qq9 mixed z07 (qig (qmn zn6 qqt)) (W:=zk6) Go.Proofs.Tryd.func12 (by kernel_rfl) (show 1<=1 by decide) (show 1<=1 by decide) (λs=>by kernel_rfl) λ⟨(y:SV),L⟩=>(zf7 y L).mpr ?_
 rintro hL ⟨p0,_,hy0,m0,hm0⟩
 have y4:y.2.1=4:=hy0.1.trans (z3r L (i:=0) (by decide)).1
 rw[y4]
 refine⟨λh=>absurd h (by decide),λ_=>⟨⟨by decide,by decide,by decide,by decide⟩,⟨0,rfl,rfl,rfl,rfl,rfl,rfl,rfl,rfl,rfl,rfl,rfl,rfl,rfl,rfl,rfl,λq hq=>hq,Nat.zero_le _,trivial⟩,λj hj=>⟨λhlt=> ?_,λhge=> ?_⟩⟩⟩
 ·have hlt:j<4:=by have:=of_decide_eq_true hlt;omega
  obtain⟨p1,p2,p3,p4⟩:=zjl j hlt
  have C:∀q,rwP srV (z4i L) y q->q4o q (adr y.1 (j*2)) [.string (nm4 j), .string (tx4 L j)]:=λq h=>by
   obtain⟨_,h',e⟩:=z3r L hlt
   obtain⟨_,c0,c1⟩:=z39 h hlt
   intro k v hk
   have z:(adr y.1 (j*2)).add 0=adr y.1 (j*2):=by show(if(0:Nat)=0 then _ else _)=_;rw[if_pos rfl]
   have a0:∀x:Addr,x.add 0=x:=λx=>by show(if(0:Nat)=0 then _ else _)=_;rw[if_pos rfl]
   match k,hk with
   |0,hk=>have:=c0 0 v hk;rwa [a0]at this
   |1,hk=>have:=c1 0 v hk;rwa [a0]at this
  refine⟨⟨by omega,by omega⟩,(z39 hy0 hlt).1,nm4 j,tx4 L j,λq hq=>C q hq.2.1,trivial,z86 j,0,p2,λh=> ?_,λ_=>⟨trivial,z86 j,⟨by omega,by omega⟩,j+1,rfl,rfl,rfl,by omega,rfl,rfl,rfl,rfl,p3,p4,rfl,rfl,rfl,rfl,rfl,λq hq=>hq,by omega,by omega,trivial⟩⟩
  rw[p1]at h;cases h
 ·have e:j=4:=by have:=of_decide_eq_false hge;omega
  subst e
  refine⟨(y,L,0,ld0),rfl,rfl,y4,rfl,rfl,rfl,rfl,rfl,rfl,rfl,rfl,rfl,zey hL,λq hq=>⟨hq.2.1,hq.2.2⟩,λb hb=>⟨λhf=> ?_,λht=> ?_⟩⟩
  ·have hf:b.1=false:=by simpa using hf
   unfold z03 at hb
   rw[hf,if_neg (by simp)]at hb
   exact⟨⟨[],(none,0,0),6,b.2.f,b.2.a⟩,rfl,rfl,rfl,hb.1.symm,rfl,rfl, .inr ⟨rfl,rfl,hb.2⟩,λq hq=>⟨rfl,Nat.le_refl _, .inl ⟨rfl,trivial⟩⟩,trivial⟩
  ·have ht:b.1=true:=by simpa using ht
   unfold z03 at hb
   rw[if_pos ht]at hb
   obtain⟨g1,g2,g3,⟨ext,g4⟩,g5⟩:=hb
   rintro b1 s1 u a n c hpub
   refine⟨⟨b.2.fl,(a,b.2.fl.length,c),0,mkS [],0⟩,rfl,rfl,rfl,rfl,rfl,rfl, .inl ⟨rfl,g1.2.2.2,g1.2.2.1,⟨ext,g4⟩,λx hx=> ?_⟩,λq hq=>⟨rfl,hq.2.1,z29 (zcy b.2.fl) hq.2.2⟩,trivial⟩
   rcases g5 x hx with h|h|h
   ·cases h
   ·exact .inl h
   ·exact .inr h
def ziw:qk3 P 87 Extern.AbiNoEscape.same:=
 ⟨_,Go.Proofs.Tryd.func87,by kernel_rfl,by kernel_rfl,by kernel_rfl,by kernel_rfl⟩
def znh:qk4 P 88 5:=
 ⟨_,32,Go.Proofs.Tryd.func88,by kernel_rfl,by kernel_rfl,by kernel_rfl,by kernel_rfl,Go.Proofs.Tryd.underlying32⟩
def z7i:q14:=qri [(87, .same),(81, .idx)]
def z5o:q4t P z7i:=qqi λf k h=>by
 simp only[List.mem_cons,List.not_mem_nil,or_false,Prod.mk.injEq]at h
 rcases h with⟨rfl,rfl⟩|⟨rfl,rfl⟩
 ·exact ziw
 ·exact zng
def kwD:q03:=qry P z7i kwG (λc=>qkp [] (qqq 88 5 c)) 100
def zit:q11 kwG P kwD:=qp9 mixed z5o (qpm ziv) (λc=>qkp [] (qqq 88 5 c)) (λ_ h=>qha (qrn znh h) _ (λ_ h=>by cases h)) 100
def z5i:yes (kwD 11 [] kwH 1)=true:=by decide+kernel
def z6s:q7w P 11 z6v:=
 qrg (Sen.enters_of Go.Proofs.Tryd.func11 (by kernel_rfl)) (λ_=> .bool true) (λs I=> .sv _) λs F w _ hm=>by
  obtain⟨e,fr,h1⟩:kwP (q1k F w):=hm.2
  obtain⟨h,nx,e1⟩:=qrx z5i
  exact ziy zit (by kernel_rfl) e1 w ⟨e,fr,(q06.1 h1).2⟩
def gT(L:List Int) (i k:Nat):List Nat:=gI (L.take k) i
def txT(L:List Int) (i k:Nat):ByteArray:=mkS (z00 [] (z3n (gT L i k)))
def z42(L:List Int) (i:Nat):List (ByteArray×ByteArray):=(List.range i).map λi=>(nm4 i,tx4 L i)
def cnM(L:List Int) (i k p q:Nat):Bool:=decide ((p<i/\q∈gI L p)\/(p=i/\q∈gT L i k))
def mtV(M:Nat->Nat->Bool):List Value:=(List.range 16).map λm=> .bool (M (m / 4) (m % 4))
def mtO(M:Nat->Nat->Bool):AO:= .row 47 0 (mtV M)
def wR(L:List Int):Nat->Nat->Nat->Bool
 |0,p,q=>decide (q∈gI L p)
 |k+1,p,q=>wR L k p q|| (wR L k p k&&wR L k k q)
def wM(L:List Int) (k i j p q:Nat):Bool:=if p<i\/(p=i/\q<j)then wR L (k+1) p q else wR L k p q
def inR(L:List Int) (i:Nat):Bool:=decide (i=0)||wR L 4 0 i
def wnN(L:List Int) (i:Nat):Nat:=((List.range i).filter (inR L)).length
def rgN(L:List Int) (i:Nat):Bool:=(List.range i).any λi=>inR L i&&wR L 4 i i
abbrev NtS:=SV×List Int
def zov:Ct where
 σ:=NtS
 args:=λ⟨x,L⟩=>[svA x]
 h:=λ_=>[]
 m:=1
 pre:=λ⟨x,L⟩=>L.length<9223372036854775808/\(∀b∈L,0<=b/\b<256)
 mem:=λ⟨x,L⟩=>lwM x L
 r:=λ_=> .sv (.bool true)
 h':=λ_=>[]
 m':=1
 g:=λ_=>none
def flM(x:SV) (l:List FL):PF:=⟨true,λp=>rwP flV l x p,λ_ _ h e=>z0r h e⟩
def flI(L:List Int) (l:List FL):Prop:=zd3 L (kOf l)/\l.length=wnN L 4
def kAt(l:List FL) (i:Nat):Nat:=(kOf l).getD i 0
def sZ(t:T AV) (k:Nat):Option Int:=match t.get k with
 |some (.sv (.int _ n))=>some n
 |_=>none
def zp1:NtS->WayF:=λ⟨x,L⟩=>{
  ann :=λid tt hh=>match id with
    | 0=>match idP tt 5 with
      |some m=>some {σ:=Nat,pre:=λi=>i<=4,t:=λi=>[(6, .sv (.int .i64 (i:Nat))),(4, .ssl 100 0 i 2 101)],h:=λi=>[(100, .row 49 0 ((z42 L i).flatMap srV)),(m,mtO (cnM L i 0))],more:=150,μ:=λi=>4- i,keep:=[0,3,5]}
      |none=>none
    | 2 =>match idP tt 5 with
      | some m=>match sZ tt 6 with
        |some i=>some {σ:=Nat,pre:=λk=>k<=L.length,t:=λk=>[(8, .sv (.int .i64 (k:Nat))),(7, .sv (.string (txT L i.toNat k)))],h:=λk=>[(m,mtO (cnM L i.toNat k))],more:=0,μ:=λk=>L.length- k,keep:=[0,3,4,5,6]}
        |none=>none
      |none=>none
    | 4=>match idP tt 5 with
      |some m=>some {σ:=Nat,pre:=λk=>k<=4,t:=λk=>[(10, .sv (.int .i64 (k:Nat)))],h:=λk=>[(m,mtO (wR L k))],more:=0,μ:=λk=>4- k,keep:=[0,3,4,5,9]}
      |_=>none
    | 6 =>match idP tt 5 with
      | some m=>match sZ tt 10 with
        |some k=>some {σ:=Nat,pre:=λi=>i<=4,t:=λi=>[(11, .sv (.int .i64 (i:Nat)))],h:=λi=>[(m,mtO (wM L k.toNat i 0))],more:=0,μ:=λi=>4- i,keep:=[0,3,4,5,9,10]}
        |none=>none
      |none=>none
    | 8 =>match idP tt 5 with
      | some m=>match sZ tt 10 with
        | some k=>match sZ tt 11 with
          |some i=>some {σ:=Nat,pre:=λj=>j<=4,t:=λj=>[(12, .sv (.int .i64 (j:Nat)))],h:=λj=>[(m,mtO (wM L k.toNat i.toNat j))],more:=0,μ:=λj=>4- j,keep:=[0,3,4,5,9,10,11]}
          |none=>none
        |none=>none
      |none=>none
    |10=>some {σ:=Nat,pre:=λi=>i<=4,t:=λi=>[(15, .sv (.int .i64 (i:Nat))),(13, .sv (.int .i64 (wnN L i:Nat))),(14, .sv (.bool (rgN L i)))],h:=λ_=>[],more:=0,μ:=λi=>4- i,keep:=[0,3,4,5,9]}
    | 12=>match slX tt 16 with
      |some z=>some {σ:=Nat×List FL,pre:=λ⟨i,l⟩=>i<=wnN L 4/\flI L l,mem:=λ⟨i,l⟩=>flM z l,t:=λ⟨i,l⟩=>[(20, .sv (.int .i64 (i:Nat)))],h:=λ_=>[],more:=0,μ:=λ⟨i,l⟩=>wnN L 4- i,keep:=[3,9,13,16]}
      |none=>none
    | 14=>match slX tt 16 with
      | some z=>match sZ tt 20 with
        |some i=>some {σ:=Nat×Int×List FL,pre:=λ⟨j,me,l⟩=>j<=4/\flI L l/\me=if kAt l i.toNat<j then(kAt l i.toNat:Int)else -1,mem:=λ⟨j,me,l⟩=>flM z l,t:=λ⟨j,me,l⟩=>[(22, .sv (.int .i64 (j:Nat))),(21, .sv (.int .i64 me))],h:=λ_=>[],more:=0,μ:=λ⟨j,me,l⟩=>4- j,keep:=[3,9,13,16,20]}
        |none=>none
      |none=>none
    | 16=>match slX tt 16 with
      | some z=>match sZ tt 20 with
        | some i=>match sZ tt 21 with
          |some me=>some {σ:=Nat×List FL,pre:=λ⟨j,l⟩=>j<=4/\flI L l/\me=(kAt l i.toNat:Int),mem:=λ⟨j,l⟩=>flM z l,t:=λ⟨j,l⟩=>[(23, .sv (.int .i64 (j:Nat)))],h:=λ_=>[],more:=0,μ:=λ⟨j,l⟩=>4- j,keep:=[3,9,13,16,20,21]}
          |none=>none
        |none=>none
      |none=>none
    | _ =>match slX tt 16 with
      | some z=>match sZ tt 20 with
        | some i=>match sZ tt 21 with
          | some me=>match sZ tt 23 with
            |some j=>some {σ:=Nat×Bool×List FL,pre:=λ⟨k,a,l⟩=>k<=i.toNat/\flI L l/\me=(kAt l i.toNat:Int)/\a=decide (j.toNat∈(kOf l).take k),mem:=λ⟨k,a,l⟩=>flM z l,t:=λ⟨k,a,l⟩=>[(25, .sv (.int .i64 (k:Nat))),(24, .sv (.bool a))],h:=λ_=>[],more:=0,μ:=λ⟨k,a,l⟩=>i.toNat- k,keep:=[3,9,13,16,20,21,23]}
            |none=>none
          |none=>none
        |none=>none
      |none=>none
  pub:=λi k=>match i,k with
    |37,0=>[4]
    |_,_=>[]}
section
variable (x0:SV) (x1:List Int) (x2 x3:Nat) (x4 x5 x6 x7 x8 x9 x10 x11 x12 x13 x14 x15 x16 x17 x18 x19:Bool) (x20:Nat) (x21:LB) (x22:Option Addr) (x23:Nat×List FL) (x24:Nat×Int×List FL) (x25:Nat×List FL) (x26:Nat×Bool×List FL) (x27:Nat->Option Obj) (x28:Nat) (x29:Bool) (x30:Prop) (x31:Bool) (x32 x33:ByteArray) (x34:Nat×Bool×List FL) (x35:Nat×Int×List FL) (x36:Int) (x37:(Option Addr×Nat×Nat)×List Int)
 abbrev zho:=∃(i0:Int),q88 x27 (Addr.mk 1 0 none)=some (int i64 i0)
 def zhl:=(zho x27)/\kwP x27
 def z4y:=True/\byP x0 x1 x27/\zhl x27
 abbrev zco:=(↑x0.2.1:Int)
 def z0j:=x0.1=x0.1/\x0.2.1=x0.2.1/\x0.2.2=x0.2.2/\x30
 def z9s:=(∀i0,z4y x0 x1 i0->z4y x0 x1 i0)
 def zch:=List.flatMap srV (z42 x1 x2)=List.flatMap srV (z42 x1 x2)/\z9s x0 x1/\x3<=length x1/\x30
 def zcl:=(0<=(↑x2:Int)/\(↑x2:Int)<(zco x0))/\x0.1≠noA/\x30
 def zcg:=(∀i0,z4y x0 x1 i0->q4o i0 (adr x0.1 (toNat (↑x2:Int)*1)) [int u8 x36])/\(4:Int)≠0/\x30
 abbrev z41:=IntKind.wrap u8 (Int.tdiv x36 4)
 def z0b:=(0<=(↑x2:Int)/\(↑x2:Int)<(↑(4:Nat):Int))
 abbrev z1p:=Jb ((↑x2:Int)+1)
 def z1q:=(↑x2:Int)=(↑x3:Int)+1
 def zlz:=size (txT x1 (toNat (↑x2:Int)) x3)+size (mkS [32,105,109,112,111,114,116,32,39])<=9223372036854775807/\zcl x0 x3 (∃(i0:Int),zcg x0 x1 x3 ((4:Int)≠0/\(0<=Int.tmod (z41 i0) 4/\Int.tmod (z41 i0) (4:Int)<(↑(nat_lit 4):Int))/\∃i2,qmd [string (mkS [97]),string (mkS [98]),string (mkS [99]),string (mkS [100])] (nat_lit 0+toNat (Int.tmod (z41 i0) 4)*1) [string i2]/\size (txT x1 (toNat (↑x2:Int)) x3++mkS [32,105,109,112,111,114,116,32,39])+size i2<=9223372036854775807/\size (txT x1 (toNat (↑x2:Int)) x3++mkS [32,105,109,112,111,114,116,32,39]++i2)+size (mkS [39,59])<=9223372036854775807/\zcl x0 x3 (∃(i3:Int),zcg x0 x1 x3 ((4:Int)≠0/\z0b x2/\(0<=Int.tmod (z41 i3) 4/\Int.tmod (z41 i3) (4:Int)<(↑(4:Nat):Int))/\nat_lit 0+toNat (↑x2:Int)*4+toNat (Int.tmod (z41 i3) 4)*1+length [bool true]<=length (mtV (cnM x1 (toNat (↑x2:Int)) x3))/\z1p x3/\∃(i5:Nat),z0j x0 (txT x1 (toNat (↑x2:Int)) i5=txT x1 (toNat (↑x2:Int)) x3++mkS [32,105,109,112,111,114,116,32,39]++i2++mkS [39,59]/\x2=x2/\z1q i5 x3/\(↑x2:Int)=(↑x2:Int)/\mtV (cnM x1 (toNat (↑x2:Int)) i5)=spl (mtV (cnM x1 (toNat (↑x2:Int)) x3)) (nat_lit 0+toNat (↑x2:Int)*4+toNat (Int.tmod (z41 i3) 4)*1) [bool true]/\zch x0 x1 x2 i5 (length x1- i5<length x1- x3/\True))) i3)) i0)
 def zmc:=z1p x2/\∃(i0:Nat),z0j x0 (txT x1 (toNat (↑x3:Int)) i0=txT x1 (toNat (↑x3:Int)) x2/\x3=x3/\z1q i0 x2/\(↑x3:Int)=(↑x3:Int)/\mtV (cnM x1 (toNat (↑x3:Int)) i0)=mtV (cnM x1 (toNat (↑x3:Int)) x2)/\zch x0 x1 x3 i0 (length x1- i0<length x1- x2/\True))
 def zly:=zcl x0 x2 (∃(i0:Int),zcg x0 x1 x2 (((-9223372036854775808:Int)<=Int.tmod i0 4/\Int.tmod i0 (4:Int)<=9223372036854775807)/\Ji (Int.tmod i0 (4:Int)=(↑x3:Int)) (zlz x0 x1 x3 x2) (zmc x0 x1 x2 x3)) i0)
 def z2l:=(4:Nat)- x2<4- x3/\True
 def zm4:=(0<=(↑x2:Int)/\(↑x2:Int)<(↑(nat_lit 4):Int))/\∃i0,qmd [string (mkS [97]),string (mkS [98]),string (mkS [99]),string (mkS [100])] (nat_lit 0+toNat (↑x2:Int)*1) [string i0]/\length (List.flatMap srV (z42 x1 x2))=x2*2/\(x2+nat_lit 1)*32<=140737488355328/\z1p x2/\∃(i1:Nat),z0j x0 (i1=x2+nat_lit 1/\z1q i1 x2/\mtV (cnM x1 i1 0)=mtV (cnM x1 (toNat (↑x2:Int)) x3)/\List.flatMap srV (z42 x1 i1)=List.flatMap srV (z42 x1 x2)++[string i0,string (txT x1 (toNat (↑x2:Int)) x3)]/\z9s x0 x1/\i1<=4/\z2l i1 x2)
 def zlw:=Ji ((↑x2:Int)<(zco x0)) (zly x0 x1 x2 x3) (zm4 x0 x1 x3 x2)
 def zlv:=(∃(i0:Nat),z0j x0 (txT x1 (toNat (↑x2:Int)) i0=mkS [115,121,110,116,97,120,61,39,112,114,111,116,111,51,39,59]/\x2=x2/\(↑i0:Int)=0/\(↑x2:Int)=(↑x2:Int)/\mtV (cnM x1 (toNat (↑x2:Int)) i0)=mtV (cnM x1 x2 0)/\zch x0 x1 x2 i0 True))/\∀(i2:Nat),i2<=length x1->zlw x0 x1 i2 x2
 def z1i:=List.flatMap srV (z42 x1 x2)=List.flatMap srV (z42 x1 x2)/\x4=x4/\x5=x5/\x6=x6/\x7=x7/\x8=x8/\x9=x9/\x10=x10/\x11=x11/\x12=x12/\x13=x13/\x14=x14/\x15=x15/\x16=x16/\x17=x17/\x18=x18/\x19=x19/\z9s x0 x1/\x3<=4/\x30
 abbrev z12:=wM x1 (toNat (↑x2:Int)) (toNat (↑x3:Int)) x20
 abbrev z4z:=nat_lit 0+toNat (↑x2:Int)*4+toNat (↑x3:Int)*1
 def z9q:=z0b x2/\z0b x3/\nat_lit 0+toNat (↑x2:Int)*4+toNat (↑x3:Int)*1+length [bool true]<=length (mtV (z12 x1 x20 x2 x3))/\z1p x3/\∃(i0:Nat),z0j x0 ((↑x2:Int)=(↑x2:Int)/\x28=x28/\z1q i0 x3/\(↑x20:Int)=(↑x20:Int)/\mtV (z12 x1 x20 x2 i0)=spl (mtV (z12 x1 x20 x2 x3)) (z4z x2 x3) [bool true]/\z1i x0 x1 x28 i0 x4 x5 x6 x7 x8 x9 x10 x11 x12 x13 x14 x15 x16 x17 x18 x19 (z2l i0 x3))
 def zmb:=z0b x2/\z0b x3/\nat_lit 0+toNat (↑x2:Int)*4+toNat (↑x3:Int)*1+length [bool x4]<=length (mtV (z12 x1 x20 x2 x3))/\z1p x3/\∃(i0:Nat),z0j x0 ((↑x2:Int)=(↑x2:Int)/\x28=x28/\z1q i0 x3/\(↑x20:Int)=(↑x20:Int)/\mtV (z12 x1 x20 x2 i0)=spl (mtV (z12 x1 x20 x2 x3)) (z4z x2 x3) [bool x4]/\z1i x0 x1 x28 i0 x5 x6 x7 x8 x9 x10 x11 x12 x13 x14 x15 x16 x17 x18 x19 x29 (z2l i0 x3))
 def zm7:=(x4=true->z9q x0 x1 x2 x3 x5 x6 x7 x8 x9 x10 x11 x12 x13 x14 x15 x16 x17 x18 x19 x29 x20 x28)/\(x4=false->zmb x0 x1 x2 x3 x31 x5 x6 x7 x8 x9 x10 x11 x12 x13 x14 x15 x16 x17 x18 x19 x20 x28 x29)
 def zma:=z0b x2/\z0b x3/\nat_lit 0+toNat (↑x2:Int)*4+toNat (↑x3:Int)*1+length [bool false]<=length (mtV (z12 x1 x20 x2 x3))/\z1p x3/\∃(i0:Nat),z0j x0 ((↑x2:Int)=(↑x2:Int)/\x28=x28/\z1q i0 x3/\(↑x20:Int)=(↑x20:Int)/\mtV (z12 x1 x20 x2 i0)=spl (mtV (z12 x1 x20 x2 x3)) (z4z x2 x3) [bool false]/\z1i x0 x1 x28 i0 x4 x5 x6 x7 x8 x9 x10 x11 x12 x13 x14 x15 x16 x17 x18 x19 (z2l i0 x3))
 def zhi:=(x4=true->z9q x0 x1 x2 x3 x5 x6 x7 x8 x9 x10 x11 x12 x13 x14 x15 x16 x17 x18 x19 x29 x20 x28)/\(x4=false->zma x0 x1 x2 x3 x5 x6 x7 x8 x9 x10 x11 x12 x13 x14 x15 x16 x17 x18 x19 x29 x20 x28)
 def zm2:=x4=x4/\x4=x4/\z0b x2/\x4=x4/\z0b x3/\x4=x4/\∃(i0:Bool),qmd (mtV (z12 x1 x2 x20 x3)) (z4z x2 x3) [bool i0]/\x5=x5/\(x4=true->zm7 x0 x1 x20 x3 x5 x6 x7 x8 x9 x10 x11 x12 x13 x14 x15 x16 x17 x18 x19 x29 x2 x28 x31 i0)/\(x4=false->zhi x0 x1 x20 x3 x5 x6 x7 x8 x9 x10 x11 x12 x13 x14 x15 x16 x17 x18 x19 x29 x2 x28 x31)
 def zlx:=x4=x4/\x4=x4/\z0b x2/\x4=x4/\z0b x3/\x4=x4/\∃(i0:Bool),qmd (mtV (z12 x1 x3 x2 x20)) (z4z x2 x3) [bool i0]/\x4=x4/\(i0=true->zm2 x0 x1 x3 x20 i0 x4 x5 x6 x7 x8 x9 x10 x11 x12 x13 x14 x15 x16 x17 x18 x2 x28 x19 x29)/\(i0=false->i0=i0/\i0=i0/\i0=i0/\i0=i0/\x4=x4/\(i0=true->(x4=true->z9q x0 x1 x2 x20 x5 x6 x7 x8 x9 x10 x11 x12 x13 x14 x15 x16 x17 x18 x19 x29 x3 x28)/\(x4=false->z0b x2/\z0b x20/\False))/\(i0=false->zhi x0 x1 x2 x20 x4 x5 x6 x7 x8 x9 x10 x11 x12 x13 x14 x15 x16 x17 x18 x19 x3 x28 x29))
 def zlt:=z0b x2/\z0b x3/\∃(i0:Bool),qmd (mtV (z12 x1 x20 x2 x3)) (z4z x2 x3) [bool i0]/\(i0=true->i0=i0/\i0=i0/\i0=i0/\i0=i0/\i0=i0/\i0=i0/\(i0=true->z9q x0 x1 x2 x3 x4 x5 x6 x7 x8 x9 x10 x11 x12 x13 x14 x15 x16 x17 x18 x19 x20 x28)/\(i0=false->z0b x2/\z0b x3/\False))/\(i0=false->zlx x0 x1 x2 x20 i0 x4 x5 x6 x7 x8 x9 x10 x11 x12 x13 x14 x15 x16 x17 x18 x3 x28 x19)
 def zls:=Ji ((↑x2:Int)<4) (zlt x0 x1 x3 x2 x4 x5 x6 x7 x8 x9 x10 x11 x12 x13 x14 x15 x16 x17 x18 x19 x20 x28) (z1p x3/\∃(i35:Nat),z0j x0 (z1q i35 x3/\x28=x28/\(↑x20:Int)=(↑x20:Int)/\mtV (wM x1 (toNat (↑x20:Int)) i35 0)=mtV (z12 x1 x20 x3 x2)/\z1i x0 x1 x28 i35 x4 x5 x6 x7 x8 x9 x10 x11 x12 x13 x14 x15 x16 x17 x18 x19 (z2l i35 x3)))
 def zlr:=(∃(i0:Nat),z0j x0 ((↑x2:Int)=(↑x2:Int)/\x3=x3/\(↑i0:Int)=0/\(↑x20:Int)=(↑x20:Int)/\mtV (z12 x1 x20 x2 i0)=mtV (wM x1 (toNat (↑x20:Int)) x2 0)/\z1i x0 x1 x3 i0 x4 x5 x6 x7 x8 x9 x10 x11 x12 x13 x14 x15 x16 x17 x18 x19 True))/\∀(i4:Nat),i4<=4->zls x0 x1 i4 x2 x4 x5 x6 x7 x8 x9 x10 x11 x12 x13 x14 x15 x16 x17 x18 x19 x20 x3
 def zlq:=Ji ((↑x2:Int)<4) (zlr x0 x1 x2 x3 x4 x5 x6 x7 x8 x9 x10 x11 x12 x13 x14 x15 x16 x17 x18 x19 x20) (z1p x20/\∃(i44:Nat),z0j x0 (x3=x3/\z1q i44 x20/\mtV (wR x1 i44)=mtV (wM x1 (toNat (↑x20:Int)) x2 0)/\z1i x0 x1 x3 i44 x4 x5 x6 x7 x8 x9 x10 x11 x12 x13 x14 x15 x16 x17 x18 x19 (z2l i44 x20)))
 def zlp:=(∃(i0:Nat),z0j x0 ((↑i0:Int)=0/\x2=x2/\(↑x3:Int)=(↑x3:Int)/\mtV (wM x1 (toNat (↑x3:Int)) i0 0)=mtV (wR x1 x3)/\z1i x0 x1 x2 i0 x4 x5 x6 x7 x8 x9 x10 x11 x12 x13 x14 x15 x16 x17 x18 x19 True))/\∀(i4:Nat),i4<=4->zlq x0 x1 i4 x2 x4 x5 x6 x7 x8 x9 x10 x11 x12 x13 x14 x15 x16 x17 x18 x19 x3
 def zmf:=z0b x2/\z0b x2/\∃(i0:Bool),qmd (mtV (wR x1 x3)) (nat_lit 0+toNat (↑x2:Int)*4+toNat (↑x2:Int)*1) [bool i0]/\z1p x2/\∃(i1:Nat),z0j x0 (z1q i1 x2/\(↑(wnN x1 i1):Int)=(↑(wnN x1 x2):Int)+1/\x20=x20/\rgN x1 i1=i0/\mtV (wR x1 x3)=mtV (wR x1 x3)/\z1i x0 x1 x20 i1 x4 x5 x6 x7 x8 x9 x10 x11 x12 x13 x14 x15 x16 x17 x18 x19 (z2l i1 x2))
 def zhf:=Jb ((↑(wnN x1 x2):Int)+1)/\(rgN x1 x2=true->z1p x2/\∃(i0:Nat),z0j x0 (z1q i0 x2/\(↑(wnN x1 i0):Int)=(↑(wnN x1 x2):Int)+1/\x3=x3/\rgN x1 i0=true/\mtV (wR x1 x20)=mtV (wR x1 x20)/\z1i x0 x1 x3 i0 x4 x5 x6 x7 x8 x9 x10 x11 x12 x13 x14 x15 x16 x17 x18 x19 (z2l i0 x2)))/\(rgN x1 x2=false->zmf x0 x1 x2 x20 x4 x5 x6 x7 x8 x9 x10 x11 x12 x13 x14 x15 x16 x17 x18 x19 x3)
 def zmd:=z0b x2/\∃(i0:Bool),qmd (mtV (wR x1 x3)) (nat_lit 0+nat_lit 0*4+toNat (↑x2:Int)*1) [bool i0]/\(i0=true->zhf x0 x1 x2 x20 x4 x5 x6 x7 x8 x9 x10 x11 x12 x13 x14 x15 x16 x17 x18 x19 x3)/\(i0=false->z1p x2/\∃(i1:Nat),z0j x0 (z1q i1 x2/\(↑(wnN x1 i1):Int)=(↑(wnN x1 x2):Int)/\x20=x20/\rgN x1 i1=rgN x1 x2/\mtV (wR x1 x3)=mtV (wR x1 x3)/\z1i x0 x1 x20 i1 x4 x5 x6 x7 x8 x9 x10 x11 x12 x13 x14 x15 x16 x17 x18 x19 (z2l i1 x2)))
 def zm9:=Ji ((↑x2:Int)=0) (zhf x0 x1 x2 x3 x4 x5 x6 x7 x8 x9 x10 x11 x12 x13 x14 x15 x16 x17 x18 x19 x20) (zmd x0 x1 x2 x20 x4 x5 x6 x7 x8 x9 x10 x11 x12 x13 x14 x15 x16 x17 x18 x19 x3)
 def zcm:=(z4y x0 x1 x27)/\x2<=x3/\qoq x27 x22 (take (x2*nat_lit 2) (List.flatMap srV (z42 x1 x2)))
 def zmi:=rwP srV (z4i x37.2) x37.1 x27/\zho x27
 def z1j:=(zcm x0 x1 x2 x3 x22 x27)/\rwP flV (LB.fl x21) (LB.x x21) x27
 abbrev z50:=(↑(LB.x x21).2.1:Int)
 def zmh:=Ji (LB.e x21=6) (true=decide ((z50 x21)=0)/\True) (true=false/\True)
 def z2k:=(↑(wnN x1 x2):Int)=(↑(wnN x1 x2):Int)
 def z2h:=(LB.x x21).1=(LB.x x21).1/\(LB.x x21).2.1=(LB.x x21).2.1/\(LB.x x21).2.2=(LB.x x21).2.2/\x30
 abbrev z05:=rwP flV x23.2 ((LB.x x21).1,(LB.x x21).2.1,(LB.x x21).2.2) x27
 def zcp:=x23.1<=wnN x1 4/\flI x1 x23.2
 abbrev zck:=rwP flV x24.2.2 ((LB.x x21).1,(LB.x x21).2.1,(LB.x x21).2.2) x27
 abbrev zcf:=x24.1<=4/\flI x1 x24.2.2/\x24.2.1=if kAt x24.2.2 (toNat (↑x23.1:Int))<x24.1 then(↑(kAt x24.2.2 (toNat (↑x23.1:Int))):Int)else(-1:Int)
 def z09:=((z1j x0 x1 x2 x3 x21 x22 x27)/\z05 x21 x23 x27)/\zck x21 x24 x27
 abbrev zhn:=Jb ((↑x24.1:Int)+1)
 def zhk:=z2h x21 ((↑x23.1:Int)=(↑x23.1:Int)/\(↑x24.1:Int)=(↑x35.1:Int)+1/\x4=x4/\x5=x5/\x6=x6/\x7=x7/\x8=x8/\x9=x9/\x10=x10/\x11=x11/\x12=x12/\x13=x13/\x14=x14/\x15=x15/\x16=x16/\x17=x17/\x18=x18/\x19=x19/\(∀i0,z09 x0 x1 x2 x3 x21 x22 x23 x35 i0->(z1j x0 x1 x2 x3 x21 x22 i0)/\z05 x21 x23 i0)/\(∀i1,z09 x0 x1 x2 x3 x21 x22 x23 x35 i1->zck x21 x24 i1)/\(zcf x1 x23 x24)/\(4:Nat)- x24.1<4- x35.1/\True)
 def zm5:=zhn x24/\∃(i0:Nat×Int×List FL),z2k x1 x2/\i0.2.1=(↑x24.1:Int)/\zhk x0 x1 x3 x20 x4 x5 x6 x7 x8 x9 x10 x11 x12 x13 x14 x15 x16 x17 x18 x19 x21 x22 x23 i0 x24
 def zm6:=zhn x24/\∃(i0:Nat×Int×List FL),z2k x1 x2/\i0.2.1=x24.2.1/\zhk x0 x1 x3 x20 x4 x5 x6 x7 x8 x9 x10 x11 x12 x13 x14 x15 x16 x17 x18 x19 x21 x22 x23 i0 x24
 def zm0:=(0<=(↑x23.1:Int)/\(↑x23.1:Int)<(z50 x21))/\(LB.x x21).1≠noA/\∃i0,(∀i1,z09 x0 x1 x2 x3 x21 x22 x23 x24 i1->q4o i1 (Addr.add (adr (LB.x x21).1 (toNat (↑x23.1:Int)*6)) 0) [string i0])/\(0<=(↑x24.1:Int)/\(↑x24.1:Int)<(↑(nat_lit 4):Int))/\∃i2,qmd [string (mkS [97]),string (mkS [98]),string (mkS [99]),string (mkS [100])] (nat_lit 0+toNat (↑x24.1:Int)*1) [string i2]/\Ji (i0=i2) (zm5 x0 x1 x20 x2 x4 x5 x6 x7 x8 x9 x10 x11 x12 x13 x14 x15 x16 x17 x18 x19 x3 x21 x22 x23 x24) (zm6 x0 x1 x20 x2 x4 x5 x6 x7 x8 x9 x10 x11 x12 x13 x14 x15 x16 x17 x18 x19 x3 x21 x22 x23 x24)
 def z9r:=(↑x23.1:Int)=(↑x23.1:Int)/\x4=x4/\x5=x5/\x6=x6/\x7=x7/\x8=x8/\x9=x9/\x10=x10/\x11=x11/\x12=x12/\x13=x13/\x14=x14/\x15=x15/\x16=x16/\x17=x17/\x18=x18/\x19=x19/\x30
 def zcj:=x23.1<=4/\flI x1 x23.2/\x24.2.1=(↑(kAt x23.2 (toNat (↑x25.1:Int))):Int)
 abbrev z3k:=rwP flV x26.2.2 ((LB.x x21).1,(LB.x x21).2.1,(LB.x x21).2.2) x27
 def zce:=x26.1<=toNat (↑x23.1:Int)/\flI x1 x26.2.2/\x24.2.1=(↑(kAt x26.2.2 (toNat (↑x23.1:Int))):Int)/\x26.2.1=decide (toNat (↑x25.1:Int)∈take x26.1 (kOf x26.2.2))
 abbrev zci:=Jb ((↑x26.1:Int)+1)
 def zcn:=(↑x23.1:Int)=(↑x23.1:Int)/\(↑x26.1:Int)=(↑x34.1:Int)+1/\z2k x1 x2/\x24.2.1=x24.2.1/\x30
 def zhj:=z9r x4 x5 x6 x7 x8 x9 x10 x11 x12 x13 x14 x15 x16 x17 x18 x19 x23 ((∀i0,((z09 x0 x1 x2 x3 x21 x22 x23 x24 i0)/\z05 x21 x25 i0)/\z3k x21 x26 i0->(z09 x0 x1 x2 x3 x21 x22 x23 x24 i0)/\z05 x21 x25 i0)/\(∀i1,((z09 x0 x1 x2 x3 x21 x22 x23 x24 i1)/\z05 x21 x25 i1)/\z3k x21 x26 i1->z3k x21 x34 i1)/\(zce x1 x23 x24 x25 x34)/\toNat (↑x23.1:Int)- x34.1<toNat (↑x23.1:Int)- x26.1/\True)
 def zhg:=zci x26/\∃(i0:Nat×Bool×List FL),zcn x1 x2 x23 x24 i0 (z2h x21 (i0.2.1=true/\zhj x0 x1 x3 x20 x4 x5 x6 x7 x8 x9 x10 x11 x12 x13 x14 x15 x16 x17 x18 x19 x21 x22 x25 x24 x23 x26 i0)) x26
 def zmg:=zci x26/\∃(i0:Nat×Bool×List FL),zcn x1 x2 x23 x24 i0 (z2h x21 False) x26
 def zme:=x26.2.1=x26.2.1/\x26.2.1=x26.2.1/\x26.2.1=x26.2.1/\x26.2.1=x26.2.1/\x26.2.1=x26.2.1/\x26.2.1=x26.2.1/\x26.2.1=x26.2.1/\x26.2.1=x26.2.1/\x26.2.1=x26.2.1/\(x26.2.1=true->zhg x0 x1 x2 x3 x4 x5 x6 x7 x8 x9 x10 x11 x12 x13 x14 x15 x16 x17 x18 x19 x20 x21 x22 x23 x24 x25 x26)/\(x26.2.1=false->zmg x1 x2 x21 x23 x24 x26)
 def zm3:=zci x26/\∃(i0:Nat×Bool×List FL),zcn x1 x2 x23 x24 i0 (z2h x21 (i0.2.1=decide (x32=x33)/\zhj x0 x1 x3 x20 x4 x5 x6 x7 x8 x9 x10 x11 x12 x13 x14 x15 x16 x17 x18 x19 x21 x22 x25 x24 x23 x26 i0)) x26
 def zm1:=x26.2.1=x26.2.1/\x26.2.1=x26.2.1/\(0<=(↑x26.1:Int)/\(↑x26.1:Int)<(z50 x21))/\(LB.x x21).1≠noA/\x26.2.1=x26.2.1/\x26.2.1=x26.2.1/\∃i0,(∀i1,((z09 x0 x1 x2 x3 x21 x22 x23 x24 i1)/\z05 x21 x25 i1)/\z3k x21 x26 i1->q4o i1 (Addr.add (adr (LB.x x21).1 (toNat (↑x26.1:Int)*6)) 0) [string i0])/\x26.2.1=x26.2.1/\x26.2.1=x26.2.1/\x26.2.1=x26.2.1/\(0<=(↑x25.1:Int)/\(↑x25.1:Int)<(↑(nat_lit 4):Int))/\x26.2.1=x26.2.1/\∃i2,qmd [string (mkS [97]),string (mkS [98]),string (mkS [99]),string (mkS [100])] (nat_lit 0+toNat (↑x25.1:Int)*1) [string i2]/\x26.2.1=x26.2.1/\(x26.2.1=true->zhg x0 x1 x20 x2 x4 x5 x6 x7 x8 x9 x10 x11 x12 x13 x14 x15 x16 x17 x18 x19 x3 x21 x22 x25 x24 x23 x26)/\(x26.2.1=false->zm3 x0 x1 x20 x2 x4 x5 x6 x7 x8 x9 x10 x11 x12 x13 x14 x15 x16 x17 x18 x19 x3 x21 x22 x25 x24 x23 x26 i0 i2)
 def zlu:=(x26.2.1=true->zme x0 x1 x2 x3 x4 x5 x6 x7 x8 x9 x10 x11 x12 x13 x14 x15 x16 x17 x18 x19 x20 x21 x22 x23 x24 x25 x26)/\(x26.2.1=false->zm1 x0 x1 x3 x20 x4 x5 x6 x7 x8 x9 x10 x11 x12 x13 x14 x15 x16 x17 x18 x19 x2 x21 x22 x25 x24 x23 x26)
 abbrev zhm:=Jb ((↑x23.1:Int)+1)
 def zhh:=zhm x23/\∃(i0:Nat×List FL),(↑i0.1:Int)=(↑x23.1:Int)+1/\z2k x1 x2/\x24.2.1=x24.2.1/\z2h x21 (z9r x4 x5 x6 x7 x8 x9 x10 x11 x12 x13 x14 x15 x16 x17 x18 x19 x25 ((∀i1,((z09 x0 x1 x3 x20 x21 x22 x25 x24 i1)/\z05 x21 x23 i1)/\z3k x21 x26 i1->z09 x0 x1 x3 x20 x21 x22 x25 x24 i1)/\(∀i2,((z09 x0 x1 x3 x20 x21 x22 x25 x24 i2)/\z05 x21 x23 i2)/\z3k x21 x26 i2->z05 x21 i0 i2)/\(zcj x1 i0 x24 x25)/\(4:Nat)- i0.1<4- x23.1/\True))
 def zm8:=(0<=x24.2.1/\x24.2.1<(↑(4:Nat):Int))/\(0<=(↑x23.1:Int)/\(↑x23.1:Int)<(↑(4:Nat):Int))/\∃(i0:Bool),qmd [bool x4,bool x5,bool x6,bool x7,bool x8,bool x9,bool x10,bool x11,bool x12,bool x13,bool x14,bool x15,bool x16,bool x17,bool x18,bool x19] (nat_lit 0+toNat x24.2.1*4+toNat (↑x23.1:Int)*1) [bool i0]/\(i0=true->((!x26.2.1)=true->true=false/\True)/\((!x26.2.1)=false->zhh x0 x1 x2 x3 x4 x5 x6 x7 x8 x9 x10 x11 x12 x13 x14 x15 x16 x17 x18 x19 x20 x21 x22 x23 x24 x25 x26))/\(i0=false->zhh x0 x1 x2 x3 x4 x5 x6 x7 x8 x9 x10 x11 x12 x13 x14 x15 x16 x17 x18 x19 x20 x21 x22 x23 x24 x25 x26)
 def zlo:=Ji ((↑x26.1:Int)<(↑x23.1:Int)) (zlu x0 x1 x2 x3 x4 x5 x6 x7 x8 x9 x10 x11 x12 x13 x14 x15 x16 x17 x18 x19 x20 x21 x22 x25 x24 x23 x26) (zm8 x0 x1 x2 x3 x4 x5 x6 x7 x8 x9 x10 x11 x12 x13 x14 x15 x16 x17 x18 x19 x20 x21 x22 x25 x24 x23 x26)
 def zln:=(∃(i0:Nat×Bool×List FL),(↑x23.1:Int)=(↑x23.1:Int)/\(↑i0.1:Int)=0/\z2k x1 x2/\x24.2.1=x24.2.1/\z2h x21 (i0.2.1=false/\z9r x4 x5 x6 x7 x8 x9 x10 x11 x12 x13 x14 x15 x16 x17 x18 x19 x25 ((∀i1,(z09 x0 x1 x3 x20 x21 x22 x25 x24 i1)/\z05 x21 x23 i1->(z09 x0 x1 x3 x20 x21 x22 x25 x24 i1)/\z05 x21 x23 i1)/\(∀i4,(z09 x0 x1 x3 x20 x21 x22 x25 x24 i4)/\z05 x21 x23 i4->z3k x21 i0 i4)/\(zce x1 x25 x24 x23 i0)/\True)))/\∀(i6:Nat×Bool×List FL),zce x1 x25 x24 x23 i6->(∃i7,((z09 x0 x1 x3 x20 x21 x22 x25 x24 i7)/\z05 x21 x23 i7)/\z3k x21 i6 i7)->zlo x0 x1 x2 x3 x4 x5 x6 x7 x8 x9 x10 x11 x12 x13 x14 x15 x16 x17 x18 x19 x20 x21 x22 x25 x24 x23 i6
 def zcd:=zhm x23/\∃(i0:Nat×List FL),z2k x1 x2/\z2h x21 ((↑i0.1:Int)=(↑x23.1:Int)+1/\x4=x4/\x5=x5/\x6=x6/\x7=x7/\x8=x8/\x9=x9/\x10=x10/\x11=x11/\x12=x12/\x13=x13/\x14=x14/\x15=x15/\x16=x16/\x17=x17/\x18=x18/\x19=x19/\(∀i1,(z09 x0 x1 x3 x20 x21 x22 x23 x24 i1)/\z05 x21 x25 i1->z1j x0 x1 x3 x20 x21 x22 i1)/\(∀i2,(z09 x0 x1 x3 x20 x21 x22 x23 x24 i2)/\z05 x21 x25 i2->z05 x21 i0 i2)/\(zcp x1 i0)/\wnN x1 4- i0.1<wnN x1 4- x23.1/\True)
 def zlm:=Ji ((↑x23.1:Int)<4) (zln x0 x1 x2 x3 x4 x5 x6 x7 x8 x9 x10 x11 x12 x13 x14 x15 x16 x17 x18 x19 x20 x21 x22 x23 x24 x25) (zcd x0 x1 x2 x3 x4 x5 x6 x7 x8 x9 x10 x11 x12 x13 x14 x15 x16 x17 x18 x19 x20 x21 x22 x25 x24 x23)
 def zll:=Ji (x24.2.1<4) (zlm x0 x1 x2 x3 x4 x5 x6 x7 x8 x9 x10 x11 x12 x13 x14 x15 x16 x17 x18 x19 x20 x21 x22 x23 x24 x25) (zcd x0 x1 x2 x3 x4 x5 x6 x7 x8 x9 x10 x11 x12 x13 x14 x15 x16 x17 x18 x19 x20 x21 x22 x25 x24 x23)
 def zlk:=Ji (0<=x24.2.1) (zll x0 x1 x2 x3 x4 x5 x6 x7 x8 x9 x10 x11 x12 x13 x14 x15 x16 x17 x18 x19 x20 x21 x22 x23 x24 x25) (zcd x0 x1 x2 x3 x4 x5 x6 x7 x8 x9 x10 x11 x12 x13 x14 x15 x16 x17 x18 x19 x20 x21 x22 x25 x24 x23)
 def zlj:=(∃(i0:Nat×List FL),(↑i0.1:Int)=0/\z2k x1 x2/\x24.2.1=x24.2.1/\z2h x21 (z9r x4 x5 x6 x7 x8 x9 x10 x11 x12 x13 x14 x15 x16 x17 x18 x19 x23 ((∀i1,z09 x0 x1 x3 x20 x21 x22 x23 x24 i1->z09 x0 x1 x3 x20 x21 x22 x23 x24 i1)/\(∀i4,z09 x0 x1 x3 x20 x21 x22 x23 x24 i4->z05 x21 i0 i4)/\(zcj x1 i0 x24 x23)/\True)))/\∀(i6:Nat×List FL),zcj x1 i6 x24 x23->(∃i7,(z09 x0 x1 x3 x20 x21 x22 x23 x24 i7)/\z05 x21 i6 i7)->zlk x0 x1 x2 x3 x4 x5 x6 x7 x8 x9 x10 x11 x12 x13 x14 x15 x16 x17 x18 x19 x20 x21 x22 i6 x24 x23
 def zli:=Ji ((↑x24.1:Int)<4) (zm0 x0 x1 x2 x3 x4 x5 x6 x7 x8 x9 x10 x11 x12 x13 x14 x15 x16 x17 x18 x19 x20 x21 x22 x23 x24) (zlj x0 x1 x20 x2 x4 x5 x6 x7 x8 x9 x10 x11 x12 x13 x14 x15 x16 x17 x18 x19 x3 x21 x22 x23 x24)
 def zlh:=(∃(i0:Nat×Int×List FL),z2k x1 x2/\i0.2.1= -1/\z2h x21 ((↑x23.1:Int)=(↑x23.1:Int)/\(↑i0.1:Int)=0/\x4=x4/\x5=x5/\x6=x6/\x7=x7/\x8=x8/\x9=x9/\x10=x10/\x11=x11/\x12=x12/\x13=x13/\x14=x14/\x15=x15/\x16=x16/\x17=x17/\x18=x18/\x19=x19/\(∀i1,(z1j x0 x1 x3 x20 x21 x22 i1)/\z05 x21 x23 i1->(z1j x0 x1 x3 x20 x21 x22 i1)/\z05 x21 x23 i1)/\(∀i4,(z1j x0 x1 x3 x20 x21 x22 i4)/\z05 x21 x23 i4->zck x21 i0 i4)/\(zcf x1 x23 i0)/\True))/\∀(i6:Nat×Int×List FL),(zcf x1 x23 i6)->(∃i7,z09 x0 x1 x3 x20 x21 x22 x23 i6 i7)->zli x0 x1 x3 x20 x4 x5 x6 x7 x8 x9 x10 x11 x12 x13 x14 x15 x16 x17 x18 x19 x2 x21 x22 x23 i6
 def zlg:=Ji ((↑x23.1:Int)<(↑(wnN x1 x2):Int)) (zlh x0 x1 x2 x3 x4 x5 x6 x7 x8 x9 x10 x11 x12 x13 x14 x15 x16 x17 x18 x19 x20 x21 x22 x23) (true=true/\True)
 def zlf:=(∃(i0:Nat×List FL),z2k x1 x2/\z2h x21 ((↑i0.1:Int)=0/\x4=x4/\x5=x5/\x6=x6/\x7=x7/\x8=x8/\x9=x9/\x10=x10/\x11=x11/\x12=x12/\x13=x13/\x14=x14/\x15=x15/\x16=x16/\x17=x17/\x18=x18/\x19=x19/\(∀i1,z1j x0 x1 x3 x20 x21 x22 i1->z1j x0 x1 x3 x20 x21 x22 i1)/\(∀i4,z1j x0 x1 x3 x20 x21 x22 i4->z05 x21 i0 i4)/\(zcp x1 i0)/\True))/\∀(i6:Nat×List FL),zcp x1 i6->(∃i7,(z1j x0 x1 x3 x20 x21 x22 i7)/\z05 x21 i6 i7)->zlg x0 x1 x2 x3 x4 x5 x6 x7 x8 x9 x10 x11 x12 x13 x14 x15 x16 x17 x18 x19 x20 x21 x22 i6
 def zle:=Jb ((↑(wnN x1 x2):Int)- 1)/\(0<=(↑(wnN x1 x2):Int)- 1/\(↑(wnN x1 x2):Int)- 1<(z50 x21))/\(LB.x x21).1≠noA/\∃i0,(∀i1,z1j x0 x1 x3 x20 x21 x22 i1->q4o i1 (Addr.add (adr (LB.x x21).1 (toNat ((↑(wnN x1 x2):Int)- 1)*6)) 0) [string i0])/\((!decide (i0=mkS [97]))=true->true=false/\True)/\((!decide (i0=mkS [97]))=false->zlf x0 x1 x2 x3 x4 x5 x6 x7 x8 x9 x10 x11 x12 x13 x14 x15 x16 x17 x18 x19 x20 x21 x22)
 def zsm:=((!decide ((z50 x21)=(↑(wnN x1 x2):Int)))=true->true=false/\True)/\((!decide ((z50 x21)=(↑(wnN x1 x2):Int)))=false->zle x0 x1 x2 x3 x4 x5 x6 x7 x8 x9 x10 x11 x12 x13 x14 x15 x16 x17 x18 x19 x20 x21 x22)
 def zsl:=((!decide (LB.e x21=0))=true->true=false/\True)/\((!decide (LB.e x21=0))=false->zsm x0 x1 x2 x3 x4 x5 x6 x7 x8 x9 x10 x11 x12 x13 x14 x15 x16 x17 x18 x19 x20 x21 x22)
 def zsk:=(rgN x1 x2=true->zmh x21)/\(rgN x1 x2=false->zsl x0 x1 x2 x3 x4 x5 x6 x7 x8 x9 x10 x11 x12 x13 x14 x15 x16 x17 x18 x19 x20 x21 x22)
 def zsj:=Ji ((↑x2:Int)<4) (zm9 x0 x1 x2 x3 x4 x5 x6 x7 x8 x9 x10 x11 x12 x13 x14 x15 x16 x17 x18 x19 x20) (∀(i23 i24 i25:Nat) (i26:Option Addr) (i27 i28:Nat),(∃i29,zcm x0 x1 x3 i28 i26 i29)->∃(i31:(Option Addr×Nat×Nat)×List Int),i31.1.1=i26/\i31.1.2.1=x3/\i31.1.2.2=i28/\z5e i31.2/\(∀i32,zcm x0 x1 x3 i28 i26 i32->zmi i32 i31)/\∀(i35:LB),z5b i31.2 i35->(∃i36,z1j x0 x1 x3 i28 i35 i26 i36)->zsk x0 x1 x2 x3 x4 x5 x6 x7 x8 x9 x10 x11 x12 x13 x14 x15 x16 x17 x18 x19 i28 i35 i26)
 def zsi:=(∃(i0:Nat),z0j x0 ((↑i0:Int)=0/\(↑(wnN x1 i0):Int)=0/\x2=x2/\rgN x1 i0=false/\mtV (wR x1 x3)=mtV (wR x1 x3)/\z1i x0 x1 x2 i0 x4 x5 x6 x7 x8 x9 x10 x11 x12 x13 x14 x15 x16 x17 x18 x19 True))/\∀(i4:Nat),i4<=4->zsj x0 x1 i4 x2 x4 x5 x6 x7 x8 x9 x10 x11 x12 x13 x14 x15 x16 x17 x18 x19 x3
 def zsh:=Ji ((↑x2:Int)<4) (zlp x0 x1 x3 x2 x4 x5 x6 x7 x8 x9 x10 x11 x12 x13 x14 x15 x16 x17 x18 x19) (zsi x0 x1 x3 x2 x4 x5 x6 x7 x8 x9 x10 x11 x12 x13 x14 x15 x16 x17 x18 x19)
 def zsg:=Ji ((↑x2:Int)<4) (zlv x0 x1 x2) (∃(i28:Bool),∃(i29:Bool),∃(i30:Bool),∃(i31:Bool),∃(i32:Bool),∃(i33:Bool),∃(i34:Bool),∃(i35:Bool),∃(i36:Bool),∃(i37:Bool),∃(i38:Bool),∃(i39:Bool),∃(i40:Bool),∃(i41:Bool),∃(i42:Bool),∃(i43:Bool),qmd (mtV (cnM x1 x2 0)) (nat_lit 0) [bool i28,bool i29,bool i30,bool i31,bool i32,bool i33,bool i34,bool i35,bool i36,bool i37,bool i38,bool i39,bool i40,bool i41,bool i42,bool i43]/\(∃(i44:Nat),z0j x0 (x2=x2/\(↑i44:Int)=0/\mtV (wR x1 i44)=mtV (cnM x1 x2 0)/\z1i x0 x1 x2 i44 i28 i29 i30 i31 i32 i33 i34 i35 i36 i37 i38 i39 i40 i41 i42 i43 True))/\∀(i48:Nat),i48<=4->zsh x0 x1 i48 x2 i28 i29 i30 i31 i32 i33 i34 i35 i36 i37 i38 i39 i40 i41 i42 i43)
 def zsf:=(∃(i0:Nat),z0j x0 (i0=0/\(↑i0:Int)=0/\mtV (cnM x1 i0 0)=[bool false,bool false,bool false,bool false,bool false,bool false,bool false,bool false,bool false,bool false,bool false,bool false,bool false,bool false,bool false,bool false]/\z9s x0 x1/\i0<=4/\True))/\∀(i4:Nat),i4<=4->zsg x0 x1 i4
 def zse:=Ji (10<(zco x0)) (true=true/\True) (zsf x0 x1)
 def zsd:=True/\(∀i0,z4y x0 x1 i0->zhl i0)/\((!true)=true->true=false/\True)/\((!true)=false->zse x0 x1)
end
def zfg(x:SV) (L:List Int):qra P (qkw [(11,z6v)]) (qm6 [(12,z9y)]) Go.Proofs.Tryd.f5 zov (zp1) ⟨x,L⟩=((length L<9223372036854775808/\∀(b:Int),b∈L->0<=b/\b<256)->(∃(p:Pub),z4y x L p)->zsd x L):=by kernel_rfl
def zje:=λx L=>Eq.trans (zfg x L) (by delta Ji Jb Jt Jf zho zhl z4y zco z0j z9s zch zcl zcg z41 z0b z1p z1q zlz zmc zly z2l zm4 zlw zlv z1i z12 z4z z9q zmb zm7 zma zhi zm2 zlx zlt zls zlr zlq zlp zmf zhf zmd zm9 zcm zmi z1j z50 zmh z2k z2h z05 zcp zck zcf z09 zhn zhk zm5 zm6 zm0 z9r zcj z3k zce zci zcn zhj zhg zmg zme zm3 zm1 zlu zhm zhh zm8 zlo zln zcd zlm zll zlk zlj zli zlh zlg zlf zle zsm zsl zsk zsj zsi zsh zsg zsf zse zsd;exact rfl)
section
def z27(M:Nat->Nat->Bool):(mtV M).length=16:=by unfold mtV;rw[List.length_map,List.length_range]
def z7o(M:Nat->Nat->Bool) {m:Nat} (h:m<16):(mtV M)[m]? =some (.bool (M (m / 4) (m % 4))):=by
 unfold mtV
 rw[List.getElem?_map,List.getElem?_range h];rfl
def z2q(M:Nat->Nat->Bool) {p q:Nat} (hp:p<4) (hq:q<4):qmd (mtV M) (0+((p:Nat):Int).toNat*4+((q:Nat):Int).toNat*1) [.bool (M p q)]:=by
  intro j v hj
  cases j with
  |succ j=>simp at hj
  | zero=>
    rw[←hj,Int.toNat_natCast,Int.toNat_natCast,z7o M (by omega),show(0+p*4+q*1+0) / 4=p by omega,show(0+p*4+q*1+0) % 4=q by omega];rfl
def z7p{M N:Nat->Nat->Bool} (h:∀p q,p<4->q<4->M p q=N p q):mtV M=mtV N:=by
 refine List.ext_getElem? λm=> ?_
 by_cases hm:m<16
 ·rw[z7o M hm,z7o N hm,h _ _ (by omega) (by omega)]
 ·rw[List.getElem?_eq_none (by rw[z27];omega),List.getElem?_eq_none (by rw[z27];omega)]
def zd7{M N:Nat->Nat->Bool} {i j:Nat} {v:Bool} (hi:i<4) (hj:j<4) (h:∀p q,p<4->q<4->N p q=if p=i/\q=j then v else M p q):mtV N=spl (mtV M) (0+((i:Nat):Int).toNat*4+((j:Nat):Int).toNat*1) [.bool v]:=by
 rw[Int.toNat_natCast,Int.toNat_natCast]
 show mtV N=(mtV M).set (0+i*4+j*1) (.bool v)
 refine List.ext_getElem? λm=> ?_
 rw[List.getElem?_set,z27]
 by_cases hm:m<16
 ·rw[z7o N hm,z7o M hm,h _ _ (by omega) (by omega)]
  by_cases he:0+i*4+j*1=m
  ·rw[if_pos he,if_pos (by omega),if_pos (by omega)]
  ·rw[if_neg he,if_neg (by omega)]
 ·rw[List.getElem?_eq_none (by rw[z27];omega)]
  split
  ·omega
  ·rw[List.getElem?_eq_none (by rw[z27];omega)]
def zkb(L:List Int) (k p:Nat):wR L (k+1) p k=wR L k p k:=by
 show(wR L k p k|| (wR L k p k&&wR L k k k))=_
 cases wR L k p k<;>rfl
def zkc(L:List Int) (k q:Nat):wR L (k+1) k q=wR L k k q:=by
 show(wR L k k q|| (wR L k k k&&wR L k k q))=_
 cases wR L k k q<;>cases wR L k k k<;>rfl
def zny(L:List Int) (k i j:Nat):wM L k i j i j=wR L k i j:=if_neg (by omega)
def znz(L:List Int) (k i j:Nat):wM L k i j i k=wR L k i k:=by
 unfold wM;split
 ·exact zkb L k i
 ·rfl
def zo0(L:List Int) (k i j:Nat):wM L k i j k j=wR L k k j:=by
 unfold wM;split
 ·exact zkc L k j
 ·rfl
def z8t(L:List Int) {k i j:Nat} {v:Bool} (hi:i<4) (hj:j<4) (hv:v=wR L (k+1) i j):mtV (wM L k i (j+1))=spl (mtV (wM L k i j)) (0+((i:Nat):Int).toNat*4+((j:Nat):Int).toNat*1) [.bool v]:=by
 refine zd7 hi hj λp q hp hq=> ?_
 unfold wM
 by_cases he:p=i/\q=j
 ·rw[if_pos he,hv,he.1,he.2,if_pos (by omega)]
 ·rw[if_neg he]
  by_cases h1:p<i\/(p=i/\q<j)
  ·rw[if_pos h1,if_pos (by omega)]
  ·rw[if_neg h1,if_neg (by omega)]
def zba(L:List Int) (k:Nat):mtV (wM L k 0 0)=mtV (wR L k):=z7p λp q hp hq=>if_neg (by omega)
def zfu(L:List Int) (k i:Nat):mtV (wM L k (i+1) 0)=mtV (wM L k i 4):=z7p λp q hp hq=>by
 unfold wM
 by_cases h:p<i\/p=i
 ·rw[if_pos (by omega),if_pos (by omega)]
 ·rw[if_neg (by omega),if_neg (by omega)]
def zk7(L:List Int) (k:Nat):mtV (wR L (k+1))=mtV (wM L k 4 0):=z7p λp q hp hq=>(if_pos (by omega)).symm
def zbc(L:List Int) {k p q:Nat} (h:wR L k p q=true):wR L (k+1) p q=true:=by
 show(wR L k p q||_)=true
 rw[h];rfl
def zbb(L:List Int):∀{k m p q:Nat},m<k->wR L k p m=true->wR L k m q=true->wR L k p q=true
  | k +1,m,p,q,hm,h1,h2=>by
    have h1:(wR L k p m|| (wR L k p k&&wR L k k m))=true:=h1
    have h2:(wR L k m q|| (wR L k m k&&wR L k k q))=true:=h2
    show(wR L k p q|| (wR L k p k&&wR L k k q))=true
    simp only[Bool.or_eq_true,Bool.and_eq_true]at h1 h2⊢
    by_cases he:m=k
    · subst he
      refine .inr ⟨?_,?_⟩
      · rcases h1 with h|⟨h,_⟩<;>exact h
      · rcases h2 with h|⟨_,h⟩<;>exact h
    · have hm:m<k:=by omega
      rcases h1 with h1|⟨h1,h1'⟩<;>rcases h2 with h2|⟨h2,h2'⟩
      · exact .inl (zbb L hm h1 h2)
      · exact .inr ⟨zbb L hm h1 h2,h2'⟩
      · exact .inr ⟨h1,zbb L hm h1' h2⟩
      · exact .inr ⟨h1,h2'⟩
def z21(L:List Int):∀{k p q:Nat},wR L k p q=true->TR L p q
  |0,p,q,h=> .one (of_decide_eq_true h)
  | k+1,p,q,h=>by
    have h:(wR L k p q|| (wR L k p k&&wR L k k q))=true:=h
    simp only[Bool.or_eq_true,Bool.and_eq_true]at h
    rcases h with h|⟨h1,h2⟩
    · exact z21 L h
    · exact(z21 L h1).trans (z21 L h2)
variable {L:List Int}
def zdw{p q:Nat} (h:q∈gI L p):wR L 4 p q=true:=zbc L (zbc L (zbc L (zbc L (k:=0) (decide_eq_true h))))
def z8w(hL:z5e L) {p q:Nat}:wR L 4 p q=true↔TR L p q:=by
 refine⟨z21 L,λh=> ?_⟩
 induction h with
 |one h=>exact zdw h
 |step h g ih=>exact zbb L (h.lt hL) ih (zdw g)
def z10(hL:z5e L) {i:Nat}:inR L i=true↔i=0\/TR L 0 i:=by
 unfold inR
 rw[Bool.or_eq_true,decide_eq_true_eq,z8w hL]
variable {i:Nat}
def zkf(h:inR L i=true):wnN L (i+1)=wnN L i+1:=by
 unfold wnN
 rw[List.range_succ,List.filter_append,List.length_append,List.filter_cons,if_pos h];rfl
def zo1(h:inR L i=false):wnN L (i+1)=wnN L i:=by
 unfold wnN
 rw[List.range_succ,List.filter_append,List.length_append,List.filter_cons,if_neg (by rw[h];simp)];rfl
def zke(L:List Int) (i:Nat):wnN L i<=i:=by
 unfold wnN
 have:=List.length_filter_le (inR L) (List.range i)
 rwa [List.length_range]at this
def z8b(L:List Int) (i:Nat):rgN L (i+1)=(rgN L i|| (inR L i&&wR L 4 i i)):=by
 unfold rgN
 rw[List.range_succ,List.any_append,List.any_cons,List.any_nil,Bool.or_false]
def zdj(hL:z5e L):rgN L 4=true↔zas L:=by
 unfold rgN zas
 rw[List.any_eq_true]
 refine⟨λ⟨i,hi,h⟩=> ?_,λ⟨g,h1,h2⟩=> ?_⟩
 ·rw[Bool.and_eq_true,z10 hL,z8w hL]at h
  exact⟨i,h⟩
 ·exact⟨g,List.mem_range.2 (h2.lt hL),by rw[Bool.and_eq_true,z10 hL,z8w hL];exact⟨h1,h2⟩⟩
def z4j:∀{l m:List Nat},l.Nodup->(∀x∈l,x∈m)->l.length<=m.length
  | [],_,_,_=>Nat.zero_le _
  | x ::l,m,hn,h=>by
    have hn:=List.nodup_cons.1 hn
    have hx:=h x List.mem_cons_self
    have e:=List.length_erase_of_mem hx
    have:=z4j (l:=l) (m:=m.erase x) hn.2 λy hy=>by
      have hne:y≠x:=λe=>hn.1 (e ▸ hy)
      exact(List.mem_erase_of_ne hne).2 (h y (List.mem_cons_of_mem _ hy))
    have pos:0<m.length:=List.length_pos_iff.2 λe=>by rw[e]at hx;cases hx
    rw[List.length_cons];omega
variable {ks:List Nat}
def z5g(h:zhr L ks) {x y:Nat} (hx:x∈ks) (hy:y∈gI L x):y∈ks:=by
 obtain⟨a,b,e⟩:=List.append_of_mem hx
 rw[e]
 exact List.mem_append.2 (.inl (h a x b e y hy))
def zd4(hL:z5e L) (h:zd3 L ks) (x:Nat):x∈ks↔x<4/\inR L x=true:=by
 obtain⟨ht,⟨hn,hlt⟩,⟨a,ha⟩,hm⟩:=h
 refine⟨λhx=>⟨hlt x hx,(z10 hL).2 (hm x hx)⟩,λ⟨h4,hr⟩=> ?_⟩
 have h0:0∈ks:=by rw[ha];exact List.mem_append.2 (.inr (List.mem_singleton.2 rfl))
 rcases(z10 hL).1 hr with rfl|hr
 ·exact h0
 ·clear h4
  induction hr with
  |one h=>exact z5g ht h0 h
  |step h g ih=>exact z5g ht (ih ⟨h.lt hL,(z10 hL).2 (.inr h)⟩ ((z10 hL).2 (.inr h))) g
def zj2(hL:z5e L) (h:zd3 L ks):ks.length=wnN L 4:=by
 have hm:=zd4 hL h
 have nf:((List.range 4).filter (inR L)).Nodup:=List.nodup_range.filter _
 refine Nat.le_antisymm (z4j h.2.1.1 λx hx=> ?_) (z4j nf λx hx=> ?_)
 ·rw[List.mem_filter,List.mem_range];exact(hm x).1 hx
 ·rw[List.mem_filter,List.mem_range]at hx;exact(hm x).2 hx
def zfr(h:zhr L ks) {x y:Nat} (hr:TR L x y):∀a b,ks=a++x::b->y∈a:=by
  induction hr with
  |one e=>exactλa b hk=>h a _ b hk _ e
  | step hr g ih=>
    intro a b hk
    obtain⟨a1,a2,e⟩:=List.append_of_mem (ih a b hk)
    have:=h a1 _ (a2++x::b) (by rw[hk,e];simp only[List.append_assoc,List.cons_append]) _ g
    rw[e]
    exact List.mem_append.2 (.inl this)
def zf0(hL:z5e L) (h:zd3 L ks):¬zas L:=by
 rintro⟨g,h1,h2⟩
 have hg:g∈ks:=(zd4 hL h g).2 ⟨h2.lt hL,(z10 hL).2 h1⟩
 obtain⟨a,b,e⟩:=List.append_of_mem hg
 have:=zfr h.1 h2 a b e
 have hn:=h.2.1.1
 rw[e,List.nodup_append]at hn
 exact hn.2.2 g this g List.mem_cons_self rfl
def zaf(h:zd3 L ks) {i:Nat} (hi:i<ks.length) {j:Nat} (hj:j∈gI L (ks.getD i 0)):j∈ks.take i:=by
 have e:ks=ks.take i++ks[i]::ks.drop (i+1):=by
  rw[←List.drop_eq_getElem_cons hi,List.take_append_drop]
 have:ks.getD i 0=ks[i]:=by rw[List.getD_eq_getElem?_getD,List.getElem?_eq_getElem hi];rfl
 rw[this]at hj
 exact h.1 _ _ _ e j hj
def zez(h:zd3 L ks):0<ks.length/\ks.getD (ks.length- 1) 0=0:=by
 obtain⟨_,_,⟨a,ha⟩,_⟩:=h
 rw[ha,List.length_append,List.length_singleton]
 refine⟨by omega,?_⟩
 rw[List.getD_eq_getElem?_getD,List.getElem?_append_right (by omega),show a.length+1- 1- a.length=0 by omega];rfl
def zd1{i k:Nat} (hk:k<L.length) (h:fr L[k]=(i:Int)):gT L i (k+1)=gT L i k++[to4 L[k]]:=by
 unfold gT gI
 rw[List.take_add_one,List.getElem?_eq_getElem hk,Option.toList_some,List.filter_append,List.filter_cons,if_pos (by simpa using h),List.map_append];rfl
def ziq{i k:Nat} (hk:k<L.length) (h:fr L[k]≠(i:Int)):gT L i (k+1)=gT L i k:=by
 unfold gT gI
 rw[List.take_add_one,List.getElem?_eq_getElem hk,Option.toList_some,List.filter_append,List.filter_cons,if_neg (by simpa using h),List.filter_nil,List.append_nil]
def zd0{i k:Nat} (hk:L.length<=k):gT L i k=gI L i:=by
 unfold gT
 rw[List.take_of_length_le hk]
def zk4{i k:Nat} (hk:k<L.length) (h:fr L[k]=(i:Int)):txT L i (k+1)=txT L i k++mkS [32,105,109,112,111,114,116,32,39]++nm4 (to4 L[k])++mkS [39,59]:=by
 unfold txT z3n nm4
 rw[zd1 hk h,List.flatMap_append,←List.append_assoc,z16,List.flatMap_cons,List.flatMap_nil,List.append_nil]
 show mkS (_++([32,105,109,112,111,114,116,32,39]++([97+to4 L[k]]++[39,59])))=_
 rw[z4d,z4d,z4d]
 simp only[ByteArray.append_assoc]
def zb4(L:List Int) (i k:Nat):(txT L i k).size<=16+12*L.length:=by
 unfold txT
 rw[q0u,zdr]
 have:(gT L i k).length<=(L.take k).length:=zcz (L.take k) i
 rw[List.length_take]at this
 omega
def zie{i k:Nat} (hi:i<4) (hk:k<L.length) (h:fr L[k]=(i:Int)) (h4:to4 L[k]<4):mtV (cnM L i (k+1))=spl (mtV (cnM L i k)) (0+((i:Nat):Int).toNat*4+((to4 L[k]:Nat):Int).toNat*1) [.bool true]:=by
 refine zd7 hi h4 λp q hp hq=> ?_
 unfold cnM
 rw[zd1 hk h]
 by_cases he:p=i/\q=to4 L[k]
 ·rw[if_pos he]
  exact decide_eq_true (.inr ⟨he.1,by rw[he.2];exact List.mem_append.2 (.inr (List.mem_singleton.2 rfl))⟩)
 ·rw[if_neg he]
  refine decide_eq_decide.2 ?_
  rw[List.mem_append,List.mem_singleton]
  refine⟨λh=>h.imp id λ⟨a,b⟩=>⟨a,b.resolve_right λe=>he ⟨a,e⟩⟩,λh=>h.imp id λ⟨a,b⟩=>⟨a, .inl b⟩⟩
def zn4{i k:Nat} (hk:k<L.length) (h:fr L[k]≠(i:Int)):cnM L i (k+1)=cnM L i k:=by
 funext p q
 unfold cnM
 rw[ziq hk h]
def zeg{i k:Nat} (hk:L.length<=k):mtV (cnM L (i+1) 0)=mtV (cnM L i k):=z7p λp q hp hq=>by
 unfold cnM
 refine decide_eq_decide.2 ?_
 rw[zd0 hk]
 have e0:gT L (i+1) 0=[]:=rfl
 rw[e0]
 refine⟨λh=> ?_,λh=> ?_⟩
 ·rcases h with⟨a,b⟩|⟨_,b⟩
  ·by_cases hpi:p=i
   ·exact .inr ⟨hpi,hpi ▸ b⟩
   ·exact .inl ⟨by omega,b⟩
  ·cases b
 ·rcases h with⟨a,b⟩|⟨a,b⟩
  ·exact .inl ⟨by omega,b⟩
  ·exact .inl ⟨by omega,a ▸ b⟩
def zct(L:List Int):mtV (wR L 0)=mtV (cnM L 4 0):=z7p λp q hp hq=>by
 unfold cnM wR
 refine decide_eq_decide.2 ⟨λh=> .inl ⟨hp,h⟩,λh=> ?_⟩
 rcases h with⟨_,b⟩|⟨a,_⟩
 ·exact b
 ·omega
def z7w{i j:Nat} (hi:i<4) (hj:j<4):decide (nm4 i=nm4 j)=decide (i=j):=by
 refine decide_eq_decide.2 ⟨λh=> ?_,λh=>by rw[h]⟩
 have:=zfa (l:=[97+i]) (m:=[97+j]) (λx hx=>by simp only[List.mem_singleton]at hx;omega) (λx hx=>by simp only[List.mem_singleton]at hx;omega) h
 simp only[List.cons.injEq,and_true]at this
 omega
def z38(hi:i<4):qmd [Value.string (mkS [97]),Value.string (mkS [98]),Value.string (mkS [99]),Value.string (mkS [100])] (0+((i:Nat):Int).toNat*1) [.string (nm4 i)]:=by
  intro j v hj
  cases j with
  |succ j=>simp at hj
  | zero=>
    rw[←hj]
    match i,hi with
    |0,_=>rfl
    |1,_=>rfl
    |2,_=>rfl
    |3,_=>rfl
def z32{l:List FL} {x:SV} {p:Pub} (h:rwP flV l x p) {i:Nat} (hi:i<l.length):x.1≠noA/\q4o p ((adr x.1 (i*6)).add 0) [.string (nm4 (kAt l i))]:=by
 have e:kAt l i=l[i].k:=by
  unfold kAt kOf
  rw[List.getD_eq_getElem?_getD,List.getElem?_map,List.getElem?_eq_getElem hi];rfl
 rw[e]
 exact z5f (f:=flV) (k:=6) (λ_=>rfl) h.2.2 hi (j:=0) (by decide) rfl
end
def zdz{n:Int} (h0:0<=n) (h1:n<256):IntKind.wrap .u8 (Int.tdiv n 4)=Int.tdiv n 4:=by
 have e:IntKind.wrap .u8 (Int.tdiv n 4)=Int.tdiv n 4 % 256:=by
  unfold IntKind.wrap;simp[IntKind.bits,IntKind.signed]
 rw[e,Int.tdiv_eq_ediv_of_nonneg h0]
 omega
def zaw(L:List Int) (i:Nat):(z42 L (i+1)).flatMap srV=(z42 L i).flatMap srV++[.string (nm4 i), .string (tx4 L i)]:=by
 unfold z42
 rw[List.range_succ,List.map_append,List.flatMap_append];rfl
def z8f(L:List Int) (i:Nat):((z42 L i).flatMap srV).length=i*2:=by
 rw[z02 (f:=srV) (k:=2) (λ_=>rfl)]
 unfold z42
 rw[List.length_map,List.length_range]
def zjf:q7w P 5 zov:=by
 refine qqa mixed (qhc (qmo z6s qqu)) (qig (qmn zf8 qqt)) (W:=zp1) Go.Proofs.Tryd.func5 (by kernel_rfl) (by decide) (by decide) (λs=>by kernel_rfl) λ⟨(x:SV),L⟩=>(zje x L).mpr ?_
 rintro⟨hL1,hL8⟩ ⟨p0,_,hx,⟨m0,hm0⟩,_⟩
 have hxl:x.2.1=L.length:=hx.1
 refine⟨trivial,λq hq=>hq.2.2,λh=>absurd h (by decide),λ_=>⟨λ_=>⟨rfl,trivial⟩,λh10=> ?_⟩⟩
 have h10:L.length<=10:=by
  have:=of_decide_eq_false h10
  rw[hxl]at this;omega
 have hL:z5e L:=⟨h10,hL8⟩
 refine⟨⟨0,rfl,rfl,rfl,rfl,rfl,rfl,λq hq=>hq,Nat.zero_le _,trivial⟩,λi hi4=>⟨λhi=> ?_,λhi=> ?_⟩⟩
 ·have hi:i<4:=by have:=of_decide_eq_true hi;omega
  have bi:(0:Int)<=((i:Nat):Int)/\((i:Nat):Int)<((4:Nat):Int):=⟨by omega,by omega⟩
  refine⟨⟨0,rfl,rfl,rfl,rfl,rfl,rfl,rfl,rfl,rfl,λq hq=>hq,Nat.zero_le _,trivial⟩,λk hkl=>⟨λhk=> ?_,λhk=> ?_⟩⟩
  ·have hk:k<L.length:=by have:=of_decide_eq_true hk;rw[hxl]at this;omega
   have bk:(0:Int)<=((k:Nat):Int)/\((k:Nat):Int)<((x.2.1:Nat):Int):=⟨by omega,by rw[hxl];omega⟩
   have hb:=hL8 _ (List.getElem_mem hk)
   have C:∀q,byP x L q->x.1≠noA/\q4o q (adr x.1 (k*1)) [.int .u8 L[k]]:=λq h=>zn3 h hk
   have fb:=zn9 hb.1
   have tb:=zdq hb.1
   have bkk: -9223372036854775808<=((k:Nat):Int)+1/\((k:Nat):Int)+1<=9223372036854775807:=by omega
   have sz:(txT L ((i:Nat):Int).toNat k).size<=16+12*L.length:=zb4 L i k
   refine⟨bk,(C p0 hx).1,L[k],λq hq=>(C q hq.2.1).2,by decide,⟨by have:=fb.1;unfold fr at this;omega,by have:=fb.2;unfold fr at this;omega⟩,λh=> ?_,λh=> ?_⟩
   ·have h:fr L[k]=(i:Int):=of_decide_eq_true h
    have bt:(0:Int)<=((to4 L[k]:Nat):Int)/\((to4 L[k]:Nat):Int)<((4:Nat):Int):=⟨by omega,by have:=tb.1;omega⟩
    have ns:(nm4 (to4 L[k])).size=1:=q0u _
    refine⟨by rw[z5d];simp only[List.length_cons,List.length_nil];omega,bk,(C p0 hx).1,L[k],λq hq=>(C q hq.2.1).2,by decide,by decide,?_⟩
    rw[zdz hb.1 hb.2,tb.2]
    refine⟨bt,nm4 (to4 L[k]),z38 tb.1,by rw[z8g,z5d,ns];simp only[List.length_cons,List.length_nil];omega,by rw[z8g,z8g,z5d,z5d,ns];simp only[List.length_cons,List.length_nil];omega,bk,(C p0 hx).1,L[k],λq hq=>(C q hq.2.1).2,by decide,by decide,bi,?_⟩
    rw[zdz hb.1 hb.2,tb.2]
    exact⟨bt,by rw[z27];have:=tb.1;show 0+i*4+to4 L[k]*1+1<=16;omega,bkk,k+1,rfl,rfl,rfl,zk4 hk h,rfl,by omega,rfl,zie hi hk h tb.1,rfl,λq hq=>hq,by omega,by omega,trivial⟩
   ·have h:fr L[k]≠(i:Int):=of_decide_eq_false h
    exact⟨bkk,k+1,rfl,rfl,rfl,by show mkS (z00 [] (z3n (gT L i (k+1))))=mkS (z00 [] (z3n (gT L i k)));rw[ziq hk h],rfl,by omega,rfl,by show mtV (cnM L i (k+1))=mtV (cnM L i k);rw[zn4 hk h],rfl,λq hq=>hq,by omega,by omega,trivial⟩
  ·have hk:L.length<=k:=by have:=of_decide_eq_false hk;rw[hxl]at this;omega
   refine⟨bi,nm4 i,z38 hi,z8f L i,by show(i+1)*32<=_;omega,⟨by omega,by omega⟩,i+1,rfl,rfl,rfl,rfl,by omega,zeg hk,?_,λq hq=>hq,by omega,by omega,trivial⟩
   rw[zaw]
   show _=_++[Value.string (nm4 i),Value.string (mkS (z00 [] (z3n (gT L i k))))]
   rw[zd0 hk];rfl
 obtain rfl:i=4:=by have:=of_decide_eq_false hi;omega
 refine⟨wR L 0 0 0,wR L 0 0 1,wR L 0 0 2,wR L 0 0 3,wR L 0 1 0,wR L 0 1 1,wR L 0 1 2,wR L 0 1 3,wR L 0 2 0,wR L 0 2 1,wR L 0 2 2,wR L 0 2 3,wR L 0 3 0,wR L 0 3 1,wR L 0 3 2,wR L 0 3 3,?_,⟨0,rfl,rfl,rfl,rfl,rfl,zct L,rfl,rfl,rfl,rfl,rfl,rfl,rfl,rfl,rfl,rfl,rfl,rfl,rfl,rfl,rfl,rfl,rfl,λq hq=>hq,Nat.zero_le _,trivial⟩,λk hk4=>⟨λhk=> ?_,λhk=> ?_⟩⟩
 ·rw[←zct]
  intro j v hj
  rw[Nat.zero_add];exact hj
 ·have hk:k<4:=by have:=of_decide_eq_true hk;omega
  have bk:(0:Int)<=((k:Nat):Int)/\((k:Nat):Int)<((4:Nat):Int):=⟨by omega,by omega⟩
  refine⟨⟨0,rfl,rfl,rfl,rfl,rfl,rfl,zba L k,rfl,rfl,rfl,rfl,rfl,rfl,rfl,rfl,rfl,rfl,rfl,rfl,rfl,rfl,rfl,rfl,rfl,λq hq=>hq,Nat.zero_le _,trivial⟩,λi hi4=>⟨λhi=> ?_,λhi=> ?_⟩⟩
  ·have hi:i<4:=by have:=of_decide_eq_true hi;omega
   have bi:(0:Int)<=((i:Nat):Int)/\((i:Nat):Int)<((4:Nat):Int):=⟨by omega,by omega⟩
   refine⟨⟨0,rfl,rfl,rfl,rfl,rfl,rfl,rfl,rfl,rfl,rfl,rfl,rfl,rfl,rfl,rfl,rfl,rfl,rfl,rfl,rfl,rfl,rfl,rfl,rfl,rfl,λq hq=>hq,Nat.zero_le _,trivial⟩,λj hj4=>⟨λhj=> ?_,λhj=> ?_⟩⟩
   ·have hj:j<4:=by have:=of_decide_eq_true hj;omega
    have bj:(0:Int)<=((j:Nat):Int)/\((j:Nat):Int)<((4:Nat):Int):=⟨by omega,by omega⟩
    have bjj: -9223372036854775808<=((j:Nat):Int)+1/\((j:Nat):Int)+1<=9223372036854775807:=by omega
    have LN:∀v:Bool,0+((i:Nat):Int).toNat*4+((j:Nat):Int).toNat*1+[Value.bool v].length<=(mtV (wM L ((k:Nat):Int).toNat ((i:Nat):Int).toNat j)).length:=λv=>by
     rw[z27];show 0+i*4+j*1+1<=16;omega
    have gij:=z2q (wM L k i j) hi hj
    rw[zny]at gij
    have gik:=z2q (wM L k i j) hi hk
    rw[znz]at gik
    have gkj:=z2q (wM L k i j) hk hj
    rw[zo0]at gkj
    have val:wR L (k+1) i j=(wR L k i j|| (wR L k i k&&wR L k k j)):=rfl
    refine⟨bi,bj,wR L k i j,gij,λh1=>⟨rfl,rfl,rfl,rfl,rfl,rfl,λ_=>⟨bi,bj,LN _,bjj,j+1,rfl,rfl,rfl,rfl,rfl,by omega,rfl,z8t L hi hj (by show true=wR L (k+1) i j;rw[val,h1];rfl),rfl,rfl,rfl,rfl,rfl,rfl,rfl,rfl,rfl,rfl,rfl,rfl,rfl,rfl,rfl,rfl,rfl,λq hq=>hq,by omega,by omega,trivial⟩,λh=>(by rw[h1]at h;cases h)⟩,λh1=>⟨rfl,rfl,bi,rfl,bk,rfl,wR L k i k,gik,rfl,λh2=>⟨rfl,rfl,bk,rfl,bj,rfl,wR L k k j,gkj,rfl,λ_=>⟨λh=>(by rw[h1]at h;cases h),λ_=>⟨bi,bj,LN _,bjj,j+1,rfl,rfl,rfl,rfl,rfl,by omega,rfl,z8t L hi hj (by show wR L k k j=wR L (k+1) i j;rw[val,h1,h2];rfl),rfl,rfl,rfl,rfl,rfl,rfl,rfl,rfl,rfl,rfl,rfl,rfl,rfl,rfl,rfl,rfl,rfl,λq hq=>hq,by omega,by omega,trivial⟩⟩,λh=>(by rw[h2]at h;cases h)⟩,λh2=>⟨rfl,rfl,rfl,rfl,rfl,λh=>(by rw[h2]at h;cases h),λ_=>⟨λh=>(by rw[h1]at h;cases h),λ_=>⟨bi,bj,LN _,bjj,j+1,rfl,rfl,rfl,rfl,rfl,by omega,rfl,z8t L hi hj (by show false=wR L (k+1) i j;rw[val,h1,h2];rfl),rfl,rfl,rfl,rfl,rfl,rfl,rfl,rfl,rfl,rfl,rfl,rfl,rfl,rfl,rfl,rfl,rfl,λq hq=>hq,by omega,by omega,trivial⟩⟩⟩⟩⟩
   ·obtain rfl:j=4:=by have:=of_decide_eq_false hj;omega
    exact⟨by omega,i+1,rfl,rfl,rfl,by omega,rfl,rfl,zfu L k i,rfl,rfl,rfl,rfl,rfl,rfl,rfl,rfl,rfl,rfl,rfl,rfl,rfl,rfl,rfl,rfl,rfl,λq hq=>hq,by omega,by omega,trivial⟩
  ·obtain rfl:i=4:=by have:=of_decide_eq_false hi;omega
   exact⟨by omega,k+1,rfl,rfl,rfl,rfl,by omega,zk7 L k,rfl,rfl,rfl,rfl,rfl,rfl,rfl,rfl,rfl,rfl,rfl,rfl,rfl,rfl,rfl,rfl,rfl,λq hq=>hq,by omega,by omega,trivial⟩
 obtain rfl:k=4:=by have:=of_decide_eq_false hk;omega
 refine⟨⟨0,rfl,rfl,rfl,rfl,rfl,rfl,rfl,rfl,rfl,rfl,rfl,rfl,rfl,rfl,rfl,rfl,rfl,rfl,rfl,rfl,rfl,rfl,rfl,rfl,rfl,λq hq=>hq,Nat.zero_le _,trivial⟩,λi hi4=>⟨λhi=> ?_,λhi=> ?_⟩⟩
 ·have hi:i<4:=by have:=of_decide_eq_true hi;omega
  have bi:(0:Int)<=((i:Nat):Int)/\((i:Nat):Int)<((4:Nat):Int):=⟨by omega,by omega⟩
  have bii: -9223372036854775808<=((i:Nat):Int)+1/\((i:Nat):Int)+1<=9223372036854775807:=by omega
  have wl:=zke L i
  have bw: -9223372036854775808<=((wnN L i:Nat):Int)+1/\((wnN L i:Nat):Int)+1<=9223372036854775807:=by omega
  have gii:=z2q (wR L 4) hi hi
  have g0i:qmd (mtV (wR L 4)) (0+0*4+((i:Nat):Int).toNat*1) [.bool (wR L 4 0 i)]:=z2q (wR L 4) (p:=0) (by decide) hi
  have up:inR L i=true->rgN L (i+1)=(rgN L i||wR L 4 i i):=λh=>by rw[z8b,h,Bool.true_and]
  have wy:inR L i=true->((wnN L (i+1):Nat):Int)=(wnN L i:Nat)+1:=λh=>by rw[zkf h];omega
  refine⟨λh0=> ?_,λh0=>⟨bi,wR L 4 0 i,g0i,λhr=> ?_,λhr=> ?_⟩⟩
  ·have h0:i=0:=by have:=of_decide_eq_true h0;omega
   have hin:inR L i=true:=by unfold inR;rw[decide_eq_true h0];rfl
   exact⟨bw,λhg=>⟨bii,i+1,rfl,rfl,rfl,by omega,wy hin,rfl,by rw[up hin,hg];rfl,rfl,rfl,rfl,rfl,rfl,rfl,rfl,rfl,rfl,rfl,rfl,rfl,rfl,rfl,rfl,rfl,rfl,rfl,λq hq=>hq,by omega,by omega,trivial⟩,λhg=>⟨bi,bi,wR L 4 i i,gii,bii,i+1,rfl,rfl,rfl,by omega,wy hin,rfl,by rw[up hin,hg];rfl,rfl,rfl,rfl,rfl,rfl,rfl,rfl,rfl,rfl,rfl,rfl,rfl,rfl,rfl,rfl,rfl,rfl,rfl,λq hq=>hq,by omega,by omega,trivial⟩⟩
  ·have hin:inR L i=true:=by unfold inR;rw[hr,Bool.or_true]
   exact⟨bw,λhg=>⟨bii,i+1,rfl,rfl,rfl,by omega,wy hin,rfl,by rw[up hin,hg];rfl,rfl,rfl,rfl,rfl,rfl,rfl,rfl,rfl,rfl,rfl,rfl,rfl,rfl,rfl,rfl,rfl,rfl,rfl,λq hq=>hq,by omega,by omega,trivial⟩,λhg=>⟨bi,bi,wR L 4 i i,gii,bii,i+1,rfl,rfl,rfl,by omega,wy hin,rfl,by rw[up hin,hg];rfl,rfl,rfl,rfl,rfl,rfl,rfl,rfl,rfl,rfl,rfl,rfl,rfl,rfl,rfl,rfl,rfl,rfl,rfl,λq hq=>hq,by omega,by omega,trivial⟩⟩
  ·have h0:¬i=0:=by have:=of_decide_eq_false h0;omega
   have hin:inR L i=false:=by unfold inR;rw[hr,decide_eq_false h0];rfl
   exact⟨bii,i+1,rfl,rfl,rfl,by omega,by rw[zo1 hin],rfl,by rw[z8b,hin,Bool.false_and,Bool.or_false],rfl,rfl,rfl,rfl,rfl,rfl,rfl,rfl,rfl,rfl,rfl,rfl,rfl,rfl,rfl,rfl,rfl,rfl,λq hq=>hq,by omega,by omega,trivial⟩
 obtain rfl:i=4:=by have:=of_decide_eq_false hi;omega
 rintro b1 s3 u a n c hpub
 have RA:∀q:Pub,qoq q a (List.take (4*2) ((z42 L 4).flatMap srV))->qoq q a ((z42 L 4).flatMap srV):=λq h=>z29 (z8f L 4) h
 refine⟨((a,4,c),L),rfl,rfl,rfl,hL,λq hq=>⟨⟨(z3r L (i:=0) (by decide)).1.symm,hq.2.1,RA q hq.2.2⟩,hq.1.2.2.1⟩,λb hb hbp=>⟨λhr=> ?_,λhr=> ?_⟩⟩
 ·rcases hb with⟨_,h⟩|⟨h6,hf,_⟩
  ·exact absurd ((zdj hL).1 hr) (zf0 hL h)
  ·obtain⟨q1,_,g⟩:=hbp
   have e:b.x.2.1=0:=by rw[g.1,hf];rfl
   rw[h6,e]
   exact⟨λ_=>⟨rfl,trivial⟩,λh=>absurd h (by decide)⟩
 obtain⟨h0,hld⟩:b.e=0/\zd3 L (kOf b.fl):=by
  rcases hb with h|⟨_,_,h⟩
  ·exact h
  ·rw[(zdj hL).2 h]at hr;cases hr
 obtain⟨q1,hq0,g⟩:=hbp
 have kl:(kOf b.fl).length=b.fl.length:=List.length_map _
 have lw:b.fl.length=wnN L 4:=by rw[←kl];exact zj2 hL hld
 have xl:b.x.2.1=wnN L 4:=g.1.trans lw
 have last:=zez hld
 rw[kl,lw]at last
 have w4:=zke L 4
 have fI:flI L b.fl:=⟨hld,lw⟩
 rw[h0,xl]
 have tn:((wnN L 4:Nat):Int)- 1=((wnN L 4- 1:Nat):Int):=by omega
 have cl:=z32 g (i:=wnN L 4- 1) (by omega)
 have k0:kAt b.fl (wnN L 4- 1)=0:=last.2
 rw[tn]
 refine⟨λh=>absurd h (by decide),λ_=>⟨λh=> ?_,λ_=>⟨by omega,⟨by omega,by omega⟩,cl.1,nm4 0,λq hq=> ?_,λh=>absurd h (by decide+kernel),λ_=> ?_⟩⟩⟩
 ·rw[decide_eq_true rfl]at h;cases h
 ·have:=(z32 hq.2 (i:=wnN L 4- 1) (by omega)).2
  rw[k0]at this
  exact this
 have bw:∀i:Nat,i<wnN L 4->(0:Int)<=((i:Nat):Int)/\((i:Nat):Int)<((wnN L 4:Nat):Int):=λi h=>⟨by omega,by omega⟩
 refine⟨⟨(0,b.fl),rfl,rfl,rfl,rfl,rfl,rfl,rfl,rfl,rfl,rfl,rfl,rfl,rfl,rfl,rfl,rfl,rfl,rfl,rfl,rfl,rfl,λq hq=>hq,λq hq=>by have:=hq.2;show rwP flV b.fl (b.x.1,wnN L 4,b.x.2.2) q;rw[←xl];exact this,⟨Nat.zero_le _,fI⟩,trivial⟩,λs6 h6 hp6=> ?_⟩
 obtain⟨i,l6⟩:=s6
 obtain⟨hiw,f6⟩:i<=wnN L 4/\flI L l6:=h6
 dsimp only
 refine⟨λhi=> ?_,λ_=>⟨rfl,trivial⟩⟩
 have hi:i<wnN L 4:=by have:=of_decide_eq_true hi;omega
 have k4:∀l,flI L l->∀i,i<wnN L 4->kAt l i<4:=λl f i hi=>by
  have hl:i<(kOf l).length:=by
   have:=f.2
   rw[show(kOf l).length=l.length from List.length_map _];omega
  have e:kAt l i=(kOf l)[i]:=by
   unfold kAt
   rw[List.getD_eq_getElem?_getD,List.getElem?_eq_getElem hl];rfl
  rw[e]
  exact f.1.2.1.2 _ (List.getElem_mem hl)
 refine⟨⟨(0, -1,l6),rfl,rfl,rfl,rfl,rfl,rfl,rfl,rfl,rfl,rfl,rfl,rfl,rfl,rfl,rfl,rfl,rfl,rfl,rfl,rfl,rfl,rfl,rfl,λq hq=>hq,λq hq=>hq.2,⟨Nat.zero_le _,f6,by rw[if_neg (Nat.not_lt_zero _)]⟩,trivial⟩,λs7 h7 hp7=> ?_⟩
 obtain⟨j,me,l7⟩:=s7
 obtain⟨hj4,f7,hme⟩:j<=4/\flI L l7/\me=if kAt l7 i<j then(kAt l7 i:Int)else -1:=h7
 dsimp only
 have ki:=k4 l7 f7 i hi
 refine⟨λhj=> ?_,λhj=> ?_⟩
 ·have hj:j<4:=by have:=of_decide_eq_true hj;omega
  have bj:(0:Int)<=((j:Nat):Int)/\((j:Nat):Int)<((4:Nat):Int):=⟨by omega,by omega⟩
  have bjj: -9223372036854775808<=((j:Nat):Int)+1/\((j:Nat):Int)+1<=9223372036854775807:=by omega
  obtain⟨q7,_,g7⟩:=hp7
  refine⟨bw i hi,cl.1,nm4 (kAt l7 i),λq hq=>(z32 hq.2 (i:=i) (by rw[f7.2];exact hi)).2,bj,nm4 j,z38 hj,λh=> ?_,λh=> ?_⟩
  ·rw[z7w ki hj]at h
   have h:=of_decide_eq_true h
   exact⟨bjj,(j+1,(j:Int),l7),rfl,rfl,rfl,rfl,rfl,rfl,by show((j+1:Nat):Int)=_;omega,rfl,rfl,rfl,rfl,rfl,rfl,rfl,rfl,rfl,rfl,rfl,rfl,rfl,rfl,rfl,rfl,λq hq=>hq.1,λq hq=>hq.2,⟨by show j+1<=4;omega,f7,by show(j:Int)=if kAt l7 i<j+1 then(kAt l7 i:Int)else -1;rw[if_pos (by omega),h]⟩,by show 4- (j+1)<4- j;omega,trivial⟩
  ·rw[z7w ki hj]at h
   have h:=of_decide_eq_false h
   refine⟨bjj,(j+1,me,l7),rfl,rfl,rfl,rfl,rfl,rfl,by show((j+1:Nat):Int)=_;omega,rfl,rfl,rfl,rfl,rfl,rfl,rfl,rfl,rfl,rfl,rfl,rfl,rfl,rfl,rfl,rfl,λq hq=>hq.1,λq hq=>hq.2,⟨by show j+1<=4;omega,f7,?_⟩,by show 4- (j+1)<4- j;omega,trivial⟩
   show me=if kAt l7 i<j+1 then(kAt l7 i:Int)else -1
   rw[hme]
   by_cases hlt:kAt l7 i<j
   ·rw[if_pos hlt,if_pos (by omega)]
   ·rw[if_neg hlt,if_neg (by omega)]
 obtain rfl:j=4:=by have:=of_decide_eq_false hj;omega
 rw[if_pos ki]at hme
 subst hme
 refine⟨⟨(0,l7),rfl,rfl,rfl,rfl,rfl,rfl,rfl,rfl,rfl,rfl,rfl,rfl,rfl,rfl,rfl,rfl,rfl,rfl,rfl,rfl,rfl,rfl,rfl,λq hq=>hq,λq hq=>hq.2,⟨Nat.zero_le _,f7,rfl⟩,trivial⟩,λs8 h8 hp8=> ?_⟩
 obtain⟨j,l8⟩:=s8
 obtain⟨hj4,f8,hk8⟩:j<=4/\flI L l8/\(kAt l7 i:Int)=(kAt l8 i:Int):=h8
 dsimp only
 have NX:∀(H8:Pub->Prop),True:=λ_=>trivial
 have bii: -9223372036854775808<=((i:Nat):Int)+1/\((i:Nat):Int)+1<=9223372036854775807:=by omega
 refine⟨λ_=>⟨λ_=>⟨λhj=> ?_,λ_=> ?_⟩,λh=> ?_⟩,λh=> ?_⟩
 ·have hjz:j<4:=by have:=of_decide_eq_true hj;omega
  have bj:(0:Int)<=((j:Nat):Int)/\((j:Nat):Int)<((4:Nat):Int):=⟨by omega,by omega⟩
  have bjj: -9223372036854775808<=((j:Nat):Int)+1/\((j:Nat):Int)+1<=9223372036854775807:=by omega
  refine⟨⟨(0,false,l8),rfl,rfl,rfl,rfl,rfl,rfl,rfl,rfl,rfl,rfl,rfl,rfl,rfl,rfl,rfl,rfl,rfl,rfl,rfl,rfl,rfl,rfl,rfl,rfl,rfl,λq hq=>hq,λq hq=>hq.2,⟨Nat.zero_le _,f8,hk8,(decide_eq_false (by rw[List.take_zero];exact List.not_mem_nil)).symm⟩,trivial⟩,λs9 h9 hp9=> ?_⟩
  obtain⟨k,ah,l9⟩:=s9
  obtain⟨hki,f9,hk9,hah⟩:k<=i/\flI L l9/\(kAt l7 i:Int)=(kAt l9 i:Int)/\ah=decide (j∈(kOf l9).take k):=h9
  dsimp only
  have bkk: -9223372036854775808<=((k:Nat):Int)+1/\((k:Nat):Int)+1<=9223372036854775807:=by omega
  have l9l:(kOf l9).length=wnN L 4:=by rw[←f9.2];exact List.length_map _
  have TS:k<i->decide (j∈(kOf l9).take (k+1))=(decide (j∈(kOf l9).take k)||decide (kAt l9 k=j)):=λhlt=>by
   have hkl:k<(kOf l9).length:=by omega
   have e:kAt l9 k=(kOf l9)[k]:=by
    unfold kAt
    rw[List.getD_eq_getElem?_getD,List.getElem?_eq_getElem hkl];rfl
   rw[List.take_add_one,List.getElem?_eq_getElem hkl,Option.toList_some,e,←Bool.decide_or]
   refine decide_eq_decide.2 ?_
   rw[List.mem_append,List.mem_singleton]
   exact⟨λh=>h.imp id λh=>h.symm,λh=>h.imp id λh=>h.symm⟩
  refine⟨λhk=> ?_,λhk=> ?_⟩
  ·have hk:k<i:=by have:=of_decide_eq_true hk;omega
   have ts:=TS hk
   refine⟨λha=>⟨rfl,rfl,rfl,rfl,rfl,rfl,rfl,rfl,rfl,λ_=>⟨bkk,(k+1,true,l9),rfl,by show((k+1:Nat):Int)=_;omega,rfl,rfl,rfl,rfl,rfl,rfl,rfl,rfl,rfl,rfl,rfl,rfl,rfl,rfl,rfl,rfl,rfl,rfl,rfl,rfl,rfl,rfl,rfl,λq hq=>hq.1,λq hq=>hq.2,⟨by show k+1<=i;omega,f9,hk9,by show true=decide (j∈(kOf l9).take (k+1));rw[ts,←hah,ha];rfl⟩,by show i- (k+1)<i- k;omega,trivial⟩,λh=>(by rw[ha]at h;cases h)⟩,λha=>⟨rfl,rfl,bw k (by omega),cl.1,rfl,rfl,nm4 (kAt l9 k),λq hq=>(z32 hq.2 (i:=k) (by rw[f9.2];omega)).2,rfl,rfl,rfl,bj,rfl,nm4 j,z38 hjz,rfl,λh=>(by rw[ha]at h;cases h),λ_=>⟨bkk,(k+1,decide (nm4 (kAt l9 k)=nm4 j),l9),rfl,by show((k+1:Nat):Int)=_;omega,rfl,rfl,rfl,rfl,rfl,rfl,rfl,rfl,rfl,rfl,rfl,rfl,rfl,rfl,rfl,rfl,rfl,rfl,rfl,rfl,rfl,rfl,rfl,λq hq=>hq.1,λq hq=>hq.2,⟨by show k+1<=i;omega,f9,hk9,by show decide (nm4 (kAt l9 k)=nm4 j)=decide (j∈(kOf l9).take (k+1));rw[z7w (k4 l9 f9 k (by omega)) hjz,ts,←hah,ha];rfl⟩,by show i- (k+1)<i- k;omega,trivial⟩⟩⟩
  ·obtain rfl:k=i:=by have:=of_decide_eq_false hk;omega
   have bme:(0:Int)<=((kAt l7 k:Nat):Int)/\((kAt l7 k:Nat):Int)<((4:Nat):Int):=⟨by omega,by omega⟩
   have hk97:kAt l7 k=kAt l9 k:=by omega
   refine⟨bme,bj,wR L 0 (kAt l7 k) j,z2q (wR L 0) ki hjz,λhd=>⟨λhna=> ?_,λ_=>⟨bjj,(j+1,l9),by show((j+1:Nat):Int)=_;omega,rfl,rfl,rfl,rfl,rfl,rfl,rfl,rfl,rfl,rfl,rfl,rfl,rfl,rfl,rfl,rfl,rfl,rfl,rfl,rfl,rfl,rfl,λq hq=>hq.1.1,λq hq=>hq.2,⟨by show j+1<=4;omega,f9,hk9⟩,by show 4- (j+1)<4- j;omega,trivial⟩⟩,λ_=>⟨bjj,(j+1,l9),by show((j+1:Nat):Int)=_;omega,rfl,rfl,rfl,rfl,rfl,rfl,rfl,rfl,rfl,rfl,rfl,rfl,rfl,rfl,rfl,rfl,rfl,rfl,rfl,rfl,rfl,rfl,λq hq=>hq.1.1,λq hq=>hq.2,⟨by show j+1<=4;omega,f9,hk9⟩,by show 4- (j+1)<4- j;omega,trivial⟩⟩
   have hd:j∈gI L (kAt l7 k):=of_decide_eq_true hd
   rw[hk97]at hd
   have:=zaf f9.1 (i:=k) (by rw[l9l];omega) hd
   rw[hah,decide_eq_true this]at hna
   cases hna
 ·exact⟨bii,(i+1,l8),rfl,rfl,rfl,rfl,by show((i+1:Nat):Int)=_;omega,rfl,rfl,rfl,rfl,rfl,rfl,rfl,rfl,rfl,rfl,rfl,rfl,rfl,rfl,rfl,rfl,λq hq=>hq.1.1.1,λq hq=>hq.2,⟨by show i+1<=wnN L 4;omega,f8⟩,by show wnN L 4- (i+1)<wnN L 4- i;omega,trivial⟩
 ·have:=of_decide_eq_false h;omega
 ·have:=of_decide_eq_false h;omega
section
def ziz{f:Nat} {C:Ct} (h:q7w P f C) (s:C.σ) (vs:List Value) (ha:C.args s=vs.map .sv) (hh:C.h s=[]) (r:Value) (hr:C.r s= .sv r) (w:World) (hp:C.pre s) (hm:(C.mem s).ok (q1k (λ_ b=>b<w.heap.size) w)):
  Calls P f ⟨vs⟩ w λe w'=>e= .returned r/\Below w.heap.size w w':=by
 obtain⟨h1,h2,_,h4⟩:=h
 obtain⟨h0,h1',e1,e2,h5⟩:=h4 s
 rw[hh]at e1
 cases e1
 refine(h5 (λ_ b=>b<w.heap.size) (λi=>if i=0 then some (0,0,0)else none) w vs (by rw[ha];exact VRs.svs vs) ⟨λid o b t h=> ?_,λid id' o o' b t t' h=> ?_,λid o b t h=> ?_⟩ (λ_ h=>h) (λ_ h=>h) hp hm (λi hi=>if_neg (by omega)) (if_pos rfl)).mono λe w' he=> ?_
 ·rw[T.get_e]at h;cases h
 ·rw[T.get_e]at h;cases h
 ·rw[T.get_e]at h;cases h
 obtain⟨z,I',rfl,hz,hg,_⟩:=he
 rw[hr]at hz
 cases hz
 exact⟨rfl,⟨hg.same.1,hg.same.2,hg.same.3,hg.size,λk hk=>hg.fr k hk⟩⟩
def Laid(w:World):Prop:=∃m e fr,w.heap[1]? =some (.cells #[.int .i64 m] e fr)
variable {w:World}
def zab{P:Program} {g:Nat} {t:TypeId} {zero:Array Value} {k:IntKind}
  (h:w.ShapedOpen P) (hg:g<P.globals.size)
  (h0:((begin P (λ_ _=>0) default).world.heap[g]?).bind Obj.row? =some (zero,t)) (hz:zero.size=1)
  (hb:P.buildable t=true) (hc:P.cellTypes P.depth t=some [t]) (hu:P.underlying t=some (.int k)):
  ∃m e fr,w.heap[g]? =some (.cells #[.int k m] e fr):=by
 obtain⟨cs,hh,hs,hr⟩:=h.1 g zero t hg h0
 obtain⟨ts,hts,_,hall⟩:=hr hb
 rw[hc]at hts
 cases hts
 have h1:cs.size=1:=by omega
 obtain⟨u,hu',hok⟩:=hall 0 cs[0] (by simp[h1])
 have:u=t:=by simpa using hu'.symm
 subst this
 unfold Cell.ok at hok
 rw[hu]at hok
 have hcs:cs= #[cs[0]]:=by
  apply Array.ext
  ·simp[h1]
  ·intro i h2 h3
   have:i=0:=by omega
   subst this;simp
 cases hv:cs[0]<;>rw[hv]at hok<;>simp at hok
 case int k' n=>
  rw[hcs,hv,hok.1]at hh
  exact⟨n,_,_,hh⟩
def laid_of(h:w.ShapedOpen P):Laid w:=
 zab (t:=3) (zero:= #[.int .i64 0]) (k:= .i64) h (by decide+kernel) (by kernel_rfl) (by rfl) (by kernel_rfl) (by kernel_rfl) Go.Proofs.Tryd.underlying3
def znd(h:Laid w):hG.ok (q1k (λ_ b=>b<w.heap.size) w):=by
 obtain⟨m,e,fr,hw⟩:=h
 refine⟨m,?_⟩
 have hp:q1k (λ_ b=>b<w.heap.size) w 1=some (.cells #[.int .i64 m] e fr):=q06.mpr ⟨(Array.getElem?_eq_some_iff.mp hw).1,hw⟩
 unfold q88
 simp only[hp];rfl
abbrev znv(w:World):Pub:=q1k (λ_ b=>b<w.heap.size) w
def z56{a:Addr} {v:Value} (h:w.cell? a=some v):q88 (znv w) a=some v/\a.spot=none:=by
  unfold World.cell? at h
  cases ho:w.heap[a.block]? with
  |none=>rw[ho]at h;cases h
  | some o=>
    have hlt:a.block<w.heap.size:=(Array.getElem?_eq_some_iff.1 ho).1
    have hp:znv w a.block=some o:=q06.2 ⟨hlt,ho⟩
    rw[ho]at h
    unfold q88
    rw[hp]
    cases o<;>simp only at h<;>first|cases h|skip
    cases hs:a.spot with
    |none=>rw[hs]at h;simp[qej,hs]at h⊢;exact h
    |some k=>rw[hs]at h;simp at h
def zi8(w:World) (a:Option Addr) (len cap:Nat) (z:List Int):Prop:=(a=none/\len=0/\cap=0/\z=[])\/∃x,a=some x/\len<=cap/\cap<=maxLen/\z.length=cap/\(∀i,i<z.length->w.cell? (x.add i)=some (.int .u8 (z.getD i 0)))/\∀n∈z,(Lit.int .u8 n).wf=true
def z3q:∀L:List Int,(z5x L).length=L.length
 | []=>rfl
 |b::L=>by rw[z5x,List.length_cons,List.length_cons,z3q L]
def zjr{a:Option Addr} {len cap:Nat} {z:List Int} (h:zi8 w a len cap z):∃L:List Int,byP (a,len,cap) L (znv w)/\L.length<9223372036854775808/\∀b∈L,0<=b/\b<256:=by
 rcases h with⟨rfl,rfl,rfl,rfl⟩|⟨x,rfl,hl,hm,hz,hc,hw⟩
 ·exact⟨[],⟨rfl,Nat.le_refl _, .inl ⟨rfl,z0w⟩⟩,by simp,λb hb=>by cases hb⟩
 have hlen:(z.take len).length=len:=by rw[List.length_take];omega
 have hat:∀(i:Nat) (hi:i<(z.take len).length),w.cell? (x.add i)=some (.int .u8 (z.take len)[i]):=λi hi=>by
  have hiz:i<z.length:=by omega
  have:=hc i hiz
  rw[List.getD_eq_getElem?_getD,List.getElem?_eq_getElem hiz]at this
  simpa using this
 refine⟨z.take len,⟨hlen.symm,hl,?_⟩,by unfold maxLen at hm;omega,λb hb=> ?_⟩
 ·by_cases h0:z.take len=[]
  ·rw[h0];exact .inl ⟨rfl,trivial⟩
  ·have hpos:0<(z.take len).length:=List.length_pos_iff.2 h0
   have e0:x.add 0=x:=by unfold Addr.add;rw[if_pos rfl]
   have hp0:=z56 (hat 0 hpos)
   rw[e0]at hp0
   refine .inr ⟨x,rfl,hp0.2,λj v hj=> ?_⟩
   have hjl:j<(z.take len).length:=by
    have:=(List.getElem?_eq_some_iff.1 hj).1
    rw[z3q]at this;exact this
   rw[z1v _ hjl]at hj
   rw[(z56 (hat j hjl)).1,←hj]
 ·have hw:=hw b (List.mem_of_mem_take hb)
  simp only[Lit.wf,Bool.and_eq_true,decide_eq_true_eq]at hw
  have h1:IntKind.min .u8=0:=by decide
  have h2:IntKind.max .u8=255:=by decide
  omega
def zib(h1:Laid w) (h2:LaidK w):bgM.ok (q1k (λ_ b=>b<w.heap.size) w):=by
 obtain⟨e,fr,h⟩:=h2
 exact⟨znd h1,e,fr,q06.2 ⟨(Array.getElem?_eq_some_iff.1 h).1,h⟩⟩
end
def net_law_wf(a0:Option Addr) (len0 cap0:Nat) (z0:List Int) (w:World) (w0:zi8 w a0 len0 cap0 z0) (hl:Laid w) (hk:LaidK w):Calls P 5 #[.slice a0 len0 cap0] w λe w'=>e= .returned (.bool true)/\Below w.heap.size w w':=by
 obtain⟨L,hx,hL⟩:=zjr w0
 exact ziz zjf ⟨(a0,len0,cap0),L⟩ [.slice a0 len0 cap0] rfl rfl (.bool true) rfl w ⟨hL.1,hL.2⟩ ⟨hx,zib hl hk⟩
end
end Go.Proofs.YtdaokgdnjaaofaaDoor.Wd
