/- Texts laid together. -/
import Derived.Test.YtmikbldbfnlfjaaGreatDoorAs7
import Derived.Shelf.Strconv.Clone
import Derived.Shelf.GgClosure.StringsIndexFuncTop
import Derived.Laws.RangeAny
set_option maxRecDepth 10000
set_option maxHeartbeats 4000000
namespace Go.Proofs
open Go.Shelf
def Tryz.lays316_ren : Go.Shelf.Ren := ⟨fun | 316 => 55 | n => n, fun | 9 => 9 | 3 => 3 | 4 => 4 | 37 => 138 | 0 => 0 | 127 => 139 | 5 => 5 | n => n, fun | n => n⟩
theorem Tryz.lays316 : Go.Proofs.LaysM.n316 Tryz.prog Tryz.lays316_ren := {
  mixed := by kernel_rfl
  f316 := Tryz.func55.trans (congrArg some (by kernel_rfl))
  t0 := Tryz.underlying0
  a0 := Tryz.isAgg0
  z0 := Tryz.sizeOf0
  v0 := Tryz.zeroValue0
  t3 := Tryz.underlying3
  a3 := Tryz.isAgg3
  z3 := Tryz.sizeOf3
  v3 := Tryz.zeroValue3
  t4 := Tryz.underlying4
  a4 := Tryz.isAgg4
  z4 := Tryz.sizeOf4
  v4 := Tryz.zeroValue4
  t9 := Tryz.underlying9
  a9 := Tryz.isAgg9
  z9 := Tryz.sizeOf9
  v9 := Tryz.zeroValue9
  t37 := Tryz.underlying138
  a37 := Tryz.isAgg138
  z37 := Tryz.sizeOf138
  v37 := Tryz.zeroValue138
  t127 := Tryz.underlying139
  a127 := Tryz.isAgg139
  z127 := Tryz.sizeOf139
  v127 := Tryz.zeroValue139
  t5 := Tryz.underlying5
  a5 := Tryz.isAgg5
  z5 := Tryz.sizeOf5
  v5 := Tryz.zeroValue5
  i0 := by kernel_rfl
  i3 := by kernel_rfl
  i4 := by kernel_rfl
  i5 := by kernel_rfl
  i9 := by kernel_rfl
  i37 := by kernel_rfl
  i127 := by kernel_rfl }
open Go.RowKit in
/-- internal/stringslite.Clone. -/
theorem Tryz.stringslite_Clone (s : ByteArray) (w : World) (hlim : s.size ≤ 281474976710656) :
    Calls Tryz.prog 55 #[.string s] w fun e w' => e = .returned (.string s) ∧ Below w.heap.size w w' := Any.stringslite_Clone Tryz.lays316 s w hlim
def Tryz.laysGw17_ren : Go.Shelf.Ren := ⟨fun | 17 => 103 | 15 => 128 | 20 => 149 | n => n, fun | 9 => 9 | 23 => 174 | 4 => 4 | 3 => 3 | 0 => 0 | 21 => 21 | n => n, fun | n => n⟩
theorem Tryz.laysGw17 : Go.Proofs.LaysGw.n17 Tryz.prog Tryz.laysGw17_ren := {
  mixed := by kernel_rfl
  f15 := Tryz.func128.trans (congrArg some (by kernel_rfl))
  f17 := Tryz.func103.trans (congrArg some (by kernel_rfl))
  f20 := Tryz.func149.trans (congrArg some (by kernel_rfl))
  t0 := Tryz.underlying0
  a0 := Tryz.isAgg0
  z0 := Tryz.sizeOf0
  v0 := Tryz.zeroValue0
  i0 := by kernel_rfl
  t3 := Tryz.underlying3
  a3 := Tryz.isAgg3
  z3 := Tryz.sizeOf3
  v3 := Tryz.zeroValue3
  i3 := by kernel_rfl
  t4 := Tryz.underlying4
  a4 := Tryz.isAgg4
  z4 := Tryz.sizeOf4
  v4 := Tryz.zeroValue4
  i4 := by kernel_rfl
  t9 := Tryz.underlying9
  a9 := Tryz.isAgg9
  z9 := Tryz.sizeOf9
  v9 := Tryz.zeroValue9
  i9 := by kernel_rfl
  t21 := Tryz.underlying21
  a21 := Tryz.isAgg21
  z21 := Tryz.sizeOf21
  v21 := Tryz.zeroValue21
  i21 := by kernel_rfl
  t23 := Tryz.underlying174
  a23 := Tryz.isAgg174
  z23 := Tryz.sizeOf174
  v23 := Tryz.zeroValue174
  i23 := by kernel_rfl }
open Go.RowKit in
/-- strings.ContainsFunc. -/
theorem Tryz.strings_ContainsFunc (g : Nat) (lb : Array Value) (eg : ∀ args w, (callFunc g args).run Tryz.prog w = .ok (.enter g args) w) (p : Nat → Bool) (s : ByteArray) (w : World) (hp : PredAt Tryz.prog g lb encR p w) :
    Calls Tryz.prog 103 #[.string s, .func (.func g) #[] lb] w fun e w' => e = .returned (.bool (decide (0 ≤ Lib.idxFunc p true s))) ∧ Below w.heap.size w w' := Any.strings_ContainsFunc Tryz.laysGw17 g lb eg p s w hp
end Go.Proofs
namespace Go.Proofs.YtmikbldbfnlfjaaGreatDoor
open Go.RowKit
variable {n k i:Nat}{t:Int×Int}{S:(Int×Int)×ByteArray×Bool}{L all:List Yb}{v:Yb}{l F:List ByteArray}{x y:ByteArray}{m:Zb}{w w' j:World}{ad:Nat->Addr}
structure Xg where
 n:Int
 k:Int
 L:List ByteArray
def Jg (c:Xg):Int×Int:=if 1<=c.k/\c.k<=c.n/\c.n<=12 then (if (c.L.length:Int)=c.n then Xj c.L else (3,-1)) else (2,-1)
theorem vZ {c:Xg} (h:¬ (1<=c.k/\c.k<=c.n/\c.n<=12)):Jg c=(2,-1):=if_neg h
theorem FM {c:Xg} (h:1<=c.k/\c.k<=c.n/\c.n<=12) (j:¬ (c.L.length:Int)=c.n):Jg c=(3,-1):=by unfold Jg;rw [if_pos h,if_neg j]
theorem wU {c:Xg} (h:1<=c.k/\c.k<=c.n/\c.n<=12) (j:(c.L.length:Int)=c.n):Jg c=Xj c.L:=by unfold Jg;rw [if_pos h,if_pos j]
theorem Xm {c:Xg} (h:¬ 0 < (Jg c).1):(1<=c.k/\c.k<=c.n/\c.n<=12)/\(c.L.length:Int)=c.n/\Jg c=(0,-1)/\(∀ x ∈ c.L,Jo x=true)/\c.L.Nodup:=by
 by_cases j:1<=c.k/\c.k<=c.n/\c.n<=12
 ·by_cases y:(c.L.length:Int)=c.n
  ·rw [wU j y] at h ⊢
   have D:(Xj c.L).1<=0:=by omega
   exact ⟨j,y,(QV D).1,(YP D).1,(YP D).2⟩
  ·rw [FM j y] at h
   exact absurd (by decide) h
 ·rw [vZ j] at h
  exact absurd (by decide) h
def Jh (c:Xg):Nat:=(c.n.toNat+c.k.toNat+1) / 2
structure pG (n k:Nat) (S:Int×List (Int×ByteArray)):Prop where
 some_:S.2=[]∨0<=S.1
 le:S.1<=1000
 each:∀ x ∈ S.2,0<=x.1/\x.1 < n/\x.2.size=Jk k S.1.toNat
 one:(S.2.map Prod.fst).Nodup
theorem RV  {S:Int×List (Int×ByteArray)} (v:Yb) (h:pG n k S):pG n k (ZT n k t S v):=by
 by_cases j:v.n=t.1/\v.who=t.2/\YO n k v=true
 ·have I:=j.2.2
  unfold YO at I
  rw [Bool.and_eq_true] at I
  obtain ⟨c1,c2,c3,c4,c5⟩:=of_decide_eq_true I.2
  by_cases J:S.1 < 0
  ·have M : S.2 = [] := by
    rcases h.some_ with e | e
    ·exact e
    ·omega
   rw [ZO (z:=v.size) j (by rw [if_pos J]),M]
   refine ⟨Or.inr c1,c2,fun x D=>?_,?_⟩
   ·simp at D
    subst D
    exact ⟨c3,c4,c5⟩
   ·simp
  ·rw [ZO (z:=S.1) j (by rw [if_neg J])]
   by_cases G:v.size=S.1/\S.2.any (fun y=>y.1==v.at_)=false
   ·rw [if_pos G]
    refine ⟨Or.inr (by show 0<=S.1;omega),h.le,fun x D=>?_,?_⟩
    ·rcases List.mem_append.1 D with e | e
     ·exact h.each x e
     ·simp at e
      subst e
      exact ⟨c3,c4,by show v.text.size=Jk k S.1.toNat;rw [<- G.1];exact c5⟩
    ·show ((S.2 ++ [(v.at_,v.text)]).map Prod.fst).Nodup
     rw [List.map_append]
     refine List.nodup_append.2 ⟨h.one,by simp,fun a N b K e=>?_⟩
     simp at K
     subst K e
     obtain ⟨y,O,Q⟩:=List.mem_map.1 N
     have:=List.any_eq_false.1 G.2 y O
     exact this (by simp [Q])
   ·rw [if_neg G]
    exact ⟨h.some_,h.le,h.each,h.one⟩
 ·rw [oL j]
  exact h
theorem Jpv (n k:Nat) (t:Int×Int) (L:List Yb):pG n k (Zf n k t L):=by
 have j:∀ (L:List Yb) (S:Int×List (Int×ByteArray)),pG n k S->pG n k (L.foldl (ZT n k t) S):=by
  intro L
  induction L with
  | nil=>intro S h;exact h
  | cons v L ih=>intro S h;exact ih _ (RV v h)
 exact j L _ ⟨Or.inl rfl,by show (-1:Int)<=1000;decide,fun x y=>(by cases y),List.nodup_nil⟩
theorem vD (k:Nat) (l:List (Int×ByteArray)) (J:(l.map Prod.fst).Nodup):∀ i,i<=l.length->Qg k l i=l.take (min k i)
 | 0,_=>by simp [Qg]
 | i+1,hi=>by
  have ih:=vD k l J i (by omega)
  have I:Ji l i=l[i]:=by
   unfold Ji
   rw [List.getD_eq_getElem?_getD,List.getElem?_eq_getElem (by omega)]
   rfl
  by_cases O:i < k
  ·have D:min k i=i:=by omega
   have G:min k (i+1)=i+1:=by omega
   rw [D] at ih
   rw [G,rJ (by rw [ih,List.length_take];omega) (by
    rw [ih,List.any_eq_false]
    intro y K M
    obtain ⟨j,Q,N⟩:=List.mem_take_iff_getElem.1 K
    have U:j < i:=by omega
    have e:l[j].1=l[i].1:=by rw [N,<- I];simpa using M
    have:=(List.getElem_inj (h₀:=by rw [List.length_map];omega) (h₁:=by rw [List.length_map];omega) J).1 (show (l.map Prod.fst)[j]'(by rw [List.length_map];omega)=(l.map Prod.fst)[i]'(by rw [List.length_map];omega) by rw [List.getElem_map,List.getElem_map];exact e)
    omega),ih,I]
   exact (List.take_succ_eq_append_getElem (by omega)).symm
  ·have D:min k i=k:=by omega
   have G:min k (i+1)=k:=by omega
   rw [D] at ih
   rw [G,qH (by rw [ih,List.length_take];omega),ih]
theorem FF  (I:1<=k) (h:¬ (Zf n k t L).2.length < k):(((Zf n k t L).1.toNat:Nat):Int)=(Zf n k t L).1/\(Zf n k t L).1.toNat<=1000/\l5 n k (Zf n k t L).1.toNat (Zf n k t L).2/\∀ i,(Ji (Zf n k t L).2 i).2.size<=100000:=by
 have j:=Jpv n k t L
 generalize Zf n k t L=S at *
 have J:0<=S.1:=by
  rcases j.some_ with e | e
  ·rw [e] at h;simp at h;omega
  ·exact e
 have K:=j.le
 have M:=xR (size:=S.1.toNat) I
 refine ⟨by omega,by omega,⟨?_,?_⟩,fun i=>?_⟩
 ·rw [List.any_eq_false]
  intro x G y
  obtain ⟨N,O,Q⟩:=j.each x G
  unfold j4 at y
  simp only [Bool.or_eq_true,decide_eq_true_eq,Bool.not_eq_true',decide_eq_false_iff_not] at y
  omega
 ·rw [vD k S.2 j.one _ (Nat.le_refl _),List.length_take]
  omega
 ·by_cases D:i < S.2.length
  ·have e : Ji S.2 i = S.2[i] := by
    unfold Ji
    rw [List.getD_eq_getElem?_getD,List.getElem?_eq_getElem D]
    rfl
   have:=(j.each _ (List.getElem_mem D)).2.2
   rw [e,this]
   omega
  ·unfold Ji
   rw [List.getD_eq_getElem?_getD,List.getElem?_eq_none (by omega)]
   show (0:Nat)<=_
   omega
def XH (n k:Nat) (all:List Yb) (S:(Int×Int)×ByteArray×Bool) (v:Yb):(Int×Int)×ByteArray×Bool :=
 if S.2.2=true/\Qd S.1 (v.n,v.who)=false then S
 else if (Zf n k (v.n,v.who) all).2.length < k then S
 else ((v.n,v.who),gB k (Zf n k (v.n,v.who) all).1.toNat (Qg k (Zf n k (v.n,v.who) all).2 (Zf n k (v.n,v.who) all).2.length),true)
def Ys (n k:Nat) (all L:List Yb):(Int×Int)×ByteArray×Bool:=L.foldl (XH n k all) ((0,0),⟨#[]⟩,false)
theorem OP  (j:i < L.length):Ys n k all (L.take (i+1))=XH n k all (Ys n k all (L.take i)) (Xd L i):=by
 unfold Ys
 rw [List.take_add_one,Xx j,List.foldl_append]
 rfl
theorem Jkh   (h:S.2.2=true/\Qd S.1 (v.n,v.who)=false):XH n k all S v=S:=if_pos h
theorem Jki   (h:¬ (S.2.2=true/\Qd S.1 (v.n,v.who)=false)) (j:(Zf n k (v.n,v.who) all).2.length < k):XH n k all S v=S:=by unfold XH;rw [if_neg h,if_pos j]
theorem S6   (h:¬ (S.2.2=true/\Qd S.1 (v.n,v.who)=false)) (j:¬ (Zf n k (v.n,v.who) all).2.length < k):XH n k all S v=((v.n,v.who),gB k (Zf n k (v.n,v.who) all).1.toNat (Qg k (Zf n k (v.n,v.who) all).2 (Zf n k (v.n,v.who) all).2.length),true):=by unfold XH;rw [if_neg h,if_neg j]
def rO:ByteArray:=⟨#[108,111,111,107]⟩
def sW:ByteArray:=⟨#[116,111,108,100]⟩
def JJ:ByteArray:=⟨#[107,101,101,112]⟩
def iS:ByteArray:=⟨#[107,101,112,116]⟩
def C3:ByteArray:=⟨#[115,101,97,108]⟩
def Q7:ByteArray:=⟨#[115,101,97,108,101,100]⟩
def Jrl:ByteArray:=⟨#[108,111,111,107,105,110,103]⟩
def OZ:ByteArray:=⟨#[115,101,97,108,105,110,103]⟩
def K2:ByteArray:=⟨#[107,101,101,112,105,110,103]⟩
def R0:ByteArray:=⟨#[100,111,110,101]⟩
def WT:ByteArray:=⟨#[114,101,102,117,115,101,100]⟩
inductive St where
 | looking | sealing | keeping | done | refused
 deriving DecidableEq
def St.word:St->ByteArray
 | .looking=>Jrl
 | .sealing=>OZ
 | .keeping=>K2
 | .done=>R0
 | .refused=>WT
def St.waits:St->ByteArray
 | .looking=>sW
 | .sealing=>Q7
 | .keeping=>iS
 | _=>⟨#[]⟩
structure Za where
 name:ByteArray
 key:ByteArray
 who:Int
 op:Int
 config:Int
 c:Xg
 next:Xg
 put:Bool
 aI:Bool
 st:St
 from_:List ByteArray
 L:List (List Yb)
 tag:Int×Int
 text:ByteArray
 found:Bool
def Za.sQ (a:Za) (i:Nat):Yb:=⟨a.tag.1,a.tag.2,(a.text.size:Int),(i:Int),JW a.c.k.toNat a.text i⟩
def Za.send (a:Za) (kind:ByteArray) (j:Bool):List Zb:=(List.range a.c.L.length).map fun i=>⟨a.name,Yc a.c.L i,kind,a.key,a.op,a.config,false,if j then [a.sQ i] else []⟩
def Za.begin (a:Za):List Zb:=if a.aI then (if a.st=.sealing then a.send C3 false else []) else a.send rO false
def Xq (from_:List ByteArray) (L:List (List Yb)):List ByteArray->List (List Yb)
 | []=>[]
 | m :: r=>if Xu from_ m then L.getD (ZJ from_ m) [] :: Xq from_ L r else Xq from_ L r
def Yk (n:Int) (v:Yb):Int:=if n < v.n/\v.n<=1099511627776 then v.n else n
def XF (L:List (List Yb)):Int:=L.flatten.foldl Yk 0
def Za.aM (a:Za) (m:Zb):Bool:=decide (a.st.waits≠⟨#[]⟩/\m.kind=a.st.waits/\m.aP=a.name/\m.key=a.key/\m.op=a.op/\m.config=a.config) && (Xu a.c.L m.from_ && !Xu a.from_ m.from_)
def Za.heard (a:Za) (m:Zb):Za:={ a with from_:=a.from_ ++ [m.from_],L:=a.L ++ [m.L] }
def Za.bR (a:Za):Za:=if a.put then { a with tag:=(XF a.L+1,a.who),found:=true } else { a with tag:=(Ys a.c.n.toNat a.c.k.toNat (Xq a.from_ a.L a.c.L).flatten (Xq a.from_ a.L a.c.L).flatten).1,text:=(Ys a.c.n.toNat a.c.k.toNat (Xq a.from_ a.L a.c.L).flatten (Xq a.from_ a.L a.c.L).flatten).2.1,found:=(Ys a.c.n.toNat a.c.k.toNat (Xq a.from_ a.L a.c.L).flatten (Xq a.from_ a.L a.c.L).flatten).2.2 }
def Za.keeps (a:Za):Za:=if a.aI then { a with st:=.keeping,from_:=[],L:=[],c:=a.next,config:=a.config+1 } else { a with st:=.keeping,from_:=[],L:=[] }
def Za.aD (a:Za) (m:Zb):Za×List Zb :=
 if a.aM m=false then (a,[])
 else if m.shut=true/\a.st≠.sealing then ({ a with st:=.refused },[])
 else if (a.heard m).from_.length < Jh a.c then (a.heard m,[])
 else if a.st=.keeping then ({ a.heard m with st:=.done },[])
 else if (a.heard m).bR.found=false then ({ (a.heard m).bR with st:=.done },[])
 else ((a.heard m).bR.keeps,(a.heard m).bR.keeps.send JJ true)
theorem lM {s:ByteArray} (h:s ∈ l):ZJ l s < l.length:=by
 unfold ZJ
 exact List.findIdx_lt_length_of_exists ⟨s,h,by simp⟩
def QK (a:Za) (x:ByteArray):List Yb:=a.L.getD (ZJ a.from_ x) []
def Zt (x:Int):Prop:=-9223372036854775808<=x/\x<=9223372036854775807
def Za.small (a:Za) (m:Zb):Prop:=a.L.flatten.length+m.L.length<=1000/\m.from_.size<=6000/\∀ v ∈ m.L,v.text.size<=6000
def Yt (a:Za) (l:List ByteArray):List (List Yb):=l.map fun x=>if Xu a.from_ x then QK a x else []
theorem NH {a:Za}  (h:i < l.length):Yt a (l.take (i+1))=Yt a (l.take i) ++ [if Xu a.from_ (Yc l i) then QK a (Yc l i) else []]:=by
 unfold Yt
 rw [List.take_succ_eq_append_getElem h,List.map_append,Xk l i h]
 rfl
theorem B7 (a:Za):∀ l:List ByteArray,(Yt a l).flatten=(Xq a.from_ a.L l).flatten
 | []=>rfl
 | x :: l=>by
  have ih:=B7 a l
  unfold Yt at ih ⊢
  rw [List.map_cons,List.flatten_cons,ih]
  by_cases h:Xu a.from_ x=true
  ·have j:Xq a.from_ a.L (x :: l)=a.L.getD (ZJ a.from_ x) [] :: Xq a.from_ a.L l:=if_pos h
   rw [if_pos h,j,List.flatten_cons]
   rfl
  ·have j:Xq a.from_ a.L (x :: l)=Xq a.from_ a.L l:=if_neg h
   rw [if_neg h,j,List.nil_append]
theorem GF  (j:y ∈ F):ZJ (F ++ [x]) y=ZJ F y:=by
 unfold ZJ
 rw [List.findIdx_append]
 rw [if_pos (List.findIdx_lt_length_of_exists ⟨y,j,by simp⟩)]
theorem D4  (y:x ∉ F):ZJ (F ++ [x]) x=F.length:=by
 unfold ZJ
 rw [List.findIdx_append]
 have h:List.findIdx (fun z=>decide (z=x)) F=F.length:=by
  rw [List.findIdx_eq_length]
  intro z j
  exact decide_eq_false (fun e=>y (e ▸ j))
 rw [if_neg (by omega)]
 simp
theorem JrW {a:Za} (D:a.from_.length=a.L.length) (j:y ∈ a.from_):QK (a.heard m) y=QK a y:=by
 unfold QK Za.heard
 show (a.L ++ [m.L]).getD (ZJ (a.from_ ++ [m.from_]) y) []=_
 rw [GF j,List.getD_eq_getElem?_getD,List.getD_eq_getElem?_getD,List.getElem?_append_left (by rw [<- D];exact lM j)]
theorem JrX {a:Za} (j:a.from_.length=a.L.length) (y:m.from_ ∉ a.from_):QK (a.heard m) m.from_=m.L:=by
 unfold QK Za.heard
 show (a.L ++ [m.L]).getD (ZJ (a.from_ ++ [m.from_]) m.from_) []=_
 rw [D4 y,j,List.getD_eq_getElem?_getD,List.getElem?_append_right (Nat.le_refl _),Nat.sub_self]
 rfl
theorem vU (G:F.Nodup) (y:i < F.length):ZJ F F[i]=i:=DQ y (Xk F i y) fun j D e=>by
 rw [Xk F j (by omega)] at e
 exact List.pairwise_iff_getElem.1 G j i (by omega) y D e
theorem J4 {a:Za} (K:a.from_.length=a.L.length) (M:a.from_.Nodup) (N:∀ x ∈ a.from_,x ∈ a.c.L) (v:Yb):v ∈ (Yt a a.c.L).flatten↔v ∈ a.L.flatten:=by
 simp only [List.mem_flatten]
 constructor
 ·rintro ⟨l,D,j⟩
  unfold Yt at D
  obtain ⟨x,O,rfl⟩:=List.mem_map.1 D
  by_cases y:Xu a.from_ x=true
  ·rw [if_pos y] at j
   have G:ZJ a.from_ x < a.L.length:=by rw [<- K];exact lM (Zl.1 y)
   refine ⟨QK a x,?_,j⟩
   unfold QK
   rw [List.getD_eq_getElem?_getD,List.getElem?_eq_getElem G]
   exact List.getElem_mem G
  ·rw [if_neg y] at j
   cases j
 ·rintro ⟨l,D,j⟩
  obtain ⟨i,y,rfl⟩:=List.getElem_of_mem D
  have I:i < a.from_.length:=by omega
  have J:a.from_[i] ∈ a.from_:=List.getElem_mem I
  refine ⟨QK a a.from_[i],?_,?_⟩
  ·unfold Yt
   refine List.mem_map.2 ⟨a.from_[i],N _ J,?_⟩
   rw [if_pos (Zl.2 J)]
  ·unfold QK
   rw [vU M I,List.getD_eq_getElem?_getD,List.getElem?_eq_getElem y]
   exact j
theorem YE (a:Za):a.bR.c=a.c/\a.bR.key=a.key/\a.bR.name=a.name/\a.bR.aI=a.aI/\a.bR.who=a.who/\a.bR.op=a.op/\a.bR.config=a.config/\a.bR.st=a.st/\a.bR.from_=a.from_/\a.bR.L=a.L/\a.bR.put=a.put:=by
 unfold Za.bR
 split <;> exact ⟨rfl,rfl,rfl,rfl,rfl,rfl,rfl,rfl,rfl,rfl,rfl⟩
theorem tH  (h:x ∈ F):F[ZJ F x]'(lM h)=x:=by
 have:=List.findIdx_getElem (p:=fun z=>decide (z=x)) (xs:=F) (w:=lM h)
 exact of_decide_eq_true this
theorem xO (f:Nat->Nat):∀ (n:Nat) (I:List Nat),I.Nodup->(∀ i ∈ I,i < n)->(I.map f).sum<=((List.range n).map f).sum
 | 0,I,_,h=>by
  cases I with
  | nil=>exact Nat.le_refl _
  | cons i I=>exact absurd (h i (by simp)) (Nat.not_lt_zero _)
 | n+1,I,hn,h=>by
  rw [List.range_succ,List.map_append,List.sum_append]
  by_cases y:n ∈ I
  ·have G:I.Perm (n :: I.erase n):=List.perm_cons_erase y
   have e:(I.map f).sum=f n+((I.erase n).map f).sum:=by
    rw [(G.map f).sum_nat,List.map_cons,List.sum_cons]
   have:=xO f n (I.erase n) (hn.erase n) (fun i j=>by
    have D:=(List.Nodup.mem_erase_iff hn).1 j
    have:=h i D.2
    have:=D.1
    omega)
   simp
   omega
  ·have := xO f n I hn (fun i j => by
    have:=h i j
    have:i≠n:=fun e=>y (e ▸ j)
    omega)
   omega
theorem JrZ (L:List (List Yb)):L.flatten.length=((List.range L.length).map fun i=>(L.getD i []).length).sum:=by
 rw [List.length_flatten]
 congr 1
 refine List.ext_getElem (by simp) fun i j y=>?_
 simp at j
 simp [List.getElem?_eq_getElem j]
theorem AU {a:Za} (U:a.from_.length=a.L.length) (hn:a.from_.Nodup):∀ l:List ByteArray,l.Nodup->∃ I:List Nat,I.Nodup/\(∀ i ∈ I,i < a.L.length)/\(∀ i ∈ I,∃ x ∈ l,x ∈ a.from_/\i=ZJ a.from_ x)/\(Yt a l).flatten.length=(I.map fun i=>(a.L.getD i []).length).sum
 | [],_=>⟨[],List.nodup_nil,(fun i D=>by cases D),(fun i D=>by cases D),rfl⟩
 | x :: l,h=>by
  obtain ⟨W,X⟩:=List.nodup_cons.1 h
  obtain ⟨I,M,N,K,O⟩:=AU U hn l X
  have e:(Yt a (x :: l)).flatten.length=(if Xu a.from_ x then QK a x else []).length+(Yt a l).flatten.length:=by
   unfold Yt
   rw [List.map_cons,List.flatten_cons,List.length_append]
  by_cases D:Xu a.from_ x=true
  ·have J:=Zl.1 D
   refine ⟨ZJ a.from_ x :: I,List.nodup_cons.2 ⟨fun Y=>?_,M⟩,?_,?_,?_⟩
   ·obtain ⟨y,G,Q,Z⟩:=K _ Y
    have ex:a.from_[ZJ a.from_ x]'(lM J)=x:=tH J
    have ey:a.from_[ZJ a.from_ y]'(lM Q)=y:=tH Q
    have:x=y:=by rw [<- ex,<- ey];simp only [Z]
    exact W (this ▸ G)
   ·intro i j
    rcases List.mem_cons.1 j with rfl | j
    ·rw [<- U];exact lM J
    ·exact N i j
   ·intro i j
    rcases List.mem_cons.1 j with rfl | j
    ·exact ⟨x,by simp,J,rfl⟩
    ·obtain ⟨y,G,g⟩:=K i j
     exact ⟨y,by simp [G],g⟩
   ·rw [e,if_pos D,O,List.map_cons,List.sum_cons]
    rfl
  ·refine ⟨I,M,N,fun i j=>?_,?_⟩
   ·obtain ⟨y,G,g⟩:=K i j
    exact ⟨y,by simp [G],g⟩
   ·rw [e,if_neg D,O]
    simp
theorem PH {a:Za} (G:a.from_.length=a.L.length) (J:a.from_.Nodup) (K:l.Nodup):(Yt a l).flatten.length<=a.L.flatten.length:=by
 obtain ⟨I,j,y,_,D⟩:=AU G J l K
 rw [D,JrZ]
 exact xO _ _ I j y
theorem Jcb:∀ {l:List Yb} {v:Yb},v ∈ l->v.text.size<=Xi l
 | u :: l,v,h=>by
  have e:Xi (u :: l)=40+u.text.size+Xi l:=by unfold Xi;rw [List.map_cons,List.sum_cons]
  rw [e]
  rcases List.mem_cons.1 h with rfl | h
  ·omega
  ·have:=Jcb h
   omega
theorem Jef {a:Za} (h:Xi a.L.flatten+nR m<=6000):a.small m:=by
 unfold nR at h
 have y:=WZ m.L
 have D:=WZ a.L.flatten
 refine ⟨by omega,by omega,fun v j=>?_⟩
 have:=Jcb j
 omega
theorem EM {a:Za} (h:a.small m):m.from_.size<=6000/\m.L.length<=1000/\(∀ v ∈ m.L,v.text.size<=6000)/\a.L.flatten.length<=1000/\(a.heard m).L.flatten.length<=1000:=by
 obtain ⟨D,j,y⟩:=h
 have G:(a.heard m).L.flatten.length=a.L.flatten.length+m.L.length:=by
  show (a.L ++ [m.L]).flatten.length=_
  rw [List.flatten_append,List.length_append]
  simp
 exact ⟨j,by omega,y,by omega,by omega⟩
def iE (c:Xg) (lv:Value):Value:=.agg #[.int .i64 c.n,.int .i64 c.k,lv]
structure Zp (w:World) (ad:Nat->Addr):Prop where
 c1:w.cell? ⟨0,0,none⟩=some (.iface 252 (.pointer (some (ad 1))))
 c2:w.cell? ⟨2,0,none⟩=some (.iface 252 (.pointer (some (ad 2))))
 c3:w.cell? ⟨3,0,none⟩=some (.iface 252 (.pointer (some (ad 3))))
 c4:w.cell? ⟨4,0,none⟩=some (.iface 252 (.pointer (some (ad 4))))
 c5:w.cell? ⟨5,0,none⟩=some (.iface 252 (.pointer (some (ad 5))))
theorem Zp.below  (h:Zp w ad) (j:Below w.heap.size w w'):Zp w' ad where
 c1:=(j.cell (Yl h.c1)).trans h.c1
 c2:=(j.cell (Yl h.c2)).trans h.c2
 c3:=(j.cell (Yl h.c3)).trans h.c3
 c4:=(j.cell (Yl h.c4)).trans h.c4
 c5:=(j.cell (Yl h.c5)).trans h.c5
def Jt5 (c:Xg):Prop:=(-9223372036854775808<=c.n/\c.n<=9223372036854775807)/\-9223372036854775808<=c.k/\c.k<=9223372036854775807
structure Yn (w:World) (c:Xg) (p:Option Addr) (cap:Nat):Prop where
 strs:Strs w p c.L
 room:c.L.length<=cap
 empty:p=none->c.L=[]/\cap=0
 len:c.L.length<=1000
 size:∀ x ∈ c.L,x.size<=1000
 ints:Jt5 c
theorem Yn.below {c:Xg} {p:Option Addr} {j:Nat} (h:Yn w c p j) (y:Below w.heap.size w w'):Yn w' c p j:=⟨h.strs.below y,h.room,h.empty,h.len,h.size,h.ints⟩
theorem Jd.isNil  {j:Value} {at_:Int} (h:Jd w ad j 0 at_):j=.nilIface:=by
 rcases h with ⟨h,_⟩ | ⟨i,_,_,h,_⟩ | ⟨i,_,_,_,h,_⟩
 ·exact h
 ·omega
 ·omega
theorem Ja9 (c:Int) (w:World):Calls Tryz.prog 27 #[.int .i64 c] w fun e w'=>e=.returned (.agg #[.int .i64 c,.int .i64 (-1)])/\Below w.heap.size w w':=by
 go_enter Tryz.func27,Tryz.ntmps27
 go_wp2
 refine bodyPost_ret (v:=.agg #[.int .i64 c,.int .i64 (-1)]) (by simp [results,Tryz.results27,go_sem]) rfl ⟨rfl,?_⟩
 exact (Below.refl _ _).alloc (Nat.le_refl _) _
theorem Jec (w:World):Calls Tryz.prog 77 #[] w fun e w'=>e=.returned (.agg #[.int .i64 0,.int .i64 (-1)])/\Below w.heap.size w w':=by
 go_enter Tryz.func77,Tryz.ntmps77
 go_wp2
 refine bodyPost_ret (v:=.agg #[.int .i64 0,.int .i64 (-1)]) (by simp [results,Tryz.results77,go_sem]) rfl ⟨rfl,?_⟩
 exact (Below.refl _ _).alloc (Nat.le_refl _) _
theorem Jbl (w:World) (t:TypeId) (j:World) (D:Below (w.alloc (.cells #[.int .i64 0,.int .i64 0] t)).heap.size (w.alloc (.cells #[.int .i64 0,.int .i64 0] t)) j) :
 j.cell? ⟨w.heap.size,0,none⟩=some (.int .i64 0)/\j.cell? ⟨w.heap.size,1,none⟩=some (.int .i64 0)/\j.frozen? ⟨w.heap.size,0,none⟩=false/\j.frozen? ⟨w.heap.size,1,none⟩=false:=by
 have y:w.heap.size < (w.alloc (.cells #[.int .i64 0,.int .i64 0] t)).heap.size:=by simp
 refine ⟨(D.cell (p:=⟨w.heap.size,0,none⟩) y).trans ?_,(D.cell (p:=⟨w.heap.size,1,none⟩) y).trans ?_,(D.frozen (p:=⟨w.heap.size,0,none⟩) y).trans ?_,(D.frozen (p:=⟨w.heap.size,1,none⟩) y).trans ?_⟩
 ·rw [World.cell?_alloc_at _ _ _ _ rfl];rfl
 ·rw [World.cell?_alloc_at _ _ _ _ rfl];rfl
 ·unfold World.frozen?;rw [heap_alloc_new];rfl
 ·unfold World.frozen?;rw [heap_alloc_new];rfl
theorem Jba {t:TypeId} (y:Below (w.alloc (.cells #[.int .i64 0,.int .i64 0] t)).heap.size (w.alloc (.cells #[.int .i64 0,.int .i64 0] t)) j):Below w.heap.size w j :=
 ((Below.refl _ w).alloc (Nat.le_refl _) _).trans (y.mono (by simp))
theorem U1 (y:Below w.heap.size w j) (a b:Value):Below w.heap.size w ((j.setCell ⟨w.heap.size,0,none⟩ a).setCell ⟨w.heap.size,1,none⟩ b):=by
 refine (y.setCell ?_ _).setCell ?_ _ <;> exact Nat.le_refl _
theorem JbF (p:Option Addr) (l:List ByteArray) (c:Nat) (w:World) (J:l.length<=1000000) (h:l.length < 1∨16 < l.length) :
 Calls Tryz.prog 54 #[.slice p l.length c] w fun e w'=>e=.returned (.agg #[.int .i64 2,.int .i64 (-1)])/\Below w.heap.size w w':=by
 rcases h with h | h
 ·go_enter Tryz.func54,Tryz.ntmps54
  go_wp2_with fail
  refine (Ja9 2 _).mono ?_
  rintro e y ⟨rfl,j⟩
  obtain ⟨D,G,f1,f2⟩:=Jbl w _ y j
  have I:Hid (Below w.heap.size w y):=Jba j
  clear j
  go_wp2
  refine bodyPost_ret (v:=.agg #[.int .i64 2,.int .i64 (-1)]) (by simp [results,Tryz.results54,go_sem,D,G]) rfl ⟨rfl,U1 I.out _ _⟩
 ·go_enter Tryz.func54,Tryz.ntmps54
  go_wp2_with fail
  refine (Ja9 2 _).mono ?_
  rintro e y ⟨rfl,j⟩
  obtain ⟨D,G,f1,f2⟩:=Jbl w _ y j
  have I:Hid (Below w.heap.size w y):=Jba j
  clear j
  go_wp2
  refine bodyPost_ret (v:=.agg #[.int .i64 2,.int .i64 (-1)]) (by simp [results,Tryz.results54,go_sem,D,G]) rfl ⟨rfl,U1 I.out _ _⟩
theorem JbR (p:Option Addr) (l:List ByteArray) (c:Nat) (w:World) (h1:¬ l.length < 1) (h2:¬ 16 < l.length) (hc:l.length<=c) (ht:∀ x ∈ l,x.size<=1000000) (hs:Strs w p l) :
 Calls Tryz.prog 54 #[.slice p l.length c] w fun e w'=>e=.returned (.agg #[.int .i64 (XO l 0 l.length).1,.int .i64 (XO l 0 l.length).2])/\Below w.heap.size w w':=by
 have Y:Hid (∀ i,i < l.length->(Yc l i).size<=1000000):=fun i hi=>ht _ (oQ hi)
 have HS:Hid (Strs w p l):=hs
 have g1:decide ((l.length:Int) < 1)=false:=decide_eq_false (by omega)
 have g2:decide (16 < (l.length:Int))=false:=decide_eq_false (by omega)
 obtain ⟨b,o,rfl⟩:∃ b o,p=some ⟨b,o,none⟩:=by
  rcases hs with h0 | ⟨b,o,hp,_⟩
  ·rw [h0] at h1;exact absurd (by decide) h1
  ·exact ⟨b,o,hp⟩
 clear hs ht
 obtain ⟨R,hR⟩:∃ R,R=XO l 0 l.length:=⟨_,rfl⟩
 rw [<- hR]
 have HR:Hid (R=XO l 0 l.length):=hR
 clear hR
 go_enter Tryz.func54,Tryz.ntmps54
 go_wp2
 have a5:Hid (Below (w.alloc (.cells #[.int .i64 0,.int .i64 0] 39)).heap.size (w.alloc (.cells #[.int .i64 0,.int .i64 0] 39)) (w.alloc (.cells #[.int .i64 0,.int .i64 0] 39))):=Below.refl _ _
 have HK:Hid (∀ j,Below (w.alloc (.cells #[.int .i64 0,.int .i64 0] 39)).heap.size (w.alloc (.cells #[.int .i64 0,.int .i64 0] 39)) j->(j.cell? ⟨w.heap.size,0,none⟩=some (.int .i64 0)/\j.cell? ⟨w.heap.size,1,none⟩=some (.int .i64 0)/\j.frozen? ⟨w.heap.size,0,none⟩=false/\j.frozen? ⟨w.heap.size,1,none⟩=false)/\Below w.heap.size w j):=fun j h=>⟨Jbl w _ j h,Jba h⟩
 generalize w.alloc (.cells #[.int .i64 0,.int .i64 0] 39)=w0 at a5 HK ⊢
 go_loopw [3] (fun x j=>∃ i:Nat,i<=l.length/\x=.int .i64 i/\XO l i (l.length - i)=R/\Below w0.heap.size w0 j) (fun x _=>l.length - (intOf x).toNat)
 case atStart=>exact ⟨0,Nat.zero_le _,rfl,HR.out.symm,a5.out⟩
 case round =>
  obtain ⟨i,hi,rfl,a6,a0⟩:=hrel
  obtain ⟨y,rfl⟩:∃ y,y=wr:=⟨_,rfl⟩
  have G:Hid (XO l i (l.length - i)=R):=a6
  have a1:Hid (Below w0.heap.size w0 y):=a0
  obtain ⟨⟨q1,q2,f1,f2⟩,Q⟩:=HK.out y a0
  have a7:Hid (Below w.heap.size w y):=Q
  have a2:Hid (Strs y (some ⟨b,o,none⟩) l):=HS.out.below Q
  clear a6 a0 Q HR
  by_cases Z:i < l.length
  ·have q3 : y.cell? ⟨b, o + i, none⟩ = some (.string (Yc l i)) := by
    rcases a2.out with h0 | ⟨b',o',hp,_,a9⟩
    ·rw [h0] at Z;exact absurd Z (Nat.not_lt_zero _)
    ·obtain ⟨rfl,rfl⟩:b=b'/\o=o':=by simpa using hp
     exact a9 i Z
   have D:Hid (∀ W,Calls Tryz.prog 26 #[.string (Yc l i)] W fun e w'=>e=.returned (.bool (Jo (Yc l i)))/\w'=W):=fun W=>JbO _ W (Y.out i Z)
   have U:Hid ((l.take i).length=i):=by show _=_;rw [List.length_take];omega
   have N:Hid (XO l i (l.length - i)=if Yu l i=0 then XO l (i+1) (l.length - (i+1)) else (((Yu l i:Nat):Int),(i:Int))):=by
    show _=_
    rw [show l.length - i=(l.length - (i+1))+1 by omega]
    rfl
   by_cases I:Jo (Yc l i)=true
   ·by_cases O:Yc l i ∈ l.take i
    ·have K : Hid (R = (6, (i : Int))) := by
      show _=_
      rw [<- G.out,N.out,TL I O,if_neg (by decide)]
      rfl
     have X:Hid (∀ W,Strs W (some ⟨b,o,none⟩) (l.take i)->Calls Tryz.prog 46 #[.slice (some ⟨b,o,none⟩) (l.take i).length c,.string (Yc l i)] W fun e w'=>e=.returned (.int .i64 ((ZJ (l.take i) (Yc l i):Nat):Int))/\w'=W):=fun W hW=>wS _ _ c _ W (by rw [List.length_take];omega) hW O
     rw [I] at D
     rw [U.out] at X
     have a3:Hid (Strs y (some ⟨b,o,none⟩) (l.take i)):=a2.out.take i
     clear G N Y U I O
     generalize ZJ (l.take i) (Yc l i)=k at *
     generalize Yc l i=t at *
     go_wp2_with fail
     refine (D.out _).mono ?_
     rintro e M ⟨rfl,J⟩
     rw [J]
     clear J M D
     go_wp2
     go_quiet ((go_at_call 46;exact Calls.quiet_of_same (X.out _ (a3.out.drewN _))))
     go_wp2
     refine bodyPost_ret (v:=.agg #[.int .i64 R.1,.int .i64 R.2]) (by rw [K.out];simp [results,Tryz.results54,go_sem,q1,q2]) rfl ⟨rfl,?_⟩
     exact U1 (below_drewN a7.out _) _ _
    ·have K : Hid (XO l (i + 1) (l.length - (i + 1)) = R) := by
      show _=_
      rw [<- G.out,N.out,ET I O,if_pos rfl]
     have X:Hid (∀ W,Strs W (some ⟨b,o,none⟩) (l.take i)->Calls Tryz.prog 46 #[.slice (some ⟨b,o,none⟩) (l.take i).length c,.string (Yc l i)] W fun e w'=>e=.returned (.int .i64 (-1))/\w'=W):=fun W hW=>BL _ _ c _ W (by rw [List.length_take];omega) hW O
     rw [I] at D
     rw [U.out] at X
     have a3:Hid (Strs y (some ⟨b,o,none⟩) (l.take i)):=a2.out.take i
     clear G N Y U I O
     generalize Yc l i=t at *
     go_wp2_with fail
     refine (D.out _).mono ?_
     rintro e M ⟨rfl,J⟩
     rw [J]
     clear J M D
     go_wp2
     go_quiet ((go_at_call 46;exact Calls.quiet_of_same (X.out _ (a3.out.drewN _))))
     go_wp2
     go_roundw
     case rel=>exact ⟨i+1,by omega,by go_num,K.out,below_drewN a1.out _⟩
     case measure=>simp [intOf];omega
   ·have a4:Jo (Yc l i)=false:=Bool.eq_false_iff.2 I
    have K:Hid (R=(4,(i:Int))):=by
     show _=_
     rw [<- G.out,N.out,Jj1 a4,if_neg (by decide)]
     rfl
    rw [a4] at D
    clear G N Y U I a4
    generalize Yc l i=t at *
    go_wp2_with fail
    refine (D.out _).mono ?_
    rintro e M ⟨rfl,J⟩
    rw [J]
    clear J M D
    go_wp2
    refine bodyPost_ret (v:=.agg #[.int .i64 R.1,.int .i64 R.2]) (by rw [K.out];simp [results,Tryz.results54,go_sem,q1,q2]) rfl ⟨rfl,?_⟩
    exact U1 a7.out _ _
  ·have b0:i=l.length:=by omega
   subst b0
   have K:Hid (R=(0,-1)):=by
    show _=_
    rw [<- G.out,Nat.sub_self]
    rfl
   clear G
   go_wp2_with fail
   refine (Jec _).mono ?_
   rintro e M ⟨rfl,a8⟩
   obtain ⟨⟨r1,r2,e1,e2⟩,Q⟩:=HK.out M (a1.out.trans (a8.mono a1.out.size))
   clear q1 q2 f1 f2 a8
   go_wp2
   refine bodyPost_ret (v:=.agg #[.int .i64 R.1,.int .i64 R.2]) (by rw [K.out];simp [results,Tryz.results54,go_sem,r1,r2]) rfl ⟨rfl,?_⟩
   exact U1 Q _ _
theorem Jb3 (p:Option Addr) (l:List ByteArray) (c:Nat) (w:World) (j:l.length<=1000000) (y:l.length<=c) (D:∀ x ∈ l,x.size<=1000000) (G:Strs w p l) :
 Calls Tryz.prog 54 #[.slice p l.length c] w fun e w'=>e=.returned (.agg #[.int .i64 (Xj l).1,.int .i64 (Xj l).2])/\Below w.heap.size w w':=by
 by_cases h:l.length < 1∨16 < l.length
 ·rw [E7 h]
  exact JbF p l c w j h
 ·rw [AB (by omega) (by omega)]
  exact JbR p l c w (by omega) (by omega) y D G
theorem RA (r:Nat) (W:World):Calls Tryz.prog 104 #[.int .i32 (r:Int)] W fun e w'=>e=.returned (.bool (!Xr r))/\w'=W:=by
 have key:∀ b,Xr r=b->Hid ((!Xr r)=(!b)):=fun b h=>by show _=_;rw [h]
 rcases (show (97<=r/\r<=122)∨(48<=r/\r<=57)∨r=45∨122 < r∨(57 < r/\r < 97)∨(r < 48/\r≠45) by omega) with j | j | j | j | j | j
 ·have y:=key true (by simp [Xr,j])
  obtain ⟨G,I⟩:=j
  have D:decide ((r:Int) < 97)=false:=decide_eq_false (by omega)
  have O:decide (122 < (r:Int))=false:=decide_eq_false (by omega)
  rw [y.out]
  clear key
  go_enter Tryz.func104,Tryz.ntmps104
  go_wp2
  go_ret
  exact ⟨rfl,rfl⟩
 ·have y:=key true (by simp [Xr,j])
  obtain ⟨G,I⟩:=j
  have D:decide ((r:Int) < 97)=true:=decide_eq_true (by omega)
  have J:decide ((r:Int) < 48)=false:=decide_eq_false (by omega)
  have K:decide (57 < (r:Int))=false:=decide_eq_false (by omega)
  rw [y.out]
  clear key
  go_enter Tryz.func104,Tryz.ntmps104
  go_wp2
  go_ret
  exact ⟨rfl,rfl⟩
 ·have y:=key true (by simp [Xr,j])
  subst j
  rw [y.out]
  clear key
  go_enter Tryz.func104,Tryz.ntmps104
  go_wp2
  go_ret
  exact ⟨rfl,rfl⟩
 ·have y:=key false (by unfold Xr;rw [decide_eq_false (by omega),decide_eq_false (by omega),decide_eq_false (by omega)];rfl)
  have D:decide ((r:Int) < 97)=false:=decide_eq_false (by omega)
  have O:decide (122 < (r:Int))=true:=decide_eq_true (by omega)
  have J:decide ((r:Int) < 48)=false:=decide_eq_false (by omega)
  have K:decide (57 < (r:Int))=true:=decide_eq_true (by omega)
  have M:((r:Int) != 45)=true:=by rw [bne_iff_ne];omega
  have N:((r:Int)==45)=false:=by rw [beq_eq_false_iff_ne];omega
  rw [y.out]
  clear key
  go_enter Tryz.func104,Tryz.ntmps104
  go_wp2
  go_ret
  exact ⟨rfl,rfl⟩
 ·have y:=key false (by unfold Xr;rw [decide_eq_false (by omega),decide_eq_false (by omega),decide_eq_false (by omega)];rfl)
  obtain ⟨G,I⟩:=j
  have D:decide ((r:Int) < 97)=true:=decide_eq_true (by omega)
  have J:decide ((r:Int) < 48)=false:=decide_eq_false (by omega)
  have K:decide (57 < (r:Int))=true:=decide_eq_true (by omega)
  have M:((r:Int) != 45)=true:=by rw [bne_iff_ne];omega
  have N:((r:Int)==45)=false:=by rw [beq_eq_false_iff_ne];omega
  rw [y.out]
  clear key
  go_enter Tryz.func104,Tryz.ntmps104
  go_wp2
  go_ret
  exact ⟨rfl,rfl⟩
 ·have y:=key false (by unfold Xr;rw [decide_eq_false (by omega),decide_eq_false (by omega),decide_eq_false (by omega)];rfl)
  obtain ⟨G,I⟩:=j
  have D:decide ((r:Int) < 97)=true:=decide_eq_true (by omega)
  have J:decide ((r:Int) < 48)=true:=decide_eq_true (by omega)
  have M:((r:Int) != 45)=true:=by rw [bne_iff_ne];omega
  have N:((r:Int)==45)=false:=by rw [beq_eq_false_iff_ne];omega
  rw [y.out]
  clear key
  go_enter Tryz.func104,Tryz.ntmps104
  go_wp2
  go_ret
  exact ⟨rfl,rfl⟩
theorem AE (s:ByteArray):∀ (f i:Nat),s.size<=i+f->(decide (0<=Lib.idxFuncFrom (fun r=>!Xr r) true s f i)=true↔∃ j,i<=j/\j < s.size/\Xr (Gf.nth (Zj s) j)=false)
 | 0,i,h=>by
  constructor
  ·intro D
   have G:decide ((0:Int)<=-1)=true:=D
   cases G
  ·rintro ⟨j,D,G,_⟩
   omega
 | f+1,i,h=>by
  show decide (0<=(if i < s.size then (if (!Xr (Utf8.decode s i).1)=true then (i:Int) else Lib.idxFuncFrom (fun r=>!Xr r) true s f (i+(Utf8.decode s i).2)) else -1))=true↔_
  by_cases y:i < s.size
  ·rw [if_pos y]
   by_cases K:(s[i]'y).toNat < 128
   ·rw [decode_ascii s i y K,<- uD s i y]
    have ih:=AE s f (i+1) (by omega)
    cases J:Xr (Gf.nth (Zj s) i) with
    | false =>
     rw [if_pos (by rfl)]
     exact ⟨fun _=>⟨i,Nat.le_refl _,y,J⟩,fun _=>decide_eq_true (by omega)⟩
    | true =>
     rw [if_neg (by simp),ih]
     constructor
     ·rintro ⟨j,D,G,I⟩
      exact ⟨j,by omega,G,I⟩
     ·rintro ⟨j,D,G,I⟩
      refine ⟨j,?_,G,I⟩
      by_cases e:j=i
      ·rw [e,J] at I;cases I
      ·omega
   ·have D:=(decode_high s i y (by omega)).1
    have J:Xr (Utf8.decode s i).1=false:=by
     unfold Xr
     rw [decide_eq_false (by omega),decide_eq_false (by omega),decide_eq_false (by omega)]
     rfl
    have M:Xr (Gf.nth (Zj s) i)=false:=by
     rw [uD s i y]
     unfold Xr
     rw [decide_eq_false (by omega),decide_eq_false (by omega),decide_eq_false (by omega)]
     rfl
    rw [J,if_pos (by rfl)]
    exact ⟨fun _=>⟨i,Nat.le_refl _,y,M⟩,fun _=>decide_eq_true (by omega)⟩
  ·rw [if_neg y]
   constructor
   ·intro D
    cases D
   ·rintro ⟨j,D,G,_⟩
    omega
theorem U7 (s:ByteArray):decide (0<=Lib.idxFunc (fun r=>!Xr r) true s)=!((Zj s).all Xr):=by
 have h:=AE s s.size 0 (by omega)
 cases D:(Zj s).all Xr with
 | true =>
  rw [show (!true)=false from rfl,Bool.eq_false_iff]
  intro I
  obtain ⟨j,_,y,J⟩:=h.1 I
  have G:j < (Zj s).length:=by rw [tZ];exact y
  rw [List.all_eq_true] at D
  have:=D (Gf.nth (Zj s) j) (by rw [Gf.aK _ j G];exact List.getElem_mem G)
  rw [J] at this
  cases this
 | false =>
  obtain ⟨x,K,M⟩:=List.all_eq_false.1 D
  obtain ⟨j,y,rfl⟩:=List.getElem_of_mem K
  refine h.2 ⟨j,Nat.zero_le _,by rw [tZ] at y;exact y,?_⟩
  rw [Gf.aK _ j y]
  exact Bool.eq_false_iff.2 M
theorem qF (s:ByteArray) (w:World):Calls Tryz.prog 74 #[.string s] w fun e w'=>e=.returned (.bool (Jo s))/\Below w.heap.size w w':=by
 by_cases M:s.size < 1
 ·have j:Hid (Jo s=false):=CT (by omega)
  have G:decide (1<=(s.size:Int))=false:=decide_eq_false (by omega)
  rw [j.out]
  go_enter Tryz.func74,Tryz.ntmps74
  go_wp2
  go_ret
  exact ⟨rfl,Below.refl _ _⟩
 have G:decide (1<=(s.size:Int))=true:=decide_eq_true (by omega)
 by_cases N:16 < s.size
 ·have j:Hid (Jo s=false):=CT (by omega)
  have I:decide ((s.size:Int)<=16)=false:=decide_eq_false (by omega)
  rw [j.out]
  go_enter Tryz.func74,Tryz.ntmps74
  go_wp2
  go_ret
  exact ⟨rfl,Below.refl _ _⟩
 have I:decide ((s.size:Int)<=16)=true:=decide_eq_true (by omega)
 have y:=Tryz.strings_ContainsFunc 104 #[] (enters_of Tryz.func104 (by kernel_rfl) rfl) (fun r=>!Xr r) s w (fun W r _=>by
  unfold FnGives
  exact (RA r W).mono fun _ _ ⟨J,K⟩=>⟨J,0,K⟩)
 rw [U7] at y
 have j:Hid (Jo s=(Zj s).all Xr):=by show _=_;unfold Jo;rw [decide_eq_true ⟨by omega,by omega⟩,Bool.true_and]
 rw [j.out]
 generalize (Zj s).all Xr=r at *
 clear j
 go_enter Tryz.func74,Tryz.ntmps74
 go_wp2_with fail
 refine y.mono ?_
 rintro e O ⟨rfl,D⟩
 clear y
 cases r with
 | true =>
  go_wp2
  go_ret
  exact ⟨rfl,D⟩
 | false =>
  go_wp2
  go_ret
  exact ⟨rfl,D⟩
theorem P3 (p:Option Addr) (l:List ByteArray) (c:Nat) (s:ByteArray) (w:World) (W:l.length<=1000000) (J:Strs w p l) (h:s ∉ l) :
 Calls Tryz.prog 122 #[.slice p l.length c,.string s] w fun e w'=>e=.returned (.int .i64 (-1))/\w'=w:=by
 have G:Hid (s ∉ l):=h
 clear h
 go_enter Tryz.func122,Tryz.ntmps122
 go_wp2
 go_loop [8] (fun x=>∃ i:Nat,i<=l.length/\x=.int .i64 i) (fun x=>l.length - (intOf x).toNat)
 case atStart=>exact ⟨0,Nat.zero_le _,rfl⟩
 case round =>
  obtain ⟨i,K,rfl⟩:=hrel
  by_cases j:i < l.length
  ·rcases J with I | ⟨b,o,rfl,M,D⟩
   ·rw [I] at j;exact absurd j (Nat.not_lt_zero _)
   have N:=D i j
   have y:Yc l i≠s:=fun e=>G.out (e ▸ oQ j)
   have O:=XT (Ne.symm y)
   have Q:=YT (Ne.symm y)
   have U:=Y8 (Ne.symm y)
   clear y D
   generalize Yc l i=t at *
   go_wp2
   go_round
   case rel=>exact ⟨i+1,by omega,by go_num⟩
   case measure=>simp [intOf];omega
  ·go_wp2
   go_ret
   exact ⟨rfl,rfl⟩
theorem SY (p:Option Addr) (l:List ByteArray) (c:Nat) (s:ByteArray) (w:World) (hl:l.length<=1000000) (Z:Strs w p l) (h:s ∈ l) :
 Calls Tryz.prog 122 #[.slice p l.length c,.string s] w fun e w'=>e=.returned (.int .i64 ((ZJ l s:Nat):Int))/\w'=w:=by
 have O:Hid (s ∈ l):=h
 clear h
 go_enter Tryz.func122,Tryz.ntmps122
 go_wp2
 go_loop [8] (fun x=>∃ i:Nat,i<=l.length/\x=.int .i64 i/\∀ j,j < i->Yc l j≠s) (fun x=>l.length - (intOf x).toNat)
 case atStart=>exact ⟨0,Nat.zero_le _,rfl,fun j G=>absurd G (Nat.not_lt_zero _)⟩
 case round =>
  obtain ⟨i,hi,rfl,J⟩:=hrel
  have I:Hid (∀ j,j < i->Yc l j≠s):=J
  clear J
  have D:i < l.length:=by
   rcases Nat.lt_or_ge i l.length with h | h
   ·exact h
   ·obtain ⟨j,G,e⟩:=tF O.out
    exact absurd e (I.out j (by omega))
  rcases Z with Q | ⟨b,o,rfl,a0,K⟩
  ·rw [Q] at D;exact absurd D (Nat.not_lt_zero _)
  have U:=K i D
  have M:Hid (Yc l i=Yc l i):=by show _=_;rfl
  clear K
  by_cases y:Yc l i=s
  ·have W:Hid (ZJ l s=i):=DQ D y I.out
   rw [y] at U
   clear y M
   go_wp2
   go_ret
   exact ⟨by rw [W.out];rfl,rfl⟩
  ·have X:Hid (Yc l i≠s):=y
   have h1:=XT (Ne.symm y)
   have h2:=YT (Ne.symm y)
   have h3:=Y8 (Ne.symm y)
   clear y M
   generalize N:Yc l i=t at *
   have Y:Hid (Yc l i=t):=N
   clear N
   go_wp2
   go_round
   case rel=>exact ⟨i+1,by omega,by go_num,fun j G=>by
    rcases Nat.lt_or_ge j i with h | h
    ·exact I.out j h
    ·obtain rfl:j=i:=by omega
     rw [Y.out];exact X.out⟩
   case measure=>simp [intOf];omega
theorem vN (p:Option Addr) (l:List ByteArray) (c:Nat) (s:ByteArray) (w:World) (J:l.length<=1000000) (D:Strs w p l) :
 Calls Tryz.prog 92 #[.slice p l.length c,.string s] w fun e w'=>e=.returned (.bool (Xu l s))/\w'=w:=by
 by_cases h:s ∈ l
 ·have G:Hid (Xu l s=true):=Zl.2 h
  have j:=SY p l c s w J D h
  rw [G.out]
  clear h D
  generalize ZJ l s=k at *
  go_enter Tryz.func92,Tryz.ntmps92
  go_wp2_with fail
  refine j.mono ?_
  rintro e I ⟨rfl,y⟩
  rw [y]
  clear y I j
  go_wp2
  go_ret
  exact ⟨rfl,rfl⟩
 ·have G:Hid (Xu l s=false):=Bool.eq_false_iff.2 fun K=>h (Zl.1 K)
  have j:=P3 p l c s w J D h
  rw [G.out]
  clear h D
  go_enter Tryz.func92,Tryz.ntmps92
  go_wp2_with fail
  refine j.mono ?_
  rintro e I ⟨rfl,y⟩
  rw [y]
  clear y I j
  go_wp2
  go_ret
  exact ⟨rfl,rfl⟩
end Go.Proofs.YtmikbldbfnlfjaaGreatDoor
