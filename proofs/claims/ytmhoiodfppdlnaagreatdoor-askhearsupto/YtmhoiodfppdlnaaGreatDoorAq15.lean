import Derived.Test.YtmhoiodfppdlnaaGreatDoorAq12
import Derived.Test.YtmhoiodfppdlnaaGreatDoorAq3
import Derived.Test.YtmhoiodfppdlnaaGreatDoorAq14
import Derived.Test.YtmhoiodfppdlnaaGreatDoorAq10
namespace Go.Proofs.YtmhoiodfppdlnaaGreatDoor
open Go.RowKit
structure ShFine (n k:Nat) (S:Int×List (Int×ByteArray)):Prop where
 some_:S.2=[]∨0<=S.1
 le:S.1<=1000
 each:∀ x ∈ S.2,0<=x.1/\x.1 < n/\x.2.size=wideN k S.1.toNat
 one:(S.2.map Prod.fst).Nodup
theorem shStep_fine {n k:Nat}{t:Int×Int}{S:Int×List (Int×ByteArray)}(v:Ver)(h:ShFine n k S):ShFine n k (shStep n k t S v):=by
 by_cases hy:v.n=t.1/\v.who=t.2/\canB n k v=true
 ·have hc:=hy.2.2
  unfold canB at hc
  rw [Bool.and_eq_true] at hc
  obtain⟨c1,c2,c3,c4,c5⟩:=of_decide_eq_true hc.2
  by_cases hz:S.1 < 0
  ·have h0 : S.2 = [] := by
    rcases h.some_ with e | e
    ·exact e
    ·omega
   rw [shStep_yes (z:=v.size) hy (by rw [if_pos hz]),h0]
   refine⟨Or.inr c1,c2,fun x hx=>?_,?_⟩
   ·simp at hx
    subst hx
    exact⟨c3,c4,c5⟩
   ·simp
  ·rw [shStep_yes (z:=S.1) hy (by rw [if_neg hz])]
   by_cases hq:v.size=S.1/\S.2.any (fun y=>y.1==v.at_)=false
   ·rw [if_pos hq]
    refine⟨Or.inr (by show 0<=S.1;omega),h.le,fun x hx=>?_,?_⟩
    ·rcases List.mem_append.1 hx with e | e
     ·exact h.each x e
     ·simp at e
      subst e
      exact⟨c3,c4,by show v.text.size=wideN k S.1.toNat;rw [<- hq.1];exact c5⟩
    ·show((S.2 ++ [(v.at_,v.text)]).map Prod.fst).Nodup
     rw [List.map_append]
     refine List.nodup_append.2 ⟨h.one,by simp,fun a ha b hb e=>?_⟩
     simp at hb
     subst hb e
     obtain⟨y,hy1,hy2⟩:=List.mem_map.1 ha
     have:=List.any_eq_false.1 hq.2 y hy1
     exact this (by simp [hy2])
   ·rw [if_neg hq]
    exact⟨h.some_,h.le,h.each,h.one⟩
 ·rw [shStep_no hy]
  exact h
theorem shOf_fine (n k:Nat)(t:Int×Int)(L:List Ver):ShFine n k (shOf n k t L):=by
 have go:∀ (L:List Ver) (S:Int×List (Int×ByteArray)),ShFine n k S->ShFine n k (L.foldl (shStep n k t) S):=by
  intro L
  induction L with
  | nil=>intro S h;exact h
  | cons v L ih=>intro S h;exact ih _ (shStep_fine v h)
 exact go L _ ⟨Or.inl rfl,by show(-1:Int)<=1000;decide,fun x hx=>(by cases hx),List.nodup_nil⟩
theorem pickN_take (k:Nat)(l:List (Int×ByteArray))(hd:(l.map Prod.fst).Nodup):∀ i,i<=l.length->pickN k l i=l.take (min k i)
 | 0,_=>by simp [pickN]
 | i+1,hi=>by
  have ih:=pickN_take k l hd i (by omega)
  have hsh:shAt l i=l[i]:=by
   unfold shAt
   rw [List.getD_eq_getElem?_getD,List.getElem?_eq_getElem (by omega)]
   rfl
  by_cases hk:i < k
  ·have e1:min k i=i:=by omega
   have e2:min k (i+1)=i+1:=by omega
   rw [e1] at ih
   rw [e2,pickN_yes (by rw [ih,List.length_take];omega) (by
    rw [ih,List.any_eq_false]
    intro y hy hyx
    obtain⟨j,hj,hjy⟩:=List.mem_take_iff_getElem.1 hy
    have hji:j < i:=by omega
    have e:l[j].1=l[i].1:=by rw [hjy,<- hsh];simpa using hyx
    have:=(List.getElem_inj (h₀:=by rw [List.length_map];omega) (h₁:=by rw [List.length_map];omega) hd).1 (show(l.map Prod.fst)[j]'(by rw [List.length_map];omega)=(l.map Prod.fst)[i]'(by rw [List.length_map];omega) by rw [List.getElem_map,List.getElem_map];exact e)
    omega),ih,hsh]
   exact(List.take_succ_eq_append_getElem (by omega)).symm
  ·have e1:min k i=k:=by omega
   have e2:min k (i+1)=k:=by omega
   rw [e1] at ih
   rw [e2,pickN_full (by rw [ih,List.length_take];omega),ih]
theorem shOf_fits {n k:Nat}{t:Int×Int}{L:List Ver}(hk1:1<=k)(h:¬ (shOf n k t L).2.length < k):(((shOf n k t L).1.toNat:Nat):Int)=(shOf n k t L).1/\(shOf n k t L).1.toNat<=1000/\Fits n k (shOf n k t L).1.toNat (shOf n k t L).2/\∀ i,(shAt (shOf n k t L).2 i).2.size<=100000:=by
 have hf:=shOf_fine n k t L
 generalize shOf n k t L=S at *
 have h0:0<=S.1:=by
  rcases hf.some_ with e | e
  ·rw [e] at h;simp at h;omega
  ·exact e
 have hle:=hf.le
 have hwd:=wideN_le (size:=S.1.toNat) hk1
 refine⟨by omega,by omega,⟨?_,?_⟩,fun i=>?_⟩
 ·rw [List.any_eq_false]
  intro x hx hb
  obtain⟨a1,a2,a3⟩:=hf.each x hx
  unfold badB at hb
  simp only [Bool.or_eq_true,decide_eq_true_eq,Bool.not_eq_true',decide_eq_false_iff_not] at hb
  omega
 ·rw [pickN_take k S.2 hf.one _ (Nat.le_refl _),List.length_take]
  omega
 ·by_cases hi:i < S.2.length
  ·have e : shAt S.2 i = S.2[i] := by
    unfold shAt
    rw [List.getD_eq_getElem?_getD,List.getElem?_eq_getElem hi]
    rfl
   have:=(hf.each _ (List.getElem_mem hi)).2.2
   rw [e,this]
   omega
  ·unfold shAt
   rw [List.getD_eq_getElem?_getD,List.getElem?_eq_none (by omega)]
   show(0:Nat)<=_
   omega
def bestStep (n k:Nat)(all:List Ver)(S:(Int×Int)×ByteArray×Bool)(v:Ver):(Int×Int)×ByteArray×Bool :=
 if S.2.2=true/\lessB S.1 (v.n,v.who)=false then S
 else if (shOf n k (v.n,v.who) all).2.length < k then S
 else ((v.n,v.who),decT k (shOf n k (v.n,v.who) all).1.toNat (pickN k (shOf n k (v.n,v.who) all).2 (shOf n k (v.n,v.who) all).2.length),true)
def bestF (n k:Nat)(all L:List Ver):(Int×Int)×ByteArray×Bool:=L.foldl (bestStep n k all) ((0,0),⟨#[]⟩,false)
theorem bestF_succ {n k:Nat}{all L:List Ver}{i:Nat}(hi:i < L.length):bestF n k all (L.take (i+1))=bestStep n k all (bestF n k all (L.take i)) (verAt L i):=by
 unfold bestF
 rw [List.take_add_one,verAt_get hi,List.foldl_append]
 rfl
theorem bestStep_old {n k:Nat}{all:List Ver}{S:(Int×Int)×ByteArray×Bool}{v:Ver}(h:S.2.2=true/\lessB S.1 (v.n,v.who)=false):bestStep n k all S v=S:=if_pos h
theorem bestStep_few {n k:Nat}{all:List Ver}{S:(Int×Int)×ByteArray×Bool}{v:Ver}(h:¬ (S.2.2=true/\lessB S.1 (v.n,v.who)=false))(h2:(shOf n k (v.n,v.who) all).2.length < k):bestStep n k all S v=S:=by unfold bestStep;rw [if_neg h,if_pos h2]
theorem bestStep_new {n k:Nat}{all:List Ver}{S:(Int×Int)×ByteArray×Bool}{v:Ver}(h:¬ (S.2.2=true/\lessB S.1 (v.n,v.who)=false))(h2:¬ (shOf n k (v.n,v.who) all).2.length < k):bestStep n k all S v=((v.n,v.who),decT k (shOf n k (v.n,v.who) all).1.toNat (pickN k (shOf n k (v.n,v.who) all).2 (shOf n k (v.n,v.who) all).2.length),true):=by unfold bestStep;rw [if_neg h,if_neg h2]
def wLook:ByteArray:=⟨#[108,111,111,107]⟩
def wTold:ByteArray:=⟨#[116,111,108,100]⟩
def wKeep:ByteArray:=⟨#[107,101,101,112]⟩
def wKept:ByteArray:=⟨#[107,101,112,116]⟩
def wSeal:ByteArray:=⟨#[115,101,97,108]⟩
def wShut:ByteArray:=⟨#[115,101,97,108,101,100]⟩
def sLooking:ByteArray:=⟨#[108,111,111,107,105,110,103]⟩
def sSealing:ByteArray:=⟨#[115,101,97,108,105,110,103]⟩
def sKeeping:ByteArray:=⟨#[107,101,101,112,105,110,103]⟩
def sDone:ByteArray:=⟨#[100,111,110,101]⟩
def sRefused:ByteArray:=⟨#[114,101,102,117,115,101,100]⟩
inductive St where
 | looking | sealing | keeping | done | refused
 deriving DecidableEq
def St.word:St->ByteArray
 | .looking=>sLooking
 | .sealing=>sSealing
 | .keeping=>sKeeping
 | .done=>sDone
 | .refused=>sRefused
def St.waits:St->ByteArray
 | .looking=>wTold
 | .sealing=>wShut
 | .keeping=>wKept
 | _=>⟨#[]⟩
structure MAsk where
 name:ByteArray
 key:ByteArray
 who:Int
 op:Int
 config:Int
 c:Cfg
 next:Cfg
 put:Bool
 moves:Bool
 st:St
 from_:List ByteArray
 L:List (List Ver)
 tag:Int×Int
 text:ByteArray
 found:Bool
def MAsk.ver (a:MAsk)(i:Nat):Ver:=⟨a.tag.1,a.tag.2,(a.text.size:Int),(i:Int),encT a.c.k.toNat a.text i⟩
def MAsk.send (a:MAsk)(kind:ByteArray)(with_:Bool):List Msg:=(List.range a.c.L.length).map fun i=>⟨a.name,txt a.c.L i,kind,a.key,a.op,a.config,false,if with_ then [a.ver i] else []⟩
def MAsk.begin (a:MAsk):List Msg:=if a.moves then (if a.st=.sealing then a.send wSeal false else []) else a.send wLook false
def toldL (from_:List ByteArray)(L:List (List Ver)):List ByteArray->List (List Ver)
 | []=>[]
 | m :: r=>if inL from_ m then L.getD (idxN from_ m) [] :: toldL from_ L r else toldL from_ L r
def maxStep (n:Int)(v:Ver):Int:=if n < v.n/\v.n<=1099511627776 then v.n else n
def maxN (L:List (List Ver)):Int:=L.flatten.foldl maxStep 0
def MAsk.takes (a:MAsk)(m:Msg):Bool:=decide (a.st.waits≠⟨#[]⟩/\m.kind=a.st.waits/\m.to_=a.name/\m.key=a.key/\m.op=a.op/\m.config=a.config) && (inL a.c.L m.from_ && !inL a.from_ m.from_)
def MAsk.heard (a:MAsk)(m:Msg):MAsk:={ a with from_:=a.from_ ++ [m.from_],L:=a.L ++ [m.L] }
def MAsk.found_ (a:MAsk):MAsk:=if a.put then { a with tag:=(maxN a.L+1,a.who),found:=true } else { a with tag:=(bestF a.c.n.toNat a.c.k.toNat (toldL a.from_ a.L a.c.L).flatten (toldL a.from_ a.L a.c.L).flatten).1,text:=(bestF a.c.n.toNat a.c.k.toNat (toldL a.from_ a.L a.c.L).flatten (toldL a.from_ a.L a.c.L).flatten).2.1,found:=(bestF a.c.n.toNat a.c.k.toNat (toldL a.from_ a.L a.c.L).flatten (toldL a.from_ a.L a.c.L).flatten).2.2 }
def MAsk.keeps (a:MAsk):MAsk:=if a.moves then { a with st:=.keeping,from_:=[],L:=[],c:=a.next,config:=a.config+1 } else { a with st:=.keeping,from_:=[],L:=[] }
def MAsk.hear (a:MAsk)(m:Msg):MAsk×List Msg :=
 if a.takes m=false then (a,[])
 else if m.shut=true/\a.st≠.sealing then ({ a with st:=.refused },[])
 else if (a.heard m).from_.length < enoughN a.c then (a.heard m,[])
 else if a.st=.keeping then ({ a.heard m with st:=.done },[])
 else if (a.heard m).found_.found=false then ({ (a.heard m).found_ with st:=.done },[])
 else ((a.heard m).found_.keeps,(a.heard m).found_.keeps.send wKeep true)
end Go.Proofs.YtmhoiodfppdlnaaGreatDoor
namespace Go.Proofs.YtmhoiodfppdlnaaGreatDoor
def tolR (a:MAsk):MAsk×List Msg:=if a.from_.length < enoughN a.c then (a,[]) else if a.found_.found=false then ({ a.found_ with st:=.done },[]) else (a.found_.keeps,a.found_.keeps.send wKeep true)
theorem hear_no {a:MAsk}{m:Msg}(h:a.takes m=false):a.hear m=(a,[]):=if_pos h
theorem hear_shut {a:MAsk}{m:Msg}(h:a.takes m=true)(h1:m.shut=true)(h2:a.st≠.sealing):a.hear m=({ a with st:=.refused },[]):=by
 unfold MAsk.hear
 rw [if_neg (by rw [h];decide),if_pos ⟨h1,h2⟩]
theorem hear_told {a:MAsk}{m:Msg}(h:a.takes m=true)(h1:m.shut=false)(h2:a.st=.looking):a.hear m=tolR (a.heard m):=by
 unfold MAsk.hear tolR
 rw [if_neg (by rw [h];decide),if_neg (fun e=>by rw [h1] at e;cases e.1)]
 by_cases h3:(a.heard m).from_.length < enoughN a.c
 ·rw [if_pos h3]
  exact(if_pos h3).symm
 ·rw [if_neg h3,if_neg (by rw [h2];intro e;cases e)]
  exact(if_neg h3).symm
theorem hear_kept {a:MAsk}{m:Msg}(h:a.takes m=true)(h1:m.shut=false)(h2:a.st=.keeping):a.hear m=(if (a.heard m).from_.length < enoughN a.c then a.heard m else { a.heard m with st:=.done },[]):=by
 unfold MAsk.hear
 rw [if_neg (by rw [h];decide),if_neg (fun e=>by rw [h1] at e;cases e.1)]
 by_cases h3:(a.heard m).from_.length < enoughN a.c
 ·rw [if_pos h3,if_pos h3]
 ·rw [if_neg h3,if_neg h3,if_pos h2]
end Go.Proofs.YtmhoiodfppdlnaaGreatDoor
namespace Go.Proofs.YtmhoiodfppdlnaaGreatDoor
theorem maxStep_ge (n:Int)(v:Ver):n<=maxStep n v:=by unfold maxStep;split <;> omega
theorem foldl_maxStep_ge:∀ (l:List Ver) (n:Int),n<=l.foldl maxStep n
 | [],n=>Int.le_refl n
 | v :: l,n=>Int.le_trans (maxStep_ge n v) (foldl_maxStep_ge l _)
theorem foldl_maxStep_le:∀ (l:List Ver) (n:Int),n<=1099511627776->l.foldl maxStep n<=1099511627776
 | [],n,h=>h
 | v :: l,n,h=>foldl_maxStep_le l _ (by unfold maxStep;split <;> omega)
theorem maxN_bounds (LL:List (List Ver)):0<=maxN LL/\maxN LL<=1099511627776:=⟨foldl_maxStep_ge _ _,foldl_maxStep_le _ _ (by decide)⟩
theorem maxN_take_succ {LL:List (List Ver)}{i:Nat}(h:i < LL.length):maxN (LL.take (i+1))=(LL.getD i []).foldl maxStep (maxN (LL.take i)):=by
 unfold maxN
 rw [List.take_succ_eq_append_getElem h,List.flatten_append,List.foldl_append]
 have e:LL.getD i []=LL[i]:=by rw [List.getD_eq_getElem?_getD,List.getElem?_eq_getElem h];rfl
 rw [e]
 simp
theorem fold_take_succ {l:List Ver}{j:Nat}(h:j < l.length)(n:Int):(l.take (j+1)).foldl maxStep n=maxStep ((l.take j).foldl maxStep n) (verAt l j):=by
 rw [List.take_add_one,verAt_get h]
 simp
theorem foldl_max_mem:∀ (l:List Ver) (n:Int),0<=n->(∀ v ∈ l,v.n<=1099511627776->v.n<=l.foldl maxStep n)/\(l.foldl maxStep n=n∨∃ v ∈ l,v.n=l.foldl maxStep n/\v.n<=1099511627776)
 | [],n,_=>⟨(fun v hv=>by cases hv),Or.inl rfl⟩
 | v :: l,n,h=>by
  have h0:0<=maxStep n v:=Int.le_trans h (maxStep_ge n v)
  obtain⟨h1,h2⟩:=foldl_max_mem l (maxStep n v) h0
  refine⟨fun x hx hb=>?_,?_⟩
  ·rcases List.mem_cons.1 hx with rfl | hx
   ·refine Int.le_trans ?_ (foldl_maxStep_ge l _)
    unfold maxStep
    split <;> omega
   ·exact h1 x hx hb
  ·rcases h2 with h2 | ⟨x,hx,h3,h4⟩
   ·show l.foldl maxStep (maxStep n v)=n∨_
    by_cases hc:n < v.n/\v.n<=1099511627776
    ·refine Or.inr ⟨v,by simp,?_,hc.2⟩
     show v.n=l.foldl maxStep (maxStep n v)
     rw [h2]
     unfold maxStep
     rw [if_pos hc]
    ·left
     rw [h2]
     unfold maxStep
     rw [if_neg hc]
   ·exact Or.inr ⟨x,by simp [hx],h3,h4⟩
theorem maxN_same {L M:List (List Ver)}(h:∀ v,v ∈ L.flatten↔v ∈ M.flatten):maxN L=maxN M:=by
 unfold maxN
 obtain⟨a1,a2⟩:=foldl_max_mem L.flatten 0 (by decide)
 obtain⟨b1,b2⟩:=foldl_max_mem M.flatten 0 (by decide)
 have a0:=foldl_maxStep_ge L.flatten 0
 have b0:=foldl_maxStep_ge M.flatten 0
 refine Int.le_antisymm ?_ ?_
 ·rcases a2 with e | ⟨v,hv,e,hb⟩
  ·rw [e];exact b0
  ·rw [<- e];exact b1 v ((h v).1 hv) hb
 ·rcases b2 with e | ⟨v,hv,e,hb⟩
  ·rw [e];exact a0
  ·rw [<- e];exact a1 v ((h v).2 hv) hb
theorem flat_mem {l:List Ver}:∀ {L:List (List Ver)},l ∈ L->l.length<=L.flatten.length
 | m :: L,h=>by
  rw [List.flatten_cons,List.length_append]
  rcases List.mem_cons.1 h with rfl | h
  ·omega
  ·have:=flat_mem h
   omega
theorem bestStep_size {n k:Nat}{all:List Ver}{S:(Int×Int)×ByteArray×Bool}{v:Ver}(hk:1<=k)(h:S.2.1.size<=1000):(bestStep n k all S v).2.1.size<=1000:=by
 unfold bestStep
 split
 ·exact h
 ·split
  ·exact h
  ·rename_i h2
   show(decT _ _ _).size<=1000
   rw [decT_size]
   exact(shOf_fits hk h2).2.1
theorem bestF_size {n k:Nat}{all:List Ver}(hk:1<=k):∀ (L:List Ver) (S:(Int×Int)×ByteArray×Bool),S.2.1.size<=1000->(L.foldl (bestStep n k all) S).2.1.size<=1000
 | [],_,h=>h
 | _ :: L,_,h=>bestF_size hk L _ (bestStep_size hk h)
end Go.Proofs.YtmhoiodfppdlnaaGreatDoor
namespace Go.Proofs.YtmhoiodfppdlnaaGreatDoor
open Go.RowKit
theorem less_iff {a b:Int×Int}:lessB a b=true↔a.1 < b.1∨a.1=b.1/\a.2 < b.2:=by simp [lessB]
theorem less_trans {a b c:Int×Int}(h1:lessB a b=true)(h2:lessB b c=true):lessB a c=true:=by
 rw [less_iff] at *
 omega
theorem less_eq {a b:Int×Int}(h1:lessB a b=false)(h2:lessB b a=false):a=b:=by
 have n1:¬ (a.1 < b.1∨a.1=b.1/\a.2 < b.2):=fun h=>by rw [less_iff.2 h] at h1;cases h1
 have n2:¬ (b.1 < a.1∨b.1=a.1/\b.2 < a.2):=fun h=>by rw [less_iff.2 h] at h2;cases h2
 exact Prod.ext (by omega) (by omega)
def GoodT (n k:Nat)(all:List Ver)(t:Int×Int):Prop:=k<=(shOf n k t all).2.length
def decOf (n k:Nat)(all:List Ver)(t:Int×Int):ByteArray:=decT k (shOf n k t all).1.toNat (pickN k (shOf n k t all).2 (shOf n k t all).2.length)
theorem shOf_told {n k:Nat}{t:Int×Int}:∀ (L:List Ver) (S:Int×List (Int×ByteArray)),(∀ v ∈ L,(v.n,v.who)≠t)->L.foldl (shStep n k t) S=S
 | [],_,_=>rfl
 | v :: L,S,h=>by
  rw [List.foldl_cons,shStep_no (fun hh=>h v (by simp) (Prod.ext hh.1 hh.2.1))]
  exact shOf_told L S fun u hu=>h u (by simp [hu])
theorem good_told {n k:Nat}{all:List Ver}{t:Int×Int}(hk:1<=k)(h:GoodT n k all t):∃ v ∈ all,(v.n,v.who)=t:=by
 by_cases hh:∃ v ∈ all,(v.n,v.who)=t
 ·exact hh
 ·exfalso
  have e:shOf n k t all=(-1,[]):=shOf_told all _ fun v hv e=>hh ⟨v,hv,e⟩
  unfold GoodT at h
  rw [e] at h
  simp at h
  omega
structure BestInv (n k:Nat) (all L:List Ver) (S:(Int×Int)×ByteArray×Bool):Prop where
 no:S.2.2=false->S=((0,0),⟨#[]⟩,false)/\∀ v ∈ L,¬ GoodT n k all (v.n,v.who)
 yes:S.2.2=true->GoodT n k all S.1/\S.2.1=decOf n k all S.1/\∀ v ∈ L,GoodT n k all (v.n,v.who)->lessB S.1 (v.n,v.who)=false
theorem bestInv_step {n k:Nat}{all L:List Ver}{S:(Int×Int)×ByteArray×Bool}(v:Ver)(h:BestInv n k all L S):BestInv n k all (L ++ [v]) (bestStep n k all S v):=by
 by_cases h1:S.2.2=true/\lessB S.1 (v.n,v.who)=false
 ·rw [bestStep_old h1]
  refine⟨fun h2=>(by rw [h1.1] at h2;cases h2),fun h2=>⟨(h.yes h2).1,(h.yes h2).2.1,fun u hu hg=>?_⟩⟩
  rcases List.mem_append.1 hu with e | e
  ·exact(h.yes h2).2.2 u e hg
  ·rw [List.mem_singleton.1 e];exact h1.2
 ·by_cases h2:(shOf n k (v.n,v.who) all).2.length < k
  ·rw [bestStep_few h1 h2]
   have hn:¬ GoodT n k all (v.n,v.who):=by unfold GoodT;omega
   refine⟨fun h3=>⟨(h.no h3).1,fun u hu=>?_⟩,fun h3=>⟨(h.yes h3).1,(h.yes h3).2.1,fun u hu hg=>?_⟩⟩
   ·rcases List.mem_append.1 hu with e | e
    ·exact(h.no h3).2 u e
    ·rw [List.mem_singleton.1 e];exact hn
   ·rcases List.mem_append.1 hu with e | e
    ·exact(h.yes h3).2.2 u e hg
    ·rw [List.mem_singleton.1 e] at hg;exact absurd hg hn
  ·rw [bestStep_new h1 h2]
   have hg:GoodT n k all (v.n,v.who):=by unfold GoodT;omega
   refine⟨fun h3=>(by cases h3),fun _=>⟨hg,rfl,fun u hu hgu=>?_⟩⟩
   rcases List.mem_append.1 hu with e | e
   ·cases hs:S.2.2 with
    | false=>exact absurd hgu ((h.no hs).2 u e)
    | true =>
     have hl:lessB S.1 (v.n,v.who)=true:=by
      cases hl:lessB S.1 (v.n,v.who) with
      | true=>rfl
      | false=>exact absurd ⟨hs,hl⟩ h1
     cases hq:lessB (v.n,v.who) (u.n,u.who) with
     | false=>rfl
     | true =>
      have:=(h.yes hs).2.2 u e hgu
      rw [less_trans hl hq] at this
      cases this
   ·rw [List.mem_singleton.1 e]
    show lessB (v.n,v.who) (v.n,v.who)=false
    simp [lessB]
theorem bestInv (n k:Nat)(all:List Ver):∀ i,i<=all.length->BestInv n k all (all.take i) (bestF n k all (all.take i))
 | 0,_=>⟨fun _=>⟨rfl,fun v hv=>(by simp at hv)⟩,fun h=>(by cases h)⟩
 | i+1,hi=>by
  have ih:=bestInv_step (verAt all i) (bestInv n k all i (by omega))
  rw [bestF_succ (by omega)]
  have e:all.take (i+1)=all.take i ++ [verAt all i]:=by rw [List.take_add_one,verAt_get (by omega)];rfl
  rw [e]
  exact ih
theorem best_none {n k:Nat}{all:List Ver}(h:∀ v ∈ all,¬ GoodT n k all (v.n,v.who)):bestF n k all all=((0,0),⟨#[]⟩,false):=by
 have hi:=bestInv n k all all.length (Nat.le_refl _)
 rw [List.take_length] at hi
 cases hs:(bestF n k all all).2.2 with
 | false=>exact(hi.no hs).1
 | true =>
  exfalso
  obtain⟨h1,h2,h3⟩:=hi.yes hs
  by_cases hk:1<=k
  ·obtain⟨v,hv,e⟩:=good_told hk h1
   exact h v hv (by rw [e];exact h1)
  ·cases hall:all with
   | nil=>rw [hall] at hs;cases hs
   | cons v r=>exact h v (by rw [hall];simp) (by unfold GoodT;omega)
theorem best_is {n k:Nat}{all:List Ver}{t:Int×Int}(hk:1<=k)(h:GoodT n k all t)(hmax:∀ u,GoodT n k all u->lessB t u=false):bestF n k all all=(t,decOf n k all t,true):=by
 have hi:=bestInv n k all all.length (Nat.le_refl _)
 rw [List.take_length] at hi
 obtain⟨v,hv,e⟩:=good_told hk h
 cases hs:(bestF n k all all).2.2 with
 | false=>exact absurd h (by rw [<- e];exact(hi.no hs).2 v hv)
 | true =>
  obtain⟨h1,h2,h3⟩:=hi.yes hs
  have e1:(bestF n k all all).1=t:=less_eq (by have:=h3 v hv (by rw [e];exact h);rw [e] at this;exact this) (hmax _ h1)
  rw [e1] at h2
  exact Prod.ext e1 (Prod.ext h2 hs)
theorem shOf_size {n k:Nat}{t:Int×Int}(L:List Ver):((shOf n k t L).1 < 0↔(shOf n k t L).2=[]):=by
 have go:∀ (L:List Ver) (S:Int×List (Int×ByteArray)),(S.1 < 0↔S.2=[])->((L.foldl (shStep n k t) S).1 < 0↔(L.foldl (shStep n k t) S).2=[]):=by
  intro L
  induction L with
  | nil=>intro S h;exact h
  | cons v L ih =>
   intro S h
   rw [List.foldl_cons]
   refine ih _ ?_
   by_cases hy:v.n=t.1/\v.who=t.2/\canB n k v=true
   ·have hc:=hy.2.2
    unfold canB at hc
    rw [Bool.and_eq_true] at hc
    have c1:=(of_decide_eq_true hc.2).1
    by_cases hz:S.1 < 0
    ·rw [shStep_yes (z:=v.size) hy (by rw [if_pos hz]),h.1 hz]
     simp
     omega
    ·rw [shStep_yes (z:=S.1) hy (by rw [if_neg hz])]
     have hne:S.2≠[]:=fun e=>hz (h.2 e)
     constructor
     ·intro h2;exact absurd h2 hz
     ·intro h2
      dsimp only at h2
      split at h2
      ·simp at h2
      ·exact absurd h2 hne
   ·rw [shStep_no hy]
    exact h
 exact go L _ ⟨fun _=>rfl,fun _=>by decide⟩
theorem shOf_snoc {n k:Nat}{t:Int×Int}(L:List Ver)(v:Ver):shOf n k t (L ++ [v])=shStep n k t (shOf n k t L) v:=by
 unfold shOf
 rw [List.foldl_append]
 rfl
theorem idxN_lt' {l:List ByteArray}{s:ByteArray}(h:s ∈ l):idxN l s < l.length:=by
 unfold idxN
 exact List.findIdx_lt_length_of_exists ⟨s,h,by simp⟩
def rowL (a:MAsk)(x:ByteArray):List Ver:=a.L.getD (idxN a.from_ x) []
def I64 (x:Int):Prop:=-9223372036854775808<=x/\x<=9223372036854775807
def MAsk.small (a:MAsk)(m:Msg):Prop:=bulkV a.L.flatten+bulkN m<=6000
def toldP (a:MAsk)(l:List ByteArray):List (List Ver):=l.map fun x=>if inL a.from_ x then rowL a x else []
theorem toldP_succ {a:MAsk}{l:List ByteArray}{i:Nat}(h:i < l.length):toldP a (l.take (i+1))=toldP a (l.take i) ++ [if inL a.from_ (txt l i) then rowL a (txt l i) else []]:=by
 unfold toldP
 rw [List.take_succ_eq_append_getElem h,List.map_append,txt_getElem l i h]
 rfl
theorem toldP_flat (a:MAsk):∀ l:List ByteArray,(toldP a l).flatten=(toldL a.from_ a.L l).flatten
 | []=>rfl
 | x :: l=>by
  have ih:=toldP_flat a l
  unfold toldP at ih ⊢
  rw [List.map_cons,List.flatten_cons,ih]
  by_cases h:inL a.from_ x=true
  ·have e1:toldL a.from_ a.L (x :: l)=a.L.getD (idxN a.from_ x) [] :: toldL a.from_ a.L l:=if_pos h
   rw [if_pos h,e1,List.flatten_cons]
   rfl
  ·have e1:toldL a.from_ a.L (x :: l)=toldL a.from_ a.L l:=if_neg h
   rw [if_neg h,e1,List.nil_append]
theorem idxN_old {F:List ByteArray}{x y:ByteArray}(hy:y ∈ F):idxN (F ++ [x]) y=idxN F y:=by
 unfold idxN
 rw [List.findIdx_append]
 rw [if_pos (List.findIdx_lt_length_of_exists ⟨y,hy,by simp⟩)]
theorem idxN_new {F:List ByteArray}{x:ByteArray}(hx:x ∉ F):idxN (F ++ [x]) x=F.length:=by
 unfold idxN
 rw [List.findIdx_append]
 have h:List.findIdx (fun z=>decide (z=x)) F=F.length:=by
  rw [List.findIdx_eq_length]
  intro z hz
  exact decide_eq_false (fun e=>hx (e ▸ hz))
 rw [if_neg (by omega)]
 simp
theorem rowL_old {a:MAsk}{m:Msg}(hb:a.from_.length=a.L.length){y:ByteArray}(hy:y ∈ a.from_):rowL (a.heard m) y=rowL a y:=by
 unfold rowL MAsk.heard
 show(a.L ++ [m.L]).getD (idxN (a.from_ ++ [m.from_]) y) []=_
 rw [idxN_old hy,List.getD_eq_getElem?_getD,List.getD_eq_getElem?_getD,List.getElem?_append_left (by rw [<- hb];exact idxN_lt' hy)]
theorem rowL_new {a:MAsk}{m:Msg}(hb:a.from_.length=a.L.length)(hn:m.from_ ∉ a.from_):rowL (a.heard m) m.from_=m.L:=by
 unfold rowL MAsk.heard
 show(a.L ++ [m.L]).getD (idxN (a.from_ ++ [m.from_]) m.from_) []=_
 rw [idxN_new hn,hb,List.getD_eq_getElem?_getD,List.getElem?_append_right (Nat.le_refl _),Nat.sub_self]
 rfl
theorem idxN_txt {F:List ByteArray}(hn:F.Nodup){i:Nat}(hi:i < F.length):idxN F F[i]=i:=idxN_eq hi (txt_getElem F i hi) fun j hj e=>by
 rw [txt_getElem F j (by omega)] at e
 exact List.pairwise_iff_getElem.1 hn j i (by omega) hi hj e
theorem told_mem {a:MAsk}(hb:a.from_.length=a.L.length)(hn:a.from_.Nodup)(hs:∀ x ∈ a.from_,x ∈ a.c.L)(v:Ver):v ∈ (toldP a a.c.L).flatten↔v ∈ a.L.flatten:=by
 simp only [List.mem_flatten]
 constructor
 ·rintro⟨l,hl,hv⟩
  unfold toldP at hl
  obtain⟨x,hx,rfl⟩:=List.mem_map.1 hl
  by_cases hi:inL a.from_ x=true
  ·rw [if_pos hi] at hv
   have hlt:idxN a.from_ x < a.L.length:=by rw [<- hb];exact idxN_lt' (inL_iff.1 hi)
   refine⟨rowL a x,?_,hv⟩
   unfold rowL
   rw [List.getD_eq_getElem?_getD,List.getElem?_eq_getElem hlt]
   exact List.getElem_mem hlt
  ·rw [if_neg hi] at hv
   cases hv
 ·rintro⟨l,hl,hv⟩
  obtain⟨i,hi,rfl⟩:=List.getElem_of_mem hl
  have hi':i < a.from_.length:=by omega
  have hm:a.from_[i] ∈ a.from_:=List.getElem_mem hi'
  refine⟨rowL a a.from_[i],?_,?_⟩
  ·unfold toldP
   refine List.mem_map.2 ⟨a.from_[i],hs _ hm,?_⟩
   rw [if_pos (inL_iff.2 hm)]
  ·unfold rowL
   rw [idxN_txt hn hi',List.getD_eq_getElem?_getD,List.getElem?_eq_getElem hi]
   exact hv
theorem found_same (a:MAsk):a.found_.c=a.c/\a.found_.key=a.key/\a.found_.name=a.name/\a.found_.moves=a.moves/\a.found_.who=a.who/\a.found_.op=a.op/\a.found_.config=a.config/\a.found_.st=a.st/\a.found_.from_=a.from_/\a.found_.L=a.L/\a.found_.put=a.put:=by
 unfold MAsk.found_
 split <;> exact⟨rfl,rfl,rfl,rfl,rfl,rfl,rfl,rfl,rfl,rfl,rfl⟩
theorem idxN_get {F:List ByteArray}{x:ByteArray}(h:x ∈ F):F[idxN F x]'(idxN_lt' h)=x:=by
 have:=List.findIdx_getElem (p:=fun z=>decide (z=x)) (xs:=F) (w:=idxN_lt' h)
 exact of_decide_eq_true this
theorem sum_sub (f:Nat->Nat):∀ (n:Nat) (I:List Nat),I.Nodup->(∀ i ∈ I,i < n)->(I.map f).sum<=((List.range n).map f).sum
 | 0,I,_,h=>by
  cases I with
  | nil=>exact Nat.le_refl _
  | cons i I=>exact absurd (h i (by simp)) (Nat.not_lt_zero _)
 | n+1,I,hn,h=>by
  rw [List.range_succ,List.map_append,List.sum_append]
  by_cases hm:n ∈ I
  ·have hp:I.Perm (n :: I.erase n):=List.perm_cons_erase hm
   have e:(I.map f).sum=f n+((I.erase n).map f).sum:=by
    rw [(hp.map f).sum_nat,List.map_cons,List.sum_cons]
   have:=sum_sub f n (I.erase n) (hn.erase n) (fun i hi=>by
    have h1:=(List.Nodup.mem_erase_iff hn).1 hi
    have:=h i h1.2
    have:=h1.1
    omega)
   simp
   omega
  ·have := sum_sub f n I hn (fun i hi => by
    have:=h i hi
    have:i≠n:=fun e=>hm (e ▸ hi)
    omega)
   omega
theorem flat_sum (L:List (List Ver)):L.flatten.length=((List.range L.length).map fun i=>(L.getD i []).length).sum:=by
 rw [List.length_flatten]
 congr 1
 refine List.ext_getElem (by simp) fun i h1 h2=>?_
 simp at h1
 simp [List.getElem?_eq_getElem h1]
theorem toldP_len {a:MAsk}(hb:a.from_.length=a.L.length)(hn:a.from_.Nodup):∀ l:List ByteArray,l.Nodup->∃ I:List Nat,I.Nodup/\(∀ i ∈ I,i < a.L.length)/\(∀ i ∈ I,∃ x ∈ l,x ∈ a.from_/\i=idxN a.from_ x)/\(toldP a l).flatten.length=(I.map fun i=>(a.L.getD i []).length).sum
 | [],_=>⟨[],List.nodup_nil,(fun i hi=>by cases hi),(fun i hi=>by cases hi),rfl⟩
 | x :: l,h=>by
  obtain⟨hx,hl⟩:=List.nodup_cons.1 h
  obtain⟨I,h1,h2,h3,h4⟩:=toldP_len hb hn l hl
  have e:(toldP a (x :: l)).flatten.length=(if inL a.from_ x then rowL a x else []).length+(toldP a l).flatten.length:=by
   unfold toldP
   rw [List.map_cons,List.flatten_cons,List.length_append]
  by_cases hi:inL a.from_ x=true
  ·have hm:=inL_iff.1 hi
   refine⟨idxN a.from_ x :: I,List.nodup_cons.2 ⟨fun hI=>?_,h1⟩,?_,?_,?_⟩
   ·obtain⟨y,hy,hyF,he⟩:=h3 _ hI
    have ex:a.from_[idxN a.from_ x]'(idxN_lt' hm)=x:=idxN_get hm
    have ey:a.from_[idxN a.from_ y]'(idxN_lt' hyF)=y:=idxN_get hyF
    have:x=y:=by rw [<- ex,<- ey];simp only [he]
    exact hx (this ▸ hy)
   ·intro i hi'
    rcases List.mem_cons.1 hi' with rfl | hi'
    ·rw [<- hb];exact idxN_lt' hm
    ·exact h2 i hi'
   ·intro i hi'
    rcases List.mem_cons.1 hi' with rfl | hi'
    ·exact⟨x,by simp,hm,rfl⟩
    ·obtain⟨y,hy,g⟩:=h3 i hi'
     exact⟨y,by simp [hy],g⟩
   ·rw [e,if_pos hi,h4,List.map_cons,List.sum_cons]
    rfl
  ·refine⟨I,h1,h2,fun i hi'=>?_,?_⟩
   ·obtain⟨y,hy,g⟩:=h3 i hi'
    exact⟨y,by simp [hy],g⟩
   ·rw [e,if_neg hi,h4]
    simp
theorem toldP_le {a:MAsk}(hb:a.from_.length=a.L.length)(hn:a.from_.Nodup){l:List ByteArray}(hl:l.Nodup):(toldP a l).flatten.length<=a.L.flatten.length:=by
 obtain⟨I,h1,h2,_,h4⟩:=toldP_len hb hn l hl
 rw [h4,flat_sum]
 exact sum_sub _ _ I h1 h2
theorem bulkV_mem:∀ {l:List Ver} {v:Ver},v ∈ l->v.text.size<=bulkV l
 | u :: l,v,h=>by
  have e:bulkV (u :: l)=40+u.text.size+bulkV l:=by unfold bulkV;rw [List.map_cons,List.sum_cons]
  rw [e]
  rcases List.mem_cons.1 h with rfl | h
  ·omega
  ·have:=bulkV_mem h
   omega
theorem bulk_from {m:Msg}{a:MAsk}(h:a.small m):m.from_.size<=6000/\m.L.length<=150/\(∀ v ∈ m.L,v.text.size<=6000)/\a.L.flatten.length<=150/\(a.heard m).L.flatten.length<=150:=by
 unfold MAsk.small bulkN at h
 have h1:=bulkV_len m.L
 have h2:=bulkV_len a.L.flatten
 have h3:(a.heard m).L.flatten.length=a.L.flatten.length+m.L.length:=by
  show(a.L ++ [m.L]).flatten.length=_
  rw [List.flatten_append,List.length_append]
  simp
 refine⟨by omega,by omega,fun v hv=>?_,by omega,by omega⟩
 have:=bulkV_mem hv
 omega
theorem found_next (a:MAsk):a.found_.next=a.next:=by
 unfold MAsk.found_
 split <;> rfl
theorem hear_seal {a:MAsk}{m:Msg}(h:a.takes m=true)(h2:a.st=.sealing):a.hear m=tolR (a.heard m):=by
 unfold MAsk.hear tolR
 have e:(a.heard m).c=a.c:=rfl
 rw [if_neg (by rw [h];decide),if_neg (fun hh=>hh.2 h2),e]
 split
 ·rfl
 ·rw [if_neg (by rw [h2];decide)]
structure AFine (a:MAsk):Prop where
 cfg:¬ 0 < (cfgF a.c).1
 key:a.key.size<=100
 name:a.name.size<=100
 still:a.moves=false
 whos:0<=a.who/\a.who < 6
 opb:0<=a.op/\a.op<=9223372036854775807
 cfb:0<=a.config/\a.config<=9223372036854775807
 text:a.text.size<=1000
 st:a.st≠.sealing
 nodup:a.from_.Nodup
 sub:∀ x ∈ a.from_,x ∈ a.c.L
 both:a.from_.length=a.L.length
 keep:a.st=.keeping->a.found=true
 vers:∀ l ∈ a.L,∀ v ∈ l,VerI64 v
theorem takes_facts {a:MAsk}{m:Msg}(hs:a.st≠.sealing)(h:a.takes m=true):(a.st=.looking∨a.st=.keeping)/\m.from_ ∈ a.c.L/\m.from_ ∉ a.from_:=by
 unfold MAsk.takes at h
 rw [Bool.and_eq_true,Bool.and_eq_true] at h
 obtain⟨q1,q2,q3⟩:=h
 refine⟨?_,inL_iff.1 q2,fun hm=>by rw [inL_iff.2 hm] at q3;cases q3⟩
 have h0:=(of_decide_eq_true q1).1
 cases e:a.st with
 | looking=>exact Or.inl rfl
 | sealing=>exact absurd e hs
 | keeping=>exact Or.inr rfl
 | done=>rw [e] at h0;exact absurd rfl h0
 | refused=>rw [e] at h0;exact absurd rfl h0
theorem AFine.heard {a:MAsk}{m:Msg}(h:AFine a)(ht:a.takes m=true)(hv:∀ v ∈ m.L,VerI64 v):AFine (a.heard m):=by
 obtain⟨_,h2,h3⟩:=takes_facts h.st ht
 refine⟨h.cfg,h.key,h.name,h.still,h.whos,h.opb,h.cfb,h.text,h.st,?_,?_,?_,h.keep,?_⟩
 ·show(a.from_ ++ [m.from_]).Nodup
  rw [List.nodup_append]
  exact⟨h.nodup,by simp,fun x hx y hy=>by rw [List.mem_singleton.1 hy];intro e;exact h3 (e ▸ hx)⟩
 ·intro x hx
  rcases List.mem_append.1 hx with hx | hx
  ·exact h.sub x hx
  ·rw [List.mem_singleton.1 hx];exact h2
 ·show(a.from_ ++ [m.from_]).length=(a.L ++ [m.L]).length
  simp [h.both]
 ·intro l hl
  rcases List.mem_append.1 hl with hl | hl
  ·exact h.vers l hl
  ·rw [List.mem_singleton.1 hl];exact hv
theorem found_text {a:MAsk}(h:AFine a):a.found_.text.size<=1000:=by
 unfold MAsk.found_
 split
 ·exact h.text
 ·obtain⟨⟨h1,_,_⟩,_⟩:=cfgF_fine h.cfg
  exact bestF_size (by omega) _ _ (by decide)
theorem AFine.ended {a:MAsk}(h:AFine a){st:St}(hs:st=.done∨st=.refused):AFine { a with st:=st }:=⟨h.cfg,h.key,h.name,h.still,h.whos,h.opb,h.cfb,h.text,(by intro e;rcases hs with hs | hs <;> rw [hs] at e <;> cases e),h.nodup,h.sub,h.both,(fun e=>by rcases hs with hs | hs <;> rw [hs] at e <;> cases e),h.vers⟩
theorem AFine.found {a:MAsk}(h:AFine a)(hst:a.st=.looking):AFine a.found_:=by
 obtain⟨e1,e2,e3,e4,e5,e6,e7,e8,e9,e10,_⟩:=found_same a
 exact⟨by rw [e1];exact h.cfg,by rw [e2];exact h.key,by rw [e3];exact h.name,by rw [e4];exact h.still,by rw [e5];exact h.whos,by rw [e6];exact h.opb,by rw [e7];exact h.cfb,found_text h,by rw [e8];exact h.st,by rw [e9];exact h.nodup,by rw [e9,e1];exact h.sub,by rw [e9,e10];exact h.both,(fun e=>by rw [e8,hst] at e;cases e),by rw [e10];exact h.vers⟩
theorem keeps_eq {a:MAsk}(h:a.moves=false):a.keeps={ a with st:=.keeping,from_:=[],L:=[] }:=by
 unfold MAsk.keeps
 rw [h]
 rfl
theorem AFine.keeps {a:MAsk}(h:AFine a)(hf:a.found=true):AFine a.keeps:=by
 rw [keeps_eq h.still]
 exact⟨h.cfg,h.key,h.name,h.still,h.whos,h.opb,h.cfb,h.text,(by intro e;cases e),List.nodup_nil,(fun x hx=>by cases hx),rfl,(fun _=>hf),(fun l hl=>by cases hl)⟩
end Go.Proofs.YtmhoiodfppdlnaaGreatDoor
