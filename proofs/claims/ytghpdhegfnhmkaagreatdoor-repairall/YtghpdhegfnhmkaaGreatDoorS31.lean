import Derived.Test.YtghpdhegfnhmkaaGreatDoorS23
import Derived.Test.YtghpdhegfnhmkaaGreatDoorS30
import Derived.Test.YtghpdhegfnhmkaaGreatDoorS7
import Derived.Test.YtghpdhegfnhmkaaGreatDoorS21
import Derived.Test.YtghpdhegfnhmkaaGreatDoorS19
import Derived.Test.YtghpdhegfnhmkaaGreatDoorS5
import Derived.Test.YtghpdhegfnhmkaaGreatDoorS4
import Derived.Test.YtghpdhegfnhmkaaGreatDoorS6
import Derived.Test.YtghpdhegfnhmkaaGreatDoorS0
import Derived.BigQuiet
namespace Go.Proofs.YtghpdhegfnhmkaaGreatDoor
open Go.RowKit
theorem shAt_get {l:List (Int×ByteArray)} {i:Nat} (h:i < l.length):shAt l i=l[i]:=by
 unfold shAt
 rw [List.getD_eq_getElem?_getD,List.getElem?_eq_getElem h]
 rfl
theorem told_object {n k:Nat} {s:ByteArray} {so:List (Int×ByteArray)} (hk1:1<=k) (hn:n<=200) (hlen:so.length=k) (hnd:(atsN so).Nodup) (hat:∀ i,i < k->(shAt so i).1.toNat < n/\(shAt so i).2=encT k s (shAt so i).1.toNat) (hkn:k<=n):decT k s.size so=s:=by
 have hXl:(atsN so).length=k:=by unfold atsN;rw [List.length_map];exact hlen
 have hb:bytesOf (decT k s.size so)=bytesOf s:=by
  rw [decT_bytes]
  refine nth_ext (by rw [rowFn_length,bytesOf_length]) fun p hp=>?_
  rw [rowFn_length] at hp
  rw [nth_rowFn _ _ p hp]
  have hm:=wide_mul (size:=s.size) hk1
  have hw0:0 < wideN k s.size:=by
   rcases Nat.eq_zero_or_pos (wideN k s.size) with e | e
   ·rw [e,Nat.mul_zero] at hm;omega
   ·exact e
  have hq:p / wideN k s.size < k:=by rw [Nat.div_lt_iff_lt_mul hw0];omega
  have hr:=Nat.mod_lt p hw0
  rw [told (X:=atsN so) (u:=objN s (wideN k s.size)) (fun j=>?_) hnd hXl (by omega) (fun j c=>objN_lt s _ j c) (fun j c=>txtN_lt so j c) _ (fun i hi=>?_) _ hq]
  ·unfold objN
   congr 1
   have:=Nat.mod_add_div p (wideN k s.size)
   rw [Nat.mul_comm (wideN k s.size)] at this
   omega
  ·by_cases hj:j < k
   ·rw [nth_ats (by rw [hlen];exact hj)]
    have:=(hat j hj).1
    omega
   ·rw [nth_past (by omega)];decide
  ·rw [nth_ats (by rw [hlen];exact hi)]
   unfold txtN
   rw [(hat i hi).2]
   exact encT_nth k s _ _ hr
 rw [<- strOf_bytesOf (decT k s.size so),hb,strOf_bytesOf]
structure ShFine (n k:Nat) (S:Int×List (Int×ByteArray)):Prop where
 some_:S.2=[]∨0<=S.1
 le:S.1<=1000
 each:∀ x ∈ S.2,0<=x.1/\x.1 < n/\x.2.size=wideN k S.1.toNat
 one:(S.2.map Prod.fst).Nodup
theorem shStep_fine {n k:Nat} {t:Int×Int} {S:Int×List (Int×ByteArray)} (v:Ver) (h:ShFine n k S):ShFine n k (shStep n k t S v):=by
 by_cases hy:v.n=t.1/\v.who=t.2/\canB n k v=true
 ·have hc:=hy.2.2
  unfold canB at hc
  rw [Bool.and_eq_true] at hc
  obtain ⟨c1,c2,c3,c4,c5⟩:=of_decide_eq_true hc.2
  by_cases hz:S.1 < 0
  ·have h0 : S.2 = [] := by
    rcases h.some_ with e | e
    ·exact e
    ·omega
   rw [shStep_yes (z:=v.size) hy (by rw [if_pos hz]),h0]
   refine ⟨Or.inr c1,c2,fun x hx=>?_,?_⟩
   ·simp at hx
    subst hx
    exact ⟨c3,c4,c5⟩
   ·simp
  ·rw [shStep_yes (z:=S.1) hy (by rw [if_neg hz])]
   by_cases hq:v.size=S.1/\S.2.any (fun y=>y.1==v.at_)=false
   ·rw [if_pos hq]
    refine ⟨Or.inr (by show 0<=S.1;omega),h.le,fun x hx=>?_,?_⟩
    ·rcases List.mem_append.1 hx with e | e
     ·exact h.each x e
     ·simp at e
      subst e
      exact ⟨c3,c4,by show v.text.size=wideN k S.1.toNat;rw [<- hq.1];exact c5⟩
    ·show ((S.2 ++ [(v.at_,v.text)]).map Prod.fst).Nodup
     rw [List.map_append]
     refine List.nodup_append.2 ⟨h.one,by simp,fun a ha b hb e=>?_⟩
     simp at hb
     subst hb e
     obtain ⟨y,hy1,hy2⟩:=List.mem_map.1 ha
     have:=List.any_eq_false.1 hq.2 y hy1
     exact this (by simp [hy2])
   ·rw [if_neg hq]
    exact ⟨h.some_,h.le,h.each,h.one⟩
 ·rw [shStep_no hy]
  exact h
theorem shOf_fine (n k:Nat) (t:Int×Int) (L:List Ver):ShFine n k (shOf n k t L):=by
 have go:∀ (L:List Ver) (S:Int×List (Int×ByteArray)),ShFine n k S->ShFine n k (L.foldl (shStep n k t) S):=by
  intro L
  induction L with
  | nil=>intro S h;exact h
  | cons v L ih=>intro S h;exact ih _ (shStep_fine v h)
 exact go L _ ⟨Or.inl rfl,by show (-1:Int)<=1000;decide,fun x hx=>(by cases hx),List.nodup_nil⟩
theorem pickN_take (k:Nat) (l:List (Int×ByteArray)) (hd:(l.map Prod.fst).Nodup):∀ i,i<=l.length->pickN k l i=l.take (min k i)
 | 0,_=>by simp [pickN]
 | i+1,hi=>by
  have ih:=pickN_take k l hd i (by omega)
  have hsh:shAt l i=l[i]:=by
   unfold shAt
   rw [List.getD_eq_getElem?_getD,List.getElem?_eq_getElem (by omega)]
   rfl
  by_cases hk:i < k
  ·have e1:min k i=i:=by omega
   have e2:min k (i+1)=i+1:=by omega
   rw [e1] at ih
   rw [e2,pickN_yes (by rw [ih,List.length_take];omega) (by
    rw [ih,List.any_eq_false]
    intro y hy hyx
    obtain ⟨j,hj,hjy⟩:=List.mem_take_iff_getElem.1 hy
    have hji:j < i:=by omega
    have e:l[j].1=l[i].1:=by rw [hjy,<- hsh];simpa using hyx
    have:=(List.getElem_inj (h₀:=by rw [List.length_map];omega) (h₁:=by rw [List.length_map];omega) hd).1 (show (l.map Prod.fst)[j]'(by rw [List.length_map];omega)=(l.map Prod.fst)[i]'(by rw [List.length_map];omega) by rw [List.getElem_map,List.getElem_map];exact e)
    omega),ih,hsh]
   exact (List.take_succ_eq_append_getElem (by omega)).symm
  ·have e1:min k i=k:=by omega
   have e2:min k (i+1)=k:=by omega
   rw [e1] at ih
   rw [e2,pickN_full (by rw [ih,List.length_take];omega),ih]
theorem shOf_fits {n k:Nat} {t:Int×Int} {L:List Ver} (hk1:1<=k) (h:¬ (shOf n k t L).2.length < k):(((shOf n k t L).1.toNat:Nat):Int)=(shOf n k t L).1/\(shOf n k t L).1.toNat<=1000/\Fits n k (shOf n k t L).1.toNat (shOf n k t L).2/\∀ i,(shAt (shOf n k t L).2 i).2.size<=100000:=by
 have hf:=shOf_fine n k t L
 generalize shOf n k t L=S at *
 have h0:0<=S.1:=by
  rcases hf.some_ with e | e
  ·rw [e] at h;simp at h;omega
  ·exact e
 have hle:=hf.le
 have hwd:=wideN_le (size:=S.1.toNat) hk1
 refine ⟨by omega,by omega,⟨?_,?_⟩,fun i=>?_⟩
 ·rw [List.any_eq_false]
  intro x hx hb
  obtain ⟨a1,a2,a3⟩:=hf.each x hx
  unfold badB at hb
  simp only [Bool.or_eq_true,decide_eq_true_eq,Bool.not_eq_true',decide_eq_false_iff_not] at hb
  omega
 ·rw [pickN_take k S.2 hf.one _ (Nat.le_refl _),List.length_take]
  omega
 ·by_cases hi:i < S.2.length
  ·have e : shAt S.2 i = S.2[i] := by
    unfold shAt
    rw [List.getD_eq_getElem?_getD,List.getElem?_eq_getElem hi]
    rfl
   have:=(hf.each _ (List.getElem_mem hi)).2.2
   rw [e,this]
   omega
  ·unfold shAt
   rw [List.getD_eq_getElem?_getD,List.getElem?_eq_none (by omega)]
   show (0:Nat)<=_
   omega
def bestStep (n k:Nat) (all:List Ver) (S:(Int×Int)×ByteArray×Bool) (v:Ver):(Int×Int)×ByteArray×Bool :=
 if S.2.2=true/\lessB S.1 (v.n,v.who)=false then S
 else if (shOf n k (v.n,v.who) all).2.length < k then S
 else ((v.n,v.who),decT k (shOf n k (v.n,v.who) all).1.toNat (pickN k (shOf n k (v.n,v.who) all).2 (shOf n k (v.n,v.who) all).2.length),true)
def bestF (n k:Nat) (all L:List Ver):(Int×Int)×ByteArray×Bool:=L.foldl (bestStep n k all) ((0,0),⟨#[]⟩,false)
theorem bestF_succ {n k:Nat} {all L:List Ver} {i:Nat} (hi:i < L.length):bestF n k all (L.take (i+1))=bestStep n k all (bestF n k all (L.take i)) (verAt L i):=by
 unfold bestF
 rw [List.take_add_one,verAt_get hi,List.foldl_append]
 rfl
theorem bestStep_old {n k:Nat} {all:List Ver} {S:(Int×Int)×ByteArray×Bool} {v:Ver} (h:S.2.2=true/\lessB S.1 (v.n,v.who)=false):bestStep n k all S v=S:=if_pos h
theorem bestStep_few {n k:Nat} {all:List Ver} {S:(Int×Int)×ByteArray×Bool} {v:Ver} (h:¬ (S.2.2=true/\lessB S.1 (v.n,v.who)=false)) (h2:(shOf n k (v.n,v.who) all).2.length < k):bestStep n k all S v=S:=by unfold bestStep;rw [if_neg h,if_pos h2]
theorem bestStep_new {n k:Nat} {all:List Ver} {S:(Int×Int)×ByteArray×Bool} {v:Ver} (h:¬ (S.2.2=true/\lessB S.1 (v.n,v.who)=false)) (h2:¬ (shOf n k (v.n,v.who) all).2.length < k):bestStep n k all S v=((v.n,v.who),decT k (shOf n k (v.n,v.who) all).1.toNat (pickN k (shOf n k (v.n,v.who) all).2 (shOf n k (v.n,v.who) all).2.length),true):=by unfold bestStep;rw [if_neg h,if_neg h2]
end Go.Proofs.YtghpdhegfnhmkaaGreatDoor
namespace Go.Proofs.YtghpdhegfnhmkaaGreatDoor
theorem bestStep_size {n k:Nat} {all:List Ver} {S:(Int×Int)×ByteArray×Bool} {v:Ver} (hk:1<=k) (h:S.2.1.size<=1000):(bestStep n k all S v).2.1.size<=1000:=by
 unfold bestStep
 split
 ·exact h
 ·split
  ·exact h
  ·rename_i h2
   show (decT _ _ _).size<=1000
   rw [decT_size]
   exact (shOf_fits hk h2).2.1
theorem bestF_size {n k:Nat} {all:List Ver} (hk:1<=k):∀ (L:List Ver) (S:(Int×Int)×ByteArray×Bool),S.2.1.size<=1000->(L.foldl (bestStep n k all) S).2.1.size<=1000
 | [],_,h=>h
 | _ :: L,_,h=>bestF_size hk L _ (bestStep_size hk h)
end Go.Proofs.YtghpdhegfnhmkaaGreatDoor
namespace Go.Proofs.YtghpdhegfnhmkaaGreatDoor
open Go.RowKit
def Vss (w:World) (p:Option Addr) (LL:List (List Ver)):Prop :=
 LL=[]∨∃ b o,p=some ⟨b,o,none⟩/\b < w.heap.size/\∀ i,i < LL.length->∃ q c,w.cell? ⟨b,o+i,none⟩=some (.slice q (LL.getD i []).length c)/\Rec verE w q (LL.getD i [])/\(LL.getD i []).length<=c/\(q=none->LL.getD i []=[]/\c=0)
theorem Vss.below {w w':World} {p:Option Addr} {LL:List (List Ver)} (h:Vss w p LL) (hb:Below w.heap.size w w'):Vss w' p LL:=by
 rcases h with h | ⟨b,o,hp,hlt,hc⟩
 ·exact Or.inl h
 ·refine Or.inr ⟨b,o,hp,Nat.lt_of_lt_of_le hlt hb.size,fun i hi=>?_⟩
  obtain ⟨q,c,h1,h2,h3,h4⟩:=hc i hi
  exact ⟨q,c,(hb.cell (p:=⟨b,o+i,none⟩) hlt).trans h1,h2.below hb,h3,h4⟩
theorem flatten_take_succ {LL:List (List Ver)} {i:Nat} (hi:i < LL.length):(LL.take (i+1)).flatten=(LL.take i).flatten ++ LL.getD i []:=by
 rw [List.take_succ_eq_append_getElem hi,List.flatten_append,List.getD_eq_getElem?_getD,List.getElem?_eq_getElem hi]
 simp
theorem flatten_take_le (LL:List (List Ver)) (i:Nat):(LL.take i).flatten.length<=LL.flatten.length:=by
 have h:LL.flatten=(LL.take i).flatten ++ (LL.drop i).flatten:=by rw [<- List.flatten_append,List.take_append_drop]
 rw [h,List.length_append]
 omega
theorem flatten_at_le (LL:List (List Ver)) {i:Nat} (hi:i < LL.length):(LL.take i).flatten.length+(LL.getD i []).length<=LL.flatten.length:=by
 have h:=flatten_take_le LL (i+1)
 rw [flatten_take_succ hi,List.length_append] at h
 exact h
theorem versinfo:(Tryz.prog.info? 62).map (fun i=>(i.zero,i.size,i.bytes))=some (some (.slice none 0 0),1,24):=by kernel_rfl
def bestE (c:Cfg) (LL:List (List Ver)):Int×Int:=if 0 < (cfgF c).1 then cfgF c else if c.n < (LL.length:Int) then (3,-1) else (0,-1)
def bestT (c:Cfg) (LL:List (List Ver)):(Int×Int)×ByteArray×Bool:=if 0 < (bestE c LL).1 then ((0,0),⟨#[]⟩,false) else bestF c.n.toNat c.k.toNat LL.flatten LL.flatten
theorem bestE_bad {c:Cfg} {LL:List (List Ver)} (h:0 < (cfgF c).1):bestE c LL=cfgF c/\bestT c LL=((0,0),⟨#[]⟩,false):=by
 have e:bestE c LL=cfgF c:=if_pos h
 exact ⟨e,by unfold bestT;rw [e,if_pos h]⟩
theorem bestE_many {c:Cfg} {LL:List (List Ver)} (h:¬ 0 < (cfgF c).1) (h2:c.n < (LL.length:Int)):bestE c LL=(3,-1)/\bestT c LL=((0,0),⟨#[]⟩,false):=by
 have e:bestE c LL=(3,-1):=by unfold bestE;rw [if_neg h,if_pos h2]
 exact ⟨e,by unfold bestT;rw [e];rfl⟩
theorem bestE_fine {c:Cfg} {LL:List (List Ver)} (h:¬ 0 < (cfgF c).1) (h2:¬ c.n < (LL.length:Int)):bestE c LL=(0,-1)/\bestT c LL=bestF c.n.toNat c.k.toNat LL.flatten LL.flatten:=by
 have e:bestE c LL=(0,-1):=by unfold bestE;rw [if_neg h,if_neg h2]
 exact ⟨e,by unfold bestT;rw [e];rfl⟩
theorem less_iff {a b:Int×Int}:lessB a b=true↔a.1 < b.1∨a.1=b.1/\a.2 < b.2:=by simp [lessB]
theorem less_trans {a b c:Int×Int} (h1:lessB a b=true) (h2:lessB b c=true):lessB a c=true:=by
 rw [less_iff] at *
 omega
theorem less_eq {a b:Int×Int} (h1:lessB a b=false) (h2:lessB b a=false):a=b:=by
 have n1:¬ (a.1 < b.1∨a.1=b.1/\a.2 < b.2):=fun h=>by rw [less_iff.2 h] at h1;cases h1
 have n2:¬ (b.1 < a.1∨b.1=a.1/\b.2 < a.2):=fun h=>by rw [less_iff.2 h] at h2;cases h2
 exact Prod.ext (by omega) (by omega)
def GoodT (n k:Nat) (all:List Ver) (t:Int×Int):Prop:=k<=(shOf n k t all).2.length
def decOf (n k:Nat) (all:List Ver) (t:Int×Int):ByteArray:=decT k (shOf n k t all).1.toNat (pickN k (shOf n k t all).2 (shOf n k t all).2.length)
theorem shOf_told {n k:Nat} {t:Int×Int}:∀ (L:List Ver) (S:Int×List (Int×ByteArray)),(∀ v ∈ L,(v.n,v.who)≠t)->L.foldl (shStep n k t) S=S
 | [],_,_=>rfl
 | v :: L,S,h=>by
  rw [List.foldl_cons,shStep_no (fun hh=>h v (by simp) (Prod.ext hh.1 hh.2.1))]
  exact shOf_told L S fun u hu=>h u (by simp [hu])
theorem good_told {n k:Nat} {all:List Ver} {t:Int×Int} (hk:1<=k) (h:GoodT n k all t):∃ v ∈ all,(v.n,v.who)=t:=by
 by_cases hh:∃ v ∈ all,(v.n,v.who)=t
 ·exact hh
 ·exfalso
  have e:shOf n k t all=(-1,[]):=shOf_told all _ fun v hv e=>hh ⟨v,hv,e⟩
  unfold GoodT at h
  rw [e] at h
  simp at h
  omega
structure BestInv (n k:Nat) (all L:List Ver) (S:(Int×Int)×ByteArray×Bool):Prop where
 no:S.2.2=false->S=((0,0),⟨#[]⟩,false)/\∀ v ∈ L,¬ GoodT n k all (v.n,v.who)
 yes:S.2.2=true->GoodT n k all S.1/\S.2.1=decOf n k all S.1/\∀ v ∈ L,GoodT n k all (v.n,v.who)->lessB S.1 (v.n,v.who)=false
theorem bestInv_step {n k:Nat} {all L:List Ver} {S:(Int×Int)×ByteArray×Bool} (v:Ver) (h:BestInv n k all L S):BestInv n k all (L ++ [v]) (bestStep n k all S v):=by
 by_cases h1:S.2.2=true/\lessB S.1 (v.n,v.who)=false
 ·rw [bestStep_old h1]
  refine ⟨fun h2=>(by rw [h1.1] at h2;cases h2),fun h2=>⟨(h.yes h2).1,(h.yes h2).2.1,fun u hu hg=>?_⟩⟩
  rcases List.mem_append.1 hu with e | e
  ·exact (h.yes h2).2.2 u e hg
  ·rw [List.mem_singleton.1 e];exact h1.2
 ·by_cases h2:(shOf n k (v.n,v.who) all).2.length < k
  ·rw [bestStep_few h1 h2]
   have hn:¬ GoodT n k all (v.n,v.who):=by unfold GoodT;omega
   refine ⟨fun h3=>⟨(h.no h3).1,fun u hu=>?_⟩,fun h3=>⟨(h.yes h3).1,(h.yes h3).2.1,fun u hu hg=>?_⟩⟩
   ·rcases List.mem_append.1 hu with e | e
    ·exact (h.no h3).2 u e
    ·rw [List.mem_singleton.1 e];exact hn
   ·rcases List.mem_append.1 hu with e | e
    ·exact (h.yes h3).2.2 u e hg
    ·rw [List.mem_singleton.1 e] at hg;exact absurd hg hn
  ·rw [bestStep_new h1 h2]
   have hg:GoodT n k all (v.n,v.who):=by unfold GoodT;omega
   refine ⟨fun h3=>(by cases h3),fun _=>⟨hg,rfl,fun u hu hgu=>?_⟩⟩
   rcases List.mem_append.1 hu with e | e
   ·cases hs:S.2.2 with
    | false=>exact absurd hgu ((h.no hs).2 u e)
    | true =>
     have hl:lessB S.1 (v.n,v.who)=true:=by
      cases hl:lessB S.1 (v.n,v.who) with
      | true=>rfl
      | false=>exact absurd ⟨hs,hl⟩ h1
     cases hq:lessB (v.n,v.who) (u.n,u.who) with
     | false=>rfl
     | true =>
      have:=(h.yes hs).2.2 u e hgu
      rw [less_trans hl hq] at this
      cases this
   ·rw [List.mem_singleton.1 e]
    show lessB (v.n,v.who) (v.n,v.who)=false
    simp [lessB]
theorem bestInv (n k:Nat) (all:List Ver):∀ i,i<=all.length->BestInv n k all (all.take i) (bestF n k all (all.take i))
 | 0,_=>⟨fun _=>⟨rfl,fun v hv=>(by simp at hv)⟩,fun h=>(by cases h)⟩
 | i+1,hi=>by
  have ih:=bestInv_step (verAt all i) (bestInv n k all i (by omega))
  rw [bestF_succ (by omega)]
  have e:all.take (i+1)=all.take i ++ [verAt all i]:=by rw [List.take_add_one,verAt_get (by omega)];rfl
  rw [e]
  exact ih
theorem best_none {n k:Nat} {all:List Ver} (h:∀ v ∈ all,¬ GoodT n k all (v.n,v.who)):bestF n k all all=((0,0),⟨#[]⟩,false):=by
 have hi:=bestInv n k all all.length (Nat.le_refl _)
 rw [List.take_length] at hi
 cases hs:(bestF n k all all).2.2 with
 | false=>exact (hi.no hs).1
 | true =>
  exfalso
  obtain ⟨h1,h2,h3⟩:=hi.yes hs
  by_cases hk:1<=k
  ·obtain ⟨v,hv,e⟩:=good_told hk h1
   exact h v hv (by rw [e];exact h1)
  ·cases hall:all with
   | nil=>rw [hall] at hs;cases hs
   | cons v r=>exact h v (by rw [hall];simp) (by unfold GoodT;omega)
theorem best_is {n k:Nat} {all:List Ver} {t:Int×Int} (hk:1<=k) (h:GoodT n k all t) (hmax:∀ u,GoodT n k all u->lessB t u=false):bestF n k all all=(t,decOf n k all t,true):=by
 have hi:=bestInv n k all all.length (Nat.le_refl _)
 rw [List.take_length] at hi
 obtain ⟨v,hv,e⟩:=good_told hk h
 cases hs:(bestF n k all all).2.2 with
 | false=>exact absurd h (by rw [<- e];exact (hi.no hs).2 v hv)
 | true =>
  obtain ⟨h1,h2,h3⟩:=hi.yes hs
  have e1:(bestF n k all all).1=t:=less_eq (by have:=h3 v hv (by rw [e];exact h);rw [e] at this;exact this) (hmax _ h1)
  rw [e1] at h2
  exact Prod.ext e1 (Prod.ext h2 hs)
theorem shOf_size {n k:Nat} {t:Int×Int} (L:List Ver):((shOf n k t L).1 < 0↔(shOf n k t L).2=[]):=by
 have go:∀ (L:List Ver) (S:Int×List (Int×ByteArray)),(S.1 < 0↔S.2=[])->((L.foldl (shStep n k t) S).1 < 0↔(L.foldl (shStep n k t) S).2=[]):=by
  intro L
  induction L with
  | nil=>intro S h;exact h
  | cons v L ih =>
   intro S h
   rw [List.foldl_cons]
   refine ih _ ?_
   by_cases hy:v.n=t.1/\v.who=t.2/\canB n k v=true
   ·have hc:=hy.2.2
    unfold canB at hc
    rw [Bool.and_eq_true] at hc
    have c1:=(of_decide_eq_true hc.2).1
    by_cases hz:S.1 < 0
    ·rw [shStep_yes (z:=v.size) hy (by rw [if_pos hz]),h.1 hz]
     simp
     omega
    ·rw [shStep_yes (z:=S.1) hy (by rw [if_neg hz])]
     have hne:S.2≠[]:=fun e=>hz (h.2 e)
     constructor
     ·intro h2;exact absurd h2 hz
     ·intro h2
      dsimp only at h2
      split at h2
      ·simp at h2
      ·exact absurd h2 hne
   ·rw [shStep_no hy]
    exact h
 exact go L _ ⟨fun _=>rfl,fun _=>by decide⟩
theorem shOf_snoc {n k:Nat} {t:Int×Int} (L:List Ver) (v:Ver):shOf n k t (L ++ [v])=shStep n k t (shOf n k t L) v:=by
 unfold shOf
 rw [List.foldl_append]
 rfl
def genV (k:Nat) (t:Int×Int) (s:ByteArray) (i:Nat):Ver:=⟨t.1,t.2,(s.size:Int),(i:Int),encT k s i⟩
def Gen (n k:Nat) (val:Int×Int->ByteArray) (all:List Ver):Prop:=∀ v ∈ all,∃ t i,v=genV k t (val t) i/\i < n/\tagB t.1 t.2=true/\(val t).size<=1000
theorem Gen.sub {n k:Nat} {val:Int×Int->ByteArray} {a b:List Ver} (h:Gen n k val b) (hs:∀ v ∈ a,v ∈ b):Gen n k val a:=fun v hv=>h v (hs v hv)
theorem genV_tag {k:Nat} {t u:Int×Int} {s r:ByteArray} {i j:Nat} (h:genV k t s i=genV k u r j):t=u/\i=j:=by
 unfold genV at h
 injection h with h1 h2 h3 h4 h5
 exact ⟨Prod.ext h1 h2,by omega⟩
theorem genV_can {n k:Nat} {t:Int×Int} {s:ByteArray} {i:Nat} (hi:i < n) (ht:tagB t.1 t.2=true) (hs:s.size<=1000):canB n k (genV k t s i)=true:=by
 unfold canB genV
 dsimp only
 rw [ht,Bool.true_and,decide_eq_true_eq]
 refine ⟨by omega,by omega,by omega,by omega,?_⟩
 rw [show (encT k s i).size=wideN k s.size from encT_size k s i]
 simp
theorem snoc_ind {α:Type} {P:List α->Prop} (h0:P []) (h1:∀ l v,P l->P (l ++ [v])) (l:List α):P l:=by
 have:∀ r:List α,P r.reverse:=fun r=>by
  induction r with
  | nil=>exact h0
  | cons a r ih=>rw [List.reverse_cons];exact h1 _ _ ih
 rw [<- List.reverse_reverse l]
 exact this _
theorem gen_shOf {n k:Nat} {val:Int×Int->ByteArray} (t:Int×Int):∀ {all:List Ver},Gen n k val all->∃ Y:List Nat,Y.Nodup/\(∀ i,i ∈ Y↔genV k t (val t) i ∈ all)/\(shOf n k t all).2=Y.map (encS k (val t))/\(shOf n k t all).1=if Y=[] then -1 else ((val t).size:Int):=by
 intro all
 refine snoc_ind (P:=fun all=>Gen n k val all->∃ Y:List Nat,Y.Nodup/\(∀ i,i ∈ Y↔genV k t (val t) i ∈ all)/\(shOf n k t all).2=Y.map (encS k (val t))/\(shOf n k t all).1=if Y=[] then -1 else ((val t).size:Int)) ?_ ?_ all
 ·intro _
  exact ⟨[],List.nodup_nil,by simp,rfl,rfl⟩
 ·intro l v ih hg
  obtain ⟨Y,y1,y2,y3,y4⟩:=ih (hg.sub fun u hu=>List.mem_append_left _ hu)
  obtain ⟨u,i,hv,hi,ht,hs⟩:=hg v (by simp)
  rw [shOf_snoc]
  by_cases e:u=t
  ·subst e
   have hc:=genV_can (k:=k) hi ht hs
   have hy:v.n=u.1/\v.who=u.2/\canB n k v=true:=by rw [hv];exact ⟨rfl,rfl,hc⟩
   have hsz:v.size=((val u).size:Int):=by rw [hv];rfl
   have hat:v.at_=(i:Int):=by rw [hv];rfl
   have htx:v.text=encT k (val u) i:=by rw [hv];rfl
   have hz:((val u).size:Int)=if (shOf n k u l).1 < 0 then v.size else (shOf n k u l).1:=by
    rw [y4,hsz]
    by_cases hY:Y=[]
    ·rw [if_pos hY];simp
    ·rw [if_neg hY,if_neg (by omega)]
   rw [shStep_yes hy hz]
   by_cases hm:i ∈ Y
   ·refine ⟨Y,y1,fun j=>?_,?_,?_⟩
    ·rw [y2 j,List.mem_append,List.mem_singleton,hv]
     constructor
     ·exact fun h=>Or.inl h
     ·rintro (h | h)
      ·exact h
      ·obtain ⟨_,rfl⟩:=genV_tag h
       exact (y2 j).1 hm
    ·rw [if_neg]
     ·exact y3
     ·rintro ⟨_,h⟩
      rw [y3,hat] at h
      have:(Y.map (encS k (val u))).any (fun y=>y.1==(i:Int))=true:=List.any_eq_true.2 ⟨encS k (val u) i,List.mem_map.2 ⟨i,hm,rfl⟩,by simp [encS]⟩
      rw [this] at h
      cases h
    ·have hY:Y≠[]:=fun e=>by rw [e] at hm;cases hm
     rw [if_neg hY]
   ·refine ⟨Y ++ [i],?_,fun j=>?_,?_,?_⟩
    ·rw [List.nodup_append]
     exact ⟨y1,by simp,fun a ha b hb=>by rw [List.mem_singleton.1 hb];intro e;exact hm (e ▸ ha)⟩
    ·rw [List.mem_append,List.mem_singleton,List.mem_append,List.mem_singleton,y2 j,hv]
     constructor
     ·rintro (h | h)
      ·exact Or.inl h
      ·rw [h];exact Or.inr rfl
     ·rintro (h | h)
      ·exact Or.inl h
      ·exact Or.inr (genV_tag h).2
    ·rw [if_pos]
     ·rw [y3,List.map_append,hat,htx]
      rfl
     ·refine ⟨hsz,?_⟩
      rw [y3,hat,List.any_eq_false]
      intro y hy1
      obtain ⟨j,hj,rfl⟩:=List.mem_map.1 hy1
      simp only [encS,beq_iff_eq]
      intro h
      exact hm (by have : j = i := by omega
                   exact this ▸ hj)
    ·exact (if_neg (List.append_ne_nil_of_right_ne_nil Y (List.cons_ne_nil i []))).symm
  ·have hno : ¬ (v.n = t.1 /\ v.who = t.2 /\ canB n k v = true) := by
    rw [hv]
    rintro ⟨h1,h2,_⟩
    exact e (Prod.ext h1 h2)
   rw [shStep_no hno]
   refine ⟨Y,y1,fun j=>?_,y3,y4⟩
   rw [y2 j,List.mem_append,List.mem_singleton,hv]
   constructor
   ·exact fun h=>Or.inl h
   ·rintro (h | h)
    ·exact h
    ·exact absurd (genV_tag h).1.symm e
theorem gen_dec {n k:Nat} {val:Int×Int->ByteArray} {all:List Ver} (hk1:1<=k) (hn:n<=12) (hkn:k<=n) (hg:Gen n k val all) {t:Int×Int} (h:GoodT n k all t):decOf n k all t=val t:=by
 obtain ⟨Y,y1,y2,y3,y4⟩:=gen_shOf t hg
 have hlen:k<=Y.length:=by unfold GoodT at h;rw [y3,List.length_map] at h;exact h
 have hY:Y≠[]:=fun e=>by rw [e] at hlen;simp at hlen;omega
 unfold decOf
 rw [y4,if_neg hY,y3]
 have hd:((Y.map (encS k (val t))).map Prod.fst).Nodup:=by
  rw [List.map_map]
  refine List.pairwise_map.2 (y1.imp fun {a b} h e=>h ?_)
  have:(a:Int)=(b:Int):=e
  omega
 rw [pickN_take k _ hd _ (Nat.le_refl _),List.length_map,Nat.min_eq_left hlen,<- List.map_take]
 have hlt:∀ i ∈ Y,i < n:=fun i hi=>by
  obtain ⟨u,j,hv,hj,_⟩:=hg _ ((y2 i).1 hi)
  obtain ⟨_,rfl⟩:=genV_tag hv
  exact hj
 have hl:(Y.take k).length=k:=by rw [List.length_take];omega
 refine told_object (n:=n) hk1 (by omega) (by rw [List.length_map];exact hl) ?_ (fun i hi=>?_) hkn
 ·unfold atsN
  rw [List.map_map]
  refine List.pairwise_map.2 ((List.Nodup.sublist (List.take_sublist _ _) y1).imp fun {a b} h e=>h ?_)
  have:((a:Int)).toNat=((b:Int)).toNat:=e
  omega
 ·have hi':i < ((Y.take k).map (encS k (val t))).length:=by rw [List.length_map,hl];exact hi
  rw [shAt_get hi',List.getElem_map]
  have hm:(Y.take k)[i]'(by rw [hl];exact hi) ∈ Y:=List.mem_of_mem_take (List.getElem_mem _)
  exact ⟨by show ((_:Nat):Int).toNat < n;rw [Int.toNat_natCast];exact hlt _ hm,by show encT k (val t) _=encT k (val t) (((_:Nat):Int)).toNat;rw [Int.toNat_natCast]⟩
def tellK (key:ByteArray):Option (List Kep)->List Ver
 | none=>[]
 | some L=>getL L key
def tellL (key:ByteArray) (Ks:List (Option (List Kep))):List (List Ver):=Ks.map (tellK key)
def wholeL (n k:Nat) (t:Int×Int) (x:ByteArray):List Ver:=(List.range n).map (genV k t x)
def wholeF (n k:Nat) (LL:List (List Ver)):List Ver:=if (bestF n k LL.flatten LL.flatten).2.2 then wholeL n k (bestF n k LL.flatten LL.flatten).1 (bestF n k LL.flatten LL.flatten).2.1 else []
def lackB (WL:List Ver) (LL:List (List Ver)) (i:Nat):Bool:=!decide (verAt WL i ∈ LL.getD i [])
def missN (WL:List Ver) (LL:List (List Ver)) (m:Nat):List Nat:=(List.range m).filter (lackB WL LL)
def missF (WL:List Ver) (LL:List (List Ver)):List Nat:=missN WL LL WL.length
def lookE (c:Cfg) (m:Nat):Int×Int:=if 0 < (cfgF c).1 then cfgF c else if (m:Int)=c.n then (0,-1) else (3,-1)
theorem tellL_length (key:ByteArray) (Ks:List (Option (List Kep))):(tellL key Ks).length=Ks.length:=List.length_map _
theorem tellL_at {key:ByteArray} {Ks:List (Option (List Kep))} {i:Nat} {x:Option (List Kep)} (h:Ks[i]?=some x):(tellL key Ks).getD i []=tellK key x:=by
 unfold tellL
 rw [List.getD_eq_getElem?_getD,List.getElem?_map,h]
 rfl
theorem wholeL_length (n k:Nat) (t:Int×Int) (x:ByteArray):(wholeL n k t x).length=n:=by simp [wholeL]
theorem wholeL_at {n k:Nat} {t:Int×Int} {x:ByteArray} {i:Nat} (hi:i < n):verAt (wholeL n k t x) i=genV k t x i:=by
 unfold verAt wholeL
 rw [List.getD_eq_getElem?_getD,List.getElem?_map,List.getElem?_range hi]
 rfl
theorem wholeL_take {n k:Nat} {t:Int×Int} {x:ByteArray} {i:Nat} (hi:i < n):(wholeL n k t x).take (i+1)=(wholeL n k t x).take i ++ [genV k t x i]:=by
 have hl:i < (wholeL n k t x).length:=by rw [wholeL_length];exact hi
 have:=verAt_get hl
 rw [wholeL_at hi] at this
 rw [List.take_add_one,this]
 rfl
theorem wholeF_length (n k:Nat) (LL:List (List Ver)):(wholeF n k LL).length=if (bestF n k LL.flatten LL.flatten).2.2 then n else 0:=by
 unfold wholeF
 split
 ·exact wholeL_length _ _ _ _
 ·rfl
theorem missN_yes {WL:List Ver} {LL:List (List Ver)} {i:Nat} (h:lackB WL LL i=true):missN WL LL (i+1)=missN WL LL i ++ [i]:=by
 unfold missN
 rw [List.range_succ,List.filter_append,List.filter_cons_of_pos h]
 rfl
theorem missN_no {WL:List Ver} {LL:List (List Ver)} {i:Nat} (h:lackB WL LL i=false):missN WL LL (i+1)=missN WL LL i:=by
 unfold missN
 rw [List.range_succ,List.filter_append,List.filter_cons_of_neg (by rw [h];exact Bool.false_ne_true)]
 simp
theorem missN_le (WL:List Ver) (LL:List (List Ver)) (m:Nat):(missN WL LL m).length<=m:=by
 have:=List.length_filter_le (lackB WL LL) (List.range m)
 rw [List.length_range] at this
 exact this
theorem missF_lt {WL:List Ver} {LL:List (List Ver)} {i:Nat} (h:i ∈ missF WL LL):i < WL.length:=by
 unfold missF missN at h
 exact List.mem_range.1 (List.mem_filter.1 h).1
theorem bestF_size1 {n k:Nat} (hk:1<=k) (all:List Ver):(bestF n k all all).2.1.size<=1000:=bestF_size hk all _ (Nat.zero_le _)
theorem lookE_bad {c:Cfg} {m:Nat} (h:0 < (cfgF c).1):lookE c m=cfgF c:=if_pos h
theorem lookE_shape {c:Cfg} {m:Nat} (h:¬ 0 < (cfgF c).1) (h2:¬ (m:Int)=c.n):lookE c m=(3,-1):=by unfold lookE;rw [if_neg h,if_neg h2]
theorem lookE_fine {c:Cfg} {m:Nat} (h:¬ 0 < (cfgF c).1) (h2:(m:Int)=c.n):lookE c m=(0,-1):=by unfold lookE;rw [if_neg h,if_pos h2]
def GoodK (Ks:List (Option (List Kep))):Prop:=∀ L,some L ∈ Ks->L.length<=60/\∀ x ∈ L,isN x.1=true/\verOk x.2=true
theorem verOk_i64 {v:Ver} (h:verOk v=true):VerI64 v:=by
 unfold verOk tagB at h
 simp only [Bool.and_eq_true,decide_eq_true_eq] at h
 unfold VerI64
 omega
theorem tellK_len {key:ByteArray} {Ks:List (Option (List Kep))} (h:GoodK Ks) {x:Option (List Kep)} (hx:x ∈ Ks):(tellK key x).length<=60:=by
 cases x with
 | none=>exact Nat.zero_le _
 | some L=>exact Nat.le_trans (getL_le L key) (h L hx).1
theorem tellL_flat_len (key:ByteArray):∀ {Ks:List (Option (List Kep))},GoodK Ks->(tellL key Ks).flatten.length<=Ks.length*60
 | [],_=>Nat.zero_le _
 | x :: r,h=>by
  have ih:=tellL_flat_len key (Ks:=r) (fun L hL=>h L (List.mem_cons_of_mem _ hL))
  have h1:=tellK_len (key:=key) h (List.mem_cons_self (a:=x) (l:=r))
  unfold tellL at ih ⊢
  rw [List.map_cons,List.flatten_cons,List.length_append,List.length_cons]
  omega
theorem tellL_i64 {key:ByteArray} {Ks:List (Option (List Kep))} (h:GoodK Ks):∀ v ∈ (tellL key Ks).flatten,VerI64 v/\v.text.size<=1000:=fun v hv=>by
 obtain ⟨l,hl,hvl⟩:=List.mem_flatten.1 hv
 obtain ⟨x,hx,rfl⟩:=List.mem_map.1 hl
 cases x with
 | none=>cases hvl
 | some L =>
  have hm:(key,v) ∈ L:=by
   obtain ⟨y,hy,e⟩:=List.mem_map.1 hvl
   obtain ⟨h1,h2⟩:=List.mem_filter.1 hy
   have h3:y.1=key:=by simpa using h2
   have:y=(key,v):=Prod.ext h3 e
   rw [<- this]
   exact h1
  have hv:=((h L hx).2 _ hm).2
  refine ⟨verOk_i64 hv,?_⟩
  unfold verOk at hv
  simp only [Bool.and_eq_true,decide_eq_true_eq] at hv
  exact hv.2.2.2.2.2
def lookW (c:Cfg) (LL:List (List Ver)):List Ver:=if 0 < (lookE c LL.length).1 then [] else wholeF c.n.toNat c.k.toNat LL
theorem lookW_bad {c:Cfg} {LL:List (List Ver)} (h:0 < (lookE c LL.length).1):lookW c LL=[]:=if_pos h
theorem lookW_fine {c:Cfg} {LL:List (List Ver)} (h:¬ 0 < (lookE c LL.length).1):lookW c LL=wholeF c.n.toNat c.k.toNat LL:=if_neg h
theorem wholeF_cases (n k:Nat) (LL:List (List Ver)):wholeF n k LL=[]∨(bestF n k LL.flatten LL.flatten).2.2=true/\wholeF n k LL=wholeL n k (bestF n k LL.flatten LL.flatten).1 (bestF n k LL.flatten LL.flatten).2.1:=by
 unfold wholeF
 cases h:(bestF n k LL.flatten LL.flatten).2.2 with
 | false=>exact Or.inl (if_neg (by simp))
 | true=>exact Or.inr ⟨rfl,if_pos rfl⟩
theorem wholeF_len (n k:Nat) (LL:List (List Ver)):(wholeF n k LL).length<=n:=by
 rw [wholeF_length]
 split <;> omega
def natE:Enc Nat:=⟨1,by decide,fun x=>[.int .i64 (x:Int)],fun _=>rfl,fun x u hu=>by simp at hu;rw [hu];rfl⟩
theorem intinfoR:(Tryz.prog.info? 3).map (fun i=>(i.zero,i.size,i.bytes))=some (some (.int .i64 0),natE.k,8):=by kernel_rfl
section
variable {α β:Type} {E1:Enc α} {E2:Enc β} {T1 T2:TypeId} {W W':World} {B:Nat} {v1 v2:Value} {l1:List α} {l2:List β}
end
end Go.Proofs.YtghpdhegfnhmkaaGreatDoor
namespace Go.Proofs.YtghpdhegfnhmkaaGreatDoor
open Go.RowKit
def mStep (key:ByteArray) (WL:List Ver) (S:Int×Nat×List (Option (List Kep))) (i:Nat):Int×Nat×List (Option (List Kep)) :=
 if S.1=0 then (match S.2.2.getD i none with
  | none=>S
  | some L=>((putR L false key (verAt WL i)).1,if (putR L false key (verAt WL i)).1=0 then S.2.1+1 else S.2.1,S.2.2.set i (some (putR L false key (verAt WL i)).2))) else S
def mendN (key:ByteArray) (WL:List Ver) (Ks:List (Option (List Kep))) (M:List Nat) (m:Nat):Int×Nat×List (Option (List Kep)):=(M.take m).foldl (mStep key WL) (0,0,Ks)
def mendF (key:ByteArray) (WL:List Ver) (Ks:List (Option (List Kep))) (M:List Nat):Int×Nat×List (Option (List Kep)):=M.foldl (mStep key WL) (0,0,Ks)
variable {key:ByteArray} {WL:List Ver} {Ks:List (Option (List Kep))} {M:List Nat}
theorem mendN_all:mendN key WL Ks M M.length=mendF key WL Ks M:=by unfold mendN mendF;rw [List.take_length]
theorem mendN_succ {m i:Nat} (h:M[m]?=some i):mendN key WL Ks M (m+1)=mStep key WL (mendN key WL Ks M m) i:=by
 unfold mendN
 rw [List.take_add_one,h,List.foldl_append]
 rfl
theorem mStep_bad {S:Int×Nat×List (Option (List Kep))} {i:Nat} (h:S.1≠0):mStep key WL S i=S:=if_neg h
theorem mStep_none {S:Int×Nat×List (Option (List Kep))} {i:Nat} (h:S.1=0) (h2:S.2.2[i]?=some none):mStep key WL S i=S:=by
 unfold mStep
 rw [if_pos h,List.getD_eq_getElem?_getD,h2]
 rfl
theorem mStep_some {S:Int×Nat×List (Option (List Kep))} {i:Nat} {L:List Kep} (h:S.1=0) (h2:S.2.2[i]?=some (some L)):mStep key WL S i=((putR L false key (verAt WL i)).1,if (putR L false key (verAt WL i)).1=0 then S.2.1+1 else S.2.1,S.2.2.set i (some (putR L false key (verAt WL i)).2)):=by
 unfold mStep
 rw [if_pos h,List.getD_eq_getElem?_getD,h2]
 rfl
theorem foldl_bad {S:Int×Nat×List (Option (List Kep))} (h:S.1≠0):∀ l:List Nat,l.foldl (mStep key WL) S=S
 | []=>rfl
 | i :: l=>by rw [List.foldl_cons,mStep_bad h];exact foldl_bad h l
theorem mendF_bad {m:Nat} (h:(mendN key WL Ks M m).1≠0):mendF key WL Ks M=mendN key WL Ks M m:=by
 have e:mendF key WL Ks M=(M.drop m).foldl (mStep key WL) (mendN key WL Ks M m):=by
  unfold mendF mendN
  rw [<- List.foldl_append,List.take_append_drop]
 rw [e,foldl_bad h]
theorem mStep_shape {S:Int×Nat×List (Option (List Kep))} {i:Nat} (j:Nat):(mStep key WL S i).2.2.length=S.2.2.length/\((mStep key WL S i).2.2[j]?=some none↔S.2.2[j]?=some none):=by
 by_cases h:S.1=0
 ·by_cases hi:i < S.2.2.length
  ·obtain ⟨x,hx⟩:∃ x,S.2.2[i]?=some x:=⟨_,List.getElem?_eq_getElem hi⟩
   cases x with
   | none=>rw [mStep_none h hx];exact ⟨rfl,Iff.rfl⟩
   | some L =>
    rw [mStep_some h hx]
    refine ⟨List.length_set,?_⟩
    show (S.2.2.set i _)[j]?=some none↔_
    by_cases e:j=i
    ·subst e
     rw [List.getElem?_set_self hi,hx]
     simp
    ·rw [List.getElem?_set_ne (Ne.symm e)]
  ·have : mStep key WL S i = S := by
    unfold mStep
    rw [if_pos h,List.getD_eq_getElem?_getD,List.getElem?_eq_none (by omega)]
    rfl
   rw [this]
   exact ⟨rfl,Iff.rfl⟩
 ·rw [mStep_bad h];exact ⟨rfl,Iff.rfl⟩
theorem mendN_shape (m j:Nat):(mendN key WL Ks M m).2.2.length=Ks.length/\((mendN key WL Ks M m).2.2[j]?=some none↔Ks[j]?=some none):=by
 unfold mendN
 generalize M.take m=l
 have go:∀ (l:List Nat) (S:Int×Nat×List (Option (List Kep))),(l.foldl (mStep key WL) S).2.2.length=S.2.2.length/\((l.foldl (mStep key WL) S).2.2[j]?=some none↔S.2.2[j]?=some none):=by
  intro l
  induction l with
  | nil=>exact fun S=>⟨rfl,Iff.rfl⟩
  | cons i l ih =>
   intro S
   obtain ⟨h1,h2⟩:=ih (mStep key WL S i)
   obtain ⟨h3,h4⟩:=mStep_shape (key:=key) (WL:=WL) (S:=S) (i:=i) j
   exact ⟨h1.trans h3,h2.trans h4⟩
 exact go l _
theorem ptL_shape {hp:Nat->Nat} {Ka Kb:List (Option (List Kep))} (hl:Ka.length=Kb.length) (h:∀ j:Nat,Ka[j]?=some none↔Kb[j]?=some none) {i:Nat} {x:Option (List Kep)} (hx:Ka[i]?=some x):∃ y,Kb[i]?=some y/\(y.map fun _=>hp i)=x.map fun _=>hp i:=by
 have hi:i < Kb.length:=by rw [<- hl];exact (List.getElem?_eq_some_iff.1 hx).1
 refine ⟨Kb[i],List.getElem?_eq_getElem hi,?_⟩
 cases hy:Kb[i] with
 | none =>
  have h1:=(h i).2 (by rw [List.getElem?_eq_getElem hi,hy])
  rw [hx] at h1
  rw [Option.some.inj h1]
 | some L =>
  cases x with
  | none =>
   have h1:=(h i).1 hx
   rw [List.getElem?_eq_getElem hi,hy] at h1
   cases h1
  | some L'=>rfl
theorem mendN_done {m:Nat}:(mendN key WL Ks M m).2.1<=m:=by
 unfold mendN
 have go:∀ (l:List Nat) (S:Int×Nat×List (Option (List Kep))),(l.foldl (mStep key WL) S).2.1<=S.2.1+l.length:=by
  intro l
  induction l with
  | nil=>exact fun S=>Nat.le_refl _
  | cons i l ih =>
   intro S
   have h1:=ih (mStep key WL S i)
   have h2:(mStep key WL S i).2.1<=S.2.1+1:=by
    unfold mStep
    split
    ·split
     ·exact Nat.le_succ _
     ·dsimp only
      split
      ·exact Nat.le_refl _
      ·exact Nat.le_succ _
    ·exact Nat.le_succ _
   rw [List.foldl_cons,List.length_cons]
   omega
 have:=go (M.take m) (0,0,Ks)
 rw [List.length_take] at this
 dsimp only at this
 omega
end Go.Proofs.YtghpdhegfnhmkaaGreatDoor
