import Derived.Test.YtghpdhegfnhmkaaGreatDoorR23
import Derived.Test.YtghpdhegfnhmkaaGreatDoorR6
import Derived.Lib.AtoiAll
import Derived.Lib.ItoaNum
import Derived.Lib.IndexMore
import Derived.Test.YtghpdhegfnhmkaaGreatDoorR7
import Derived.Test.YtghpdhegfnhmkaaGreatDoorR9
import Derived.BigQuiet
import Derived.StillTailTactics
import Derived.Test.YtghpdhegfnhmkaaGreatDoorR0
import Derived.Maps.RangeWalk
import Derived.Maps.OwnOps
import Derived.Maps.OwnSet
import Derived.Laws.IdiomRangeMap
import Derived.Deep.RegionWith
namespace Go.Proofs.YtghpdhegfnhmkaaGreatDoor
open Go.RowKit
structure GoodL (L:List Kep):Prop where
 sorted:SortedK L
 few:L.length<=60
 fits:∀ x ∈ L,isN x.1=true/\verOk x.2=true
theorem GoodL.put {L:List Kep} (h:GoodL L) {s:Bool} {key:ByteArray} {v:Ver} (h0:putErr L s key v=0):GoodL (putL L key v)/\(∀ x ∈ getL L key,tagOf x≠tagOf v)/\s=false/\isN key=true/\verOk v=true/\L.length < 60:=by
 unfold putErr at h0
 split at h0
 ·cases h0
 ·rename_i hs
  split at h0
  ·rename_i hn
   split at h0
   ·rename_i hv
    have hnone:∀ x ∈ getL L key,tagOf x≠tagOf v:=fun x hx ht=>by
     rw [putScan_there h.sorted hx ht] at h0
     split at h0 <;> cases h0
    rw [putScan_none hnone L.length 0 (by omega)] at h0
    have hlt:L.length < 60:=by
     refine Classical.byContradiction fun hc=>?_
     rw [if_pos (by omega)] at h0
     cases h0
    refine ⟨⟨putL_sorted h.sorted hnone,by rw [putL_length];omega,fun x hx=>?_⟩,hnone,by simpa using hs,hn,hv,hlt⟩
    rcases mem_putL.1 hx with h1 | h1
    ·exact h.fits x h1
    ·rw [h1];exact ⟨hn,hv⟩
   ·cases h0
  ·cases h0
end Go.Proofs.YtghpdhegfnhmkaaGreatDoor
namespace Go.Proofs.YtghpdhegfnhmkaaGreatDoor
open Go.RowKit Go.Sort
set_option maxRecDepth 10000 in
set_option maxHeartbeats 1000000 in
theorem seek_any (v:Ver) (b:Int×Int) (w:World):Calls Tryz.prog 55 #[.agg #[.int .i64 v.n,.int .i64 v.who,.int .i64 v.size,.int .i64 v.at_,.string v.text],.agg #[.int .i64 b.1,.int .i64 b.2]] w fun e w'=>e=.returned (.int .i64 (tagC (tagOf v) b))/\∃ q os,w'=grow (w.drewN q) os:=by
 obtain ⟨n,who,size,at_,text⟩:=v
 have HC:Hid (∀ W,Calls Tryz.prog 56 #[.agg #[.int .i64 n,.int .i64 who],.agg #[.int .i64 b.1,.int .i64 b.2]] W fun e w'=>e=.returned (.int .i64 (tagC (n,who) b))/\∃ n os,w'=grow (W.drewN n) os):=fun W=>compare_any (n,who) b W
 show Calls Tryz.prog 55 #[.agg #[.int .i64 n,.int .i64 who,.int .i64 size,.int .i64 at_,.string text],.agg #[.int .i64 b.1,.int .i64 b.2]] w fun e w'=>e=.returned (.int .i64 (tagC (n,who) b))/\∃ q os,w'=grow (w.drewN q) os
 generalize tagC (n,who) b=c at *
 obtain ⟨b1,b2⟩:=b
 have HG:Hid (∃ os,(w.alloc (.cells #[.int .i64 n,.int .i64 who,.int .i64 size,.int .i64 at_,.string text] 47)).alloc (.cells #[.int .i64 b1,.int .i64 b2] 43)=grow w os):=⟨_,by rw [alloc_eq_grow,alloc_eq_grow,grow_grow]⟩
 go_enter Tryz.func55,Tryz.ntmps55
 go_wp2_with fail
 refine (HC.out _).mono ?_
 rintro e w2 ⟨rfl,q,os,hw2⟩
 have HE:Hid (∃ q os,w2=grow (w.drewN q) os):=by
  obtain ⟨os0,h0⟩:=HG.out
  exact ⟨q,os0 ++ os,by rw [hw2,h0,grow_drewN,grow_grow]⟩
 clear hw2 HG
 go_wp2
 go_ret
 exact ⟨rfl,HE.out⟩
end Go.Proofs.YtghpdhegfnhmkaaGreatDoor
namespace Go.Proofs.YtghpdhegfnhmkaaGreatDoor
open Go.RowKit
structure HdAt (w:World) (h:Nat) (S:Nat->Prop) (L:List Kep) (s:Bool) (m:Option Nat) (D:DataW Value) (row:ByteArray->Value) (blk:ByteArray->Nat):Prop where
 sorted:SortedK L
 few:L.length<=60
 fits:∀ x ∈ L,isN x.1=true/\verOk x.2=true
 inS:∀ k,S k->k < w.heap.size
 self:S h
 ptr:w.cell? ⟨h,0,none⟩=some (.map m)
 shut:w.cell? ⟨h,1,none⟩=some (.bool s)
 free0:w.frozen? ⟨h,0,none⟩=false
 free1:w.frozen? ⟨h,1,none⟩=false
 nothing:m=none->L=[]
 mapS:∀ b,m=some b->S b/\b≠h/\(∃ n,OwnM w b n D)/\(∀ x,x.size<=maxLen->Maps.has D (litK x)=decide (getL L x≠[]))/\∀ x,getL L x≠[]->∀ z,D.atKey (litK x) z=.held (row x)
 own:∀ x,OwnR verE 47 w 0 (row x) (getL L x)
 nilrow:∀ x,getL L x=[]->row x=.slice none 0 0
 inB:∀ x,getL L x≠[]->(row x).ownBlock=some (blk x)/\S (blk x)/\blk x≠h/\∀ b,m=some b->blk x≠b
 apart:∀ x y,getL L x≠[]->getL L y≠[]->x≠y->blk x≠blk y
def HdOf (w:World) (h:Nat) (S:Nat->Prop) (L:List Kep) (s:Bool):Prop:=∃ m D row blk,HdAt w h S L s m D row blk
variable {w w':World} {h:Nat} {S:Nat->Prop} {L:List Kep} {s:Bool} {m:Option Nat} {D:DataW Value} {row:ByteArray->Value} {blk:ByteArray->Nat}
theorem HdAt.rowS (hd:HdAt w h S L s m D row blk) {x:ByteArray} {k:Nat} (hk:(row x).ownBlock=some k):S k/\getL L x≠[]/\k=blk x:=by
 by_cases hx:getL L x=[]
 ·rw [hd.nilrow x hx] at hk;cases hk
 ·obtain ⟨h1,h2,_⟩:=hd.inB x hx
  rw [h1] at hk
  cases hk
  exact ⟨h2,hx,rfl⟩
theorem HdAt.keep (hd:HdAt w h S L s m D row blk) (hs:w.heap.size<=w'.heap.size) (hb:∀ k,S k->w'.heap[k]?=w.heap[k]?):HdAt w' h S L s m D row blk:=by
 have hh:=hb h hd.self
 refine ⟨hd.sorted,hd.few,hd.fits,fun k hk=>Nat.lt_of_lt_of_le (hd.inS k hk) hs,hd.self,(cell_same hh 0).1.trans hd.ptr,(cell_same hh 1).1.trans hd.shut,(cell_same hh 0).2.trans hd.free0,(cell_same hh 1).2.trans hd.free1,hd.nothing,fun b hm=>?_,fun x=>(hd.own x).same (fun k hk=>hb k (hd.rowS hk).1),hd.nilrow,hd.inB,hd.apart⟩
 obtain ⟨h1,h2,⟨n,h3⟩,h4⟩:=hd.mapS b hm
 exact ⟨h1,h2,⟨n,h3.same (hb b h1)⟩,h4⟩
theorem HdAt.below (hd:HdAt w h S L s m D row blk) (hb:Below w.heap.size w w'):HdAt w' h S L s m D row blk:=hd.keep hb.size (fun k hk=>hb.block k (hd.inS k hk))
theorem HdAt.size (hd:HdAt w h S L s m D row blk) {b:Nat} (hm:m=some b):Maps.size D<=60:=by
 obtain ⟨_,_,⟨n,h3⟩,h4,_⟩:=hd.mapS b hm
 obtain ⟨es,rfl,hp,hk⟩:=h3.keys
 rw [Maps.size_eq]
 refine Nat.le_trans ?_ (Nat.le_trans (keysL_le L) hd.few)
 have hn:(es.map Prod.fst).Nodup:=by unfold List.Nodup;rw [List.pairwise_map];exact hp
 have:=length_le_sub (l:=es.map Prod.fst) (m:=(keysL L).map litK) hn (fun l hl=>by
  obtain ⟨p,hp',rfl⟩:=List.mem_map.1 hl
  obtain ⟨x,hx,e⟩:=hk p hp'
  have hh:Maps.has (.map es) (litK x)=true:=List.any_eq_true.2 ⟨p,hp',by rw [e];exact sameKey_litK x⟩
  rw [h4 x hx] at hh
  rw [e]
  exact List.mem_map.2 ⟨x,((keysOk L hd.sorted).mem x).2 (by simpa using hh),rfl⟩)
 simpa using this
set_option maxRecDepth 10000 in
theorem HdAt.look (hd:HdAt w h S L s m D row blk) {x:ByteArray} (hx:x.size<=maxLen):(Instr.lookup 36 (.map m) (.string x) false).run Tryz.prog w=.ok (row x) w:=by
 have hz:(zeroValue 62).run Tryz.prog w=.ok (.slice none 0 0) w:=by kernel_rfl
 cases m with
 | none =>
  have h0:=hd.nothing rfl
  have:=Maps.look_nil (w:=w) false keyedK Tryz.underlying36 hz (keyOfK hx)
  rw [this,hd.nilrow x (by rw [h0];rfl)]
  rfl
 | some b =>
  obtain ⟨_,_,⟨n,h3⟩,h4,h5⟩:=hd.mapS b rfl
  obtain ⟨v,ps,hrun,hR⟩:=World.ownsMap.lookup h3 keyedK Tryz.underlying36 hz (zd:=.held (.slice none 0 0)) (zp:=[]) rfl (keyOfK hx)
  rw [hrun]
  have e:DataW.held v=D.atKey (litK x) (.held (.slice none 0 0)):=congrArg Prod.fst (Option.some.inj hR)
  by_cases hg:getL L x=[]
  ·rw [Maps.atKey_of_not_has (by rw [h4 x hx];simp [hg])] at e
   injection e with e
   rw [e,hd.nilrow x hg]
  ·rw [h5 x hg] at e
   injection e with e
   rw [e]
theorem HdAt.form (hd:HdAt w h S L s m D row blk) (x:ByteArray):∃ p c,row x=.slice p (getL L x).length c/\Rec verE w p (getL L x)/\(getL L x).length<=c/\(p=none->getL L x=[]/\c=0)/\∀ b o,p=some ⟨b,o,none⟩->b < w.heap.size:=by
 obtain ⟨p,c,h1,h2,h3,h4,h5⟩:=(hd.own x).form
 exact ⟨p,c,h1,h2,h3,h4,fun b o e=>(h5 b o e).2⟩
theorem hd_zero (w:World):HdOf (w.alloc (.cells #[.map none, .bool false] 38)) w.heap.size (fun k=>k=w.heap.size) [] false:=by
 refine ⟨none,.nil,fun _=>.slice none 0 0,fun _=>0,List.Pairwise.nil,by simp,(fun _ hx=>by cases hx),(fun k hk=>by subst hk;simp),rfl,by simp,by simp,by simp,by simp,fun _=>rfl,(fun b hm=>by cases hm),fun x=>OwnR.nil _ _ _,fun _ _=>rfl,fun x hx=>absurd rfl hx,fun x _ hx _ _=>absurd rfl hx⟩
theorem HdOf.keep (hd:HdOf w h S L s) (hs:w.heap.size<=w'.heap.size) (hb:∀ k,S k->w'.heap[k]?=w.heap[k]?):HdOf w' h S L s:=by
 obtain ⟨m,D,row,blk,hd⟩:=hd
 exact ⟨m,D,row,blk,hd.keep hs hb⟩
theorem HdOf.below (hd:HdOf w h S L s) (hb:Below w.heap.size w w'):HdOf w' h S L s:=by
 obtain ⟨m,D,row,blk,hd⟩:=hd
 exact ⟨m,D,row,blk,hd.below hb⟩
end Go.Proofs.YtghpdhegfnhmkaaGreatDoor
namespace Go.Proofs.YtghpdhegfnhmkaaGreatDoor
open Go.RowKit
def ptoE:Enc (Option Nat):=⟨1,by decide,fun x=>[.pointer (x.map fun b=>⟨b,0,none⟩)],fun _=>rfl,fun x u hu=>by simp at hu;rw [hu];rfl⟩
def ptL (hp:Nat->Nat) (Ks:List (Option (List Kep))):List (Option Nat):=(List.range Ks.length).map fun i=>(Ks.getD i none).map fun _=>hp i
theorem ptL_length (hp:Nat->Nat) (Ks:List (Option (List Kep))):(ptL hp Ks).length=Ks.length:=by simp [ptL]
theorem ptL_at {hp:Nat->Nat} {Ks:List (Option (List Kep))} {i:Nat} {x:Option (List Kep)} (h:Ks[i]?=some x):(ptL hp Ks)[i]?=some (x.map fun _=>hp i):=by
 have hi:i < Ks.length:=(List.getElem?_eq_some_iff.1 h).1
 unfold ptL
 rw [List.getElem?_map,List.getElem?_range hi]
 show some ((Ks.getD i none).map fun _=>hp i)=_
 rw [List.getD_eq_getElem?_getD,h]
 rfl
structure ShAt (w:World) (B:Nat) (Ka Kb:List (Option (List Kep))) (hp hm:Nat->Nat) (O:Nat->Option Nat):Prop where
 own:∀ i L,Ka[i]?=some (some L)->HdOf w (hp i) (fun k=>O k=some (2*i)) L false
 model:∀ i L,Kb[i]?=some (some L)->MHold w (hm i) L false/\O (hm i)=some (2*i+1)/\(L≠[]->∀ b o n c,w.cell? ⟨hm i,0,none⟩=some (.slice (some ⟨b,o,none⟩) n c)->O b=some (2*i+1))
 dom:∀ k j,O k=some j->B<=k/\k < w.heap.size
variable {w w':World} {B:Nat} {Ka Kb:List (Option (List Kep))} {hp hm:Nat->Nat} {O:Nat->Option Nat}
theorem ShAt.keep (h:ShAt w B Ka Kb hp hm O) (hs:w.heap.size<=w'.heap.size) (hk:∀ k,O k≠none->w'.heap[k]?=w.heap[k]?):ShAt w' B Ka Kb hp hm O where
 own:=fun i L hi=>(h.own i L hi).keep hs fun k e=>hk k (by rw [e];simp)
 model:=fun i L hi=>by
  obtain ⟨h1,h2,h3⟩:=h.model i L hi
  have hb:=hk (hm i) (by rw [h2];simp)
  refine ⟨h1.same hs hb (fun hL b o n c e=>hk b (by rw [h3 hL b o n c e];simp)),h2,fun hL b o n c e=>h3 hL b o n c ?_⟩
  rw [<- e]
  exact (World.cell?_of_block (a:=⟨hm i,0,none⟩) hb).symm
 dom:=fun k j hj=>⟨(h.dom k j hj).1,Nat.lt_of_lt_of_le (h.dom k j hj).2 hs⟩
theorem ShAt.below (h:ShAt w B Ka Kb hp hm O) (hb:Below w.heap.size w w'):ShAt w' B Ka Kb hp hm O :=
 h.keep hb.size fun k hk=>by
  cases e:O k with
  | none=>exact absurd e hk
  | some j=>exact hb.block k (h.dom k j e).2
def Shf (O O':Nat->Option Nat) (w w':World):Prop:=Upd (fun k=>O k≠none) (fun k=>O' k≠none) w w'
theorem Shf.of_below (O:Nat->Option Nat) (hb:Below w.heap.size w w'):Shf O O w w':=Upd.of_below hb
theorem Shf.trans {O1 O2:Nat->Option Nat} {w2:World} (h1:Shf O O1 w w') (h2:Shf O1 O2 w' w2):Shf O O2 w w2:=Upd.trans h1 h2
theorem Shf.keepB {O1:Nat->Option Nat} (h:Shf O O1 w w') {k:Nat} (hk:k < w.heap.size) (e:O k=none):w'.heap[k]?=w.heap[k]?/\O1 k=none:=by
 refine ⟨h.block k hk (fun x=>x e),?_⟩
 cases e1:O1 k with
 | none=>rfl
 | some j =>
  rcases h.new k (by rw [e1];simp) with h1 | h1
  ·exact absurd e h1
  ·omega
theorem Shf.low {O1:Nat->Option Nat} (h:Shf O O1 w w') (hB:B<=w.heap.size) (hd:∀ k j,O k=some j->B<=k):Below B w w' :=
 ⟨h.os,h.tape,h.output,h.size,fun k hk=>h.block k (by omega) fun e=>by
  cases e1:O k with
  | none=>exact e e1
  | some j=>have:=hd k j e1;omega⟩
theorem ShAt.shift (h:ShAt w B Ka Kb hp hm O) (hBs:B<=w.heap.size) {m:Nat} {S':Nat->Prop} (hu:Upd (fun k=>O k=some m) S' w w') (hlt:∀ k,S' k->k < w'.heap.size) :
 ∃ O':Nat->Option Nat,(∀ k,O' k=some m↔S' k)/\(∀ k j,j≠m->(O' k=some j↔O k=some j))/\(∀ k j,O' k=some j->B<=k/\k < w'.heap.size)/\Shf O O' w w'/\(∀ k j,j≠m->O k=some j->w'.heap[k]?=w.heap[k]?):=by
 classical
 have hdis:∀ k j,j≠m->O k=some j->¬ S' k:=fun k j hj e hS=>by
  rcases hu.new k hS with h1 | h1
  ·rw [e] at h1;exact hj (Option.some.inj h1)
  ·have:=(h.dom k j e).2;omega
 let O':Nat->Option Nat:=fun k=>if S' k then some m else if O k=some m then none else O k
 have e1:∀ k,S' k->O' k=some m:=fun k hk=>if_pos hk
 have e2:∀ k,¬ S' k->O k=some m->O' k=none:=fun k hk hm=>by show (if S' k then some m else if O k=some m then none else O k)=none;rw [if_neg hk,if_pos hm]
 have e3:∀ k,¬ S' k->O k≠some m->O' k=O k:=fun k hk hm=>by show (if S' k then some m else if O k=some m then none else O k)=O k;rw [if_neg hk,if_neg hm]
 refine ⟨O',fun k=>⟨fun hk=>?_,e1 k⟩,fun k j hj=>⟨fun hk=>?_,fun hk=>?_⟩,fun k j hk=>?_,⟨hu.os,hu.tape,hu.output,hu.size,fun k hk hn=>hu.block k hk (fun e=>hn (by rw [e];simp)),fun k hk=>?_⟩,fun k j hj e=>hu.block k (h.dom k j e).2 (fun e2=>by rw [e] at e2;exact hj (Option.some.inj e2))⟩
 ·by_cases hS:S' k
  ·exact hS
  ·exfalso
   by_cases hm:O k=some m
   ·rw [e2 k hS hm] at hk;cases hk
   ·rw [e3 k hS hm] at hk;exact hm hk
 ·by_cases hS:S' k
  ·rw [e1 k hS] at hk;exact absurd (Option.some.inj hk).symm hj
  ·by_cases hm:O k=some m
   ·rw [e2 k hS hm] at hk;cases hk
   ·rw [e3 k hS hm] at hk;exact hk
 ·rw [e3 k (hdis k j hj hk) (fun e=>by rw [hk] at e;exact hj (Option.some.inj e))];exact hk
 ·by_cases hS:S' k
  ·refine ⟨?_,hlt k hS⟩
   rcases hu.new k hS with h1 | h1
   ·exact (h.dom k m h1).1
   ·omega
  ·by_cases hm:O k=some m
   ·rw [e2 k hS hm] at hk;cases hk
   ·rw [e3 k hS hm] at hk
    exact ⟨(h.dom k j hk).1,Nat.lt_of_lt_of_le (h.dom k j hk).2 hu.size⟩
 ·by_cases hS:S' k
  ·rcases hu.new k hS with h1 | h1
   ·exact Or.inl (by rw [h1];simp)
   ·exact Or.inr h1
  ·by_cases hm:O k=some m
   ·exact absurd (e2 k hS hm) hk
   ·rw [e3 k hS hm] at hk;exact Or.inl hk
theorem ShAt.put (h:ShAt w B Ka Kb hp hm O) (hBs:B<=w.heap.size) {i:Nat} {L L':List Kep} (hi:Ka[i]?=some (some L)) {S':Nat->Prop} (hd:HdOf w' (hp i) S' L' false) (hu:Upd (fun k=>O k=some (2*i)) S' w w') :
 ∃ O',ShAt w' B (Ka.set i (some L')) Kb hp hm O'/\Shf O O' w w':=by
 obtain ⟨m,D,row,blk,hd0⟩:=hd
 obtain ⟨O',h1,h2,h3,h4,h5⟩:=h.shift hBs hu (fun k hk=>hd0.inS k hk)
 have hS:(fun k=>O' k=some (2*i))=S':=funext fun k=>propext (h1 k)
 have hil:i < Ka.length:=(List.getElem?_eq_some_iff.1 hi).1
 refine ⟨O',⟨fun j M hj=>?_,fun j M hj=>?_,h3⟩,h4⟩
 ·by_cases e:j=i
  ·subst e
   rw [List.getElem?_set_self hil] at hj
   obtain rfl:L'=M:=by simpa using hj
   rw [hS]
   exact ⟨m,D,row,blk,hd0⟩
  ·rw [List.getElem?_set_ne (Ne.symm e)] at hj
   have hne:2*j≠2*i:=by omega
   have hS2:(fun k=>O' k=some (2*j))=fun k=>O k=some (2*j):=funext fun k=>propext (h2 k _ hne)
   rw [hS2]
   exact (h.own j M hj).keep hu.size fun k hk=>h5 k _ hne hk
 ·obtain ⟨g1,g2,g3⟩:=h.model j M hj
  have hne:2*j+1≠2*i:=by omega
  have hb:=h5 (hm j) _ hne g2
  refine ⟨g1.same hu.size hb (fun hL b o n c e=>h5 b _ hne (g3 hL b o n c e)),(h2 _ _ hne).2 g2,fun hL b o n c e=>(h2 _ _ hne).2 (g3 hL b o n c ?_)⟩
  rw [<- e]
  exact (World.cell?_of_block (a:=⟨hm j,0,none⟩) hb).symm
theorem ShAt.mput (h:ShAt w B Ka Kb hp hm O) (hBs:B<=w.heap.size) {i:Nat} {L L':List Kep} (hi:Kb[i]?=some (some L)) (hd:MHold w' (hm i) L' false) (hu:Turn (hm i) w w') :
 ∃ O',ShAt w' B Ka (Kb.set i (some L')) hp hm O'/\Shf O O' w w':=by
 obtain ⟨g1,g2,g3⟩:=h.model i L hi
 have hil:i < Kb.length:=(List.getElem?_eq_some_iff.1 hi).1
 obtain ⟨p,c0,q0,hrec,hc0,hpn,hpb⟩:=hd.row
 let S':Nat->Prop:=fun k=>O k=some (2*i+1)∨(L'≠[]/\∃ o n c,w'.cell? ⟨hm i,0,none⟩=some (.slice (some ⟨k,o,none⟩) n c))
 have hnew:∀ k,S' k->O k=some (2*i+1)∨w.heap.size<=k:=fun k hk=>by
  rcases hk with hk | ⟨hL',o,n,c,e⟩
  ·exact Or.inl hk
  ·rcases hu.row with h1 | h1
   ·by_cases hL:L=[]
    ·exfalso
     obtain ⟨p1,c1,q1,_⟩:=g1.row
     rw [h1,q1] at q0
     obtain ⟨_,e2,_⟩:=Value.slice.inj (Option.some.inj q0)
     rw [hL] at e2
     exact hL' (List.length_eq_zero_iff.1 e2.symm)
    ·exact Or.inl (g3 hL k o n c (by rw [<- h1];exact e))
   ·exact Or.inr (h1 k o n c e)
 have hlt:∀ k,S' k->k < w'.heap.size:=fun k hk=>by
  rcases hk with hk | ⟨hL',o,n,c,e⟩
  ·exact Nat.lt_of_lt_of_le (h.dom k _ hk).2 hu.size
  ·rw [q0] at e
   obtain ⟨e1,_,_⟩:=Value.slice.inj (Option.some.inj e)
   rcases hrec with h0 | ⟨b,o',hp',hltb,_⟩
   ·exact absurd h0 hL'
   ·rw [e1] at hp'
    obtain ⟨rfl,_⟩:k=b/\o=o':=by simpa using hp'
    exact hltb
 have hU:Upd (fun k=>O k=some (2*i+1)) S' w w':=⟨hu.os,hu.tape,hu.output,hu.size,fun k hk hn=>hu.block k hk (fun e=>hn (by rw [e];exact g2)),hnew⟩
 obtain ⟨O',h1,h2,h3,h4,h5⟩:=h.shift hBs hU hlt
 refine ⟨O',⟨fun j M hj=>?_,fun j M hj=>?_,h3⟩,h4⟩
 ·have hne:2*j≠2*i+1:=by omega
  have hS2:(fun k=>O' k=some (2*j))=fun k=>O k=some (2*j):=funext fun k=>propext (h2 k _ hne)
  rw [hS2]
  exact (h.own j M hj).keep hu.size fun k hk=>h5 k _ hne hk
 ·by_cases e:j=i
  ·subst e
   rw [List.getElem?_set_self hil] at hj
   obtain rfl:L'=M:=by simpa using hj
   exact ⟨hd,(h1 _).2 (Or.inl g2),fun hL b o n c e=>(h1 _).2 (Or.inr ⟨hL,o,n,c,e⟩)⟩
  ·rw [List.getElem?_set_ne (Ne.symm e)] at hj
   obtain ⟨k1,k2,k3⟩:=h.model j M hj
   have hne:2*j+1≠2*i+1:=by omega
   have hb:=h5 (hm j) _ hne k2
   refine ⟨k1.same hu.size hb (fun hL b o n c e=>h5 b _ hne (k3 hL b o n c e)),(h2 _ _ hne).2 k2,fun hL b o n c e=>(h2 _ _ hne).2 (k3 hL b o n c ?_)⟩
   rw [<- e]
   exact (World.cell?_of_block (a:=⟨hm j,0,none⟩) hb).symm
end Go.Proofs.YtghpdhegfnhmkaaGreatDoor
namespace Go.Proofs.YtghpdhegfnhmkaaGreatDoor
open Go.RowKit
variable {h:Nat} {S:Nat->Prop} {L:List Kep} {s:Bool} {m:Option Nat} {D:DataW Value} {row:ByteArray->Value} {blk:ByteArray->Nat}
set_option maxRecDepth 10000 in
theorem all_any {w:World} (hd:HdAt w h S L s m D row blk):Calls Tryz.prog 53 #[.pointer (some ⟨h,0,none⟩)] w fun e w'=>e=.returned (.map m)/\w'=w:=by
 have q0:=hd.ptr
 clear hd
 go_enter Tryz.func53,Tryz.ntmps53
 go_wp2
 go_ret
 exact ⟨rfl,rfl⟩
set_option maxRecDepth 10000 in
theorem of_any {w:World} (hd:HdAt w h S L s m D row blk) (key:ByteArray) (hk:key.size<=maxLen):Calls Tryz.prog 34 #[.pointer (some ⟨h,0,none⟩),.string key] w fun e w'=>e=.returned (row key)/\w'=w:=by
 have hlook:=hd.look hk
 have HA:Hid (Calls Tryz.prog 53 #[.pointer (some ⟨h,0,none⟩)] w fun e w'=>e=.returned (.map m)/\w'=w):=all_any hd
 clear hd
 generalize row key=r at *
 go_enter Tryz.func34,Tryz.ntmps34
 go_wp2_with fail
 refine HA.out.mono ?_
 rintro e w1 ⟨rfl,hw1⟩
 rw [hw1]
 clear hw1 w1 HA
 go_wp2
 go_ret
 exact ⟨rfl,rfl⟩
set_option maxRecDepth 10000 in
theorem sealed_any {w:World} (hd:HdAt w h S L s m D row blk):Calls Tryz.prog 31 #[.pointer (some ⟨h,0,none⟩)] w fun e w'=>e=.returned (.bool s)/\w'=w:=by
 have q0:=hd.shut
 clear hd
 go_enter Tryz.func31,Tryz.ntmps31
 go_wp2
 go_ret
 exact ⟨rfl,rfl⟩
set_option maxRecDepth 10000 in
set_option maxHeartbeats 1000000 in
theorem copied_any (v:Ver) (w:World) (ht:v.text.size<=1000000):Calls Tryz.prog 39 #[.agg #[.int .i64 v.n,.int .i64 v.who,.int .i64 v.size,.int .i64 v.at_,.string v.text]] w fun e w'=>e=.returned (.agg #[.int .i64 v.n,.int .i64 v.who,.int .i64 v.size,.int .i64 v.at_,.string v.text])/\Below w.heap.size w w':=by
 have HC:Hid (∀ W,Calls Tryz.prog 57 #[.string v.text] W fun e w'=>e=.returned (.string v.text)/\Below W.heap.size W w'):=fun W=>sclone_any v.text W (by omega)
 obtain ⟨n,who,size,at_,text⟩:=v
 obtain ⟨w2,hw2⟩:∃ w2,w2=(w.alloc (.cells #[.int .i64 n,.int .i64 who,.int .i64 size,.int .i64 at_,.string text] 47)).alloc (.cells #[.int .i64 0,.int .i64 0,.int .i64 0,.int .i64 0,.string ⟨#[]⟩] 47):=⟨_,rfl⟩
 have HW2:Hid (w2=(w.alloc (.cells #[.int .i64 n,.int .i64 who,.int .i64 size,.int .i64 at_,.string text] 47)).alloc (.cells #[.int .i64 0,.int .i64 0,.int .i64 0,.int .i64 0,.string ⟨#[]⟩] 47)):=hw2
 have HB2:Hid (Below w.heap.size w w2):=by rw [hw2];exact ((Below.refl _ _).alloc (Nat.le_refl _) _).alloc (by simp) _
 have HBK:Hid (w2.heap[w.heap.size]?=some (.cells #[.int .i64 n,.int .i64 who,.int .i64 size,.int .i64 at_,.string text] 47 (0,0))/\w2.heap[w.heap.size+1]?=some (.cells #[.int .i64 0,.int .i64 0,.int .i64 0,.int .i64 0,.string ⟨#[]⟩] 47 (0,0))):=by
  rw [hw2]
  constructor
  ·rw [heap_alloc_old _ _ (by simp),heap_alloc_new]
  ·have e:w.heap.size+1=(w.alloc (.cells #[.int .i64 n,.int .i64 who,.int .i64 size,.int .i64 at_,.string text] 47)).heap.size:=by simp
   rw [e,heap_alloc_new]
 have hs2:w.heap.size+1 < w2.heap.size:=by rw [hw2];simp
 have k4:w2.cell? ⟨w.heap.size,4,none⟩=some (.string text):=by simp [World.cell?,HBK.out.1]
 clear hw2 ht
 go_enter Tryz.func39,Tryz.ntmps39
 go_wp2_with fail
 rw [<- HW2.out]
 clear HW2
 refine (HC.out _).mono ?_
 rintro e w3 ⟨rfl,hb3⟩
 have HB3:Hid (Below w.heap.size w w3):=HB2.out.trans (hb3.mono HB2.out.size)
 have e0:w3.heap[w.heap.size]?=some (.cells #[.int .i64 n,.int .i64 who,.int .i64 size,.int .i64 at_,.string text] 47 (0,0)):=(hb3.block _ (by omega)).trans HBK.out.1
 have e1:w3.heap[w.heap.size+1]?=some (.cells #[.int .i64 0,.int .i64 0,.int .i64 0,.int .i64 0,.string ⟨#[]⟩] 47 (0,0)):=(hb3.block _ (by omega)).trans HBK.out.2
 have c0:w3.cell? ⟨w.heap.size,0,none⟩=some (.int .i64 n):=by simp [World.cell?,e0]
 have c1:w3.cell? ⟨w.heap.size,1,none⟩=some (.int .i64 who):=by simp [World.cell?,e0]
 have c2:w3.cell? ⟨w.heap.size,2,none⟩=some (.int .i64 size):=by simp [World.cell?,e0]
 have c3:w3.cell? ⟨w.heap.size,3,none⟩=some (.int .i64 at_):=by simp [World.cell?,e0]
 have c4:w3.cell? ⟨w.heap.size,4,none⟩=some (.string text):=by simp [World.cell?,e0]
 have f4:∀ o,w3.frozen? ⟨w.heap.size,o,none⟩=false:=fun o=>by simp [World.frozen?,e0]
 have d0:w3.cell? ⟨w.heap.size+1,0,none⟩=some (.int .i64 0):=by simp [World.cell?,e1]
 have d1:w3.cell? ⟨w.heap.size+1,1,none⟩=some (.int .i64 0):=by simp [World.cell?,e1]
 have d2:w3.cell? ⟨w.heap.size+1,2,none⟩=some (.int .i64 0):=by simp [World.cell?,e1]
 have d3:w3.cell? ⟨w.heap.size+1,3,none⟩=some (.int .i64 0):=by simp [World.cell?,e1]
 have d4:w3.cell? ⟨w.heap.size+1,4,none⟩=some (.string ⟨#[]⟩):=by simp [World.cell?,e1]
 have g4:∀ o,w3.frozen? ⟨w.heap.size+1,o,none⟩=false:=fun o=>by simp [World.frozen?,e1]
 clear hb3 e0 e1 HBK HB2 HC
 go_wp2
 refine bodyPost_ret (v:=.agg #[.int .i64 n,.int .i64 who,.int .i64 size,.int .i64 at_,.string text]) (by simp [results,Tryz.results39,go_sem,d0,d1,d2,d3,d4]) rfl ⟨rfl,?_⟩
 exact (((((HB3.out.setCell (p:=⟨w.heap.size,4,none⟩) (Nat.le_refl _) _).setCell (p:=⟨w.heap.size+1,0,none⟩) (Nat.le_succ _) _).setCell (p:=⟨w.heap.size+1,1,none⟩) (Nat.le_succ _) _).setCell (p:=⟨w.heap.size+1,2,none⟩) (Nat.le_succ _) _).setCell (p:=⟨w.heap.size+1,3,none⟩) (Nat.le_succ _) _).setCell (p:=⟨w.heap.size+1,4,none⟩) (Nat.le_succ _) _
theorem verOk_four (v:Ver):verOk v=(tagOk v.n v.who && (decide (0<=v.size/\v.size<=1000) && (decide (0<=v.at_/\v.at_<=11) && decide (0<=(v.text.size:Int)/\(v.text.size:Int)<=1000)))):=by
 unfold verOk tagB tagOk
 rw [Bool.eq_iff_iff]
 simp only [Bool.and_eq_true,decide_eq_true_eq]
 omega
set_option maxRecDepth 10000 in
set_option maxHeartbeats 2000000 in
theorem inBounds_any (v:Ver) (w:World) (ht:v.text.size<=maxLen):Calls Tryz.prog 33 #[.agg #[.int .i64 v.n,.int .i64 v.who,.int .i64 v.size,.int .i64 v.at_,.string v.text]] w fun e w'=>e=.returned (.bool (verOk v))/\Below w.heap.size w w':=by
 rw [verOk_four]
 obtain ⟨n,who,size,at_,text⟩:=v
 simp only
 have H1:Hid (∀ W,Calls Tryz.prog 51 #[.agg #[.int .i64 n,.int .i64 who]] W fun e w'=>e=.returned (.bool (tagOk n who))/\Below W.heap.size W w'):=fun W=>istag_any n who W
 have H3:Hid (∀ W,Calls Tryz.prog 52 #[.int .i64 size,.int .i64 1000] W fun e w'=>e=.returned (.bool (decide (0<=size/\size<=1000)))/\w'=W):=fun W=>hwithin_any size _ W
 have H4:Hid (∀ W,Calls Tryz.prog 52 #[.int .i64 at_,.int .i64 11] W fun e w'=>e=.returned (.bool (decide (0<=at_/\at_<=11)))/\w'=W):=fun W=>hwithin_any at_ _ W
 have H5:Hid (∀ W,Calls Tryz.prog 52 #[.int .i64 (text.size:Int),.int .i64 1000] W fun e w'=>e=.returned (.bool (decide (0<=(text.size:Int)/\(text.size:Int)<=1000)))/\w'=W):=fun W=>hwithin_any (text.size:Int) _ W
 generalize tagOk n who=r1 at *
 generalize decide (0<=size/\size<=1000)=r3 at *
 generalize decide (0<=at_/\at_<=11)=r4 at *
 generalize decide (0<=(text.size:Int)/\(text.size:Int)<=1000)=r5 at *
 obtain ⟨w2,hw2⟩:∃ w2,w2=w.alloc (.cells #[.int .i64 n,.int .i64 who,.int .i64 size,.int .i64 at_,.string text] 47):=⟨_,rfl⟩
 have HW2:Hid (w2=w.alloc (.cells #[.int .i64 n,.int .i64 who,.int .i64 size,.int .i64 at_,.string text] 47)):=hw2
 have HB2:Hid (Below w.heap.size w w2):=by rw [hw2];exact (Below.refl _ _).alloc (Nat.le_refl _) _
 have hlt:w.heap.size < w2.heap.size:=by rw [hw2];simp
 have c0:w2.cell? ⟨w.heap.size,0,none⟩=some (.int .i64 n):=by rw [hw2];simp
 have c1:w2.cell? ⟨w.heap.size,1,none⟩=some (.int .i64 who):=by rw [hw2];simp
 have c2:w2.cell? ⟨w.heap.size,2,none⟩=some (.int .i64 size):=by rw [hw2];simp
 have c3:w2.cell? ⟨w.heap.size,3,none⟩=some (.int .i64 at_):=by rw [hw2];simp
 have c4:w2.cell? ⟨w.heap.size,4,none⟩=some (.string text):=by rw [hw2];simp
 have HC:Hid (∀ W,Below w2.heap.size w2 W->W.cell? ⟨w.heap.size,2,none⟩=some (.int .i64 size)/\W.cell? ⟨w.heap.size,3,none⟩=some (.int .i64 at_)/\W.cell? ⟨w.heap.size,4,none⟩=some (.string text)):=fun W hW=>⟨(hW.cell (p:=⟨w.heap.size,2,none⟩) hlt).trans c2,(hW.cell (p:=⟨w.heap.size,3,none⟩) hlt).trans c3,(hW.cell (p:=⟨w.heap.size,4,none⟩) hlt).trans c4⟩
 clear hw2 ht hlt
 go_enter Tryz.func33,Tryz.ntmps33
 go_wp2_with (first | rw [<- HW2.out])
 refine (H1.out _).mono ?_
 rintro e w3 ⟨rfl,hb3⟩
 obtain ⟨d2,d3,d4⟩:=HC.out w3 hb3
 have HB3:Hid (Below w.heap.size w w3):=HB2.out.trans (hb3.mono HB2.out.size)
 clear HW2 c0 c1 c2 c3 c4 HC hb3 H1
 cases r1 with
 | false =>
  go_wp2
  go_ret
  exact ⟨rfl,HB3.out⟩
 | true =>
  go_wp2_with fail
  refine (H3.out _).mono ?_
  rintro e w4 ⟨rfl,rfl⟩
  cases r3 with
  | false =>
   go_wp2
   go_ret
   exact ⟨rfl,HB3.out⟩
  | true =>
   go_wp2_with fail
   refine (H4.out _).mono ?_
   rintro e w4 ⟨rfl,rfl⟩
   cases r4 with
   | false =>
    go_wp2
    go_ret
    exact ⟨rfl,HB3.out⟩
   | true =>
    go_wp2_with fail
    refine (H5.out _).mono ?_
    rintro e w4 ⟨rfl,rfl⟩
    go_wp2
    go_ret
    exact ⟨by cases r5 <;> rfl,HB3.out⟩
end Go.Proofs.YtghpdhegfnhmkaaGreatDoor
namespace Go.Proofs.YtghpdhegfnhmkaaGreatDoor
open Go.RowKit
variable {h:Nat} {S:Nat->Prop} {L:List Kep} {s:Bool} {m:Option Nat} {D:DataW Value} {row:ByteArray->Value} {blk:ByteArray->Nat}
theorem take_succ_ver {l:List Ver} {i:Nat} (hi:i < l.length):l.take (i+1)=l.take i ++ [verAt l i]:=by
 rw [List.take_add_one,verAt_get hi]
 rfl
theorem getL_fits {L:List Kep} (hf:∀ x ∈ L,isN x.1=true/\verOk x.2=true) {key:ByteArray} {i:Nat} (hi:i < (getL L key).length):verOk (verAt (getL L key) i)=true:=by
 have:=List.mem_of_getElem? (verAt_get hi)
 exact (hf _ (mem_getL.1 this)).2
theorem verOk_text {v:Ver} (h:verOk v=true):v.text.size<=1000:=by
 unfold verOk at h
 simp only [Bool.and_eq_true,decide_eq_true_eq] at h
 exact h.2.2.2.2.2
set_option maxRecDepth 10000 in
set_option maxHeartbeats 1600000 in
theorem getO_any {w:World} (hd:HdAt w h S L s m D row blk) (key:ByteArray) (hk:key.size<=maxLen) :
 Calls Tryz.prog 24 #[.pointer (some ⟨h,0,none⟩),.string key] w fun e w'=>(∃ v,e=.returned v/\OwnR verE 47 w' w.heap.size v (getL L key))/\Below w.heap.size w w':=by
 have HOF:Hid (Calls Tryz.prog 34 #[.pointer (some ⟨h,0,none⟩),.string key] w fun e w'=>e=.returned (row key)/\w'=w):=of_any hd key hk
 obtain ⟨p,c,hrow,hrec,hlc,hpn,hpb⟩:=hd.form key
 have HREC:Hid (Rec verE w p (getL L key)):=hrec
 have HTX:Hid (∀ i,i < (getL L key).length->(verAt (getL L key) i).text.size<=1000000):=fun i hi=>by have:=verOk_text (getL_fits hd.fits hi);omega
 have hl:(getL L key).length<=60:=Nat.le_trans (getL_le _ _) hd.few
 rw [hrow] at HOF
 clear hd hrow hrec hpn hpb
 generalize getL L key=l at *
 go_enter Tryz.func24,Tryz.ntmps24
 go_wp2_with fail
 refine HOF.out.mono ?_
 rintro e w1 ⟨rfl,hw1⟩
 rw [hw1]
 clear hw1 w1 HOF
 go_wp2
 go_loopw [5,12] (fun v x wq=>∃ i:Nat,i<=l.length/\x=.int .i64 i/\OwnR verE 47 wq w.heap.size v (l.take i)/\Below w.heap.size w wq) (fun _ x _=>l.length - (intOf x).toNat)
 case atStart=>exact ⟨0,Nat.zero_le _,rfl,OwnR.nil _ _ _,Below.refl _ _⟩
 case round =>
  obtain ⟨i,hi,rfl,hO,hB⟩:=hrel
  obtain ⟨w1,rfl⟩:∃ w1,w1=wr:=⟨_,rfl⟩
  obtain ⟨v,rfl⟩:∃ v,v=u5:=⟨_,rfl⟩
  have HO:Hid (OwnR verE 47 w1 w.heap.size v (l.take i)):=hO
  have HB:Hid (Below w.heap.size w w1):=hB
  have hz1:w.heap.size<=w1.heap.size:=hB.size
  clear hO hB
  by_cases hil:i < l.length
  ·obtain ⟨b,o,hpp,hblt,c0,c1,c2,c3,c4⟩:=ver_cells (HREC.out.below HB.out) hil
   subst hpp
   have HNX:Hid (l.take (i+1)=l.take i ++ [verAt l i]):=take_succ_ver hil
   have HCP:Hid (∀ W,Calls Tryz.prog 39 #[.agg #[.int .i64 (verAt l i).n,.int .i64 (verAt l i).who,.int .i64 (verAt l i).size,.int .i64 (verAt l i).at_,.string (verAt l i).text]] W fun e w'=>e=.returned (.agg #[.int .i64 (verAt l i).n,.int .i64 (verAt l i).who,.int .i64 (verAt l i).size,.int .i64 (verAt l i).at_,.string (verAt l i).text])/\Below W.heap.size W w'):=fun W=>copied_any (verAt l i) W (HTX.out i hil)
   have hgl:(l.take i).length<=60:=by rw [List.length_take];omega
   clear HTX
   generalize verAt l i=x at *
   obtain ⟨xn,xw,xs,xa,xt⟩:=x
   generalize l.take i=gs at *
   have HBW:Hid (Below w1.heap.size w1 (w1.alloc (.cells #[.int .i64 xn,.int .i64 xw,.int .i64 xs,.int .i64 xa,.string xt] 47))):=(Below.refl _ _).alloc (Nat.le_refl _) _
   go_wp2_with fail
   refine (HCP.out _).mono ?_
   rintro e w3 ⟨rfl,hb3⟩
   have hb13:Below w1.heap.size w1 w3:=HBW.out.trans (hb3.mono HBW.out.size)
   have HO2:Hid (OwnR verE 47 (w3.alloc (.cells #[.int .i64 xn,.int .i64 xw,.int .i64 xs,.int .i64 xa,.string xt] 47)) w.heap.size v gs):=(HO.out.kept hb13).kept ((Below.refl _ _).alloc (Nat.le_refl _) _)
   have HB3:Hid (Below w.heap.size w w3):=HB.out.trans (hb13.mono HB.out.size)
   have HNW:Hid (∀ j u,(verE.enc ⟨xn,xw,xs,xa,xt⟩)[j]?=some u->(w3.alloc (.cells #[.int .i64 xn,.int .i64 xw,.int .i64 xs,.int .i64 xa,.string xt] 47)).cell? ⟨w3.heap.size,0+j,none⟩=some u):=fun j u hj=>by
    rw [Nat.zero_add,World.cell?_alloc_at _ _ _ _ rfl]
    match j,hj with
    | 0,hj=>exact hj
    | 1,hj=>exact hj
    | 2,hj=>exact hj
    | 3,hj=>exact hj
    | 4,hj=>exact hj
   have HB2:Hid (Below w.heap.size w (w3.alloc (.cells #[.int .i64 xn,.int .i64 xw,.int .i64 xs,.int .i64 xa,.string xt] 47))):=HB3.out.alloc HB3.out.size _
   clear hb3 hb13 HBW HCP c0 c1 c2 c3 c4
   go_wp2_with (first | (at_builtin;refine wpList_append_rec rfl (.tmp 16) (.tmp 19) 62 47 rfl (.agg #[.int .i64 0,.int .i64 0,.int .i64 0,.int .i64 0,.string ⟨#[]⟩]) 48 Tryz.underlying62 verinfo rfl w.heap.size v gs rfl HO2.out w3.heap.size 0 1 ⟨xn,xw,xs,xa,xt⟩ rfl HNW.out (by unfold maxLen;omega) (by omega) HB2.out.size (by simp) ?_;intro v4 w4 hO4 hb4))
   have HO4:Hid (OwnR verE 47 w4 w.heap.size v4 (gs ++ [⟨xn,xw,xs,xa,xt⟩])):=hO4
   have HB4:Hid (Below w.heap.size w w4):=HB2.out.trans hb4
   clear hO4 hb4
   go_wp2
   go_roundw
   case rel=>exact ⟨i+1,by omega,by go_num,by rw [HNX.out];exact HO4.out,HB4.out⟩
   case measure=>simp [intOf];omega
  ·have hie:i=l.length:=by omega
   subst hie
   have HE:Hid (l.take l.length=l):=List.take_length
   go_wp2
   go_ret
   have hO:=HO.out
   rw [HE.out] at hO
   exact ⟨⟨v,rfl,hO⟩,HB.out⟩
theorem get_any {w:World} (hd:HdAt w h S L s m D row blk) (key:ByteArray) (hk:key.size<=maxLen) :
 Calls Tryz.prog 24 #[.pointer (some ⟨h,0,none⟩),.string key] w fun e w'=>(∃ p c,e=.returned (.slice p (getL L key).length c)/\Rec verE w' p (getL L key))/\Below w.heap.size w w':=by
 refine (getO_any hd key hk).mono fun e w' hq=>?_
 obtain ⟨⟨v,e1,e2⟩,e3⟩:=hq
 obtain ⟨p,c,hv,hr,_⟩:=e2.form
 exact ⟨⟨p,c,by rw [e1,hv],hr⟩,e3⟩
end Go.Proofs.YtghpdhegfnhmkaaGreatDoor
namespace Go.Proofs.YtghpdhegfnhmkaaGreatDoor
open Go.RowKit
set_option maxRecDepth 10000 in
set_option maxHeartbeats 1600000 in
theorem set_some (h b n:Nat) (D:DataW Value) (key:ByteArray) (p:Option Addr) (k c:Nat) (w:World) (hk:key.size<=1000000) (hk0:0 < k) (hk1:k<=1000) (q0:w.cell? ⟨h,0,none⟩=some (.map (some b))) (hown:OwnM w b n D) (hn:n < maxLen) :
 Calls Tryz.prog 37 #[.pointer (some ⟨h,0,none⟩),.string key,.slice p k c] w fun e w'=>e=.returned (.tuple #[])/\SetOk w w' b D key (.slice p k c):=by
 have hlt:h < w.heap.size:=lt_of_cellH q0
 have HUP:Hid (∀ W,Below w.heap.size w W->∃ w',(Instr.mapUpdate 36 (.map (some b)) (.string key) (.slice p k c)).run Tryz.prog W=.ok () w'/\SetOk w w' b D key (.slice p k c)):=fun W hW=>set_step hown hn (by unfold maxLen;omega) hW
 have HCL:Hid (∀ W,Calls Tryz.prog 57 #[.string key] W fun e w'=>e=.returned (.string key)/\Below W.heap.size W w'):=fun W=>sclone_any key W (by omega)
 have HQ:Hid (∀ W,Below w.heap.size w W->W.cell? ⟨h,0,none⟩=some (.map (some b))):=fun W hW=>(hW.cell (p:=⟨h,0,none⟩) hlt).trans q0
 have hz:¬ ((k:Int)=0):=by omega
 have hmn:=map_not_nil b
 clear hown hn hk
 go_enter Tryz.func37,Tryz.ntmps37
 go_wp2
 go_region_with (go_at_call 57;refine (HCL.out _).mono ?_;rintro e w5 ⟨rfl,hb5⟩;have hb6:=below_drew' hb5;have q5:=HQ.out w5 hb6;obtain ⟨w9,hrun9,hset9⟩:=HUP.out w5 hb6;clear hb5 hb6)
 all_goals
  go_wp2
  go_end0
  first | exact ⟨rfl,hset9⟩ | exact ⟨rfl,by assumption⟩
set_option maxRecDepth 10000 in
set_option maxHeartbeats 1600000 in
theorem set_none (h:Nat) (key:ByteArray) (p:Option Addr) (k c:Nat) (w:World) (hk:key.size<=1000000) (hk0:0 < k) (hk1:k<=1000) (q0:w.cell? ⟨h,0,none⟩=some (.map none)) (f0:w.frozen? ⟨h,0,none⟩=false) :
 Calls Tryz.prog 37 #[.pointer (some ⟨h,0,none⟩),.string key,.slice p k c] w fun e w'=>e=.returned (.tuple #[])/\SetOk ((w.setCell ⟨h,0,none⟩ (.map (some w.heap.size))).alloc (.map #[] 0)) w' w.heap.size (.map []) key (.slice p k c):=by
 have hlt:h < w.heap.size:=lt_of_cellH q0
 obtain ⟨W0,hW0⟩:∃ W0,W0=(w.setCell ⟨h,0,none⟩ (.map (some w.heap.size))).alloc (.map #[] 0):=⟨_,rfl⟩
 have HW0:Hid (W0=(w.setCell ⟨h,0,none⟩ (.map (some w.heap.size))).alloc (.map #[] 0)):=hW0
 have hsz:(w.setCell ⟨h,0,none⟩ (.map (some w.heap.size))).heap.size=w.heap.size:=by simp
 have hown:OwnM W0 w.heap.size 0 (.map []):=by
  have:=World.ownsMap_made (w.setCell ⟨h,0,none⟩ (.map (some w.heap.size))) Tryz.prog 9 anyR
  rw [hsz] at this
  rw [hW0]
  exact this
 have hq:W0.cell? ⟨h,0,none⟩=some (.map (some w.heap.size)):=by
  rw [hW0,((Below.refl _ (w.setCell ⟨h,0,none⟩ (.map (some w.heap.size)))).alloc (Nat.le_refl _) _).cell (p:=⟨h,0,none⟩) (by rw [hsz];exact hlt)]
  exact World.cell?_setCell_same _ _ _ q0
 have hlt0:h < W0.heap.size:=lt_of_cellH hq
 have HUP:Hid (∀ W,Below W0.heap.size W0 W->∃ w',(Instr.mapUpdate 36 (.map (some w.heap.size)) (.string key) (.slice p k c)).run Tryz.prog W=.ok () w'/\SetOk W0 w' w.heap.size (.map []) key (.slice p k c)):=fun W hW=>set_step hown (by unfold maxLen;omega) (by unfold maxLen;omega) hW
 have HCL:Hid (∀ W,Calls Tryz.prog 57 #[.string key] W fun e w'=>e=.returned (.string key)/\Below W.heap.size W w'):=fun W=>sclone_any key W (by omega)
 have HQ:Hid (∀ W,Below W0.heap.size W0 W->W.cell? ⟨h,0,none⟩=some (.map (some w.heap.size))):=fun W hW=>(hW.cell (p:=⟨h,0,none⟩) hlt0).trans hq
 have hz:¬ ((k:Int)=0):=by omega
 have hmn:=map_is_nil
 have hf1:(w.alloc (.map #[] 0)).frozen? ⟨h,0,none⟩=false:=by rw [((Below.refl _ w).alloc (Nat.le_refl _) _).frozen (p:=⟨h,0,none⟩) hlt];exact f0
 have hc1:(w.alloc (.map #[] 0)).cell? ⟨h,0,none⟩=some (.map none):=by rw [((Below.refl _ w).alloc (Nat.le_refl _) _).cell (p:=⟨h,0,none⟩) hlt];exact q0
 have hmk:(Instr.makeMap 36 none).run Tryz.prog w=.ok (.map (some w.heap.size)) (w.alloc (.map #[] 0)):=by kernel_rfl
 rw [<- hW0]
 clear hown hk hW0 hsz
 go_enter Tryz.func37,Tryz.ntmps37
 go_wp2
 rw [<- HW0.out]
 clear HW0
 go_region_with (go_at_call 57;refine (HCL.out _).mono ?_;rintro e w5 ⟨rfl,hb5⟩;have hb6:=below_drew' hb5;have q5:=HQ.out w5 hb6;obtain ⟨w9,hrun9,hset9⟩:=HUP.out w5 hb6;clear hb5 hb6)
 all_goals
  go_wp2
  go_end0
  first | exact ⟨rfl,hset9⟩ | exact ⟨rfl,by assumption⟩
variable {h:Nat} {S:Nat->Prop} {L:List Kep} {s:Bool} {m:Option Nat} {D:DataW Value} {row:ByteArray->Value} {blk:ByteArray->Nat}
theorem sameKey_decide (z x:ByteArray):(litK z).sameKey (litK x)=decide (z=x):=by
 by_cases e:z=x
 ·subst e
  rw [sameKey_litK,decide_eq_true rfl]
 ·rw [Maps.sameKey_ne (fun h=>e (litK_inj h)),decide_eq_false e]
def sumLeft (L:List Kep) (left:Lit->Bool):Nat:=(((keysL L).filter fun x=>left (litK x)).map fun x=>(getL L x).length).sum
theorem sum_strike {K:List ByteArray} (hn:K.Nodup) (f:ByteArray->Nat) (p:ByteArray->Bool) {x:ByteArray} (hx:x ∈ K) (hp:p x=true):((K.filter p).map f).sum=f x+((K.filter fun z=>p z && !decide (z=x)).map f).sum:=by
 induction K with
 | nil=>cases hx
 | cons a K ih =>
  obtain ⟨h1,h2⟩:=List.nodup_cons.1 hn
  by_cases e:a=x
  ·subst e
   have hK:K.filter (fun z=>p z && !decide (z=a))=K.filter p:=by
    apply List.filter_congr
    intro z hz
    have:z≠a:=fun e=>h1 (e ▸ hz)
    simp [this]
   rw [List.filter_cons_of_pos hp,List.filter_cons_of_neg (by simp),hK]
   simp
  ·have hxK : x ∈ K := by
    rcases List.mem_cons.1 hx with h3 | h3
    ·exact absurd h3.symm e
    ·exact h3
   have:=ih h2 hxK
   cases hpa:p a with
   | true =>
    rw [List.filter_cons_of_pos hpa,List.filter_cons_of_pos (by simp [hpa,e]),List.map_cons,List.map_cons,List.sum_cons,List.sum_cons,this]
    omega
   | false =>
    rw [List.filter_cons_of_neg (by simp [hpa]),List.filter_cons_of_neg (by simp [hpa]),this]
theorem sumLeft_strike {L:List Kep} (hs:SortedK L) {left:Lit->Bool} {x:ByteArray} (hx:x ∈ keysL L) (hl:left (litK x)=true):sumLeft L left=(getL L x).length+sumLeft L (fun z=>left z && !z.sameKey (litK x)):=by
 unfold sumLeft
 rw [sum_strike (keysL_nodup hs) (fun x=>(getL L x).length) (fun x=>left (litK x)) hx hl]
 simp only [sameKey_decide]
theorem sumLeft_all {L:List Kep} (hs:SortedK L) {left:Lit->Bool} (hl:∀ x ∈ keysL L,left (litK x)=true):sumLeft L left=L.length:=by
 unfold sumLeft
 rw [List.filter_eq_self.2 hl,keys_sum hs]
theorem sumLeft_none {L:List Kep} {left:Lit->Bool} (hl:∀ k,left k=false):sumLeft L left=0:=by
 unfold sumLeft
 rw [List.filter_eq_nil_iff.2 (fun x _=>by rw [hl];decide)]
 rfl
theorem keysL_size {L:List Kep} (hs:SortedK L) (hf:∀ x ∈ L,isN x.1=true/\verOk x.2=true) {x:ByteArray} (hx:x ∈ keysL L):x.size<=16:=by
 obtain ⟨v,hv⟩:=List.exists_mem_of_ne_nil _ (((keysOk L hs).mem x).1 hx)
 exact (isN_size (hf _ (mem_getL.1 hv)).1).2
theorem HdAt.entry {w:World} (hd:HdAt w h S L s m D row blk) {b:Nat} (hm:m=some b) {x:ByteArray} {c:Value} {kl:Lit} {y:DataW Value×List MemPlace} {left:Lit->Bool} (hsub:∀ z,left z=true->Maps.has D z=true) (hkey:keyOf Tryz.prog 9 (.string x)=some kl) (hlk:left kl=true) (hv:anyR c=some y) (hat:∀ zd,D.atKey kl zd=y.1):kl=litK x/\x ∈ keysL L/\c=row x:=by
 obtain ⟨x',e1,e2,e3⟩:=keyOfK_inv hkey
 injection e1 with e1
 subst e1
 subst e2
 obtain ⟨_,_,_,h4,h5⟩:=hd.mapS b hm
 have hh:=hsub _ hlk
 rw [h4 x e3] at hh
 have hne:getL L x≠[]:=by simpa using hh
 refine ⟨rfl,((keysOk L hd.sorted).mem x).2 hne,?_⟩
 have h6:=h5 x hne .nil
 rw [hat] at h6
 have h7:y.1=.held c:=by
  unfold anyR at hv
  exact (congrArg Prod.fst (Option.some.inj hv)).symm
 rw [h7] at h6
 injection h6
set_option maxRecDepth 10000 in
set_option maxHeartbeats 1600000 in
theorem count_nil {w:World} (hd:HdAt w h S L s none D row blk):Calls Tryz.prog 36 #[.pointer (some ⟨h,0,none⟩)] w fun e w'=>e=.returned (.int .i64 (L.length:Int))/\Below w.heap.size w w':=by
 have HA:Hid (Calls Tryz.prog 53 #[.pointer (some ⟨h,0,none⟩)] w fun e w'=>e=.returned (.map none)/\w'=w):=all_any hd
 rw [hd.nothing rfl]
 clear hd
 have hrg:=run_range_nilMap (P:=Tryz.prog) w 36 9 62 Tryz.underlying36
 have hnx:∀ ty,(Instr.next (.pointer (some ⟨w.heap.size,0,none⟩)) false ty).run Tryz.prog (w.alloc (.mapIter none 0 #[] 0))=_:=fun ty=>run_next_nilMap w ty 0 0 #[]
 go_enter Tryz.func36,Tryz.ntmps36
 go_wp2_with fail
 refine HA.out.mono ?_
 rintro e w1 ⟨rfl,hw1⟩
 rw [hw1]
 clear hw1 w1 HA
 go_wp2
 refine wp_loop_rounds 1 ?_
 rw [rounds_succ]
 go_wp2
 go_ret
 exact ⟨rfl,(Below.refl _ _).alloc (Nat.le_refl _) _⟩
set_option maxRecDepth 10000 in
set_option maxHeartbeats 1600000 in
theorem count_some {w:World} {b:Nat} (hd:HdAt w h S L s (some b) D row blk):Calls Tryz.prog 36 #[.pointer (some ⟨h,0,none⟩)] w fun e w'=>e=.returned (.int .i64 (L.length:Int))/\Below w.heap.size w w':=by
 have HA:Hid (Calls Tryz.prog 53 #[.pointer (some ⟨h,0,none⟩)] w fun e w'=>e=.returned (.map (some b))/\w'=w):=all_any hd
 obtain ⟨hSb,hbh,⟨n,hown⟩,h4,h5⟩:=hd.mapS b rfl
 have HD:Hid (HdAt w h S L s (some b) D row blk):=hd
 have hfew:=hd.few
 have H0:Hid (sumLeft L (Maps.has D)=L.length):=sumLeft_all hd.sorted (fun x hx=>by
  rw [h4 x (by have:=keysL_size hd.sorted hd.fits hx;unfold maxLen;omega)]
  simpa using ((keysOk L hd.sorted).mem x).1 hx)
 have hblt:b < w.heap.size:=hd.inS b hSb
 clear h4 h5 hd hSb hbh
 go_enter Tryz.func36,Tryz.ntmps36
 go_wp2_with fail
 refine HA.out.mono ?_
 rintro e w1 ⟨rfl,hw1⟩
 rw [hw1]
 clear hw1 w1 HA
 go_wp2_with (first
  | (at_range;refine wpList_range_own _ rfl _ 36 rfl 9 62 keyedK Tryz.underlying36 anyR b n D rfl hown ?_;intro w0 hrg0 hg0 hs0)
  | go_in)
 go_frame
 go_loopw [3] (fun k wr=>∃ (left:Lit->Bool) (cnt acc:Nat),wr.ranges Tryz.prog 9 anyR b w.heap.size n D left cnt/\k=.int .i64 acc/\acc+sumLeft L left=L.length/\(∀ z,left z=true->Maps.has D z=true)/\Below w.heap.size w wr) (fun _ wr=>wr.rangeLeft b w.heap.size)
 case atStart=>exact ⟨Maps.has D,Maps.size D,0,hrg0,rfl,by rw [H0.out];omega,fun z hz=>hz,⟨hg0.os,hg0.tape,hg0.output,hg0.size,fun k hk=>hg0.block k hk (by simp)⟩⟩
 case round =>
  clear hg0 hs0 hrg0 hown H0
  obtain ⟨left,cnt,acc,hrg,rfl,hacc,hsub,hbw⟩:=hrel
  obtain ⟨w1,rfl⟩:∃ w1,w1=wr:=⟨_,rfl⟩
  have HACC:Hid (acc+sumLeft L left=L.length):=hacc
  have HSUB:Hid (∀ z,left z=true->Maps.has D z=true):=hsub
  have HBW:Hid (Below w.heap.size w w1):=hbw
  have hacc2:acc<=60:=by omega
  clear hacc hsub hbw
  go_wp2_with (first
   | (at_next;refine wpList_next_ranges (α:=ByteArray) (β:=Value) _ rfl _ rfl 9 keyedK anyR Value.string id (fun key kl hk=>by obtain ⟨x,hx,_⟩:=keyOfK_inv hk;exact ⟨x,hx⟩) (fun v y _=>⟨v,rfl⟩) b w.heap.size n D left cnt rfl hrg ?_ ?_)
   | go_in)
  ·intro _ hl0
   have HE:Hid (acc=L.length):=by
    show _=_
    have:=HACC.out
    rw [sumLeft_none hl0] at this
    exact this
   go_wp2
   go_ret
   exact ⟨by rw [HE.out];rfl,HBW.out⟩
  ·intro x c kl yd yp w2 cnt2 hkey hlk hv hat hrg2 hlt2 hg2 hs2 hen
   obtain ⟨rfl,hxk,rfl⟩:=HD.out.entry rfl HSUB.out hkey hlk hv hat
   have HST:Hid (sumLeft L left=(getL L x).length+sumLeft L (fun z=>left z && !z.sameKey (litK x))):=sumLeft_strike HD.out.sorted hxk hlk
   obtain ⟨p,cc,hrow,_,_,_,_⟩:=HD.out.form x
   have hrow2:row x=.slice p (getL L x).length cc:=hrow
   rw [hrow2] at hen ⊢
   have HRG:Hid (w2.ranges Tryz.prog 9 anyR b w.heap.size n D (fun z=>left z && !z.sameKey (litK x)) cnt2):=hrg2
   have HLT:Hid (cnt2 < cnt):=hlt2
   have HRG0:Hid (w1.ranges Tryz.prog 9 anyR b w.heap.size n D left cnt):=hrg
   have HB2:Hid (Below w.heap.size w w2):=HBW.out.trans ⟨hg2.os,hg2.tape,hg2.output,hg2.size,fun k hk=>hg2.block k (by have:=HBW.out.size;omega) (fun e=>by injection e with e;omega)⟩
   have hgl:(getL L x).length<=60:=Nat.le_trans (getL_le _ _) hfew
   have HAC2:Hid (acc+(getL L x).length+sumLeft L (fun z=>left z && !z.sameKey (litK x))=L.length):=by
    show _=_
    have:=HACC.out
    rw [HST.out] at this
    omega
   have HS2:Hid (∀ z,(left z && !z.sameKey (litK x))=true->Maps.has D z=true):=fun z hz=>HSUB.out z (by simp only [Bool.and_eq_true] at hz;exact hz.1)
   clear hv hat hrg2 hlt2 hg2 hs2 hrow hrow2 hkey hlk hxk HST HACC hrg
   generalize (getL L x).length=g at *
   go_wp2
   go_roundw
   case rel=>exact ⟨_,cnt2,acc+g,HRG.out,by go_num,HAC2.out,HS2.out,HB2.out⟩
   case measure=>rw [HRG.out.left_eq,HRG0.out.left_eq];exact HLT.out
theorem count_any {w:World} (hd:HdAt w h S L s m D row blk):Calls Tryz.prog 36 #[.pointer (some ⟨h,0,none⟩)] w fun e w'=>e=.returned (.int .i64 (L.length:Int))/\Below w.heap.size w w':=by
 cases m with
 | none=>exact count_nil hd
 | some b=>exact count_some hd
end Go.Proofs.YtghpdhegfnhmkaaGreatDoor
