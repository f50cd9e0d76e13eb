import Derived.Test.YtghpdhegfnhmkaaGreatDoorS24
import Derived.Test.YtghpdhegfnhmkaaGreatDoorS4
import Derived.Lib.AtoiAll
import Derived.Lib.ItoaNum
import Derived.Lib.IndexMore
import Derived.Test.YtghpdhegfnhmkaaGreatDoorS5
import Derived.Test.YtghpdhegfnhmkaaGreatDoorS8
import Derived.BigQuiet
import Derived.StillTailTactics
import Derived.Test.YtghpdhegfnhmkaaGreatDoorS0
import Derived.Maps.RangeWalk
import Derived.Maps.OwnOps
import Derived.Maps.OwnSet
namespace Go.Proofs.YtghpdhegfnhmkaaGreatDoor
open Go.RowKit
structure GoodL (L:List Kep):Prop where
 sorted:SortedK L
 few:L.length<=60
 fits:∀ x ∈ L,isN x.1=true/\verOk x.2=true
theorem GoodL.put {L:List Kep} (h:GoodL L) {s:Bool} {key:ByteArray} {v:Ver} (h0:putErr L s key v=0):GoodL (putL L key v)/\(∀ x ∈ getL L key,tagOf x≠tagOf v)/\s=false/\isN key=true/\verOk v=true/\L.length < 60:=by
 unfold putErr at h0
 split at h0
 ·cases h0
 ·rename_i hs
  split at h0
  ·rename_i hn
   split at h0
   ·rename_i hv
    have hnone:∀ x ∈ getL L key,tagOf x≠tagOf v:=fun x hx ht=>by
     rw [putScan_there h.sorted hx ht] at h0
     split at h0 <;> cases h0
    rw [putScan_none hnone L.length 0 (by omega)] at h0
    have hlt:L.length < 60:=by
     refine Classical.byContradiction fun hc=>?_
     rw [if_pos (by omega)] at h0
     cases h0
    refine ⟨⟨putL_sorted h.sorted hnone,by rw [putL_length];omega,fun x hx=>?_⟩,hnone,by simpa using hs,hn,hv,hlt⟩
    rcases mem_putL.1 hx with h1 | h1
    ·exact h.fits x h1
    ·rw [h1];exact ⟨hn,hv⟩
   ·cases h0
  ·cases h0
end Go.Proofs.YtghpdhegfnhmkaaGreatDoor
namespace Go.Proofs.YtghpdhegfnhmkaaGreatDoor
open Go.RowKit Go.Sort
set_option maxRecDepth 10000 in
set_option maxHeartbeats 1000000 in
theorem seek_any (v:Ver) (b:Int×Int) (w:World):Calls Tryz.prog 55 #[.agg #[.int .i64 v.n,.int .i64 v.who,.int .i64 v.size,.int .i64 v.at_,.string v.text],.agg #[.int .i64 b.1,.int .i64 b.2]] w fun e w'=>e=.returned (.int .i64 (tagC (tagOf v) b))/\∃ q os,w'=grow (w.drewN q) os:=by
 obtain ⟨n,who,size,at_,text⟩:=v
 have HC:Hid (∀ W,Calls Tryz.prog 56 #[.agg #[.int .i64 n,.int .i64 who],.agg #[.int .i64 b.1,.int .i64 b.2]] W fun e w'=>e=.returned (.int .i64 (tagC (n,who) b))/\∃ n os,w'=grow (W.drewN n) os):=fun W=>compare_any (n,who) b W
 show Calls Tryz.prog 55 #[.agg #[.int .i64 n,.int .i64 who,.int .i64 size,.int .i64 at_,.string text],.agg #[.int .i64 b.1,.int .i64 b.2]] w fun e w'=>e=.returned (.int .i64 (tagC (n,who) b))/\∃ q os,w'=grow (w.drewN q) os
 generalize tagC (n,who) b=c at *
 obtain ⟨b1,b2⟩:=b
 have HG:Hid (∃ os,(w.alloc (.cells #[.int .i64 n,.int .i64 who,.int .i64 size,.int .i64 at_,.string text] 47)).alloc (.cells #[.int .i64 b1,.int .i64 b2] 43)=grow w os):=⟨_,by rw [alloc_eq_grow,alloc_eq_grow,grow_grow]⟩
 go_enter Tryz.func55,Tryz.ntmps55
 go_wp2_with fail
 refine (HC.out _).mono ?_
 rintro e w2 ⟨rfl,q,os,hw2⟩
 have HE:Hid (∃ q os,w2=grow (w.drewN q) os):=by
  obtain ⟨os0,h0⟩:=HG.out
  exact ⟨q,os0 ++ os,by rw [hw2,h0,grow_drewN,grow_grow]⟩
 clear hw2 HG
 go_wp2
 go_ret
 exact ⟨rfl,HE.out⟩
end Go.Proofs.YtghpdhegfnhmkaaGreatDoor
namespace Go.Proofs.YtghpdhegfnhmkaaGreatDoor
open Go.RowKit
structure HdAt (w:World) (h:Nat) (S:Nat->Prop) (L:List Kep) (s:Bool) (m:Option Nat) (D:DataW Value) (row:ByteArray->Value) (blk:ByteArray->Nat):Prop where
 sorted:SortedK L
 few:L.length<=60
 fits:∀ x ∈ L,isN x.1=true/\verOk x.2=true
 inS:∀ k,S k->k < w.heap.size
 self:S h
 ptr:w.cell? ⟨h,0,none⟩=some (.map m)
 shut:w.cell? ⟨h,1,none⟩=some (.bool s)
 free0:w.frozen? ⟨h,0,none⟩=false
 free1:w.frozen? ⟨h,1,none⟩=false
 nothing:m=none->L=[]
 mapS:∀ b,m=some b->S b/\b≠h/\(∃ n,OwnM w b n D)/\(∀ x,x.size<=maxLen->Maps.has D (litK x)=decide (getL L x≠[]))/\∀ x,getL L x≠[]->∀ z,D.atKey (litK x) z=.held (row x)
 own:∀ x,OwnR verE 47 w 0 (row x) (getL L x)
 nilrow:∀ x,getL L x=[]->row x=.slice none 0 0
 inB:∀ x,getL L x≠[]->(row x).ownBlock=some (blk x)/\S (blk x)/\blk x≠h/\∀ b,m=some b->blk x≠b
 apart:∀ x y,getL L x≠[]->getL L y≠[]->x≠y->blk x≠blk y
def HdOf (w:World) (h:Nat) (S:Nat->Prop) (L:List Kep) (s:Bool):Prop:=∃ m D row blk,HdAt w h S L s m D row blk
variable {w w':World} {h:Nat} {S:Nat->Prop} {L:List Kep} {s:Bool} {m:Option Nat} {D:DataW Value} {row:ByteArray->Value} {blk:ByteArray->Nat}
theorem HdAt.rowS (hd:HdAt w h S L s m D row blk) {x:ByteArray} {k:Nat} (hk:(row x).ownBlock=some k):S k/\getL L x≠[]/\k=blk x:=by
 by_cases hx:getL L x=[]
 ·rw [hd.nilrow x hx] at hk;cases hk
 ·obtain ⟨h1,h2,_⟩:=hd.inB x hx
  rw [h1] at hk
  cases hk
  exact ⟨h2,hx,rfl⟩
theorem HdAt.keep (hd:HdAt w h S L s m D row blk) (hs:w.heap.size<=w'.heap.size) (hb:∀ k,S k->w'.heap[k]?=w.heap[k]?):HdAt w' h S L s m D row blk:=by
 have hh:=hb h hd.self
 refine ⟨hd.sorted,hd.few,hd.fits,fun k hk=>Nat.lt_of_lt_of_le (hd.inS k hk) hs,hd.self,(cell_same hh 0).1.trans hd.ptr,(cell_same hh 1).1.trans hd.shut,(cell_same hh 0).2.trans hd.free0,(cell_same hh 1).2.trans hd.free1,hd.nothing,fun b hm=>?_,fun x=>(hd.own x).same (fun k hk=>hb k (hd.rowS hk).1),hd.nilrow,hd.inB,hd.apart⟩
 obtain ⟨h1,h2,⟨n,h3⟩,h4⟩:=hd.mapS b hm
 exact ⟨h1,h2,⟨n,h3.same (hb b h1)⟩,h4⟩
theorem HdAt.below (hd:HdAt w h S L s m D row blk) (hb:Below w.heap.size w w'):HdAt w' h S L s m D row blk:=hd.keep hb.size (fun k hk=>hb.block k (hd.inS k hk))
theorem HdAt.size (hd:HdAt w h S L s m D row blk) {b:Nat} (hm:m=some b):Maps.size D<=60:=by
 obtain ⟨_,_,⟨n,h3⟩,h4,_⟩:=hd.mapS b hm
 obtain ⟨es,rfl,hp,hk⟩:=h3.keys
 rw [Maps.size_eq]
 refine Nat.le_trans ?_ (Nat.le_trans (keysL_le L) hd.few)
 have hn:(es.map Prod.fst).Nodup:=by unfold List.Nodup;rw [List.pairwise_map];exact hp
 have:=length_le_sub (l:=es.map Prod.fst) (m:=(keysL L).map litK) hn (fun l hl=>by
  obtain ⟨p,hp',rfl⟩:=List.mem_map.1 hl
  obtain ⟨x,hx,e⟩:=hk p hp'
  have hh:Maps.has (.map es) (litK x)=true:=List.any_eq_true.2 ⟨p,hp',by rw [e];exact sameKey_litK x⟩
  rw [h4 x hx] at hh
  rw [e]
  exact List.mem_map.2 ⟨x,((keysOk L hd.sorted).mem x).2 (by simpa using hh),rfl⟩)
 simpa using this
set_option maxRecDepth 10000 in
theorem HdAt.look (hd:HdAt w h S L s m D row blk) {x:ByteArray} (hx:x.size<=maxLen):(Instr.lookup 36 (.map m) (.string x) false).run Tryz.prog w=.ok (row x) w:=by
 have hz:(zeroValue 62).run Tryz.prog w=.ok (.slice none 0 0) w:=by kernel_rfl
 cases m with
 | none =>
  have h0:=hd.nothing rfl
  have:=Maps.look_nil (w:=w) false keyedK Tryz.underlying36 hz (keyOfK hx)
  rw [this,hd.nilrow x (by rw [h0];rfl)]
  rfl
 | some b =>
  obtain ⟨_,_,⟨n,h3⟩,h4,h5⟩:=hd.mapS b rfl
  obtain ⟨v,ps,hrun,hR⟩:=World.ownsMap.lookup h3 keyedK Tryz.underlying36 hz (zd:=.held (.slice none 0 0)) (zp:=[]) rfl (keyOfK hx)
  rw [hrun]
  have e:DataW.held v=D.atKey (litK x) (.held (.slice none 0 0)):=congrArg Prod.fst (Option.some.inj hR)
  by_cases hg:getL L x=[]
  ·rw [Maps.atKey_of_not_has (by rw [h4 x hx];simp [hg])] at e
   injection e with e
   rw [e,hd.nilrow x hg]
  ·rw [h5 x hg] at e
   injection e with e
   rw [e]
theorem HdAt.form (hd:HdAt w h S L s m D row blk) (x:ByteArray):∃ p c,row x=.slice p (getL L x).length c/\Rec verE w p (getL L x)/\(getL L x).length<=c/\(p=none->getL L x=[]/\c=0)/\∀ b o,p=some ⟨b,o,none⟩->b < w.heap.size:=by
 obtain ⟨p,c,h1,h2,h3,h4,h5⟩:=(hd.own x).form
 exact ⟨p,c,h1,h2,h3,h4,fun b o e=>(h5 b o e).2⟩
theorem hd_zero (w:World):HdOf (w.alloc (.cells #[.map none, .bool false] 38)) w.heap.size (fun k=>k=w.heap.size) [] false:=by
 refine ⟨none,.nil,fun _=>.slice none 0 0,fun _=>0,List.Pairwise.nil,by simp,(fun _ hx=>by cases hx),(fun k hk=>by subst hk;simp),rfl,by simp,by simp,by simp,by simp,fun _=>rfl,(fun b hm=>by cases hm),fun x=>OwnR.nil _ _ _,fun _ _=>rfl,fun x hx=>absurd rfl hx,fun x _ hx _ _=>absurd rfl hx⟩
theorem HdOf.keep (hd:HdOf w h S L s) (hs:w.heap.size<=w'.heap.size) (hb:∀ k,S k->w'.heap[k]?=w.heap[k]?):HdOf w' h S L s:=by
 obtain ⟨m,D,row,blk,hd⟩:=hd
 exact ⟨m,D,row,blk,hd.keep hs hb⟩
theorem HdOf.below (hd:HdOf w h S L s) (hb:Below w.heap.size w w'):HdOf w' h S L s:=by
 obtain ⟨m,D,row,blk,hd⟩:=hd
 exact ⟨m,D,row,blk,hd.below hb⟩
end Go.Proofs.YtghpdhegfnhmkaaGreatDoor
namespace Go.Proofs.YtghpdhegfnhmkaaGreatDoor
open Go.RowKit
def ptoE:Enc (Option Nat):=⟨1,by decide,fun x=>[.pointer (x.map fun b=>⟨b,0,none⟩)],fun _=>rfl,fun x u hu=>by simp at hu;rw [hu];rfl⟩
def ptL (hp:Nat->Nat) (Ks:List (Option (List Kep))):List (Option Nat):=(List.range Ks.length).map fun i=>(Ks.getD i none).map fun _=>hp i
theorem ptL_length (hp:Nat->Nat) (Ks:List (Option (List Kep))):(ptL hp Ks).length=Ks.length:=by simp [ptL]
theorem ptL_at {hp:Nat->Nat} {Ks:List (Option (List Kep))} {i:Nat} {x:Option (List Kep)} (h:Ks[i]?=some x):(ptL hp Ks)[i]?=some (x.map fun _=>hp i):=by
 have hi:i < Ks.length:=(List.getElem?_eq_some_iff.1 h).1
 unfold ptL
 rw [List.getElem?_map,List.getElem?_range hi]
 show some ((Ks.getD i none).map fun _=>hp i)=_
 rw [List.getD_eq_getElem?_getD,h]
 rfl
structure ShAt (w:World) (B:Nat) (Ka Kb:List (Option (List Kep))) (hp hm:Nat->Nat) (O:Nat->Option Nat):Prop where
 own:∀ i L,Ka[i]?=some (some L)->HdOf w (hp i) (fun k=>O k=some (2*i)) L false
 model:∀ i L,Kb[i]?=some (some L)->MHold w (hm i) L false/\O (hm i)=some (2*i+1)/\(L≠[]->∀ b o n c,w.cell? ⟨hm i,0,none⟩=some (.slice (some ⟨b,o,none⟩) n c)->O b=some (2*i+1))
 dom:∀ k j,O k=some j->B<=k/\k < w.heap.size
variable {w w':World} {B:Nat} {Ka Kb:List (Option (List Kep))} {hp hm:Nat->Nat} {O:Nat->Option Nat}
theorem ShAt.keep (h:ShAt w B Ka Kb hp hm O) (hs:w.heap.size<=w'.heap.size) (hk:∀ k,O k≠none->w'.heap[k]?=w.heap[k]?):ShAt w' B Ka Kb hp hm O where
 own:=fun i L hi=>(h.own i L hi).keep hs fun k e=>hk k (by rw [e];simp)
 model:=fun i L hi=>by
  obtain ⟨h1,h2,h3⟩:=h.model i L hi
  have hb:=hk (hm i) (by rw [h2];simp)
  refine ⟨h1.same hs hb (fun hL b o n c e=>hk b (by rw [h3 hL b o n c e];simp)),h2,fun hL b o n c e=>h3 hL b o n c ?_⟩
  rw [<- e]
  exact (World.cell?_of_block (a:=⟨hm i,0,none⟩) hb).symm
 dom:=fun k j hj=>⟨(h.dom k j hj).1,Nat.lt_of_lt_of_le (h.dom k j hj).2 hs⟩
theorem ShAt.below (h:ShAt w B Ka Kb hp hm O) (hb:Below w.heap.size w w'):ShAt w' B Ka Kb hp hm O :=
 h.keep hb.size fun k hk=>by
  cases e:O k with
  | none=>exact absurd e hk
  | some j=>exact hb.block k (h.dom k j e).2
def Shf (O O':Nat->Option Nat) (w w':World):Prop:=Upd (fun k=>O k≠none) (fun k=>O' k≠none) w w'
theorem Shf.of_below (O:Nat->Option Nat) (hb:Below w.heap.size w w'):Shf O O w w':=Upd.of_below hb
theorem Shf.trans {O1 O2:Nat->Option Nat} {w2:World} (h1:Shf O O1 w w') (h2:Shf O1 O2 w' w2):Shf O O2 w w2:=Upd.trans h1 h2
theorem Shf.keepB {O1:Nat->Option Nat} (h:Shf O O1 w w') {k:Nat} (hk:k < w.heap.size) (e:O k=none):w'.heap[k]?=w.heap[k]?/\O1 k=none:=by
 refine ⟨h.block k hk (fun x=>x e),?_⟩
 cases e1:O1 k with
 | none=>rfl
 | some j =>
  rcases h.new k (by rw [e1];simp) with h1 | h1
  ·exact absurd e h1
  ·omega
theorem Shf.low {O1:Nat->Option Nat} (h:Shf O O1 w w') (hB:B<=w.heap.size) (hd:∀ k j,O k=some j->B<=k):Below B w w' :=
 ⟨h.os,h.tape,h.output,h.size,fun k hk=>h.block k (by omega) fun e=>by
  cases e1:O k with
  | none=>exact e e1
  | some j=>have:=hd k j e1;omega⟩
theorem ShAt.shift (h:ShAt w B Ka Kb hp hm O) (hBs:B<=w.heap.size) {m:Nat} {S':Nat->Prop} (hu:Upd (fun k=>O k=some m) S' w w') (hlt:∀ k,S' k->k < w'.heap.size) :
 ∃ O':Nat->Option Nat,(∀ k,O' k=some m↔S' k)/\(∀ k j,j≠m->(O' k=some j↔O k=some j))/\(∀ k j,O' k=some j->B<=k/\k < w'.heap.size)/\Shf O O' w w'/\(∀ k j,j≠m->O k=some j->w'.heap[k]?=w.heap[k]?):=by
 classical
 have hdis:∀ k j,j≠m->O k=some j->¬ S' k:=fun k j hj e hS=>by
  rcases hu.new k hS with h1 | h1
  ·rw [e] at h1;exact hj (Option.some.inj h1)
  ·have:=(h.dom k j e).2;omega
 let O':Nat->Option Nat:=fun k=>if S' k then some m else if O k=some m then none else O k
 have e1:∀ k,S' k->O' k=some m:=fun k hk=>if_pos hk
 have e2:∀ k,¬ S' k->O k=some m->O' k=none:=fun k hk hm=>by show (if S' k then some m else if O k=some m then none else O k)=none;rw [if_neg hk,if_pos hm]
 have e3:∀ k,¬ S' k->O k≠some m->O' k=O k:=fun k hk hm=>by show (if S' k then some m else if O k=some m then none else O k)=O k;rw [if_neg hk,if_neg hm]
 refine ⟨O',fun k=>⟨fun hk=>?_,e1 k⟩,fun k j hj=>⟨fun hk=>?_,fun hk=>?_⟩,fun k j hk=>?_,⟨hu.os,hu.tape,hu.output,hu.size,fun k hk hn=>hu.block k hk (fun e=>hn (by rw [e];simp)),fun k hk=>?_⟩,fun k j hj e=>hu.block k (h.dom k j e).2 (fun e2=>by rw [e] at e2;exact hj (Option.some.inj e2))⟩
 ·by_cases hS:S' k
  ·exact hS
  ·exfalso
   by_cases hm:O k=some m
   ·rw [e2 k hS hm] at hk;cases hk
   ·rw [e3 k hS hm] at hk;exact hm hk
 ·by_cases hS:S' k
  ·rw [e1 k hS] at hk;exact absurd (Option.some.inj hk).symm hj
  ·by_cases hm:O k=some m
   ·rw [e2 k hS hm] at hk;cases hk
   ·rw [e3 k hS hm] at hk;exact hk
 ·rw [e3 k (hdis k j hj hk) (fun e=>by rw [hk] at e;exact hj (Option.some.inj e))];exact hk
 ·by_cases hS:S' k
  ·refine ⟨?_,hlt k hS⟩
   rcases hu.new k hS with h1 | h1
   ·exact (h.dom k m h1).1
   ·omega
  ·by_cases hm:O k=some m
   ·rw [e2 k hS hm] at hk;cases hk
   ·rw [e3 k hS hm] at hk
    exact ⟨(h.dom k j hk).1,Nat.lt_of_lt_of_le (h.dom k j hk).2 hu.size⟩
 ·by_cases hS:S' k
  ·rcases hu.new k hS with h1 | h1
   ·exact Or.inl (by rw [h1];simp)
   ·exact Or.inr h1
  ·by_cases hm:O k=some m
   ·exact absurd (e2 k hS hm) hk
   ·rw [e3 k hS hm] at hk;exact Or.inl hk
theorem ShAt.put (h:ShAt w B Ka Kb hp hm O) (hBs:B<=w.heap.size) {i:Nat} {L L':List Kep} (hi:Ka[i]?=some (some L)) {S':Nat->Prop} (hd:HdOf w' (hp i) S' L' false) (hu:Upd (fun k=>O k=some (2*i)) S' w w') :
 ∃ O',ShAt w' B (Ka.set i (some L')) Kb hp hm O'/\Shf O O' w w':=by
 obtain ⟨m,D,row,blk,hd0⟩:=hd
 obtain ⟨O',h1,h2,h3,h4,h5⟩:=h.shift hBs hu (fun k hk=>hd0.inS k hk)
 have hS:(fun k=>O' k=some (2*i))=S':=funext fun k=>propext (h1 k)
 have hil:i < Ka.length:=(List.getElem?_eq_some_iff.1 hi).1
 refine ⟨O',⟨fun j M hj=>?_,fun j M hj=>?_,h3⟩,h4⟩
 ·by_cases e:j=i
  ·subst e
   rw [List.getElem?_set_self hil] at hj
   obtain rfl:L'=M:=by simpa using hj
   rw [hS]
   exact ⟨m,D,row,blk,hd0⟩
  ·rw [List.getElem?_set_ne (Ne.symm e)] at hj
   have hne:2*j≠2*i:=by omega
   have hS2:(fun k=>O' k=some (2*j))=fun k=>O k=some (2*j):=funext fun k=>propext (h2 k _ hne)
   rw [hS2]
   exact (h.own j M hj).keep hu.size fun k hk=>h5 k _ hne hk
 ·obtain ⟨g1,g2,g3⟩:=h.model j M hj
  have hne:2*j+1≠2*i:=by omega
  have hb:=h5 (hm j) _ hne g2
  refine ⟨g1.same hu.size hb (fun hL b o n c e=>h5 b _ hne (g3 hL b o n c e)),(h2 _ _ hne).2 g2,fun hL b o n c e=>(h2 _ _ hne).2 (g3 hL b o n c ?_)⟩
  rw [<- e]
  exact (World.cell?_of_block (a:=⟨hm j,0,none⟩) hb).symm
end Go.Proofs.YtghpdhegfnhmkaaGreatDoor
namespace Go.Proofs.YtghpdhegfnhmkaaGreatDoor
open Go.RowKit
structure SvAt (W:World) (B:Nat) (Ka Kb:List (Option (List Kep))) (hp hm:Nat->Nat) (O:Nat->Option Nat) (Pa Pb:List (Option Nat)) (va vb:Value):Prop where
 sh:ShAt W B Ka Kb hp hm O
 ra:OwnR ptoE 35 W B va Pa
 rb:OwnR ptoE 66 W B vb Pb
 oa:∀ g,va.ownBlock=some g->O g=none
 ob:∀ g,vb.ownBlock=some g->O g=none
 ab:∀ g,va.ownBlock=some g->vb.ownBlock≠some g
 base:B<=W.heap.size
variable {W W':World} {B:Nat} {Ka Kb:List (Option (List Kep))} {hp hm:Nat->Nat} {O:Nat->Option Nat} {Pa Pb:List (Option Nat)} {va vb:Value}
theorem SvAt.below (h:SvAt W B Ka Kb hp hm O Pa Pb va vb) (hb:Below W.heap.size W W'):SvAt W' B Ka Kb hp hm O Pa Pb va vb :=
 ⟨h.sh.below hb,h.ra.kept hb,h.rb.kept hb,h.oa,h.ob,h.ab,Nat.le_trans h.base hb.size⟩
theorem SvAt.turn (h:SvAt W B Ka Kb hp hm O Pa Pb va vb) {Ka' Kb':List (Option (List Kep))} {hp' hm':Nat->Nat} {O':Nat->Option Nat} (hs:ShAt W' B Ka' Kb' hp' hm' O') (hU:Shf O O' W W'):SvAt W' B Ka' Kb' hp' hm' O' Pa Pb va vb :=
 ⟨hs,h.ra.sameE (fun k hk=>(hU.keepB (h.ra.block hk).2 (h.oa k hk)).1),h.rb.sameE (fun k hk=>(hU.keepB (h.rb.block hk).2 (h.ob k hk)).1),fun g hg=>(hU.keepB (h.ra.block hg).2 (h.oa g hg)).2,fun g hg=>(hU.keepB (h.rb.block hg).2 (h.ob g hg)).2,h.ab,Nat.le_trans h.base hU.size⟩
theorem ShAt.free (h:ShAt W B Ka Kb hp hm O) {b:Nat} (hb:W.heap.size<=b):O b=none:=by
 cases e:O b with
 | none=>rfl
 | some j=>have:=(h.dom b j e).2;omega
theorem getElem?_snoc_cases {α:Type} {l:List α} {x y:α} {i:Nat} (h:(l ++ [x])[i]?=some y):l[i]?=some y/\i < l.length∨i=l.length/\y=x:=by
 by_cases hi:i < l.length
 ·rw [List.getElem?_append_left hi] at h;exact Or.inl ⟨h,hi⟩
 ·rw [List.getElem?_append_right (by omega)] at h
  by_cases e:i - l.length=0
  ·rw [e] at h
   exact Or.inr ⟨by omega,by simpa using h.symm⟩
  ·rw [List.getElem?_eq_none (by simp;omega)] at h;cases h
def updN (f:Nat->Nat) (n v:Nat):Nat->Nat:=fun i=>if i=n then v else f i
theorem ptL_snoc (hp:Nat->Nat) (Ks:List (Option (List Kep))) (x:Option (List Kep)) (v:Nat):ptL (updN hp Ks.length v) (Ks ++ [x])=ptL hp Ks ++ [x.map fun _=>v]:=by
 unfold ptL
 rw [List.length_append,List.length_singleton,List.range_succ,List.map_append]
 congr 1
 ·refine List.map_congr_left fun i hi=>?_
  have hi':i < Ks.length:=List.mem_range.1 hi
  rw [List.getD_eq_getElem?_getD,List.getD_eq_getElem?_getD,List.getElem?_append_left hi']
  unfold updN
  rw [if_neg (by omega)]
 ·simp [updN]
theorem ptainfo:(Tryz.prog.info? 35).map (fun i=>(i.zero,i.size,i.bytes))=some (some (.pointer none),ptoE.k,8):=by kernel_rfl
theorem pto_one {W:World} {b:Nat} {x:Option Nat} (hb:b < W.heap.size) (hc:W.cell? ⟨b,0,none⟩=some (.pointer (x.map fun b=>⟨b,0,none⟩))):Rec ptoE W (some ⟨b,0,none⟩) [x] :=
 Or.inr ⟨b,0,rfl,hb,fun i y hi j u hu=>by
  obtain ⟨rfl,rfl⟩:i=0/\y=x:=by
   cases i with
   | zero=>exact ⟨rfl,by simpa using hi.symm⟩
   | succ i=>simp at hi
  cases j with
  | zero=>simp only [ptoE,List.getElem?_cons_zero,Option.some.injEq] at hu;rw [<- hu];exact hc
  | succ j=>simp [ptoE] at hu⟩
theorem SvAt.appA (h:SvAt W B Ka Kb hp hm O Pa Pb va vb) (hl:Pa.length<=8796093022206) {b:Nat} {x:Option Nat} (hb:b < W.heap.size) (hc:W.cell? ⟨b,0,none⟩=some (.pointer (x.map fun b=>⟨b,0,none⟩))) :
 ∃ v' w',(∀ ty,(Builtin.append_ #[34,34] ty #[va,.slice (some ⟨b,0,none⟩) 1 1]).run Tryz.prog W=.ok v' w')/\(∃ q n c,v'=.slice q n c)/\SvAt w' B Ka Kb hp hm O (Pa ++ [x]) Pb v' vb/\Below B W w':=by
 obtain ⟨v',w',h1,h2,h3,h4⟩:=append_recs (E:=ptoE) (w:=W) 34 35 _ 8 Tryz.underlying34 ptainfo rfl B va Pa h.ra (some ⟨b,0,none⟩) [x] 1 (pto_one hb hc) (fun e=>by cases e) (by show Pa.length+1<=_;unfold maxLen;omega) (by show (Pa.length+1)*8<=_;omega) h.base
 obtain ⟨q,c,hv,_⟩:=h2.form
 have hk:∀ k,O k≠none->w'.heap[k]?=W.heap[k]?:=fun k hk=>by
  cases e:O k with
  | none=>exact absurd e hk
  | some j=>exact h3.block k (h.sh.dom k j e).2 (fun e2=>by rw [h.oa k e2.symm] at e;cases e)
 refine ⟨v',w',h1,⟨q,_,c,hv⟩,⟨h.sh.keep h3.size hk,h2,h.rb.sameE (fun k hk=>h3.block k (h.rb.block hk).2 (fun e=>h.ab k e.symm hk)),fun g hg=>?_,h.ob,fun g hg=>?_,Nat.le_trans h.base h3.size⟩,⟨h3.os,h3.tape,h3.output,h3.size,fun k hk=>h3.block k (Nat.lt_of_lt_of_le hk h.base) (fun e=>by have:=(h.ra.block e.symm).1;omega)⟩⟩
 ·rcases h4 with h4 | ⟨k,h4,h5⟩
  ·rw [h4] at hg;exact h.oa g hg
  ·rw [h4] at hg;obtain rfl:=Option.some.inj hg;exact h.sh.free h5
 ·rcases h4 with h4 | ⟨k,h4,h5⟩
  ·rw [h4] at hg;exact h.ab g hg
  ·rw [h4] at hg;obtain rfl:=Option.some.inj hg
   exact fun e=>by have:=(h.rb.block e).2;omega
end Go.Proofs.YtghpdhegfnhmkaaGreatDoor
