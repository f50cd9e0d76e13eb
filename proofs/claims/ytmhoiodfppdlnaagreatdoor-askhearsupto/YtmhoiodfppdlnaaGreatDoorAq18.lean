import Derived.Test.YtmhoiodfppdlnaaGreatDoorAq17
import Derived.Test.YtmhoiodfppdlnaaGreatDoorAq3
import Derived.Test.YtmhoiodfppdlnaaGreatDoorAq4
import Derived.Test.YtmhoiodfppdlnaaGreatDoorAq5
import Derived.ProofKit
import Derived.OpenShut
import Derived.ChangeOld
import Derived.Deep.SlicePairs
import Derived.Lib.SmallJoins
import Derived.Test.YtmhoiodfppdlnaaGreatDoorAq10
import Derived.Test.YtmhoiodfppdlnaaGreatDoorAq15
import Derived.Deep.RegionLaw
import Derived.BigRegion
import Derived.Deep.QuietTactic
import Derived.Deep.RegionHeld3
import Derived.StillTailTactics
import Derived.BigQuiet
set_option maxRecDepth 10000
set_option maxHeartbeats 16000000
namespace Go.Proofs.YtmhoiodfppdlnaaGreatDoor
open Go.RowKit
def bestE (c:Cfg)(LL:List (List Ver)):Int×Int:=if 0 < (cfgF c).1 then cfgF c else if c.n < (LL.length:Int) then (3,-1) else (0,-1)
def bestT (c:Cfg)(LL:List (List Ver)):(Int×Int)×ByteArray×Bool:=if 0 < (bestE c LL).1 then ((0,0),⟨#[]⟩,false) else bestF c.n.toNat c.k.toNat LL.flatten LL.flatten
theorem bestE_bad {c:Cfg}{LL:List (List Ver)}(h:0 < (cfgF c).1):bestE c LL=cfgF c/\bestT c LL=((0,0),⟨#[]⟩,false):=by
 have e:bestE c LL=cfgF c:=if_pos h
 exact⟨e,by unfold bestT;rw [e,if_pos h]⟩
theorem bestE_many {c:Cfg}{LL:List (List Ver)}(h:¬ 0 < (cfgF c).1)(h2:c.n < (LL.length:Int)):bestE c LL=(3,-1)/\bestT c LL=((0,0),⟨#[]⟩,false):=by
 have e:bestE c LL=(3,-1):=by unfold bestE;rw [if_neg h,if_pos h2]
 exact⟨e,by unfold bestT;rw [e];rfl⟩
theorem bestE_fine {c:Cfg}{LL:List (List Ver)}(h:¬ 0 < (cfgF c).1)(h2:¬ c.n < (LL.length:Int)):bestE c LL=(0,-1)/\bestT c LL=bestF c.n.toNat c.k.toNat LL.flatten LL.flatten:=by
 have e:bestE c LL=(0,-1):=by unfold bestE;rw [if_neg h,if_neg h2]
 exact⟨e,by unfold bestT;rw [e];rfl⟩
end Go.Proofs.YtmhoiodfppdlnaaGreatDoor
namespace Go.Proofs.YtmhoiodfppdlnaaGreatDoor
open Go.ChangeShapes Go.WideShapes Go.ChangeAt Go.RowKit
end Go.Proofs.YtmhoiodfppdlnaaGreatDoor
namespace Go.Proofs.YtmhoiodfppdlnaaGreatDoor
open Go.RowKit
theorem rec_kept {α:Type}{E:Enc α}{w w':World}{q:Option Addr}{l:List α}{row:Option Nat}(h:Rec E w q l)(hg:w.grownBy w' row)(hne:∀ b o,q=some ⟨b,o,none⟩->some b≠row):Rec E w' q l:=by
 rcases h with h | ⟨b,o,hp,hlt,hc⟩
 ·exact Or.inl h
 ·exact Or.inr ⟨b,o,hp,Nat.lt_of_lt_of_le hlt hg.size,fun i x hx j u hu=>(World.cell?_of_block (a:=⟨b,o+i*E.k+j,none⟩) (hg.block b hlt (hne _ _ hp))).trans (hc i x hx j u hu)⟩
def OwnVsV (B:Nat)(w:World)(e:TypeId)(v:Value)(vs:List Value)(M:List (List Ver)):Prop :=
 OwnV w B e v vs/\vs.length=M.length/\∀ i,i < M.length->∃ q c,vs[i]?=some (.slice q (M.getD i []).length c)/\Rec verE w q (M.getD i [])/\(M.getD i []).length<=c/\(q=none->M.getD i []=[]/\c=0)/\∀ b o,q=some ⟨b,o,none⟩->B<=b/\b < w.heap.size/\v.ownBlock≠some b
theorem OwnVsV.snoc {B:Nat}{w w1 w3:World}{T E:TypeId}{v v' r:Value}{vs:List Value}{M:List (List Ver)}{row:List Ver}{o:Obj}(h:OwnVsV B w T v vs M)(hB:B<=w.heap.size)(hr:OwnR verE E w1 w.heap.size r row)(hb:Below w.heap.size w w1)
 (hv:OwnV w3 B T v' (vs ++ [r]))
 (hg:(w1.alloc o).grownBy w3 v.ownBlock) (hw:v'.ownBlock=v.ownBlock∨v'.ownBlock=some (w1.alloc o).heap.size):OwnVsV B w3 T v' (vs ++ [r]) (M ++ [row]):=by
 obtain⟨hvs,hlen,hall⟩:=h
 have hz:=hb.size
 have hsz:(w1.alloc o).heap.size=w1.heap.size+1:=by simp
 have hvb:∀ k,v.ownBlock=some k->k < w.heap.size:=fun k hk=>(hvs.block hk).2
 have hg1:w1.grownBy w3 v.ownBlock:=⟨hg.os,hg.tape,hg.output,by have:=hg.size;omega,fun k hk hne=>(hg.block k (by omega) hne).trans (Below.heap_alloc w1 o k hk)⟩
 refine⟨hv,by simp [hlen],fun i hi=>?_⟩
 rw [List.length_append,List.length_singleton] at hi
 by_cases hlt:i < M.length
 ·obtain⟨q,c,h1,h2,h3,h4,h5⟩:=hall i hlt
  have e:(M ++ [row]).getD i []=M.getD i []:=by rw [List.getD_eq_getElem?_getD,List.getD_eq_getElem?_getD,List.getElem?_append_left hlt]
  rw [e]
  refine⟨q,c,by rw [List.getElem?_append_left (by omega)];exact h1,rec_kept (h2.below hb) hg1 (fun b o hq=>fun e=>(h5 b o hq).2.2 e.symm),h3,h4,fun b o hq=>?_⟩
  have:=h5 b o hq
  refine⟨this.1,by have:=hg1.size;omega,?_⟩
  rcases hw with hw | hw
  ·rw [hw];exact this.2.2
  ·rw [hw,hsz];intro e;have:=Option.some.inj e;omega
 ·obtain rfl:i=M.length:=by omega
  have e:(M ++ [row]).getD M.length []=row:=by rw [List.getD_eq_getElem?_getD,List.getElem?_append_right (Nat.le_refl _),Nat.sub_self];rfl
  rw [e]
  obtain⟨q,c,h1,h2,h3,h4,h5⟩:=hr.form
  refine⟨q,c,by rw [List.getElem?_append_right (by omega),hlen,Nat.sub_self,h1];rfl,rec_kept h2 hg1 (fun b o hq=>?_),h3,h4,fun b o hq=>?_⟩
  ·have:=h5 b o hq
   intro e
   have:=hvb _ e.symm
   omega
  ·have:=h5 b o hq
   refine⟨by omega,by have:=hg1.size;omega,?_⟩
   rcases hw with hw | hw
   ·rw [hw];intro e;have:=hvb _ e;omega
   ·rw [hw,hsz];intro e;have:=Option.some.inj e;omega
theorem OwnVsV.vss {B:Nat}{w:World}{T:TypeId}{v:Value}{vs:List Value}{M:List (List Ver)}(h:OwnVsV B w T v vs M):∃ p c,v=.slice p M.length c/\Vss w p M:=by
 obtain⟨hvs,hlen,hall⟩:=h
 rcases hvs.cells with ⟨rfl,rfl⟩ | ⟨g,cap,rfl,hB,hg,hcell⟩
 ·have:M=[]:=List.length_eq_zero_iff.1 (by simpa using hlen.symm)
  subst this
  exact⟨none,0,rfl,Or.inl rfl⟩
 ·refine⟨some ⟨g,0,none⟩,cap,by rw [hlen],Or.inr ⟨g,0,rfl,hg,fun i hi=>?_⟩⟩
  obtain⟨q,c,h1,h2,h3,h4,_⟩:=hall i hi
  refine⟨q,c,?_,h2,h3,h4⟩
  rw [Nat.zero_add]
  exact hcell i _ h1
theorem versinfo:(Tryz.prog.info? 55).map (fun i=>(i.zero,i.size,i.bytes))=some (some (.slice none 0 0),1,24):=by kernel_rfl
def MsOwn (T:TypeId)(B:Nat)(w:World)(v:Value)(ml:List (Msg×Lv)):Prop:=OwnR mE T w B v ml/\∀ x ∈ ml,HasL w x/\∀ b o,x.2.1=some ⟨b,o,none⟩->(B<=b/\b < w.heap.size)/\v.ownBlock≠some b
theorem hasL_kept {w w':World}{x:Msg×Lv}{row:Option Nat}(h:HasL w x)(hg:w.grownBy w' row)(hne:∀ b o,x.2.1=some ⟨b,o,none⟩->some b≠row):HasL w' x:=⟨h.len,rec_kept h.recs hg hne,h.room,h.empty⟩
theorem MsOwn.snoc {T:TypeId}{B:Nat}{w1 w5 w6:World}{v v6:Value}{ml:List (Msg×Lv)}{x:Msg×Lv}(h:MsOwn T B w1 v ml)(hB:B<=w1.heap.size)(hb:Below w1.heap.size w1 w5)(hx:HasL w5 x)(hxb:∀ b o,x.2.1=some ⟨b,o,none⟩->w1.heap.size<=b/\b < w5.heap.size)
 (hO:OwnR mE T w6 B v6 (ml ++ [x])) (hg:w5.grownBy w6 v.ownBlock) (hl:v6.ownBlock=v.ownBlock∨v6.ownBlock=some w5.heap.size):MsOwn T B w6 v6 (ml ++ [x]):=by
 have hz:=hb.size
 have hz6:=hg.size
 refine⟨hO,fun y hy=>?_⟩
 rcases List.mem_append.1 hy with hy | hy
 ·obtain⟨h1,h2⟩:=h.2 y hy
  refine⟨hasL_kept (h1.below hb) hg (fun b o hq e=>(h2 b o hq).2 e.symm),fun b o hq=>⟨⟨(h2 b o hq).1.1,by have:=(h2 b o hq).1.2;omega⟩,?_⟩⟩
  have:=(h2 b o hq).1.2
  rcases hl with e | e
  ·rw [e];exact(h2 b o hq).2
  ·rw [e];intro e';have:=Option.some.inj e';omega
 ·rw [List.mem_singleton.1 hy]
  refine⟨hasL_kept hx hg (fun b o hq e=>?_),fun b o hq=>⟨⟨by have:=(hxb b o hq).1;omega,by have:=(hxb b o hq).2;omega⟩,?_⟩⟩
  ·have h1:=hxb b o hq
   have h2:=(h.1.block e.symm).2
   omega
  ·have h1:=hxb b o hq
   rcases hl with e | e
   ·rw [e]
    intro e'
    have:=(h.1.block e').2
    omega
   ·rw [e];intro e';have:=Option.some.inj e';omega
theorem MsOwn.nil (T:TypeId)(B:Nat)(w:World):MsOwn T B w (.slice none 0 0) []:=⟨OwnR.nil _ _ _,fun x hx=>by cases hx⟩
theorem MsOwn.kept {T:TypeId}{B:Nat}{w w':World}{v:Value}{ml:List (Msg×Lv)}(h:MsOwn T B w v ml)(hb:Below w.heap.size w w'):MsOwn T B w' v ml:=⟨h.1.kept hb,fun x hx=>⟨(h.2 x hx).1.below hb,fun b o hq=>⟨⟨((h.2 x hx).2 b o hq).1.1,Nat.lt_of_lt_of_le ((h.2 x hx).2 b o hq).1.2 hb.size⟩,((h.2 x hx).2 b o hq).2⟩⟩⟩
theorem MsOwn.at_ {T:TypeId}{B:Nat}{w:World}{v:Value}{ml:List (Msg×Lv)}(h:MsOwn T B w v ml):∃ p c,v=.slice p ml.length c/\MsgsN B w p (ml.map Prod.fst):=by
 obtain⟨p,c,h1,h2,_,_,h5⟩:=h.1.form
 exact⟨p,c,h1,ml,rfl,h2,fun x hx=>⟨(h.2 x hx).1,fun b o e=>((h.2 x hx).2 b o e).1.1⟩,fun b o e=>(h5 b o e).1⟩
theorem encL_at {n k:Nat}{s:ByteArray}{i:Nat}(h:i < n):shAt (encL n k s) i=((i:Int),encT k s i):=by
 unfold shAt encL
 rw [List.getD_eq_getElem?_getD,List.getElem?_map,List.getElem?_range h]
 rfl
theorem minfoA:(Tryz.prog.info? 59).map (fun i=>(i.zero,i.size,i.bytes))=some (some (.agg #[.string ⟨#[]⟩,.string ⟨#[]⟩,.string ⟨#[]⟩,.string ⟨#[]⟩,.int .i64 0,.int .i64 0,.bool false,.slice none 0 0]),8,112):=by kernel_rfl
def akCells (a:MAsk)(mv nv fv lv:Value):Array Value:=#[.string a.name,.string a.key,.int .i64 a.who,.int .i64 a.op,.int .i64 a.config,.int .i64 a.c.n,.int .i64 a.c.k,mv,.int .i64 a.next.n,.int .i64 a.next.k,nv,.bool a.put,.bool a.moves,.string a.st.word,fv,lv,.int .i64 a.tag.1,.int .i64 a.tag.2,.string a.text,.bool a.found]
structure NamesAt (w:World) (B:Nat) (v:Value) (L:List ByteArray):Prop where
 at_:∃ p c,v=.slice p L.length c/\Strs w p L/\L.length<=c/\(p=none->L=[]/\c=0)/\∀ b o,p=some ⟨b,o,none⟩->b < B
theorem NamesAt.belowAt {w w':World}{B:Nat}{v:Value}{L:List ByteArray}(h:NamesAt w B v L)(hb:Below B w w'):NamesAt w' B v L:=by
 obtain⟨p,c,h1,h2,h3,h4,h5⟩:=h.at_
 exact⟨p,c,h1,h2.belowAt hb h5,h3,h4,h5⟩
structure RAk (w:World) (B:Nat) (S:Nat->Prop) (ab:Nat) (a:MAsk) (mv nv fv lv:Value) (vs:List Value):Prop where
 blk:w.heap[ab]?=some (.cells (akCells a mv nv fv lv) 48 (0,0))
 mem:NamesAt w B mv a.c.L
 nxt:NamesAt w B nv a.next.L
 from_:OwnT w B fv a.from_
 told:OwnVsV B w 55 lv vs a.L
 self:S ab
 sF:∀ k,fv.ownBlock=some k->S k/\k≠ab
 sL:∀ k,lv.ownBlock=some k->S k/\k≠ab/\fv.ownBlock≠some k
 sV:∀ v ∈ vs,∀ k,v.ownBlock=some k->S k/\k≠ab/\fv.ownBlock≠some k
 inB:∀ k,S k->B<=k/\k < w.heap.size
theorem ownVs_same {B:Nat}{w w':World}{e:TypeId}{v:Value}{vs:List Value}{M:List (List Ver)}(h:OwnVsV B w e v vs M)(hs:w.heap.size<=w'.heap.size)(hv:∀ k,v.ownBlock=some k->w'.heap[k]?=w.heap[k]?)(hi:∀ x ∈ vs,∀ k,x.ownBlock=some k->w'.heap[k]?=w.heap[k]?):OwnVsV B w' e v vs M:=by
 obtain⟨h1,h2,h3⟩:=h
 refine⟨?_,h2,fun i hi'=>?_⟩
 ·obtain⟨e1,e2⟩:=h1
  refine⟨e1,?_⟩
  rcases e2 with e2 | ⟨g,cap,cur,hvv,hbg,hg,hrest⟩
  ·exact Or.inl e2
  ·exact Or.inr ⟨g,cap,cur,hvv,hbg,(hv g (by rw [hvv];rfl)).trans hg,hrest⟩
 ·obtain⟨q,c,g1,g2,g3,g4,g5⟩:=h3 i hi'
  refine⟨q,c,g1,?_,g3,g4,fun b o hq=>⟨(g5 b o hq).1,Nat.lt_of_lt_of_le (g5 b o hq).2.1 hs,(g5 b o hq).2.2⟩⟩
  rcases g2 with g2 | ⟨b,o,hp,hlt,hc⟩
  ·exact Or.inl g2
  ·have hbk:w'.heap[b]?=w.heap[b]?:=hi _ (List.mem_of_getElem? g1) b (by rw [hp];rfl)
   exact Or.inr ⟨b,o,hp,Nat.lt_of_lt_of_le hlt hs,fun j x hx jj u hu=>(World.cell?_of_block (a:=⟨b,o+j*verE.k+jj,none⟩) hbk).trans (hc j x hx jj u hu)⟩
theorem ownT_same {w w':World}{B:Nat}{v:Value}{l:List ByteArray}(h:OwnT w B v l)(hv:∀ k,v.ownBlock=some k->w'.heap[k]?=w.heap[k]?):OwnT w' B v l:=by
 obtain⟨e1,e2⟩:=h
 refine⟨e1,?_⟩
 rcases e2 with e2 | ⟨g,cap,cur,hvv,hbg,hg,hrest⟩
 ·exact Or.inl e2
 ·exact Or.inr ⟨g,cap,cur,hvv,hbg,(hv g (by rw [hvv];rfl)).trans hg,hrest⟩
variable {w w':World} {B:Nat} {S:Nat->Prop} {ab:Nat} {a:MAsk} {mv nv fv lv:Value} {vs:List Value}
theorem RAk.keep (h:RAk w B S ab a mv nv fv lv vs)(hb:Below B w w')(hk:∀ k,S k->w'.heap[k]?=w.heap[k]?):RAk w' B S ab a mv nv fv lv vs where
 blk:=(hk ab h.self).trans h.blk
 mem:=h.mem.belowAt hb
 nxt:=h.nxt.belowAt hb
 from_:=ownT_same h.from_ fun k hk'=>hk k (h.sF k hk').1
 told:=ownVs_same h.told hb.size (fun k hk'=>hk k (h.sL k hk').1) (fun x hx k hk'=>hk k (h.sV x hx k hk').1)
 self:=h.self
 sF:=h.sF
 sL:=h.sL
 sV:=h.sV
 inB:=fun k hk'=>⟨(h.inB k hk').1,Nat.lt_of_lt_of_le (h.inB k hk').2 hb.size⟩
theorem RAk.leB (h:RAk w B S ab a mv nv fv lv vs):B<=w.heap.size:=Nat.le_of_lt (Nat.lt_of_le_of_lt (h.inB ab h.self).1 (h.inB ab h.self).2)
theorem RAk.below (h:RAk w B S ab a mv nv fv lv vs)(hb:Below w.heap.size w w'):RAk w' B S ab a mv nv fv lv vs:=h.keep (hb.mono h.leB) fun k hk=>hb.block k (h.inB k hk).2
theorem RAk.cell (h:RAk w B S ab a mv nv fv lv vs)(i:Nat):w.cell? ⟨ab,i,none⟩=(akCells a mv nv fv lv)[i]?:=by simp [World.cell?,h.blk]
theorem RAk.free (h:RAk w B S ab a mv nv fv lv vs)(i:Nat):w.frozen? ⟨ab,i,none⟩=false:=by simp [World.frozen?,h.blk]
theorem blk_set {w:World}{b:Nat}{cs:Array Value}{t:TypeId}(h:w.heap[b]?=some (.cells cs t (0,0)))(i:Nat)(v:Value):(w.setCell ⟨b,i,none⟩ v).heap[b]?=some (.cells (cs.setIfInBounds i v) t (0,0)):=by
 simp [World.setCell,Array.getElem?_modify,h]
theorem RAk.set (h:RAk w B S ab a mv nv fv lv vs)(i:Nat)(v:Value){a':MAsk}{fv' lv':Value}(hc:(akCells a mv nv fv lv).setIfInBounds i v=akCells a' mv nv fv' lv')(e1:a'.c.L=a.c.L)(e2:a'.next.L=a.next.L)(e3:a'.from_=a.from_)(e4:a'.L=a.L)(e5:fv'=fv)(e6:lv'=lv):RAk (w.setCell ⟨ab,i,none⟩ v) B S ab a' mv nv fv' lv' vs:=by
 subst e5 e6
 have hbw:Below B w (w.setCell ⟨ab,i,none⟩ v):=(Below.refl _ _).setCell (h.inB ab h.self).1 _
 have hoth:∀ k,k≠ab->(w.setCell ⟨ab,i,none⟩ v).heap[k]?=w.heap[k]?:=fun k hk=>Below.heap_setCell w _ v k hk
 refine⟨(blk_set h.blk i v).trans (by rw [hc]),by rw [e1];exact h.mem.belowAt hbw,by rw [e2];exact h.nxt.belowAt hbw,by rw [e3];exact ownT_same h.from_ fun k hk=>hoth k (h.sF k hk).2,by rw [e4];exact ownVs_same h.told hbw.size (fun k hk=>hoth k (h.sL k hk).2.1) (fun x hx k hk=>hoth k (h.sV x hx k hk).2.1),h.self,h.sF,h.sL,h.sV,fun k hk=>⟨(h.inB k hk).1,Nat.lt_of_lt_of_le (h.inB k hk).2 hbw.size⟩⟩
end Go.Proofs.YtmhoiodfppdlnaaGreatDoor
namespace Go.Proofs.YtmhoiodfppdlnaaGreatDoor
open Go.RowKit
variable {w w':World} {B:Nat} {S:Nat->Prop} {ab:Nat} {a:MAsk} {mv nv fv lv:Value} {vs:List Value}
structure RWr (ab:Nat) (cs:Array Value) (w w':World):Prop where
 os:w'.os=w.os
 tape:w'.tape=w.tape
 output:w'.output=w.output
 size:w'.heap.size=w.heap.size
 blk:w'.heap[ab]?=some (.cells cs 48 (0,0))
 oth:∀ k,k≠ab->w'.heap[k]?=w.heap[k]?
theorem RWr.refl {cs:Array Value}(hb:w.heap[ab]?=some (.cells cs 48 (0,0))):RWr ab cs w w:=⟨rfl,rfl,rfl,rfl,hb,fun _ _=>rfl⟩
theorem RWr.set {cs:Array Value}(hw:RWr ab cs w w')(i:Nat)(v:Value):RWr ab (cs.setIfInBounds i v) w (w'.setCell ⟨ab,i,none⟩ v):=⟨hw.os,hw.tape,hw.output,by simpa [World.setCell] using hw.size,blk_set hw.blk i v,fun k hne=>(Below.heap_setCell w' _ v k hne).trans (hw.oth k hne)⟩
theorem RWr.upd {cs:Array Value}(hw:RWr ab cs w w')(hs:S ab):Upd S S w w':=⟨hw.os,hw.tape,hw.output,Nat.le_of_eq hw.size.symm,fun k _ hk=>hw.oth k (fun e=>hk (e ▸ hs)),fun _ h=>Or.inl h⟩
theorem RAk.written (h:RAk w B S ab a mv nv fv lv vs){a':MAsk}(hw:RWr ab (akCells a' mv nv fv lv) w w')(e1:a'.c.L=a.c.L)(e2:a'.next.L=a.next.L)(e3:a'.from_=a.from_)(e4:a'.L=a.L):RAk w' B S ab a' mv nv fv lv vs:=by
 have hb:Below B w w':=⟨hw.os,hw.tape,hw.output,Nat.le_of_eq hw.size.symm,fun k hk=>hw.oth k (fun e=>by have:=(h.inB ab h.self).1;omega)⟩
 exact⟨hw.blk,by rw [e1];exact h.mem.belowAt hb,by rw [e2];exact h.nxt.belowAt hb,by rw [e3];exact ownT_same h.from_ fun k hk=>hw.oth k (h.sF k hk).2,by rw [e4];exact ownVs_same h.told (Nat.le_of_eq hw.size.symm) (fun k hk=>hw.oth k (h.sL k hk).2.1) (fun x hx k hk=>hw.oth k (h.sV x hx k hk).2.1),h.self,h.sF,h.sL,h.sV,fun k hk=>⟨(h.inB k hk).1,by rw [hw.size];exact(h.inB k hk).2⟩⟩
theorem RAk.fresh (h:RAk w B S ab a mv nv fv lv vs){a':MAsk}(hw:RWr ab (akCells a' mv nv (.slice none 0 0) (.slice none 0 0)) w w')(e1:a'.c.L=a.c.L)(e2:a'.next.L=a.next.L)(e3:a'.from_=[])(e4:a'.L=[]):RAk w' B S ab a' mv nv (.slice none 0 0) (.slice none 0 0) []:=by
 have hb:Below B w w':=⟨hw.os,hw.tape,hw.output,Nat.le_of_eq hw.size.symm,fun k hk=>hw.oth k (fun e=>by have:=(h.inB ab h.self).1;omega)⟩
 exact⟨hw.blk,by rw [e1];exact h.mem.belowAt hb,by rw [e2];exact h.nxt.belowAt hb,by rw [e3];exact OwnT.nil _ _,by rw [e4];exact⟨OwnV.nil _ _ _,rfl,fun i hi=>absurd hi (Nat.not_lt_zero _)⟩,h.self,(fun k hk=>by cases hk),(fun k hk=>by cases hk),(fun v hv=>by cases hv),fun k hk=>⟨(h.inB k hk).1,by rw [hw.size];exact(h.inB k hk).2⟩⟩
theorem rblk_cell {cs:Array Value}{T:TypeId}(hb:w.heap[ab]?=some (.cells cs T (0,0)))(i:Nat):w.cell? ⟨ab,i,none⟩=cs[i]?/\w.frozen? ⟨ab,i,none⟩=false:=⟨by simp [World.cell?,hb],by simp [World.frozen?,hb]⟩
theorem two_set {w:World}{b:Nat}{v0 v1 u0 u1:Value}(k0:w.cell? ⟨b,0,none⟩=some u0)(k1:w.cell? ⟨b,1,none⟩=some u1):((w.setCell ⟨b,0,none⟩ v0).setCell ⟨b,1,none⟩ v1).cell? ⟨b,0,none⟩=some v0/\((w.setCell ⟨b,0,none⟩ v0).setCell ⟨b,1,none⟩ v1).cell? ⟨b,1,none⟩=some v1:=by
 refine⟨?_,?_⟩ <;> simp [go_sem,k0,k1]
theorem keeps_cells {a':MAsk}(e0:a'.name=a.name)(e1:a'.key=a.key)(e2:a'.who=a.who)(e3:a'.op=a.op)(e4:a'.config=a.config)(e5:a'.c=a.c)(e6:a'.next=a.next)(e7:a'.put=a.put)(e8:a'.moves=a.moves) :
 ((((((((akCells a mv nv fv lv).setIfInBounds 16 (.int .i64 a'.tag.1)).setIfInBounds 17 (.int .i64 a'.tag.2)).setIfInBounds 18 (.string a'.text)).setIfInBounds 19 (.bool a'.found)).setIfInBounds 13 (.string a'.st.word)).setIfInBounds 14 (.slice none 0 0)).setIfInBounds 15 (.slice none 0 0))=akCells a' mv nv (.slice none 0 0) (.slice none 0 0):=by
 unfold akCells
 rw [e0,e1,e2,e3,e4,e5,e6,e7,e8]
 simp only [List.setIfInBounds_toArray,List.set_cons_zero,List.set_cons_succ]
theorem keepsP_cells {a':MAsk}(e0:a'.name=a.name)(e1:a'.key=a.key)(e2:a'.who=a.who)(e3:a'.op=a.op)(e4:a'.config=a.config)(e5:a'.c=a.c)(e6:a'.next=a.next)(e7:a'.put=a.put)(e8:a'.moves=a.moves)(e9:a'.text=a.text) :
 (((((((akCells a mv nv fv lv).setIfInBounds 16 (.int .i64 a'.tag.1)).setIfInBounds 17 (.int .i64 a'.tag.2)).setIfInBounds 19 (.bool a'.found)).setIfInBounds 13 (.string a'.st.word)).setIfInBounds 14 (.slice none 0 0)).setIfInBounds 15 (.slice none 0 0))=akCells a' mv nv (.slice none 0 0) (.slice none 0 0):=by
 unfold akCells
 rw [e0,e1,e2,e3,e4,e5,e6,e7,e8,e9]
 simp only [List.setIfInBounds_toArray,List.set_cons_zero,List.set_cons_succ]
theorem dones_cells {a':MAsk}(e0:a'.name=a.name)(e1:a'.key=a.key)(e2:a'.who=a.who)(e3:a'.op=a.op)(e4:a'.config=a.config)(e5:a'.c=a.c)(e6:a'.next=a.next)(e7:a'.put=a.put)(e8:a'.moves=a.moves) :
 (((((akCells a mv nv fv lv).setIfInBounds 16 (.int .i64 a'.tag.1)).setIfInBounds 17 (.int .i64 a'.tag.2)).setIfInBounds 18 (.string a'.text)).setIfInBounds 19 (.bool a'.found)).setIfInBounds 13 (.string a'.st.word)=akCells a' mv nv fv lv:=by
 unfold akCells
 rw [e0,e1,e2,e3,e4,e5,e6,e7,e8]
 simp only [List.setIfInBounds_toArray,List.set_cons_zero,List.set_cons_succ]
end Go.Proofs.YtmhoiodfppdlnaaGreatDoor
namespace Go.Proofs.YtmhoiodfppdlnaaGreatDoor
open Go.RowKit
variable {w w1 w3:World} {B:Nat} {S:Nat->Prop} {ab:Nat} {a:MAsk} {mv nv fv lv:Value} {vs:List Value}
theorem RAk.from(h:RAk w B S ab a mv nv fv lv vs){v1:Value}{x:ByteArray}(hO:OwnT w1 B v1 (a.from_ ++ [x]))(hg:w.grownBy w1 fv.ownBlock)(hl:v1.ownBlock=fv.ownBlock∨v1.ownBlock=some w.heap.size) :
 RAk (w1.setCell ⟨ab,14,none⟩ v1) B (fun k=>S k∨v1.ownBlock=some k) ab { a with from_:=a.from_ ++ [x] } mv nv v1 lv vs/\Upd S (fun k=>S k∨v1.ownBlock=some k) w (w1.setCell ⟨ab,14,none⟩ v1):=by
 have hab:=h.inB ab h.self
 have hz:=hg.size
 have hfb:∀ k,fv.ownBlock=some k->B<=k:=fun k hk=>(h.inB k (h.sF k hk).1).1
 have hw1:Below B w w1:=(Below.refl _ _).grown hg h.leB hfb
 have hw2:Below B w (w1.setCell ⟨ab,14,none⟩ v1):=hw1.setCell hab.1 _
 have hna:some ab≠fv.ownBlock:=fun e=>(h.sF ab e.symm).2 rfl
 have hblk:w1.heap[ab]?=w.heap[ab]?:=hg.block ab hab.2 hna
 have hv1:∀ k,v1.ownBlock=some k->k≠ab:=fun k hk=>by
  rcases hl with e | e
  ·exact(h.sF k (by rw [<- e];exact hk)).2
  ·rw [e] at hk;have:=Option.some.inj hk;omega
 have hsame:∀ k,k < w.heap.size->k≠ab->fv.ownBlock≠some k->(w1.setCell ⟨ab,14,none⟩ v1).heap[k]?=w.heap[k]?:=fun k hk h1 h2=>(Below.heap_setCell w1 _ _ k h1).trans (hg.block k hk (fun e=>h2 e.symm))
 refine⟨⟨(blk_set (hblk.trans h.blk) 14 v1).trans rfl,h.mem.belowAt hw2,h.nxt.belowAt hw2,ownT_same hO fun k hk=>Below.heap_setCell w1 _ _ k (hv1 k hk),?_,Or.inl h.self,fun k hk=>⟨Or.inr hk,hv1 k hk⟩,fun k hk=>?_,fun v hv k hk=>?_,fun k hk=>?_⟩,⟨hw2.os,hw2.tape,hw2.output,hw2.size,fun k hk hs=>?_,fun k hk=>?_⟩⟩
 ·exact ownVs_same h.told hw2.size (fun k hk=>hsame k (h.inB k (h.sL k hk).1).2 (h.sL k hk).2.1 (h.sL k hk).2.2) (fun v hv k hk=>hsame k (h.inB k (h.sV v hv k hk).1).2 (h.sV v hv k hk).2.1 (h.sV v hv k hk).2.2)
 ·obtain⟨h1,h2,h3⟩:=h.sL k hk
  refine⟨Or.inl h1,h2,?_⟩
  rcases hl with e | e
  ·rw [e];exact h3
  ·rw [e];intro e';have:=Option.some.inj e';have:=(h.inB k h1).2;omega
 ·obtain⟨h1,h2,h3⟩:=h.sV v hv k hk
  refine⟨Or.inl h1,h2,?_⟩
  rcases hl with e | e
  ·rw [e];exact h3
  ·rw [e];intro e';have:=Option.some.inj e';have:=(h.inB k h1).2;omega
 ·rcases hk with hk | hk
  ·have:=h.inB k hk;exact⟨this.1,Nat.lt_of_lt_of_le this.2 hw2.size⟩
  ·have:=hO.block hk
   exact⟨this.1,by have e:(w1.setCell ⟨ab,14,none⟩ v1).heap.size=w1.heap.size:=(by simp [World.setCell]);omega⟩
 ·exact hsame k hk (fun e=>hs (by rw [e];exact h.self)) (fun e=>hs (h.sF k e).1)
 ·rcases hk with hk | hk
  ·exact Or.inl hk
  ·rcases hl with e | e
   ·exact Or.inl (h.sF k (by rw [<- e];exact hk)).1
   ·rw [e] at hk;have:=Option.some.inj hk;exact Or.inr (by omega)
theorem RAk.list (h:RAk w B S ab a mv nv fv lv vs){r v':Value}{row:List Ver}{E:TypeId}{o:Obj}(hr:OwnR verE E w1 w.heap.size r row)(hb:Below w.heap.size w w1)(hv:OwnV w3 B 55 v' (vs ++ [r]))(hg:(w1.alloc o).grownBy w3 lv.ownBlock)(hl:v'.ownBlock=lv.ownBlock∨v'.ownBlock=some (w1.alloc o).heap.size) :
 RAk (w3.setCell ⟨ab,15,none⟩ v') B (fun k=>S k∨v'.ownBlock=some k∨r.ownBlock=some k) ab { a with L:=a.L ++ [row] } mv nv fv v' (vs ++ [r])/\Upd S (fun k=>S k∨v'.ownBlock=some k∨r.ownBlock=some k) w (w3.setCell ⟨ab,15,none⟩ v'):=by
 have hab:=h.inB ab h.self
 have hz:=hb.size
 have hza:(w1.alloc o).heap.size=w1.heap.size+1:=by simp
 have hz3:=hg.size
 have hs3:(w3.setCell ⟨ab,15,none⟩ v').heap.size=w3.heap.size:=by simp [World.setCell]
 have hT:=OwnVsV.snoc h.told h.leB hr hb hv hg hl
 have hlb:∀ k,lv.ownBlock=some k->B<=k:=fun k hk=>(h.inB k (h.sL k hk).1).1
 have hwa:Below B w (w1.alloc o):=(hb.mono h.leB).alloc (Nat.le_trans h.leB hz) _
 have hw3:Below B w w3:=hwa.trans ((Below.refl _ _).grown hg (by rw [hza];have:=h.leB;omega) hlb)
 have hw4:Below B w (w3.setCell ⟨ab,15,none⟩ v'):=hw3.setCell hab.1 _
 have hrb:∀ k,r.ownBlock=some k->w.heap.size<=k/\k < w1.heap.size:=fun k hk=>hr.block hk
 have hvb:∀ k,v'.ownBlock=some k->k≠ab:=fun k hk=>by
  rcases hl with e | e
  ·exact(h.sL k (by rw [<- e];exact hk)).2.1
  ·rw [e,hza] at hk;have:=Option.some.inj hk;omega
 have hsame:∀ k,k < w.heap.size->k≠ab->lv.ownBlock≠some k->(w3.setCell ⟨ab,15,none⟩ v').heap[k]?=w.heap[k]?:=fun k hk h1 h2=>(Below.heap_setCell w3 _ _ k h1).trans ((hg.block k (by omega) (fun e=>h2 e.symm)).trans ((Below.heap_alloc w1 o k (by omega)).trans (hb.block k hk)))
 have hblk:w3.heap[ab]?=w.heap[ab]?:=(hg.block ab (by omega) (fun e=>(h.sL ab e.symm).2.1 rfl)).trans ((Below.heap_alloc w1 o ab (by omega)).trans (hb.block ab hab.2))
 refine⟨⟨(blk_set (hblk.trans h.blk) 15 v').trans rfl,h.mem.belowAt hw4,h.nxt.belowAt hw4,ownT_same h.from_ fun k hk=>hsame k (h.inB k (h.sF k hk).1).2 (h.sF k hk).2 (fun e=>(h.sL k e).2.2 hk),?_,Or.inl h.self,fun k hk=>⟨Or.inl (h.sF k hk).1,(h.sF k hk).2⟩,fun k hk=>?_,fun v hm k hk=>?_,fun k hk=>?_⟩,⟨hw4.os,hw4.tape,hw4.output,hw4.size,fun k hk hs=>?_,fun k hk=>?_⟩⟩
 ·refine ownVs_same hT (Nat.le_of_eq hs3.symm) (fun k hk=>Below.heap_setCell w3 _ _ k (hvb k hk)) (fun v hm k hk=>Below.heap_setCell w3 _ _ k ?_)
  rcases List.mem_append.1 hm with hm | hm
  ·exact(h.sV v hm k hk).2.1
  ·rw [List.mem_singleton.1 hm] at hk;have:=(hrb k hk).1;show k≠ab;omega
 ·refine⟨Or.inr (Or.inl hk),hvb k hk,fun e=>?_⟩
  rcases hl with e' | e'
  ·exact(h.sL k (by rw [<- e'];exact hk)).2.2 e
  ·rw [e',hza] at hk;have:=Option.some.inj hk;have:=(h.inB k (h.sF k e).1).2;omega
 ·rcases List.mem_append.1 hm with hm | hm
  ·exact⟨Or.inl (h.sV v hm k hk).1,(h.sV v hm k hk).2⟩
  ·rw [List.mem_singleton.1 hm] at hk
   have:=(hrb k hk).1
   exact⟨Or.inr (Or.inr hk),by omega,fun e=>by have:=(h.inB k (h.sF k e).1).2;omega⟩
 ·rw [hs3]
  rcases hk with hk | hk | hk
  ·have:=h.inB k hk;exact⟨this.1,by omega⟩
  ·have:=hv.block hk;exact this
  ·have:=hrb k hk;have:=h.leB;exact⟨by omega,by omega⟩
 ·exact hsame k hk (fun e=>hs (by rw [e];exact h.self)) (fun e=>hs (h.sL k e).1)
 ·rcases hk with hk | hk | hk
  ·exact Or.inl hk
  ·rcases hl with e | e
   ·exact Or.inl (h.sL k (by rw [<- e];exact hk)).1
   ·rw [e,hza] at hk;have:=Option.some.inj hk;exact Or.inr (by omega)
  ·exact Or.inr (hrb k hk).1
end Go.Proofs.YtmhoiodfppdlnaaGreatDoor
namespace Go.Proofs.YtmhoiodfppdlnaaGreatDoor
open Go.RowKit
theorem step_append_val {P:Program}{ops:Array Oper}{o:Oper}{a:Act}{w:World}{K:Act->World->Prop}{Q:Exit->Act->World->Prop}{E:Prop}
 (hg:o.guard=none) (s x:Operand) (t:TypeId) (hop:o.op=Op.call { callee:=Callee.builtin Builtin.append,args:=#[s,x],argTypes:=#[t,t] })
 (B:Nat) (e:TypeId) (i:TypeInfo) (z:Value) (bytes:Nat) (ht:P.underlying t=some (.slice e)) (hi:P.info? e=some i) (hz:i.zero=some z) (hzs:z.cells.size=1) (hsize:i.size=1) (hby:i.bytes=bytes) (h24:bytes<=64)
 (v:Value) (l:List Value) (hs:a.eval s=v) (hown:OwnV w B e v l) (ad:Addr) (c:Nat) (u:Value) (hu:u.oneCell'=true) (hx:a.eval x=.slice (some ad) 1 c) (hb:w.cell? ad=some u) (hl:l.length+1<=1000000) (hbase:B<=w.heap.size)
 (hK:∀ v' w',OwnV w' B e v' (l ++ [u])->w.grownBy w' v.ownBlock->(v'.ownBlock=v.ownBlock∨v'.ownBlock=some w.heap.size)->K (a.put o.dst v') w') :
 if Region.wanted o (yielded ops a.tmps)=true then Oper.wp P o a w K Q else E:=by
 have hw:Region.wanted o (yielded ops a.tmps)=true:=by simp [Region.wanted,hg]
 rw [if_pos hw]
 have hnews:∀ j x,[u][j]?=some x->w.cell? (ad.add j)=some x:=by
  intro j x hj
  match j,hj with
  | 0,hj =>
   obtain rfl:u=x:=by simpa using hj
   simpa [Addr.add] using hb
 have hbd:(l.length+1)*bytes<=1000000*64:=Nat.mul_le_mul hl h24
 obtain⟨v',w',hr,h2,h3,_⟩:=run_append_own (P:=P) w B t o.type e i z 1 bytes ht hi hz hsize hby hzs (by decide) v l.length l hown ad 1 c [u] rfl hnews (fun x hx=>by rw [List.mem_singleton.1 hx];exact hu) (by unfold maxLen;omega) (by omega) hbase
 have h4:=append_where_val B t o.type e i z bytes ht hi hz hsize hby h24 v l hown ad c u hu hb hl hr
 have h5:OwnV w' B e v' (l ++ [u]):=by
  unfold OwnV
  rw [List.length_append]
  exact h2
 unfold Oper.wp
 simp [execOp,hop,resolve,invoke,builtin,hs,hx,hr,Result.andThen]
 exact hK v' w' h5 h3 h4
theorem step_append_recs {α:Type}{E:Enc α}{ops:Array Oper}{o:Oper}{a:Act}{w:World}{K:Act->World->Prop}{Q:Exit->Act->World->Prop}{E':Prop}
 (hgd:o.guard=none) (s x:Operand) (t T:TypeId) (ho:o.op=.call { callee:=.builtin .append,args:=#[s,x],argTypes:=#[t,t] }) (z:Value) (bytes:Nat) (ht:Tryz.prog.underlying t=some (.slice T))
 (hinfo:(Tryz.prog.info? T).map (fun i=>(i.zero,i.size,i.bytes))=some (some z,E.k,bytes)) (hzc:z.cells.size=E.k)
 (B:Nat) (v:Value) (l:List α) (hs:a.eval s=v) (hown:OwnR E T w B v l) (q:Option Addr) (r:List α) (c:Nat) (hx:a.eval x=.slice q r.length c) (hq:Rec E w q r) (hc0:q=none->r=[]/\c=0) (hl:l.length+r.length<=maxLen) (hby:(l.length+r.length)*bytes<=140737488355328) (hbase:B<=w.heap.size)
 (h:∀ v' w',OwnR E T w' B v' (l ++ r)->Below B w w'->K (a.put o.dst v') w') :
 if Region.wanted o (yielded ops a.tmps)=true then Oper.wp Tryz.prog o a w K Q else E':=by
 have hw:Region.wanted o (yielded ops a.tmps)=true:=by simp [Region.wanted,hgd]
 rw [if_pos hw]
 obtain⟨i0,hi0,hz0,hz1,hzb⟩:=info_parts hinfo
 cases q with
 | none =>
  obtain⟨hr,hc⟩:=hc0 rfl
  subst hr hc
  have hx':a.eval x=.slice none 0 0:=hx
  have hrun:=run_append_owned_none (P:=Tryz.prog) (w:=w) B t o.type T i0 E.k ht hi0 v l.length (recVals E l) hown
  unfold Oper.wp
  simp [execOp,ho,resolve,invoke,builtin,hs,hx',hrun,Result.andThen]
  exact h v w (by rw [List.append_nil];exact hown) (Below.refl _ _)
 | some ad =>
  have hn:∀ j u,(recVals E r)[j]?=some u->w.cell? (ad.add j)=some u:=by
   rcases hq with h0 | ⟨b,o',hp,_,hcell⟩
   ·subst h0
    intro j u hj
    simp [recVals] at hj
   ·obtain rfl:ad=⟨b,o',none⟩:=by simpa using hp
    exact Rec.cells hcell
  obtain⟨v',w',hrun,h2,h3,_⟩:=run_append_own (P:=Tryz.prog) w B t o.type T i0 z E.k bytes ht hi0 hz0 hz1 hzb hzc E.pos v l.length (recVals E l) hown ad r.length c (recVals E r) (recVals_length E r) hn (recVals_one' E r) hl hby hbase
  unfold Oper.wp
  simp [execOp,ho,resolve,invoke,builtin,hs,hx,hrun,Result.andThen]
  refine h v' w' ?_ ((Below.refl _ _).grown h3 hbase (fun k hk=>(hown.block hk).1))
  unfold OwnR
  rw [recVals_append,List.length_append]
  exact h2
variable {w w':World} {B:Nat} {S:Nat->Prop} {ab:Nat} {a:MAsk} {mv nv fv lv:Value} {vs:List Value}
theorem waits_any (h:RAk w B S ab a mv nv fv lv vs):Calls Tryz.prog 45 #[.pointer (some ⟨ab,0,none⟩)] w fun e w'=>e=.returned (.string a.st.waits)/\w'=w:=by
 have c13:w.cell? ⟨ab,13,none⟩=some (.string a.st.word):=h.cell 13
 clear h
 generalize a.st=st at *
 cases st with
 | looking =>
  have q:w.cell? ⟨ab,13,none⟩=some (.string ⟨#[108,111,111,107,105,110,103]⟩):=c13
  clear c13
  go_enter Tryz.func45,Tryz.ntmps45
  go_wp2
  go_ret
  exact⟨rfl,rfl⟩
 | sealing =>
  have q:w.cell? ⟨ab,13,none⟩=some (.string ⟨#[115,101,97,108,105,110,103]⟩):=c13
  clear c13
  go_enter Tryz.func45,Tryz.ntmps45
  go_wp2
  go_ret
  exact⟨rfl,rfl⟩
 | keeping =>
  have q:w.cell? ⟨ab,13,none⟩=some (.string ⟨#[107,101,101,112,105,110,103]⟩):=c13
  clear c13
  go_enter Tryz.func45,Tryz.ntmps45
  go_wp2
  go_ret
  exact⟨rfl,rfl⟩
 | done =>
  have q:w.cell? ⟨ab,13,none⟩=some (.string ⟨#[100,111,110,101]⟩):=c13
  clear c13
  go_enter Tryz.func45,Tryz.ntmps45
  go_wp2
  go_ret
  exact⟨rfl,rfl⟩
 | refused =>
  have q:w.cell? ⟨ab,13,none⟩=some (.string ⟨#[114,101,102,117,115,101,100]⟩):=c13
  clear c13
  go_enter Tryz.func45,Tryz.ntmps45
  go_wp2
  go_ret
  exact⟨rfl,rfl⟩
def MAsk.msg (a:MAsk)(kind:ByteArray)(with_:Bool)(i:Nat):Msg:=⟨a.name,txt a.c.L i,kind,a.key,a.op,a.config,false,if with_ then [a.ver i] else []⟩
theorem send_eq (a:MAsk)(kind:ByteArray)(with_:Bool):a.send kind with_=(List.range a.c.L.length).map (a.msg kind with_):=rfl
theorem range_succ_map {α:Type}(f:Nat->α)(i:Nat):(List.range (i+1)).map f=(List.range i).map f ++ [f i]:=by rw [List.range_succ,List.map_append];rfl
theorem send_plain (h:RAk w B S ab a mv nv fv lv vs)(kind:ByteArray)(hl:a.c.L.length<=1000):Calls Tryz.prog 43 #[.pointer (some ⟨ab,0,none⟩),.string kind,.bool false] w fun e w'=>(∃ p c,e=.returned (.slice p (a.send kind false).length c)/\MsgsAt w' p (a.send kind false))/\Below w.heap.size w w':=by
 have HRA:Hid (RAk w B S ab a mv nv fv lv vs):=h
 obtain⟨mp,mc,hmv,hms,hmc,hmn,hmb⟩:=h.mem.at_
 subst hmv
 have hab:ab < w.heap.size:=(h.inB ab h.self).2
 have HALL:Hid (∀ W,Below w.heap.size w W->(W.cell? ⟨ab,0,none⟩=some (.string a.name)/\W.cell? ⟨ab,1,none⟩=some (.string a.key)/\W.cell? ⟨ab,3,none⟩=some (.int .i64 a.op)/\W.cell? ⟨ab,4,none⟩=some (.int .i64 a.config)/\W.cell? ⟨ab,7,none⟩=some (.slice mp a.c.L.length mc))/\Strs W mp a.c.L):=fun W hW=>by
  have hh:=HRA.out.below hW
  exact⟨⟨hh.cell 0,hh.cell 1,hh.cell 3,hh.cell 4,hh.cell 7⟩,hms.below hW⟩
 have HSL:Hid ((a.send kind false).length=a.c.L.length):=by show _=_;rw [send_eq,List.length_map,List.length_range]
 have HSE:Hid (a.send kind false=(List.range a.c.L.length).map (a.msg kind false)):=send_eq a kind false
 obtain⟨f,hf⟩:∃ f:Nat->Msg×Lv,f=fun i=>(a.msg kind false i,(none,0,0)):=⟨_,rfl⟩
 have HF:Hid (∀ i,f i=(a.msg kind false i,(none,0,0))):=fun i=>by rw [hf]
 have HFL:Hid (∀ W,∀ x ∈ (List.range a.c.L.length).map f,HasL W x):=fun W x hx=>by
  obtain⟨i,_,rfl⟩:=List.mem_map.1 hx
  rw [hf]
  exact⟨rfl,Rec.nil _ _,Nat.le_refl _,fun _=>⟨rfl,rfl⟩⟩
 have HFM:Hid (((List.range a.c.L.length).map f).map Prod.fst=a.send kind false):=by
  show _=_
  rw [HSE.out,List.map_map,hf]
  rfl
 rw [HSL.out]
 clear h hms hmb hf
 obtain⟨⟨c0,c1,c3,c4,c7⟩,_⟩:=HALL.out w (Below.refl _ _)
 go_enter Tryz.func43,Tryz.ntmps43
 go_wp2
 go_loopw [8,9] (fun v x wr=>∃ i:Nat,i<=a.c.L.length/\x=.int .i64 i/\OwnR mE 59 wr w.heap.size v ((List.range i).map f)/\Below w.heap.size w wr) (fun _ x _=>a.c.L.length - (intOf x).toNat)
 case atStart=>exact⟨0,Nat.zero_le _,rfl,OwnR.nil _ _ _,Below.refl _ _⟩
 case round =>
  obtain⟨i,hi,rfl,hO,hB⟩:=hrel
  obtain⟨w1,rfl⟩:∃ w1,w1=wr:=⟨_,rfl⟩
  obtain⟨pv,cv,rfl,hrc,hcv,hpn,_⟩:=hO.form
  have htl:((List.range i).map f).length<=1000:=by rw [List.length_map,List.length_range];omega
  have HO:Hid (OwnR mE 59 w1 w.heap.size (.slice pv ((List.range i).map f).length cv) ((List.range i).map f)):=hO
  have HB:Hid (Below w.heap.size w w1):=hB
  have HRC:Hid (Rec mE w1 pv ((List.range i).map f)):=hrc
  obtain⟨⟨d0,d1,d3,d4,d7⟩,hst⟩:=HALL.out w1 hB
  have hz1:w.heap.size<=w1.heap.size:=hB.size
  clear hO hrc hpn c0 c1 c3 c4 c7
  by_cases hil:i < a.c.L.length
  ·rcases hst with h0 | ⟨b,o,hpp,hblt,hcs⟩
   ·rw [h0] at hil;exact absurd hil (Nat.not_lt_zero _)
   have q1:=hcs i hil
   have HT:Hid ((List.range (i+1)).map f=(List.range i).map f ++ [f i]):=range_succ_map f i
   have HFI:Hid (f i=(⟨a.name,txt a.c.L i,kind,a.key,a.op,a.config,false,[]⟩,(none,0,0))):=HF.out i
   have hab1:ab < w1.heap.size:=by omega
   subst hpp
   clear hcs hB
   generalize txt a.c.L i=t at *
   generalize (List.range i).map f=done at *
   go_wp2
   go_region
   obtain⟨w3,hw3⟩:∃ w3,w3=(w1.alloc (.cells #[.string a.name,.string t,.string kind,.string a.key,.int .i64 a.op,.int .i64 a.config,.bool false,.slice none 0 0] 59)).drew:=⟨_,rfl⟩
   have hb13:Below w1.heap.size w1 w3:=by rw [hw3];exact((Below.refl _ _).alloc (Nat.le_refl _) _).drew
   have hm3:∀ j u,(#[Value.string a.name,.string t,.string kind,.string a.key,.int .i64 a.op,.int .i64 a.config,.bool false,.slice none 0 0])[j]?=some u->w3.cell? ⟨w1.heap.size,j,none⟩=some u:=fun j u hj=>by
    rw [hw3]
    show(w1.alloc _).cell? ⟨w1.heap.size,j,none⟩=some u
    rw [World.cell?_alloc_at _ _ _ _ rfl]
    exact hj
   have m0:=hm3 0 _ rfl
   have m1:=hm3 1 _ rfl
   have m2:=hm3 2 _ rfl
   have m3:=hm3 3 _ rfl
   have m4:=hm3 4 _ rfl
   have m5:=hm3 5 _ rfl
   have m6:=hm3 6 _ rfl
   have m7:=hm3 7 _ rfl
   obtain⟨w4,hw4⟩:∃ w4,w4=w3.alloc (.cells #[.string a.name,.string t,.string kind,.string a.key,.int .i64 a.op,.int .i64 a.config,.bool false,.slice none 0 0] 59):=⟨_,rfl⟩
   have hb34:Below w3.heap.size w3 w4:=zBe hw4
   have hb14:Below w1.heap.size w1 w4:=hb13.trans (hb34.mono hb13.size)
   have HN4:Hid (∀ j u,(mE.enc (f i))[j]?=some u->w4.cell? ⟨w3.heap.size,0+j,none⟩=some u):=fun j u hj=>by
    rw [hw4,World.cell?_alloc_at _ _ _ _ rfl,Nat.zero_add]
    rw [HFI.out] at hj
    simpa [mE,msgC] using hj
   have HW3:Hid (w3=(w1.alloc (.cells #[.string a.name,.string t,.string kind,.string a.key,.int .i64 a.op,.int .i64 a.config,.bool false,.slice none 0 0] 59)).drew):=hw3
   have HW4:Hid (w4=w3.alloc (.cells #[.string a.name,.string t,.string kind,.string a.key,.int .i64 a.op,.int .i64 a.config,.bool false,.slice none 0 0] 59)):=hw4
   have HO4:Hid (OwnR mE 59 w4 w.heap.size (.slice pv done.length cv) done):=HO.out.kept hb14
   have HB4:Hid (Below w.heap.size w w4):=HB.out.trans (hb14.mono HB.out.size)
   have HS4:Hid (w.heap.size<=w4.heap.size/\w3.heap.size < w4.heap.size):=⟨HB4.out.size,by rw [hw4];simp⟩
   clear hw3 hw4 hb13 hb34 hb14 hm3 HO HB HRC HFI
   rw [<- HW3.out]
   clear d0 d1 d3 d4 d7 q1
   go_wp2_with (first | rw [<- HW4.out] | (at_builtin;refine wpList_append_rec (E:=mE) rfl (.tmp 80) (.tmp 82) 27 59 rfl (.agg #[.string ⟨#[]⟩,.string ⟨#[]⟩,.string ⟨#[]⟩,.string ⟨#[]⟩,.int .i64 0,.int .i64 0,.bool false,.slice none 0 0]) 112 Tryz.underlying27 minfoR rfl w.heap.size (.slice pv done.length cv) done rfl HO4.out w3.heap.size 0 1 (f i) rfl HN4.out (by unfold maxLen;omega) (by omega) HS4.out.1 HS4.out.2 ?_;intro v5 w5 hO5 hb5))
   have HO5:Hid (OwnR mE 59 w5 w.heap.size v5 (done ++ [f i])):=hO5
   have HB5:Hid (Below w.heap.size w w5):=HB4.out.trans hb5
   clear hO5 hb5 HO4 HB4 m0 m1 m2 m3 m4 m5 m6 m7
   go_wp2
   go_roundw
   case rel=>exact⟨i+1,by omega,by go_num,by rw [HT.out];exact HO5.out,HB5.out⟩
   case measure=>simp [intOf];omega
  ·have hie:i=a.c.L.length:=by omega
   subst hie
   clear hst hB
   have HLE:Hid (((List.range a.c.L.length).map f).length=a.c.L.length):=by show _=_;rw [List.length_map,List.length_range]
   rw [HLE.out]
   go_wp2
   go_ret
   exact⟨⟨pv,cv,rfl,_,HFM.out,HRC.out,HFL.out _⟩,HB.out⟩
end Go.Proofs.YtmhoiodfppdlnaaGreatDoor
namespace Go.Proofs.YtmhoiodfppdlnaaGreatDoor
open Go.RowKit
variable {w w':World} {B:Nat} {S:Nat->Prop} {ab:Nat} {a:MAsk} {mv nv fv lv:Value} {vs:List Value}
theorem rbegin_any (h:RAk w B S ab a mv nv fv lv vs)(hl:a.c.L.length<=1000):Calls Tryz.prog 17 #[.pointer (some ⟨ab,0,none⟩)] w fun e w'=>(∃ p c,e=.returned (.slice p a.begin.length c)/\MsgsAt w' p a.begin)/\Below w.heap.size w w':=by
 have c12:w.cell? ⟨ab,12,none⟩=some (.bool a.moves):=h.cell 12
 have c13:w.cell? ⟨ab,13,none⟩=some (.string a.st.word):=h.cell 13
 have HS1:=send_plain h wSeal hl
 have HS2:=send_plain h wLook hl
 have e1:wSeal=⟨#[115,101,97,108]⟩:=rfl
 have e2:wLook=⟨#[108,111,111,107]⟩:=rfl
 have HB:Hid (a.begin=if a.moves then (if a.st=.sealing then a.send wSeal false else []) else a.send wLook false):=by show _=_;rfl
 rw [HB.out]
 clear HB
 generalize hA:a.send wSeal false=l1 at *
 generalize hC:a.send wLook false=l2 at *
 rw [e1] at HS1
 rw [e2] at HS2
 clear h hA hC e1 e2
 generalize a.moves=mo at *
 generalize a.st=st at *
 cases mo with
 | false =>
  rw [if_neg (by decide)]
  clear HS1
  go_enter Tryz.func17,Tryz.ntmps17
  go_wp2_with fail
  refine HS2.mono ?_
  rintro e w1 ⟨⟨p,c,rfl,hm⟩,hb⟩
  clear HS2
  go_wp2
  go_ret
  exact⟨⟨p,c,rfl,hm⟩,hb⟩
 | true =>
  rw [if_pos rfl]
  by_cases hs:st=.sealing
  ·rw [if_pos hs]
   have q:w.cell? ⟨ab,13,none⟩=some (.string ⟨#[115,101,97,108,105,110,103]⟩):=by rw [c13,hs];rfl
   clear c13 HS2
   go_enter Tryz.func17,Tryz.ntmps17
   go_wp2_with fail
   refine HS1.mono ?_
   rintro e w1 ⟨⟨p,c,rfl,hm⟩,hb⟩
   clear HS1
   go_wp2
   go_ret
   exact⟨⟨p,c,rfl,hm⟩,hb⟩
  ·rw [if_neg hs]
   have hne:¬ st.word.toList=[115,101,97,108,105,110,103]:=by cases st <;> first | exact absurd rfl hs | decide +kernel
   have hbq:(st.word.toList==[115,101,97,108,105,110,103])=false:=by cases st <;> first | exact absurd rfl hs | decide +kernel
   clear HS1 HS2
   generalize st.word=sw at *
   go_enter Tryz.func17,Tryz.ntmps17
   go_wp2
   go_ret
   exact⟨⟨none,0,rfl,MsgsAt.nil _ _⟩,Below.refl _ _⟩
end Go.Proofs.YtmhoiodfppdlnaaGreatDoor
namespace Go.Proofs.YtmhoiodfppdlnaaGreatDoor
open Go.RowKit
variable {w w':World} {B:Nat} {S:Nat->Prop} {ab:Nat} {a:MAsk} {mv nv fv lv:Value} {vs:List Value}
theorem rhear_refused (h:RAk w B S ab a mv nv fv lv vs)(x:Msg×Lv)(hl:a.c.L.length<=1000)(hfl:a.from_.length<=1000)(hta:a.takes x.1=true)(hsh:x.1.shut=true)(hst:a.st≠.sealing):Calls Tryz.prog 20 #[.pointer (some ⟨ab,0,none⟩),.agg #[.string x.1.from_,.string x.1.to_,.string x.1.kind,.string x.1.key,.int .i64 x.1.op,.int .i64 x.1.config,.bool x.1.shut,.slice x.2.1 x.2.2.1 x.2.2.2]] w fun e w'=>e=.returned (.slice none 0 0)/\RAk w' B S ab { a with st:=.refused } mv nv fv lv vs/\Upd S S w w':=by
 obtain⟨mp,mc,hmv,hms,hmc,hmn,hmb⟩:=h.mem.at_
 obtain⟨fp,fc,hfv,hfs,hfc,hfn,_⟩:=h.from_.form
 have HRA:Hid (RAk w B S ab a mv nv fv lv vs):=h
 subst hmv hfv
 obtain⟨⟨m1,m2,m3,m4,m5,m6,m7,mL⟩,lp,ln,lc⟩:=x
 dsimp only at *
 subst hsh
 obtain⟨w1,hw1⟩:∃ w1,w1=w.alloc (.cells #[.string m1,.string m2,.string m3,.string m4,.int .i64 m5,.int .i64 m6,.bool true,.slice lp ln lc] 59):=⟨_,rfl⟩
 have hb1:Below w.heap.size w w1:=zBe hw1
 have hR1:=h.below hb1
 have HWT:=waits_any hR1
 have c0:w1.cell? ⟨ab,0,none⟩=some (.string a.name):=hR1.cell 0
 have c1:w1.cell? ⟨ab,1,none⟩=some (.string a.key):=hR1.cell 1
 have c3:w1.cell? ⟨ab,3,none⟩=some (.int .i64 a.op):=hR1.cell 3
 have c4:w1.cell? ⟨ab,4,none⟩=some (.int .i64 a.config):=hR1.cell 4
 have c7:w1.cell? ⟨ab,7,none⟩=some (.slice mp a.c.L.length mc):=hR1.cell 7
 have c14:w1.cell? ⟨ab,14,none⟩=some (.slice fp a.from_.length fc):=hR1.cell 14
 have d0:w1.cell? ⟨w.heap.size,0,none⟩=some (.string m1):=zAc hw1 rfl
 have d1:w1.cell? ⟨w.heap.size,1,none⟩=some (.string m2):=zAc hw1 rfl
 have d2:w1.cell? ⟨w.heap.size,2,none⟩=some (.string m3):=zAc hw1 rfl
 have d3:w1.cell? ⟨w.heap.size,3,none⟩=some (.string m4):=zAc hw1 rfl
 have d4:w1.cell? ⟨w.heap.size,4,none⟩=some (.int .i64 m5):=zAc hw1 rfl
 have d5:w1.cell? ⟨w.heap.size,5,none⟩=some (.int .i64 m6):=zAc hw1 rfl
 have HSM:Hid (∀ W,Below w1.heap.size w1 W->Strs W mp a.c.L):=fun W hW=>(hms.below hb1).below hW
 have HSF:Hid (∀ W,Below w1.heap.size w1 W->Strs W fp a.from_):=fun W hW=>(hfs.below hb1).below hW
 have HW1:Hid (w1=w.alloc (.cells #[.string m1,.string m2,.string m3,.string m4,.int .i64 m5,.int .i64 m6,.bool true,.slice lp ln lc] 59)):=hw1
 have HB1:Hid (Below w.heap.size w w1):=hb1
 have d6:w1.cell? ⟨w.heap.size,6,none⟩=some (.bool true):=zAc hw1 rfl
 have c13:w1.cell? ⟨ab,13,none⟩=some (.string a.st.word):=hR1.cell 13
 have f13:w1.frozen? ⟨ab,13,none⟩=false:=hR1.free 13
 have hne:¬ a.st.word.toList=[115,101,97,108,105,110,103]:=by cases hq:a.st <;> first | exact absurd hq hst | decide +kernel
 have hbq':(a.st.word.toList==[115,101,97,108,105,110,103])=false:=by cases hq:a.st <;> first | exact absurd hq hst | decide +kernel
 have HFIN:Hid (∀ W,Below w1.heap.size w1 W->RAk (W.setCell ⟨ab,13,none⟩ (.string ⟨#[114,101,102,117,115,101,100]⟩)) B S ab { a with st:=.refused } (.slice mp a.c.L.length mc) nv (.slice fp a.from_.length fc) lv vs/\Upd S S w (W.setCell ⟨ab,13,none⟩ (.string ⟨#[114,101,102,117,115,101,100]⟩))):=fun W hW=>by
  have hRW:=hR1.below hW
  have hbW:Below w.heap.size w W:=hb1.trans (hW.mono hb1.size)
  refine⟨hRW.set 13 _ rfl rfl rfl rfl rfl rfl rfl,⟨hbW.os,hbW.tape,hbW.output,by simpa [World.setCell] using hbW.size,fun k hk hs=>?_,fun k hk=>Or.inl hk⟩⟩
  exact(Below.heap_setCell W _ _ k (fun e=>hs (by rw [e];exact HRA.out.self))).trans (hbW.block k hk)
 obtain⟨g0,g1,g2,g3,g4,g5,g6,g7⟩:a.st.waits≠⟨#[]⟩/\m3=a.st.waits/\m2=a.name/\m4=a.key/\m5=a.op/\m6=a.config/\m1 ∈ a.c.L/\m1 ∉ a.from_:=by
  unfold MAsk.takes at hta
  rw [Bool.and_eq_true,Bool.and_eq_true] at hta
  obtain⟨q1,q2,q3⟩:=hta
  have q1':=of_decide_eq_true q1
  exact⟨q1'.1,q1'.2.1,q1'.2.2.1,q1'.2.2.2.1,q1'.2.2.2.2.1,q1'.2.2.2.2.2,inL_iff.1 q2,fun hm=>by rw [inL_iff.2 hm] at q3;cases q3⟩
 have HI1:Hid (∀ W,Below w1.heap.size w1 W->Calls Tryz.prog 46 #[.slice mp a.c.L.length mc,.string m1] W fun e w'=>e=.returned (.int .i64 ((idxN a.c.L m1:Nat):Int))/\w'=W):=fun W hW=>index_hit mp a.c.L mc m1 W (by omega) (HSM.out W hW) g6
 have HI2:Hid (∀ W,Below w1.heap.size w1 W->Calls Tryz.prog 46 #[.slice fp a.from_.length fc,.string m1] W fun e w'=>e=.returned (.int .i64 (-1))/\w'=W):=fun W hW=>index_miss fp a.from_ fc m1 W (by omega) (HSF.out W hW) g7
 clear h hms hmb hfs hfn hmn hb1 hw1 hR1 hta hst HRA g6 g7 HSM HSF
 generalize idxN a.c.L m1=j1 at *
 have n1:decide ((j1:Int) < 0)=false:=decide_eq_false (by omega)
 have t0:=toList_ne g0
 have u0:=toList_beq g0
 have v0:=bytes_beq g0
 have e0:(⟨#[]⟩:ByteArray).toList=[]:=by decide +kernel
 rw [e0] at t0 u0
 subst g1 g2 g3 g4 g5
 generalize a.st.waits=wt at *
 generalize a.st.word=sw at *
 clear g0
 go_enter Tryz.func20,Tryz.ntmps20
 go_wp2_with (first | rw [<- HW1.out] | fail)
 refine HWT.mono ?_
 rintro e w2 ⟨rfl,hw2⟩
 rw [hw2]
 clear hw2 w2 HWT
 go_wp2
 go_quiet (fail)
 generalize hwq:World.drewN w1 _=wq
 have c7q:wq.cell? ⟨ab,7,none⟩=some (.slice mp a.c.L.length mc):=by rw [<- hwq];exact c7
 have c13q:wq.cell? ⟨ab,13,none⟩=some (.string sw):=by rw [<- hwq];exact c13
 have c14q:wq.cell? ⟨ab,14,none⟩=some (.slice fp a.from_.length fc):=by rw [<- hwq];exact c14
 have d0q:wq.cell? ⟨w.heap.size,0,none⟩=some (.string m1):=by rw [<- hwq];exact d0
 have d6q:wq.cell? ⟨w.heap.size,6,none⟩=some (.bool true):=by rw [<- hwq];exact d6
 have hbq:Below w1.heap.size w1 wq:=by rw [<- hwq];exact below_drewN (Below.refl _ _) _
 have HBQ:Hid (Below w1.heap.size w1 wq):=hbq
 have f13q:wq.frozen? ⟨ab,13,none⟩=false:=by rw [<- hwq];exact f13
 clear hwq c0 c1 c3 c4 c7 c13 c14 d0 d1 d2 d3 d4 d5 d6 f13
 go_wp2
 go_quiet (first | (go_at_call 46;with_reducible exact Calls.quiet_of_same (HI1.out _ (below_drewN hbq _))) | (go_at_call 46;with_reducible exact Calls.quiet_of_same (HI2.out _ (below_drewN hbq _))))
 generalize hwr:World.drewN wq _=wr
 have c13qr:wr.cell? ⟨ab,13,none⟩=some (.string sw):=by rw [<- hwr];exact c13q
 have d6qr:wr.cell? ⟨w.heap.size,6,none⟩=some (.bool true):=by rw [<- hwr];exact d6q
 have f13r:wr.frozen? ⟨ab,13,none⟩=false:=by rw [<- hwr];exact f13q
 have HBR:Hid (Below w1.heap.size w1 wr):=by rw [<- hwr];exact below_drewN hbq _
 clear hwr c7q c13q c14q d0q d6q f13q hbq
 go_wp2
 go_ret
 exact⟨rfl,HFIN.out wr HBR.out⟩
end Go.Proofs.YtmhoiodfppdlnaaGreatDoor
namespace Go.Proofs.YtmhoiodfppdlnaaGreatDoor
open Go.RowKit
variable {w w':World} {B:Nat} {S:Nat->Prop} {ab:Nat} {a:MAsk} {mv nv fv lv:Value} {vs:List Value}
theorem rhear_no (h:RAk w B S ab a mv nv fv lv vs)(x:Msg×Lv)(hl:a.c.L.length<=1000)(hfl:a.from_.length<=1000)(hno:a.takes x.1=false):Calls Tryz.prog 20 #[.pointer (some ⟨ab,0,none⟩),.agg #[.string x.1.from_,.string x.1.to_,.string x.1.kind,.string x.1.key,.int .i64 x.1.op,.int .i64 x.1.config,.bool x.1.shut,.slice x.2.1 x.2.2.1 x.2.2.2]] w fun e w'=>e=.returned (.slice none 0 0)/\Below w.heap.size w w':=by
 obtain⟨mp,mc,hmv,hms,hmc,hmn,hmb⟩:=h.mem.at_
 obtain⟨fp,fc,hfv,hfs,hfc,hfn,_⟩:=h.from_.form
 subst hmv hfv
 obtain⟨⟨m1,m2,m3,m4,m5,m6,m7,mL⟩,lp,ln,lc⟩:=x
 dsimp only at *
 obtain⟨w1,hw1⟩:∃ w1,w1=w.alloc (.cells #[.string m1,.string m2,.string m3,.string m4,.int .i64 m5,.int .i64 m6,.bool m7,.slice lp ln lc] 59):=⟨_,rfl⟩
 have hb1:Below w.heap.size w w1:=zBe hw1
 have hR1:=h.below hb1
 have HWT:=waits_any hR1
 have c0:w1.cell? ⟨ab,0,none⟩=some (.string a.name):=hR1.cell 0
 have c1:w1.cell? ⟨ab,1,none⟩=some (.string a.key):=hR1.cell 1
 have c3:w1.cell? ⟨ab,3,none⟩=some (.int .i64 a.op):=hR1.cell 3
 have c4:w1.cell? ⟨ab,4,none⟩=some (.int .i64 a.config):=hR1.cell 4
 have c7:w1.cell? ⟨ab,7,none⟩=some (.slice mp a.c.L.length mc):=hR1.cell 7
 have c14:w1.cell? ⟨ab,14,none⟩=some (.slice fp a.from_.length fc):=hR1.cell 14
 have d0:w1.cell? ⟨w.heap.size,0,none⟩=some (.string m1):=zAc hw1 rfl
 have d1:w1.cell? ⟨w.heap.size,1,none⟩=some (.string m2):=zAc hw1 rfl
 have d2:w1.cell? ⟨w.heap.size,2,none⟩=some (.string m3):=zAc hw1 rfl
 have d3:w1.cell? ⟨w.heap.size,3,none⟩=some (.string m4):=zAc hw1 rfl
 have d4:w1.cell? ⟨w.heap.size,4,none⟩=some (.int .i64 m5):=zAc hw1 rfl
 have d5:w1.cell? ⟨w.heap.size,5,none⟩=some (.int .i64 m6):=zAc hw1 rfl
 have HSM:Hid (∀ W,Below w1.heap.size w1 W->Strs W mp a.c.L):=fun W hW=>(hms.below hb1).below hW
 have HSF:Hid (∀ W,Below w1.heap.size w1 W->Strs W fp a.from_):=fun W hW=>(hfs.below hb1).below hW
 have HW1:Hid (w1=w.alloc (.cells #[.string m1,.string m2,.string m3,.string m4,.int .i64 m5,.int .i64 m6,.bool m7,.slice lp ln lc] 59)):=hw1
 have HB1:Hid (Below w.heap.size w w1):=hb1
 have HNO:a.st.waits=⟨#[]⟩∨m3≠a.st.waits∨m2≠a.name∨m4≠a.key∨m5≠a.op∨m6≠a.config∨m1 ∉ a.c.L∨m1 ∈ a.from_:=by
  unfold MAsk.takes at hno
  by_cases g0:a.st.waits=⟨#[]⟩
  ·exact Or.inl g0
  by_cases g1:m3=a.st.waits
  ·by_cases g2:m2=a.name
   ·by_cases g3:m4=a.key
    ·by_cases g4:m5=a.op
     ·by_cases g5:m6=a.config
      ·rw [decide_eq_true ⟨g0,g1,g2,g3,g4,g5⟩,Bool.true_and] at hno
       by_cases g6:m1 ∈ a.c.L
       ·rw [inL_iff.2 g6,Bool.true_and] at hno
        right;right;right;right;right;right;right
        cases hq:inL a.from_ m1 with
        | true=>exact inL_iff.1 hq
        | false=>rw [hq] at hno;cases hno
       ·right;right;right;right;right;right;left;exact g6
      ·right;right;right;right;right;left;exact g5
     ·right;right;right;right;left;exact g4
    ·right;right;right;left;exact g3
   ·right;right;left;exact g2
  ·right;left;exact g1
 clear h hms hmb hfs hfn hmn hb1 hw1 hR1 hno
 generalize a.st.waits=wt at *
 generalize a.name=nm at *
 generalize a.key=ky at *
 generalize a.op=aop at *
 generalize a.config=acf at *
 by_cases g0:wt=⟨#[]⟩
 ·subst g0
  clear HNO
  go_enter Tryz.func20,Tryz.ntmps20
  go_wp2_with (first | rw [<- HW1.out] | fail)
  refine HWT.mono ?_
  rintro e w2 ⟨rfl,hw2⟩
  rw [hw2]
  clear hw2 w2 HWT
  go_wp2
  go_quiet (fail)
  go_wp2
  go_ret
  exact⟨rfl,below_drewN HB1.out _⟩
 ·skip
  have t0:=toList_ne g0
  have u0:=toList_beq g0
  have v0:=bytes_beq g0
  have e0:(⟨#[]⟩:ByteArray).toList=[]:=by decide +kernel
  rw [e0] at t0 u0
  by_cases g1:m3=wt
  ·subst g1
   by_cases g2:m2=nm
   ·subst g2
    by_cases g3:m4=ky
    ·subst g3
     by_cases g4:m5=aop
     ·subst g4
      by_cases g5:m6=acf
      ·subst g5
       have HN2:m1 ∉ a.c.L∨m1 ∈ a.from_:=by
        rcases HNO with h | h | h | h | h | h | h
        ·exact absurd h g0
        ·exact absurd rfl h
        ·exact absurd rfl h
        ·exact absurd rfl h
        ·exact absurd rfl h
        ·exact absurd rfl h
        ·exact h
       by_cases g6:m1 ∈ a.c.L
       ·have g7:m1 ∈ a.from_:=by rcases HN2 with h | h;exact absurd g6 h;exact h
        have HI1:Hid (∀ W,Below w1.heap.size w1 W->Calls Tryz.prog 46 #[.slice mp a.c.L.length mc,.string m1] W fun e w'=>e=.returned (.int .i64 ((idxN a.c.L m1:Nat):Int))/\w'=W):=fun W hW=>index_hit mp a.c.L mc m1 W (by omega) (HSM.out W hW) g6
        have HI2:Hid (∀ W,Below w1.heap.size w1 W->Calls Tryz.prog 46 #[.slice fp a.from_.length fc,.string m1] W fun e w'=>e=.returned (.int .i64 ((idxN a.from_ m1:Nat):Int))/\w'=W):=fun W hW=>index_hit fp a.from_ fc m1 W (by omega) (HSF.out W hW) g7
        clear HNO HN2 g6 g7 HSM HSF
        generalize idxN a.c.L m1=j1 at *
        generalize idxN a.from_ m1=j2 at *
        have n1:decide ((j1:Int) < 0)=false:=decide_eq_false (by omega)
        have n2:decide ((0:Int)<=(j2:Int))=true:=decide_eq_true (by omega)
        go_enter Tryz.func20,Tryz.ntmps20
        go_wp2_with (first | rw [<- HW1.out] | fail)
        refine HWT.mono ?_
        rintro e w2 ⟨rfl,hw2⟩
        rw [hw2]
        clear hw2 w2 HWT
        go_wp2
        go_quiet (fail)
        generalize hwq:World.drewN w1 _=wq
        have c7q:wq.cell? ⟨ab,7,none⟩=some (.slice mp a.c.L.length mc):=by rw [<- hwq];exact c7
        have c14q:wq.cell? ⟨ab,14,none⟩=some (.slice fp a.from_.length fc):=by rw [<- hwq];exact c14
        have d0q:wq.cell? ⟨w.heap.size,0,none⟩=some (.string m1):=by rw [<- hwq];exact d0
        have hbq0:Below w1.heap.size w1 wq:=by rw [<- hwq];exact below_drewN (Below.refl _ _) _
        have HBQ:Hid (Below w1.heap.size w1 wq):=hbq0
        have hbq:=HBQ.out
        clear hwq c0 c1 c3 c4 c7 c14 d0 d1 d2 d3 d4 d5 hbq0
        go_wp2
        go_quiet (first | (go_at_call 46;with_reducible exact Calls.quiet_of_same (HI1.out _ (below_drewN hbq _))) | (go_at_call 46;with_reducible exact Calls.quiet_of_same (HI2.out _ (below_drewN hbq _))))
        go_wp2
        go_ret
        exact⟨rfl,below_drewN (HB1.out.trans (HBQ.out.mono HB1.out.size)) _⟩
       ·have HI1:Hid (∀ W,Below w1.heap.size w1 W->Calls Tryz.prog 46 #[.slice mp a.c.L.length mc,.string m1] W fun e w'=>e=.returned (.int .i64 (-1))/\w'=W):=fun W hW=>index_miss mp a.c.L mc m1 W (by omega) (HSM.out W hW) g6
        clear HNO HN2 g6 HSM HSF
        go_enter Tryz.func20,Tryz.ntmps20
        go_wp2_with (first | rw [<- HW1.out] | fail)
        refine HWT.mono ?_
        rintro e w2 ⟨rfl,hw2⟩
        rw [hw2]
        clear hw2 w2 HWT
        go_wp2
        go_quiet (fail)
        generalize hwq:World.drewN w1 _=wq
        have c7q:wq.cell? ⟨ab,7,none⟩=some (.slice mp a.c.L.length mc):=by rw [<- hwq];exact c7
        have c14q:wq.cell? ⟨ab,14,none⟩=some (.slice fp a.from_.length fc):=by rw [<- hwq];exact c14
        have d0q:wq.cell? ⟨w.heap.size,0,none⟩=some (.string m1):=by rw [<- hwq];exact d0
        have hbq0:Below w1.heap.size w1 wq:=by rw [<- hwq];exact below_drewN (Below.refl _ _) _
        have HBQ:Hid (Below w1.heap.size w1 wq):=hbq0
        have hbq:=HBQ.out
        clear hwq c0 c1 c3 c4 c7 c14 d0 d1 d2 d3 d4 d5 hbq0
        go_wp2
        go_quiet ((go_at_call 46;exact Calls.quiet_of_same (HI1.out _ (below_drewN hbq _))))
        go_wp2
        go_ret
        exact⟨rfl,below_drewN (HB1.out.trans (HBQ.out.mono HB1.out.size)) _⟩
      ·have b5:(m6==acf)=false:=by rw [beq_eq_false_iff_ne];exact g5
       clear HNO
       go_enter Tryz.func20,Tryz.ntmps20
       go_wp2_with (first | rw [<- HW1.out] | fail)
       refine HWT.mono ?_
       rintro e w2 ⟨rfl,hw2⟩
       rw [hw2]
       clear hw2 w2 HWT
       go_wp2
       go_quiet (fail)
       go_wp2
       go_ret
       exact⟨rfl,below_drewN HB1.out _⟩
     ·have b4:(m5==aop)=false:=by rw [beq_eq_false_iff_ne];exact g4
      clear HNO
      go_enter Tryz.func20,Tryz.ntmps20
      go_wp2_with (first | rw [<- HW1.out] | fail)
      refine HWT.mono ?_
      rintro e w2 ⟨rfl,hw2⟩
      rw [hw2]
      clear hw2 w2 HWT
      go_wp2
      go_quiet (fail)
      go_wp2
      go_ret
      exact⟨rfl,below_drewN HB1.out _⟩
    ·skip
     have t3:=toList_ne g3
     have u3:=toList_beq g3
     have v3:=bytes_beq g3
     clear HNO
     go_enter Tryz.func20,Tryz.ntmps20
     go_wp2_with (first | rw [<- HW1.out] | fail)
     refine HWT.mono ?_
     rintro e w2 ⟨rfl,hw2⟩
     rw [hw2]
     clear hw2 w2 HWT
     go_wp2
     go_quiet (fail)
     go_wp2
     go_ret
     exact⟨rfl,below_drewN HB1.out _⟩
   ·skip
    have t2:=toList_ne g2
    have u2:=toList_beq g2
    have v2:=bytes_beq g2
    clear HNO
    go_enter Tryz.func20,Tryz.ntmps20
    go_wp2_with (first | rw [<- HW1.out] | fail)
    refine HWT.mono ?_
    rintro e w2 ⟨rfl,hw2⟩
    rw [hw2]
    clear hw2 w2 HWT
    go_wp2
    go_quiet (fail)
    go_wp2
    go_ret
    exact⟨rfl,below_drewN HB1.out _⟩
  ·skip
   have t1:=toList_ne g1
   have u1:=toList_beq g1
   have v1:=bytes_beq g1
   clear HNO
   go_enter Tryz.func20,Tryz.ntmps20
   go_wp2_with (first | rw [<- HW1.out] | fail)
   refine HWT.mono ?_
   rintro e w2 ⟨rfl,hw2⟩
   rw [hw2]
   clear hw2 w2 HWT
   go_wp2
   go_quiet (fail)
   go_wp2
   go_ret
   exact⟨rfl,below_drewN HB1.out _⟩
end Go.Proofs.YtmhoiodfppdlnaaGreatDoor
namespace Go.Proofs.YtmhoiodfppdlnaaGreatDoor
open Go.RowKit
variable {w w':World} {B:Nat} {S:Nat->Prop} {ab:Nat} {a:MAsk} {mv nv fv lv:Value} {vs:List Value}
theorem toldL_append (f:List ByteArray)(L:List (List Ver)):∀ (l m:List ByteArray),toldL f L (l ++ m)=toldL f L l ++ toldL f L m
 | [],_=>rfl
 | x :: l,m=>by
  have ih:=toldL_append f L l m
  rw [List.cons_append]
  by_cases h:inL f x=true
  ·have e1:∀ r,toldL f L (x :: r)=L.getD (idxN f x) [] :: toldL f L r:=fun r=>if_pos h
   rw [e1,e1,ih,List.cons_append]
  ·have e1:∀ r,toldL f L (x :: r)=toldL f L r:=fun r=>if_neg h
   rw [e1,e1,ih]
theorem toldL_succ {f:List ByteArray}{L:List (List Ver)}{m:List ByteArray}{i:Nat}(h:i < m.length):toldL f L (m.take (i+1))=toldL f L (m.take i) ++ (if inL f (txt m i) then [L.getD (idxN f (txt m i)) []] else []):=by
 rw [List.take_succ_eq_append_getElem h,toldL_append,txt_getElem m i h]
 congr 1
theorem toldL_len (f:List ByteArray)(L:List (List Ver)):∀ m:List ByteArray,(toldL f L m).length<=m.length
 | []=>Nat.le_refl _
 | x :: m=>by
  have:=toldL_len f L m
  unfold toldL
  split
  ·simp;exact this
  ·simp;omega
def VsVals (w:World)(vals:List Value)(LL:List (List Ver)):Prop:=vals.length=LL.length/\∀ i,i < LL.length->∃ q c,vals[i]?=some (.slice q (LL.getD i []).length c)/\Rec verE w q (LL.getD i [])/\(LL.getD i []).length<=c/\(q=none->LL.getD i []=[]/\c=0)
theorem VsVals.snoc {w:World}{vals:List Value}{LL:List (List Ver)}{row:List Ver}{q:Option Addr}{c:Nat}(h:VsVals w vals LL)(h2:Rec verE w q row)(h3:row.length<=c)(h4:q=none->row=[]/\c=0):VsVals w (vals ++ [.slice q row.length c]) (LL ++ [row]):=by
 refine⟨by simp [h.1],fun i hi=>?_⟩
 rw [List.length_append,List.length_singleton] at hi
 by_cases hlt:i < LL.length
 ·obtain⟨q',c',g1,g2,g3,g4⟩:=h.2 i hlt
  have e:(LL ++ [row]).getD i []=LL.getD i []:=by rw [List.getD_eq_getElem?_getD,List.getD_eq_getElem?_getD,List.getElem?_append_left hlt]
  rw [e]
  exact⟨q',c',by rw [List.getElem?_append_left (by rw [h.1];exact hlt)];exact g1,g2,g3,g4⟩
 ·obtain rfl:i=LL.length:=by omega
  have e:(LL ++ [row]).getD LL.length []=row:=by rw [List.getD_eq_getElem?_getD,List.getElem?_append_right (Nat.le_refl _),Nat.sub_self];rfl
  rw [e]
  exact⟨q,c,by rw [List.getElem?_append_right (by rw [h.1];exact Nat.le_refl _),h.1,Nat.sub_self];rfl,h2,h3,h4⟩
theorem VsVals.vss {w w':World}{B:Nat}{T:TypeId}{v:Value}{vals:List Value}{LL:List (List Ver)}(h:VsVals w vals LL)(hb:Below w.heap.size w w')(ho:OwnV w' B T v vals):∃ p c,v=.slice p LL.length c/\Vss w' p LL:=by
 rcases ho.cells with ⟨rfl,rfl⟩ | ⟨g,cap,rfl,hB,hg,hcell⟩
 ·have:LL=[]:=List.length_eq_zero_iff.1 h.1.symm
  subst this
  exact⟨none,0,rfl,Or.inl rfl⟩
 ·refine⟨some ⟨g,0,none⟩,cap,by rw [h.1],Or.inr ⟨g,0,rfl,hg,fun i hi=>?_⟩⟩
  obtain⟨q,c,h1,h2,h3,h4⟩:=h.2 i hi
  exact⟨q,c,by rw [Nat.zero_add];exact hcell i _ h1,h2.below hb,h3,h4⟩
theorem rtold_any (h:RAk w B S ab a mv nv fv lv vs)(hl:a.c.L.length<=1000)(hfl:a.from_.length<=1000)(hboth:a.from_.length=a.L.length):Calls Tryz.prog 49 #[.pointer (some ⟨ab,0,none⟩)] w fun e w'=>(∃ p c,e=.returned (.slice p (toldL a.from_ a.L a.c.L).length c)/\Vss w' p (toldL a.from_ a.L a.c.L))/\Below w.heap.size w w':=by
 obtain⟨i0,hi0,hy0,hy1,hyb⟩:=info_parts versinfo
 have HRA:Hid (RAk w B S ab a mv nv fv lv vs):=h
 obtain⟨mp,mc,hmv,hms,hmc,hmn,hmb⟩:=h.mem.at_
 obtain⟨fp,fc,hfv,hfs,hfc,hfn,_⟩:=h.from_.form
 obtain⟨lp,lc,hlv,hls⟩:=h.told.vss
 subst hmv hfv hlv
 have hab:ab < w.heap.size:=(h.inB ab h.self).2
 have HALL:Hid (∀ W,Below w.heap.size w W->(W.cell? ⟨ab,7,none⟩=some (.slice mp a.c.L.length mc)/\W.cell? ⟨ab,14,none⟩=some (.slice fp a.from_.length fc)/\W.cell? ⟨ab,15,none⟩=some (.slice lp a.L.length lc))/\Strs W mp a.c.L/\Strs W fp a.from_/\Vss W lp a.L):=fun W hW=>by
  have hh:=HRA.out.below hW
  exact⟨⟨hh.cell 7,hh.cell 14,hh.cell 15⟩,hms.below hW,hfs.below hW,hls.below hW⟩
 have HV0:Hid (Vss w lp a.L):=hls
 have HBO:Hid (a.from_.length=a.L.length):=hboth
 have HTS:Hid (∀ i,i < a.c.L.length->toldL a.from_ a.L (a.c.L.take (i+1))=toldL a.from_ a.L (a.c.L.take i) ++ (if inL a.from_ (txt a.c.L i) then [a.L.getD (idxN a.from_ (txt a.c.L i)) []] else [])):=fun i hi=>toldL_succ hi
 have HTL:Hid (∀ i,(toldL a.from_ a.L (a.c.L.take i)).length<=a.c.L.length):=fun i=>Nat.le_trans (toldL_len _ _ _) (by rw [List.length_take];omega)
 have HTN:Hid (a.c.L.take a.c.L.length=a.c.L):=List.take_length
 have HIH:Hid (∀ (s:ByteArray) W,Below w.heap.size w W->s ∈ a.from_->Calls Tryz.prog 46 #[.slice fp a.from_.length fc,.string s] W fun e w'=>e=.returned (.int .i64 ((idxN a.from_ s:Nat):Int))/\w'=W):=fun s W hW hs=>index_hit fp a.from_ fc s W (by omega) (hfs.below hW) hs
 have HIM:Hid (∀ (s:ByteArray) W,Below w.heap.size w W->s ∉ a.from_->Calls Tryz.prog 46 #[.slice fp a.from_.length fc,.string s] W fun e w'=>e=.returned (.int .i64 (-1))/\w'=W):=fun s W hW hs=>index_miss fp a.from_ fc s W (by omega) (hfs.below hW) hs
 clear h hms hmb hfs hls hfn hmn hboth
 obtain⟨⟨c7,c14,c15⟩,_⟩:=HALL.out w (Below.refl _ _)
 go_enter Tryz.func49,Tryz.ntmps49
 go_wp2
 go_loopw [3,4] (fun v x wr=>∃ i:Nat,i<=a.c.L.length/\x=.int .i64 i/\(∃ vals,OwnV wr w.heap.size 55 v vals/\VsVals w vals (toldL a.from_ a.L (a.c.L.take i)))/\Below w.heap.size w wr) (fun _ x _=>a.c.L.length - (intOf x).toNat)
 case atStart=>exact⟨0,Nat.zero_le _,rfl,⟨[],OwnV.nil _ _ _,rfl,fun i hi=>absurd hi (Nat.not_lt_zero _)⟩,Below.refl _ _⟩
 case round =>
  obtain⟨i,hi,rfl,⟨vals,hO,hvv⟩,hB⟩:=hrel
  obtain⟨w1,rfl⟩:∃ w1,w1=wr:=⟨_,rfl⟩
  obtain⟨v,rfl⟩:∃ v,v=u3:=⟨_,rfl⟩
  have HO:Hid (OwnV w1 w.heap.size 55 v vals):=hO
  have HVV:Hid (VsVals w vals (toldL a.from_ a.L (a.c.L.take i))):=hvv
  have HB:Hid (Below w.heap.size w w1):=hB
  have hvl:vals.length<=1000:=by rw [hvv.1];have:=HTL.out i;omega
  obtain⟨⟨d7,d14,d15⟩,hst,_,_⟩:=HALL.out w1 hB
  have hz1:w.heap.size<=w1.heap.size:=hB.size
  clear hO hvv c7 c14 c15
  by_cases hil:i < a.c.L.length
  ·rcases hst with h0 | ⟨b,o,hpp,hblt,hcs⟩
   ·rw [h0] at hil;exact absurd hil (Nat.not_lt_zero _)
   have q1:=hcs i hil
   have HTI:=HTS.out i hil
   have HIH1:=HIH.out (txt a.c.L i)
   have HIM1:=HIM.out (txt a.c.L i)
   subst hpp
   clear hcs hB
   generalize txt a.c.L i=t at *
   by_cases hin:t ∈ a.from_
   ·rw [if_pos (inL_iff.2 hin)] at HTI
    have hix:idxN a.from_ t < a.L.length:=by rw [<- HBO.out];exact idxN_lt' hin
    have HIX:Hid (∀ W,Below w.heap.size w W->Calls Tryz.prog 46 #[.slice fp a.from_.length fc,.string t] W fun e w'=>e=.returned (.int .i64 ((idxN a.from_ t:Nat):Int))/\w'=W):=fun W hW=>HIH1 W hW hin
    rcases HV0.out with h0 | ⟨vb,vo,hvp,hvlt,hvc⟩
    ·rw [h0] at hix;exact absurd hix (Nat.not_lt_zero _)
    obtain⟨rq,rc,hrcell,hrrec,hrle,hrn⟩:=hvc _ hix
    have HTJ:Hid (toldL a.from_ a.L (a.c.L.take (i+1))=toldL a.from_ a.L (a.c.L.take i) ++ [a.L.getD (idxN a.from_ t) []]):=HTI
    have HNV:Hid (VsVals w (vals ++ [.slice rq (a.L.getD (idxN a.from_ t) []).length rc]) (toldL a.from_ a.L (a.c.L.take i) ++ [a.L.getD (idxN a.from_ t) []])):=HVV.out.snoc hrrec hrle hrn
    have r1:w1.cell? ⟨vb,vo+idxN a.from_ t,none⟩=some (.slice rq (a.L.getD (idxN a.from_ t) []).length rc):=(HB.out.cell (p:=⟨vb,vo+idxN a.from_ t,none⟩) hvlt).trans hrcell
    subst hvp
    clear hvc hrcell hrrec HIH1 HIM1 HTI HIH HIM HTS
    generalize a.L.getD (idxN a.from_ t) []=row at *
    generalize idxN a.from_ t=ix at *
    go_wp2
    refine wp_region_still_tail 12 (by kernel_rfl) (by kernel_rfl) ?_
    simp only [List.take_succ_cons,List.take_zero,List.drop_succ_cons,List.drop_zero]
    still_step
    still_step
    still_step
    still_step
    still_step
    still_step
    still_step
    still_step
    still_step
    still_step
    still_step
    still_step
    refine wpStill_nil ?_
    obtain⟨w2,hw2⟩:∃ w2,w2=w1.drewN 1:=⟨_,rfl⟩
    have hb12:Below w1.heap.size w1 w2:=by rw [hw2];exact below_drewN (Below.refl _ _) 1
    have HIX2:=HIX.out w2 (HB.out.trans (hb12.mono HB.out.size))
    have HW2:Hid (w2=w1.drewN 1):=hw2
    have HO2:Hid (OwnV w2 w.heap.size 55 v vals):=OwnV.kept (row:=none) HO.out ⟨hb12.os,hb12.tape,hb12.output,hb12.size,fun k hk _=>hb12.block k hk⟩ (by cases v.ownBlock <;> simp)
    have HB2:Hid (Below w.heap.size w w2):=HB.out.trans (hb12.mono HB.out.size)
    obtain⟨⟨e7,e14,e15⟩,_⟩:=HALL.out w2 HB2.out
    have r2:w2.cell? ⟨vb,vo+ix,none⟩=some (.slice rq row.length rc):=(hb12.cell (p:=⟨vb,vo+ix,none⟩) (Nat.lt_of_lt_of_le hvlt hz1)).trans r1
    have hz2:w.heap.size<=w2.heap.size:=HB2.out.size
    clear hw2 hb12 HO HB d7 d14 d15 q1 r1 HIX
    change wpList _ _ _ _ _ (w1.drewN 1)
    rw [<- HW2.out]
    go_wp2_with (first | (go_at_call 46;refine HIX2.mono ?_;rintro e w3 ⟨rfl,hw3⟩;rw [hw3];clear hw3 w3) | (at_builtin;refine wpList_append_val rfl (.tmp 31) (.tmp 39) 44 rfl w.heap.size 55 i0 (.slice none 0 0) 24 Tryz.underlying44 hi0 hy0 rfl hy1 hyb (by decide) v vals rfl (OwnV.kept (row:=none) HO2.out ⟨rfl,rfl,rfl,by simp,fun k hk _=>Below.heap_alloc _ _ k hk⟩ (by cases v.ownBlock <;> simp)) ⟨w2.heap.size,0,none⟩ 1 (.slice rq row.length rc) rfl rfl (by rw [World.cell?_alloc_at _ _ _ _ rfl];rfl) (by omega) (by simp;omega) ?_;intro v4 w4 hO4 hg4 _))
    have HO4:Hid (OwnV w4 w.heap.size 55 v4 (vals ++ [.slice rq row.length rc])):=hO4
    have HB4:Hid (Below w.heap.size w w4):=(HB2.out.alloc hz2 _).grown hg4 (by simp;omega) (fun k hk=>(HO2.out.block hk).1)
    clear hO4 hg4 HO2 HB2 e7 e14 e15 r2
    go_wp2
    go_roundw
    case rel=>exact⟨i+1,by omega,by go_num,⟨_,HO4.out,by rw [HTJ.out];exact HNV.out⟩,HB4.out⟩
    case measure=>simp [intOf];omega
   ·rw [if_neg (fun h=>hin (inL_iff.1 h)),List.append_nil] at HTI
    have HIX:Hid (∀ W,Below w.heap.size w W->Calls Tryz.prog 46 #[.slice fp a.from_.length fc,.string t] W fun e w'=>e=.returned (.int .i64 (-1))/\w'=W):=fun W hW=>HIM1 W hW hin
    have HTJ:Hid (toldL a.from_ a.L (a.c.L.take (i+1))=toldL a.from_ a.L (a.c.L.take i)):=HTI
    clear HIH1 HIM1 HTI HIH HIM HTS
    go_wp2
    refine wp_region_still_tail 12 (by kernel_rfl) (by kernel_rfl) ?_
    simp only [List.take_succ_cons,List.take_zero,List.drop_succ_cons,List.drop_zero]
    still_step
    still_step
    still_step
    still_step
    still_step
    still_step
    still_step
    still_step
    still_step
    still_step
    still_step
    still_step
    refine wpStill_nil ?_
    obtain⟨w2,hw2⟩:∃ w2,w2=w1.drewN 1:=⟨_,rfl⟩
    have hb12:Below w1.heap.size w1 w2:=by rw [hw2];exact below_drewN (Below.refl _ _) 1
    have HIX2:=HIX.out w2 (HB.out.trans (hb12.mono HB.out.size))
    have HW2:Hid (w2=w1.drewN 1):=hw2
    have HO2:Hid (OwnV w2 w.heap.size 55 v vals):=OwnV.kept (row:=none) HO.out ⟨hb12.os,hb12.tape,hb12.output,hb12.size,fun k hk _=>hb12.block k hk⟩ (by cases v.ownBlock <;> simp)
    have HB2:Hid (Below w.heap.size w w2):=HB.out.trans (hb12.mono HB.out.size)
    clear hw2 hb12 HO HB d7 d14 d15 q1 HIX
    change wpList _ _ _ _ _ (w1.drewN 1)
    rw [<- HW2.out]
    go_wp2_with (go_at_call 46;refine HIX2.mono ?_;rintro e w3 ⟨rfl,hw3⟩;rw [hw3];clear hw3 w3)
    go_roundw
    case rel=>exact⟨i+1,by omega,by go_num,⟨_,HO2.out,by rw [HTJ.out];exact HVV.out⟩,HB2.out⟩
    case measure=>simp [intOf];omega
  ·have hie:a.c.L.take i=a.c.L:=List.take_of_length_le (by omega)
   have HVW:Hid (VsVals w vals (toldL a.from_ a.L a.c.L)):=by have:=HVV.out;rw [hie] at this;exact this
   obtain⟨pw,cw,hvw,hvss⟩:=HVW.out.vss HB.out HO.out
   subst hvw
   have HVS:Hid (Vss w1 pw (toldL a.from_ a.L a.c.L)):=hvss
   clear hie hvss HO HVV HVW
   go_wp2
   go_ret
   exact⟨⟨pw,cw,rfl,HVS.out⟩,HB.out⟩
end Go.Proofs.YtmhoiodfppdlnaaGreatDoor
