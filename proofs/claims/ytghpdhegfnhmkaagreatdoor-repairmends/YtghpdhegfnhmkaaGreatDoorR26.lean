import Derived.Test.YtghpdhegfnhmkaaGreatDoorR24
import Derived.Test.YtghpdhegfnhmkaaGreatDoorR0
namespace Go.Proofs.YtghpdhegfnhmkaaGreatDoor
open Go.RowKit
structure Shl where
 no:Bool
 L:List Ver
 lp:Option Addr
 lc:Nat
def shlC (x:Shl):List Value:=[.bool x.no,.slice x.lp x.L.length x.lc]
def shlE:Enc Shl:=⟨2,by decide,shlC,fun _=>rfl,fun x u hu=>by simp [shlC] at hu;rcases hu with rfl | rfl <;> rfl⟩
def ShlsAt (W:World) (p:Option Addr) (l:List Shl):Prop:=Rec shlE W p l/\∀ x ∈ l,Rec verE W x.lp x.L
theorem ShlsAt.below {w w':World} {p:Option Addr} {l:List Shl} (h:ShlsAt w p l) (hb:Below w.heap.size w w'):ShlsAt w' p l:=⟨h.1.below hb,fun x hx=>(h.2 x hx).below hb⟩
def putsL (key:ByteArray) (l:List Ver):List Kep:=l.foldl (fun K v=>(putR K false key v).2) []
def shlK (key:ByteArray) (x:Shl):Option (List Kep):=if x.no then none else some (putsL key x.L)
theorem putsL_succ {key:ByteArray} {l:List Ver} {j:Nat} (hj:j < l.length):putsL key (l.take (j+1))=(putR (putsL key (l.take j)) false key (verAt l j)).2:=by
 unfold putsL
 rw [List.take_add_one,verAt_get hj,List.foldl_append]
 rfl
def shlAt (l:List Shl) (i:Nat):Shl:=l.getD i ⟨true,[],none,0⟩
theorem shlAt_get {l:List Shl} {i:Nat} (hi:i < l.length):l[i]?=some (shlAt l i):=by
 unfold shlAt
 rw [List.getD_eq_getElem?_getD,List.getElem?_eq_getElem hi]
 rfl
theorem shl_cells {w:World} {p:Option Addr} {l:List Shl} (h:ShlsAt w p l) {i:Nat} (hi:i < l.length):∃ b o,p=some ⟨b,o,none⟩/\b < w.heap.size/\w.cell? ⟨b,o+i*2,none⟩=some (.bool (shlAt l i).no)/\w.cell? ⟨b,o+i*2+1,none⟩=some (.slice (shlAt l i).lp (shlAt l i).L.length (shlAt l i).lc)/\Rec verE w (shlAt l i).lp (shlAt l i).L:=by
 have hx:=shlAt_get hi
 rcases h.1 with h0 | ⟨b,o,hp,hlt,hc⟩
 ·rw [h0] at hi;exact absurd hi (Nat.not_lt_zero _)
 ·exact ⟨b,o,hp,hlt,hc i _ hx 0 _ rfl,hc i _ hx 1 _ rfl,h.2 _ (List.mem_of_getElem? hx)⟩
structure SvAt (W:World) (B:Nat) (Ka Kb:List (Option (List Kep))) (hp hm:Nat->Nat) (O:Nat->Option Nat) (Pa Pb:List (Option Nat)) (va vb:Value):Prop where
 sh:ShAt W B Ka Kb hp hm O
 ra:OwnR ptoE 35 W B va Pa
 rb:OwnR ptoE 66 W B vb Pb
 oa:∀ g,va.ownBlock=some g->O g=none
 ob:∀ g,vb.ownBlock=some g->O g=none
 ab:∀ g,va.ownBlock=some g->vb.ownBlock≠some g
 base:B<=W.heap.size
variable {W W':World} {B:Nat} {Ka Kb:List (Option (List Kep))} {hp hm:Nat->Nat} {O:Nat->Option Nat} {Pa Pb:List (Option Nat)} {va vb:Value}
theorem SvAt.below (h:SvAt W B Ka Kb hp hm O Pa Pb va vb) (hb:Below W.heap.size W W'):SvAt W' B Ka Kb hp hm O Pa Pb va vb :=
 ⟨h.sh.below hb,h.ra.kept hb,h.rb.kept hb,h.oa,h.ob,h.ab,Nat.le_trans h.base hb.size⟩
theorem SvAt.turn (h:SvAt W B Ka Kb hp hm O Pa Pb va vb) {Ka' Kb':List (Option (List Kep))} {hp' hm':Nat->Nat} {O':Nat->Option Nat} (hs:ShAt W' B Ka' Kb' hp' hm' O') (hU:Shf O O' W W'):SvAt W' B Ka' Kb' hp' hm' O' Pa Pb va vb :=
 ⟨hs,h.ra.sameE (fun k hk=>(hU.keepB (h.ra.block hk).2 (h.oa k hk)).1),h.rb.sameE (fun k hk=>(hU.keepB (h.rb.block hk).2 (h.ob k hk)).1),fun g hg=>(hU.keepB (h.ra.block hg).2 (h.oa g hg)).2,fun g hg=>(hU.keepB (h.rb.block hg).2 (h.ob g hg)).2,h.ab,Nat.le_trans h.base hU.size⟩
theorem ShAt.free (h:ShAt W B Ka Kb hp hm O) {b:Nat} (hb:W.heap.size<=b):O b=none:=by
 cases e:O b with
 | none=>rfl
 | some j=>have:=(h.dom b j e).2;omega
theorem getElem?_snoc_cases {α:Type} {l:List α} {x y:α} {i:Nat} (h:(l ++ [x])[i]?=some y):l[i]?=some y/\i < l.length∨i=l.length/\y=x:=by
 by_cases hi:i < l.length
 ·rw [List.getElem?_append_left hi] at h;exact Or.inl ⟨h,hi⟩
 ·rw [List.getElem?_append_right (by omega)] at h
  by_cases e:i - l.length=0
  ·rw [e] at h
   exact Or.inr ⟨by omega,by simpa using h.symm⟩
  ·rw [List.getElem?_eq_none (by simp;omega)] at h;cases h
theorem ShAt.snocNone (h:ShAt W B Ka Kb hp hm O):ShAt W B (Ka ++ [none]) (Kb ++ [none]) hp hm O where
 own:=fun i L hi=>by
  rcases getElem?_snoc_cases hi with ⟨h1,_⟩ | ⟨_,h1⟩
  ·exact h.own i L h1
  ·cases h1
 model:=fun i L hi=>by
  rcases getElem?_snoc_cases hi with ⟨h1,_⟩ | ⟨_,h1⟩
  ·exact h.model i L h1
  ·cases h1
 dom:=h.dom
def updN (f:Nat->Nat) (n v:Nat):Nat->Nat:=fun i=>if i=n then v else f i
theorem ptL_snoc (hp:Nat->Nat) (Ks:List (Option (List Kep))) (x:Option (List Kep)) (v:Nat):ptL (updN hp Ks.length v) (Ks ++ [x])=ptL hp Ks ++ [x.map fun _=>v]:=by
 unfold ptL
 rw [List.length_append,List.length_singleton,List.range_succ,List.map_append]
 congr 1
 ·refine List.map_congr_left fun i hi=>?_
  have hi':i < Ks.length:=List.mem_range.1 hi
  rw [List.getD_eq_getElem?_getD,List.getD_eq_getElem?_getD,List.getElem?_append_left hi']
  unfold updN
  rw [if_neg (by omega)]
 ·simp [updN]
theorem ptL_snocNone (hp:Nat->Nat) (Ks:List (Option (List Kep))):ptL hp (Ks ++ [none])=ptL hp Ks ++ [none]:=by
 unfold ptL
 rw [List.length_append,List.length_singleton,List.range_succ,List.map_append]
 congr 1
 ·refine List.map_congr_left fun i hi=>?_
  have hi':i < Ks.length:=List.mem_range.1 hi
  rw [List.getD_eq_getElem?_getD,List.getD_eq_getElem?_getD,List.getElem?_append_left hi']
 ·simp
theorem ShAt.fresh (h:ShAt W B Ka Kb hp hm O) (hB:B<=W.heap.size) (hl:Kb.length=Ka.length) {W2:World} (hW2:W2=(W.alloc (.cells #[.map none, .bool false] 38)).alloc (.cells #[.slice none 0 0,.bool false] 95)) :
 ∃ O',ShAt W2 B (Ka ++ [some []]) (Kb ++ [some []]) (updN hp Ka.length W.heap.size) (updN hm Ka.length (W.heap.size+1)) O'/\Shf O O' W W2:=by
 classical
 obtain ⟨W1,hW1⟩:∃ W1,W1=W.alloc (.cells #[.map none, .bool false] 38):=⟨_,rfl⟩
 rw [<- hW1] at hW2
 have hz1:W1.heap.size=W.heap.size+1:=by rw [hW1];simp
 have hz2:W2.heap.size=W.heap.size+2:=by rw [hW2];simp;omega
 have hb1:Below W.heap.size W W1:=by rw [hW1];exact (Below.refl _ _).alloc (Nat.le_refl _) _
 have hb2:Below W1.heap.size W1 W2:=by rw [hW2];exact (Below.refl _ _).alloc (Nat.le_refl _) _
 have hb:Below W.heap.size W W2:=hb1.trans (hb2.mono hb1.size)
 have hd:HdOf W2 W.heap.size (fun k=>k=W.heap.size) [] false:=by
  have:=hd_zero W
  rw [<- hW1] at this
  exact this.below hb2
 have hmh:MHold W2 (W.heap.size+1) [] false:=by
  rw [hW2,<- hz1]
  exact ⟨⟨none,0,by rw [World.cell?_alloc_at _ _ _ _ rfl];rfl,Rec.nil _ _,Nat.le_refl _,fun _=>⟨rfl,rfl⟩,fun b o e=>by cases e⟩,by rw [World.cell?_alloc_at _ _ _ _ rfl];rfl,World.frozen?_alloc_at _ _ _ _ rfl,World.frozen?_alloc_at _ _ _ _ rfl⟩
 let O':Nat->Option Nat:=fun k=>if k=W.heap.size then some (2*Ka.length) else if k=W.heap.size+1 then some (2*Ka.length+1) else if O k=some (2*Ka.length)∨O k=some (2*Ka.length+1) then none else O k
 have q1:O' W.heap.size=some (2*Ka.length):=if_pos rfl
 have q2:O' (W.heap.size+1)=some (2*Ka.length+1):=by show (if _ then _ else _)=_;rw [if_neg (by omega),if_pos rfl]
 have q3:∀ k j,k < W.heap.size->j < 2*Ka.length->(O' k=some j↔O k=some j):=fun k j hk hj=>by
  show (if k=W.heap.size then _ else if k=W.heap.size+1 then _ else if _ then none else O k)=some j↔_
  rw [if_neg (by omega),if_neg (by omega)]
  split
  ·rename_i hc
   constructor
   ·intro e;cases e
   ·intro e
    rcases hc with hc | hc <;> (rw [hc] at e;have:=Option.some.inj e;omega)
  ·exact Iff.rfl
 have q4:∀ k j,O' k=some j->k=W.heap.size/\j=2*Ka.length∨k=W.heap.size+1/\j=2*Ka.length+1∨O k=some j/\j≠2*Ka.length/\j≠2*Ka.length+1:=fun k j hk=>by
  change (if k=W.heap.size then _ else if k=W.heap.size+1 then _ else if _ then none else O k)=some j at hk
  split at hk
  ·rename_i e;exact Or.inl ⟨e,(Option.some.inj hk).symm⟩
  ·split at hk
   ·rename_i e;exact Or.inr (Or.inl ⟨e,(Option.some.inj hk).symm⟩)
   ·split at hk
    ·cases hk
    ·rename_i hc
     refine Or.inr (Or.inr ⟨hk,fun e=>hc (Or.inl (by rw [hk,e])),fun e=>hc (Or.inr (by rw [hk,e]))⟩)
 have q5:∀ i,i < Ka.length->(fun k=>O' k=some (2*i))=fun k=>O k=some (2*i):=fun i hi=>funext fun k=>propext ⟨fun e=>by
  rcases q4 k _ e with ⟨_,h1⟩ | ⟨_,h1⟩ | ⟨h1,_⟩
  ·omega
  ·omega
  ·exact h1,fun e=>(q3 k _ (h.dom k _ e).2 (by omega)).2 e⟩
 refine ⟨O',⟨fun i L hi=>?_,fun i L hi=>?_,fun k j hk=>?_⟩,⟨hb.os,hb.tape,hb.output,hb.size,fun k hk _=>hb.block k hk,fun k hk=>?_⟩⟩
 ·rcases getElem?_snoc_cases hi with ⟨h1,h2⟩ | ⟨h1,h2⟩
  ·rw [q5 i h2,show updN hp Ka.length W.heap.size i=hp i from if_neg (by omega)]
   exact (h.own i L h1).below hb
  ·subst h1
   obtain rfl:L=[]:=by injection h2
   have hset:(fun k=>O' k=some (2*Ka.length))=fun k=>k=W.heap.size:=funext fun k=>propext ⟨fun e=>by
    rcases q4 k _ e with ⟨h3,_⟩ | ⟨_,h3⟩ | ⟨_,h3,_⟩
    ·exact h3
    ·omega
    ·exact absurd rfl h3,fun e=>by rw [e];exact q1⟩
   rw [hset,show updN hp Ka.length W.heap.size Ka.length=W.heap.size from if_pos rfl]
   exact hd
 ·rcases getElem?_snoc_cases hi with ⟨h1,h2⟩ | ⟨h1,h2⟩
  ·obtain ⟨g1,g2,g3⟩:=h.model i L h1
   have hlt:=(h.dom _ _ g2).2
   rw [show updN hm Ka.length (W.heap.size+1) i=hm i from if_neg (by omega)]
   refine ⟨g1.below hb,(q3 _ _ hlt (by omega)).2 g2,fun hL b o n c e=>?_⟩
   have h4:=g3 hL b o n c (by rw [<- e];exact (hb.cell (p:=⟨hm i,0,none⟩) hlt).symm)
   exact (q3 _ _ (h.dom _ _ h4).2 (by omega)).2 h4
  ·rw [hl] at h1
   subst h1
   obtain rfl:L=[]:=by injection h2
   rw [show updN hm Ka.length (W.heap.size+1) Ka.length=W.heap.size+1 from if_pos rfl]
   exact ⟨hmh,q2,fun hL=>absurd rfl hL⟩
 ·rcases q4 k j hk with ⟨h1,_⟩ | ⟨h1,_⟩ | ⟨h1,_⟩
  ·omega
  ·omega
  ·have:=h.dom k j h1;omega
 ·cases e:O' k with
  | none=>exact absurd e hk
  | some j =>
   rcases q4 k j e with ⟨h1,_⟩ | ⟨h1,_⟩ | ⟨h1,_⟩
   ·exact Or.inr (by omega)
   ·exact Or.inr (by omega)
   ·exact Or.inl (by rw [h1];simp)
theorem ptainfo:(Tryz.prog.info? 35).map (fun i=>(i.zero,i.size,i.bytes))=some (some (.pointer none),ptoE.k,8):=by kernel_rfl
theorem ptbinfo:(Tryz.prog.info? 66).map (fun i=>(i.zero,i.size,i.bytes))=some (some (.pointer none),ptoE.k,8):=by kernel_rfl
theorem pto_one {W:World} {b:Nat} {x:Option Nat} (hb:b < W.heap.size) (hc:W.cell? ⟨b,0,none⟩=some (.pointer (x.map fun b=>⟨b,0,none⟩))):Rec ptoE W (some ⟨b,0,none⟩) [x] :=
 Or.inr ⟨b,0,rfl,hb,fun i y hi j u hu=>by
  obtain ⟨rfl,rfl⟩:i=0/\y=x:=by
   cases i with
   | zero=>exact ⟨rfl,by simpa using hi.symm⟩
   | succ i=>simp at hi
  cases j with
  | zero=>simp only [ptoE,List.getElem?_cons_zero,Option.some.injEq] at hu;rw [<- hu];exact hc
  | succ j=>simp [ptoE] at hu⟩
theorem SvAt.appA (h:SvAt W B Ka Kb hp hm O Pa Pb va vb) (hl:Pa.length<=8796093022206) {b:Nat} {x:Option Nat} (hb:b < W.heap.size) (hc:W.cell? ⟨b,0,none⟩=some (.pointer (x.map fun b=>⟨b,0,none⟩))) :
 ∃ v' w',(∀ ty,(Builtin.append_ #[34,34] ty #[va,.slice (some ⟨b,0,none⟩) 1 1]).run Tryz.prog W=.ok v' w')/\(∃ q n c,v'=.slice q n c)/\SvAt w' B Ka Kb hp hm O (Pa ++ [x]) Pb v' vb/\Below B W w':=by
 obtain ⟨v',w',h1,h2,h3,h4⟩:=append_recs (E:=ptoE) (w:=W) 34 35 _ 8 Tryz.underlying34 ptainfo rfl B va Pa h.ra (some ⟨b,0,none⟩) [x] 1 (pto_one hb hc) (fun e=>by cases e) (by show Pa.length+1<=_;unfold maxLen;omega) (by show (Pa.length+1)*8<=_;omega) h.base
 obtain ⟨q,c,hv,_⟩:=h2.form
 have hk:∀ k,O k≠none->w'.heap[k]?=W.heap[k]?:=fun k hk=>by
  cases e:O k with
  | none=>exact absurd e hk
  | some j=>exact h3.block k (h.sh.dom k j e).2 (fun e2=>by rw [h.oa k e2.symm] at e;cases e)
 refine ⟨v',w',h1,⟨q,_,c,hv⟩,⟨h.sh.keep h3.size hk,h2,h.rb.sameE (fun k hk=>h3.block k (h.rb.block hk).2 (fun e=>h.ab k e.symm hk)),fun g hg=>?_,h.ob,fun g hg=>?_,Nat.le_trans h.base h3.size⟩,⟨h3.os,h3.tape,h3.output,h3.size,fun k hk=>h3.block k (Nat.lt_of_lt_of_le hk h.base) (fun e=>by have:=(h.ra.block e.symm).1;omega)⟩⟩
 ·rcases h4 with h4 | ⟨k,h4,h5⟩
  ·rw [h4] at hg;exact h.oa g hg
  ·rw [h4] at hg;obtain rfl:=Option.some.inj hg;exact h.sh.free h5
 ·rcases h4 with h4 | ⟨k,h4,h5⟩
  ·rw [h4] at hg;exact h.ab g hg
  ·rw [h4] at hg;obtain rfl:=Option.some.inj hg
   exact fun e=>by have:=(h.rb.block e).2;omega
theorem SvAt.appB (h:SvAt W B Ka Kb hp hm O Pa Pb va vb) (hl:Pb.length<=8796093022206) {b:Nat} {x:Option Nat} (hb:b < W.heap.size) (hc:W.cell? ⟨b,0,none⟩=some (.pointer (x.map fun b=>⟨b,0,none⟩))) :
 ∃ v' w',(∀ ty,(Builtin.append_ #[55,55] ty #[vb,.slice (some ⟨b,0,none⟩) 1 1]).run Tryz.prog W=.ok v' w')/\(∃ q n c,v'=.slice q n c)/\SvAt w' B Ka Kb hp hm O Pa (Pb ++ [x]) va v'/\Below B W w':=by
 obtain ⟨v',w',h1,h2,h3,h4⟩:=append_recs (E:=ptoE) (w:=W) 55 66 _ 8 Tryz.underlying55 ptbinfo rfl B vb Pb h.rb (some ⟨b,0,none⟩) [x] 1 (pto_one hb hc) (fun e=>by cases e) (by show Pb.length+1<=_;unfold maxLen;omega) (by show (Pb.length+1)*8<=_;omega) h.base
 obtain ⟨q,c,hv,_⟩:=h2.form
 have hk:∀ k,O k≠none->w'.heap[k]?=W.heap[k]?:=fun k hk=>by
  cases e:O k with
  | none=>exact absurd e hk
  | some j=>exact h3.block k (h.sh.dom k j e).2 (fun e2=>by rw [h.ob k e2.symm] at e;cases e)
 refine ⟨v',w',h1,⟨q,_,c,hv⟩,⟨h.sh.keep h3.size hk,h.ra.sameE (fun k hk=>h3.block k (h.ra.block hk).2 (fun e=>h.ab k hk e.symm)),h2,h.oa,fun g hg=>?_,fun g hg e=>?_,Nat.le_trans h.base h3.size⟩,⟨h3.os,h3.tape,h3.output,h3.size,fun k hk=>h3.block k (Nat.lt_of_lt_of_le hk h.base) (fun e=>by have:=(h.rb.block e.symm).1;omega)⟩⟩
 ·rcases h4 with h4 | ⟨k,h4,h5⟩
  ·rw [h4] at hg;exact h.ob g hg
  ·rw [h4] at hg;obtain rfl:=Option.some.inj hg;exact h.sh.free h5
 ·rcases h4 with h4 | ⟨k,h4,h5⟩
  ·rw [h4] at e;exact h.ab g hg e
  ·rw [h4] at e;obtain rfl:=Option.some.inj e
   have:=(h.ra.block hg).2;omega
end Go.Proofs.YtghpdhegfnhmkaaGreatDoor
