import Derived.Test.YtmhoiodfppdlnaaGreatDoorAq18
import Derived.Test.YtmhoiodfppdlnaaGreatDoorAq25
import Derived.Test.YtmhoiodfppdlnaaGreatDoorAq26
import Derived.Test.YtmhoiodfppdlnaaGreatDoorAq31
import Derived.Test.YtmhoiodfppdlnaaGreatDoorAq36
import Derived.Test.YtmhoiodfppdlnaaGreatDoorAq15
import Derived.Test.YtmhoiodfppdlnaaGreatDoorAq6
import Derived.Test.YtmhoiodfppdlnaaGreatDoorAq33
namespace Go.Proofs.YtmhoiodfppdlnaaGreatDoor
open Go.RowKit
variable {w w':World} {B:Nat} {S:Nat->Prop} {ab:Nat} {a:MAsk} {mv nv fv lv:Value} {vs:List Value}
theorem rhear_all (h:RAk w B S ab a mv nv fv lv vs)(x:Msg×Lv)(hf:AFine a)(hL:HasL w x)(hsm:a.small x.1)(hrec:∀ W:World,w.heap.size<=W.heap.size->(∀ k,k < w.heap.size->¬ S k->W.heap[k]?=w.heap[k]?)->Rec verE W x.2.1 x.1.L) :
 Calls Tryz.prog 20 #[.pointer (some ⟨ab,0,none⟩),.agg #[.string x.1.from_,.string x.1.to_,.string x.1.kind,.string x.1.key,.int .i64 x.1.op,.int .i64 x.1.config,.bool x.1.shut,.slice x.2.1 x.2.2.1 x.2.2.2]] w fun e w'=>(∃ p c,e=.returned (.slice p (a.hear x.1).2.length c)/\MsgsAt w' p (a.hear x.1).2)/\∃ S' fv' lv' vs',RAk w' B S' ab (a.hear x.1).1 mv nv fv' lv' vs'/\Upd S S' w w':=by
 obtain⟨⟨h1,h2,h3⟩,h4,_,_,hnd⟩:=cfgF_fine hf.cfg
 have hfl:a.from_.length<=12:=by have:=length_le_sub hf.nodup hf.sub;omega
 have hLl:a.L.length<=12:=by rw [<- hf.both];exact hfl
 obtain⟨b1,b2,b3,b4,b5⟩:=bulk_from hsm
 cases ht:a.takes x.1 with
 | false =>
  rw [hear_no ht]
  exact(rhear_no h x (by omega) (by omega) ht).mono fun e w' hq=>⟨⟨none,0,hq.1,MsgsAt.nil _ _⟩,S,_,_,_,h.below hq.2,Upd.of_below hq.2⟩
 | true =>
  obtain⟨hop,_,_⟩:=takes_facts hf.st ht
  cases hsh:x.1.shut with
  | true =>
   rw [hear_shut ht hsh hf.st]
   have:=rhear_refused h x (by omega) (by omega) ht hsh hf.st
   rw [hsh] at this
   exact this.mono fun e w' hq=>⟨⟨none,0,hq.1,MsgsAt.nil _ _⟩,S,_,_,_,hq.2.1,hq.2.2⟩
  | false =>
   by_cases hen:a.from_.length+1 < enoughN a.c
   ·have hmo:=rhear_more h x (by omega) (by omega) ht hsh hen ⟨h1,h2,h3⟩ (by omega) (by omega) hL.len hL.empty hrec
    rw [hsh] at hmo
    have hl:(a.heard x.1).from_.length < enoughN a.c:=by show(a.from_ ++ [x.1.from_]).length < _;simpa using hen
    rcases hop with hs | hs
    ·rw [hear_told ht hsh hs]
     have e:tolR (a.heard x.1)=(a.heard x.1,[]):=if_pos hl
     rw [e]
     exact hmo.mono fun e w' hq=>⟨⟨none,0,hq.1,MsgsAt.nil _ _⟩,hq.2⟩
    ·rw [hear_kept ht hsh hs,if_pos hl]
     exact hmo.mono fun e w' hq=>⟨⟨none,0,hq.1,MsgsAt.nil _ _⟩,hq.2⟩
   ·rcases hop with hs | hs
    ·rw [hear_told ht hsh hs]
     have hb':(a.heard x.1).from_.length=(a.heard x.1).L.length:=by show(a.from_ ++ [x.1.from_]).length=(a.L ++ [x.1.L]).length;simp [hf.both]
     have hn':(a.heard x.1).from_.Nodup:=by
      obtain⟨_,_,hx⟩:=takes_facts hf.st ht
      show(a.from_ ++ [x.1.from_]).Nodup
      rw [List.nodup_append]
      exact⟨hf.nodup,by simp,fun y hy z hz=>by rw [List.mem_singleton.1 hz];intro e;exact hx (e ▸ hy)⟩
     have htl:(toldL (a.heard x.1).from_ (a.heard x.1).L a.c.L).flatten.length<=1000:=by
      rw [<- toldP_flat (a.heard x.1) a.c.L]
      exact Nat.le_trans (toldP_le hb' hn' hnd) (by omega)
     cases hp:a.put with
     | true =>
      have:=rhear_put h x (by omega) (by omega) ht hsh hs hp hf.still hf.both h4 hf.text (by omega) htl (by omega) ⟨h1,h2,h3⟩ (by omega) (by omega) hL.len hL.empty hrec
      rw [hsh] at this
      exact this
     | false =>
      have:=rhear_get h x (by omega) (by omega) ht hsh hs hp hf.still hf.both h4 hf.text (by omega) htl (by omega) ⟨h1,h2,h3⟩ (by omega) (by omega) hL.len hL.empty hrec
      rw [hsh] at this
      exact this
    ·have hl:¬ (a.heard x.1).from_.length < enoughN a.c:=by show ¬ (a.from_ ++ [x.1.from_]).length < _;simpa using hen
     rw [hear_kept ht hsh hs,if_neg hl]
     have:=rhear_done h x (by omega) (by omega) ht hsh hs (by omega) ⟨h1,h2,h3⟩ (by omega) (by omega) hL.len hL.empty hrec
     rw [hsh] at this
     exact this.mono fun e w' hq=>⟨⟨none,0,hq.1,MsgsAt.nil _ _⟩,hq.2⟩
end Go.Proofs.YtmhoiodfppdlnaaGreatDoor
namespace Go.Proofs.YtmhoiodfppdlnaaGreatDoor
open Go.RowKit
def Mid (Ak:World->Nat->Nat->(Nat->Prop)->MAsk->Prop)(B0 B h ab:Nat)(mv nv:Value)(M:Nat)(W:World)(a a':MAsk):Prop :=
 ∃ S S' fv lv vs,Ak W B h S a'/\RAk W B0 S' ab a mv nv fv lv vs/\(∀ k,S k->¬ S' k)/\(∀ k,S' k->B<=k/\k < M)/\B<=W.heap.size/\B0<=B/\M<=W.heap.size
variable {ad:Nat->Addr} {X:World->Prop} {Ak:World->Nat->Nat->(Nat->Prop)->MAsk->Prop} {B0 B h ab M:Nat} {mv nv:Value} {w0 W W':World} {a a':MAsk}
theorem Mid.below (hO:AskOk ad X Ak)(hm:Mid Ak B0 B h ab mv nv M W a a')(hb:Below W.heap.size W W'):Mid Ak B0 B h ab mv nv M W' a a':=by
 obtain⟨S,S',fv,lv,vs,h1,h2,h3,h4,h5,h6,h7⟩:=hm
 exact⟨S,S',fv,lv,vs,hO.keep h1 (hb.mono h5) (fun k hk=>hb.block k (hO.inS h1 k hk).2),h2.below hb,h3,h4,Nat.le_trans h5 hb.size,h6,Nat.le_trans h7 hb.size⟩
theorem Mid.up (hm:Mid Ak B0 B h ab mv nv M W a a'):Mid Ak B0 B h ab mv nv W.heap.size W a a':=by
 obtain⟨S,S',fv,lv,vs,h1,h2,h3,h4,h5,h6,h7⟩:=hm
 exact⟨S,S',fv,lv,vs,h1,h2,h3,fun k hk=>⟨(h4 k hk).1,(h2.inB k hk).2⟩,h5,h6,Nat.le_refl _⟩
theorem Mid.cell13 (hm:Mid Ak B0 B h ab mv nv M W a a'):W.cell? ⟨ab,13,none⟩=some (.string a.st.word)/\W.cell? ⟨ab,19,none⟩=some (.bool a.found)/\W.cell? ⟨ab,16,none⟩=some (.int .i64 a.tag.1)/\W.cell? ⟨ab,17,none⟩=some (.int .i64 a.tag.2)/\W.cell? ⟨ab,18,none⟩=some (.string a.text):=by
 obtain⟨S,S',fv,lv,vs,h1,h2,_⟩:=hm
 exact⟨h2.cell 13,h2.cell 19,h2.cell 16,h2.cell 17,h2.cell 18⟩
theorem mid_hear (hO:AskOk ad X Ak)(hG:∀ V:World,w0.heap.size<=V.heap.size->(∀ k,k < w0.heap.size->V.heap[k]?=w0.heap[k]?)->ErrsQ V ad/\X V)(hw:w0.heap.size=B0)(hb0:Below w0.heap.size w0 W)(x:Msg×Lv)(hL:HasL W x)(hsm:a.small x.1)(hv:∀ v ∈ x.1.L,VerI64 v)(hm:Mid Ak B0 B h ab mv nv M W a a) :
 Calls Tryz.prog 18 #[.pointer (some ⟨h,0,none⟩),msgA x.1 (lvV x.2)] W fun e w'=>∃ p c,e=.returned (.slice p (a.hear x.1).2.length c)/\MsgsN M w' p (a.hear x.1).2/\Mid Ak B0 B h ab mv nv M w' a (a.hear x.1).1/\Below w0.heap.size w0 w':=by
 obtain⟨S,S',fv,lv,vs,h1,h2,h3,h4,h5,h6,h7⟩:=hm
 have hSB:∀ k,S k->w0.heap.size<=k:=fun k hk=>by have:=(hO.inS h1 k hk).1;omega
 refine(hO.hear x h1 hL hsm hv (fun V hs hk=>hG V (Nat.le_trans hb0.size hs) (fun k hk0=>(hk k (Nat.lt_of_lt_of_le hk0 hb0.size) (fun hS=>by have:=hSB k hS;omega)).trans (hb0.block k hk0)))).mono fun e w' hq=>?_
 obtain⟨⟨p,c,e1,e2⟩,S1,g1,g2⟩:=hq
 have hbB:Below B0 W w':=⟨g2.os,g2.tape,g2.output,g2.size,fun k hk=>g2.block k (Nat.lt_of_lt_of_le hk (Nat.le_trans h6 h5)) (fun hS=>by have:=hSB k hS;omega)⟩
 refine⟨p,c,e1,e2.mono h7,⟨S1,S',fv,lv,vs,g1,h2.keep hbB (fun k hk=>g2.block k (h2.inB k hk).2 (fun hS=>h3 k hS hk)),fun k hk hk'=>?_,h4,Nat.le_trans h5 g2.size,h6,Nat.le_trans h7 g2.size⟩,hb0.trans (hw ▸ hbB)⟩
 rcases g2.new k hk with hk | hk
 ·exact h3 k hk hk'
 ·have:=(h2.inB k hk').2
  omega
theorem mid_rhear (hO:AskOk ad X Ak)(hw:w0.heap.size=B0)(hb0:Below w0.heap.size w0 W)(x:Msg×Lv)(hf:AFine a)(hL:HasL w0 x)(hsm:a.small x.1){p:Option Addr}{l:List Msg}(hp:MsgsN M W p l)(hm:Mid Ak B0 B h ab mv nv M W a (a.hear x.1).1) :
 Calls Tryz.prog 20 #[.pointer (some ⟨ab,0,none⟩),.agg #[.string x.1.from_,.string x.1.to_,.string x.1.kind,.string x.1.key,.int .i64 x.1.op,.int .i64 x.1.config,.bool x.1.shut,.slice x.2.1 x.2.2.1 x.2.2.2]] W fun e w'=>∃ q d,e=.returned (.slice q (a.hear x.1).2.length d)/\(MsgsAt w' q (a.hear x.1).2/\MsgsAt w' p l)/\(Mid Ak B0 B h ab mv nv w'.heap.size w' (a.hear x.1).1 (a.hear x.1).1/\Below w0.heap.size w0 w'):=by
 obtain⟨S,S',fv,lv,vs,h1,h2,h3,h4,h5,h6,h7⟩:=hm
 refine(rhear_all h2 x hf (hL.below hb0) hsm (fun V hs hk=>?_)).mono fun e w' hq=>?_
 ·rcases hL.recs with e0 | ⟨b,o,e1,e2,e3⟩
  ·exact Or.inl e0
  ·refine Or.inr ⟨b,o,e1,by have:=hb0.size;omega,fun j y hy jj u hu=>?_⟩
   rw [World.cell?_of_block (a:=⟨b,o+j*verE.k+jj,none⟩) ((hk b (Nat.lt_of_lt_of_le e2 hb0.size) (fun hS=>by have:=(h4 b hS).1;omega)).trans (hb0.block b e2))]
   exact e3 j y hy jj u hu
 ·obtain⟨⟨q,d,e1,e2⟩,S2,fv2,lv2,vs2,g1,g2⟩:=hq
  have hbB:Below B W w':=⟨g2.os,g2.tape,g2.output,g2.size,fun k hk=>g2.block k (Nat.lt_of_lt_of_le hk h5) (fun hS=>by have:=(h4 k hS).1;omega)⟩
  refine⟨q,d,e1,⟨e2,hp.upd g2.size (fun k hk1 hk2=>g2.block k hk2 (fun hS=>by have:=(h4 k hS).2;omega))⟩,⟨S,S2,fv2,lv2,vs2,hO.keep h1 hbB (fun k hk=>g2.block k (hO.inS h1 k hk).2 (h3 k hk)),g1,fun k hk hk'=>?_,fun k hk=>⟨?_,(g1.inB k hk).2⟩,Nat.le_trans h5 g2.size,h6,Nat.le_refl _⟩,hb0.trans (hbB.mono (by omega))⟩
  ·rcases g2.new k hk' with hk' | hk'
   ·exact h3 k hk hk'
   ·have:=(hO.inS h1 k hk).2
    omega
  ·rcases g2.new k hk with hk | hk
   ·exact(h4 k hk).1
   ·omega
theorem hear_bulk (a:MAsk)(m:Msg):bulkV (a.hear m).1.L.flatten<=bulkV a.L.flatten+bulkN m:=by
 have hh:bulkV (a.heard m).L.flatten=bulkV a.L.flatten+bulkV m.L:=by
  show bulkV (a.L ++ [m.L]).flatten=_
  unfold bulkV
  rw [List.flatten_append,List.map_append,List.sum_append]
  simp
 have hb:bulkV m.L<=bulkN m:=by unfold bulkN;omega
 unfold MAsk.hear
 split
 ·exact Nat.le_add_right _ _
 ·split
  ·exact Nat.le_add_right _ _
  ·split
   ·rw [hh];omega
   ·split
    ·show bulkV (a.heard m).L.flatten<=_
     rw [hh];omega
    ·split
     ·show bulkV (a.heard m).found_.L.flatten<=_
      have e:(a.heard m).found_.L=(a.heard m).L:=by unfold MAsk.found_;split <;> rfl
      rw [e,hh];omega
     ·show bulkV (a.heard m).found_.keeps.L.flatten<=_
      have e:(a.heard m).found_.keeps.L=[]:=by unfold MAsk.keeps;split <;> rfl
      rw [e]
      exact Nat.zero_le _
end Go.Proofs.YtmhoiodfppdlnaaGreatDoor
