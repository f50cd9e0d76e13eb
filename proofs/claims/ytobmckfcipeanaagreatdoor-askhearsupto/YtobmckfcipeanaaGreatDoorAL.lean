import Derived.Test.YtobmckfcipeanaaGreatDoorYG
import Derived.Test.YtobmckfcipeanaaGreatDoorYH
import Derived.Test.YtobmckfcipeanaaGreatDoorRHdW
import Derived.Test.YtobmckfcipeanaaGreatDoorRHpW
import Derived.Test.YtobmckfcipeanaaGreatDoorRHgW
import Derived.Test.YtobmckfcipeanaaGreatDoorPH
import Derived.Test.YtobmckfcipeanaaGreatDoorXB
import Derived.Test.YtobmckfcipeanaaGreatDoorYL
import Derived.Test.YtobmckfcipeanaaGreatDoorYK
import Derived.Test.YtobmckfcipeanaaGreatDoorZN
import Derived.Test.YtobmckfcipeanaaGreatDoorYI
import Derived.Deep.RegionHeld3
import Derived.Deep.CutRange
import Derived.BigQuiet
namespace Go.Proofs.YtobmckfcipeanaaGreatDoor
open Go.RowKit
variable {w w' : World} {B : Nat} {S : Nat -> Prop} {ab : Nat} {a : MAsk} {mv nv fv lv : Value} {vs : List Value}
theorem rhear_all (h : RAk w B S ab a mv nv fv lv vs) (x : Msg × Lv) (hf : AFine a) (hL : HasL w x) (hsm : a.small x.1) (hrec : ∀ W : World, w.heap.size <= W.heap.size -> (∀ k, k < w.heap.size -> ¬ S k -> W.heap[k]? = w.heap[k]?) -> Rec verE W x.2.1 x.1.L) :
 Calls Tryz.prog 19 #[.pointer (some ⟨ab, 0, none⟩), .agg #[.string x.1.from_, .string x.1.to_, .string x.1.kind, .string x.1.key, .int .i64 x.1.op, .int .i64 x.1.config, .bool x.1.shut, .slice x.2.1 x.2.2.1 x.2.2.2]] w fun e w' => (∃ p c, e = .returned (.slice p (a.hear x.1).2.length c) /\ MsgsAt w' p (a.hear x.1).2) /\ ∃ S' fv' lv' vs', RAk w' B S' ab (a.hear x.1).1 mv nv fv' lv' vs' /\ Upd S S' w w' := by
 obtain ⟨⟨h1, h2, h3⟩, h4, _, _, hnd⟩ := cfgF_fine hf.cfg
 have hfl : a.from_.length <= 12 := by have := length_le_sub hf.nodup hf.sub; omega
 have hLl : a.L.length <= 12 := by rw [<- hf.both]; exact hfl
 obtain ⟨b1, b2, b3, b4, b5⟩ := bulk_from hsm
 cases ht : a.takes x.1 with
 | false =>
  rw [hear_no ht]
  exact (rhear_no h x (by omega) (by omega) ht).mono fun e w' hq => ⟨⟨none, 0, hq.1, MsgsAt.nil _ _⟩, S, _, _, _, h.below hq.2, Upd.of_below hq.2⟩
 | true =>
  obtain ⟨hop, _, _⟩ := takes_facts hf.st ht
  cases hsh : x.1.shut with
  | true =>
   rw [hear_shut ht hsh hf.st]
   have := rhear_refused h x (by omega) (by omega) ht hsh hf.st
   rw [hsh] at this
   exact this.mono fun e w' hq => ⟨⟨none, 0, hq.1, MsgsAt.nil _ _⟩, S, _, _, _, hq.2.1, hq.2.2⟩
  | false =>
   by_cases hen : a.from_.length + 1 < enoughN a.c
   ·have hmo := rhear_more h x (by omega) (by omega) ht hsh hen ⟨h1, h2, h3⟩ (by omega) (by omega) hL.len hL.empty hrec
    rw [hsh] at hmo
    have hl : (a.heard x.1).from_.length < enoughN a.c := by show (a.from_ ++ [x.1.from_]).length < _; simpa using hen
    rcases hop with hs | hs
    ·rw [hear_told ht hsh hs]
     have e : tolR (a.heard x.1) = (a.heard x.1, []) := if_pos hl
     rw [e]
     exact hmo.mono fun e w' hq => ⟨⟨none, 0, hq.1, MsgsAt.nil _ _⟩, hq.2⟩
    ·rw [hear_kept ht hsh hs, if_pos hl]
     exact hmo.mono fun e w' hq => ⟨⟨none, 0, hq.1, MsgsAt.nil _ _⟩, hq.2⟩
   ·rcases hop with hs | hs
    ·rw [hear_told ht hsh hs]
     have hb' : (a.heard x.1).from_.length = (a.heard x.1).L.length := by show (a.from_ ++ [x.1.from_]).length = (a.L ++ [x.1.L]).length; simp [hf.both]
     have hn' : (a.heard x.1).from_.Nodup := by
      obtain ⟨_, _, hx⟩ := takes_facts hf.st ht
      show (a.from_ ++ [x.1.from_]).Nodup
      rw [List.nodup_append]
      exact ⟨hf.nodup, by simp, fun y hy z hz => by rw [List.mem_singleton.1 hz]; intro e; exact hx (e ▸ hy)⟩
     have htl : (toldL (a.heard x.1).from_ (a.heard x.1).L a.c.L).flatten.length <= 1000 := by
      rw [<- toldP_flat (a.heard x.1) a.c.L]
      exact Nat.le_trans (toldP_le hb' hn' hnd) (by omega)
     cases hp : a.put with
     | true =>
      have := rhear_put h x (by omega) (by omega) ht hsh hs hp hf.still hf.both h4 hf.text (by omega) htl (by omega) ⟨h1, h2, h3⟩ (by omega) (by omega) hL.len hL.empty hrec
      rw [hsh] at this
      exact this
     | false =>
      have := rhear_get h x (by omega) (by omega) ht hsh hs hp hf.still hf.both h4 hf.text (by omega) htl (by omega) ⟨h1, h2, h3⟩ (by omega) (by omega) hL.len hL.empty hrec
      rw [hsh] at this
      exact this
    ·have hl : ¬ (a.heard x.1).from_.length < enoughN a.c := by show ¬ (a.from_ ++ [x.1.from_]).length < _; simpa using hen
     rw [hear_kept ht hsh hs, if_neg hl]
     have := rhear_done h x (by omega) (by omega) ht hsh hs (by omega) ⟨h1, h2, h3⟩ (by omega) (by omega) hL.len hL.empty hrec
     rw [hsh] at this
     exact this.mono fun e w' hq => ⟨⟨none, 0, hq.1, MsgsAt.nil _ _⟩, hq.2⟩
end Go.Proofs.YtobmckfcipeanaaGreatDoor
namespace Go.Proofs.YtobmckfcipeanaaGreatDoor
open Go.RowKit
def Mid (Ak : World -> Nat -> Nat -> (Nat -> Prop) -> MAsk -> Prop) (B0 B h ab : Nat) (mv nv : Value) (M : Nat) (W : World) (a a' : MAsk) : Prop :=
 ∃ S S' fv lv vs, Ak W B h S a' /\ RAk W B0 S' ab a mv nv fv lv vs /\ (∀ k, S k -> ¬ S' k) /\ (∀ k, S' k -> B <= k /\ k < M) /\ B <= W.heap.size /\ B0 <= B /\ M <= W.heap.size
variable {ad : Nat -> Addr} {X : World -> Prop} {Ak : World -> Nat -> Nat -> (Nat -> Prop) -> MAsk -> Prop} {B0 B h ab M : Nat} {mv nv : Value} {w0 W W' : World} {a a' : MAsk}
theorem Mid.below (hO : AskOk ad X Ak) (hm : Mid Ak B0 B h ab mv nv M W a a') (hb : Below W.heap.size W W') : Mid Ak B0 B h ab mv nv M W' a a' := by
 obtain ⟨S, S', fv, lv, vs, h1, h2, h3, h4, h5, h6, h7⟩ := hm
 exact ⟨S, S', fv, lv, vs, hO.keep h1 (hb.mono h5) (fun k hk => hb.block k (hO.inS h1 k hk).2), h2.below hb, h3, h4, Nat.le_trans h5 hb.size, h6, Nat.le_trans h7 hb.size⟩
theorem Mid.up (hm : Mid Ak B0 B h ab mv nv M W a a') : Mid Ak B0 B h ab mv nv W.heap.size W a a' := by
 obtain ⟨S, S', fv, lv, vs, h1, h2, h3, h4, h5, h6, h7⟩ := hm
 exact ⟨S, S', fv, lv, vs, h1, h2, h3, fun k hk => ⟨(h4 k hk).1, (h2.inB k hk).2⟩, h5, h6, Nat.le_refl _⟩
theorem Mid.cell13 (hm : Mid Ak B0 B h ab mv nv M W a a') : W.cell? ⟨ab, 13, none⟩ = some (.string a.st.word) /\ W.cell? ⟨ab, 19, none⟩ = some (.bool a.found) /\ W.cell? ⟨ab, 16, none⟩ = some (.int .i64 a.tag.1) /\ W.cell? ⟨ab, 17, none⟩ = some (.int .i64 a.tag.2) /\ W.cell? ⟨ab, 18, none⟩ = some (.string a.text) := by
 obtain ⟨S, S', fv, lv, vs, h1, h2, _⟩ := hm
 exact ⟨h2.cell 13, h2.cell 19, h2.cell 16, h2.cell 17, h2.cell 18⟩
theorem mid_hear (hO : AskOk ad X Ak) (hG : ∀ V : World, w0.heap.size <= V.heap.size -> (∀ k, k < w0.heap.size -> V.heap[k]? = w0.heap[k]?) -> ErrsQ V ad /\ X V) (hw : w0.heap.size = B0) (hb0 : Below w0.heap.size w0 W) (x : Msg × Lv) (hL : HasL W x) (hsm : a.small x.1) (hv : ∀ v ∈ x.1.L, VerI64 v) (hm : Mid Ak B0 B h ab mv nv M W a a) :
 Calls Tryz.prog 17 #[.pointer (some ⟨h, 0, none⟩), msgA x.1 (lvV x.2)] W fun e w' => ∃ p c, e = .returned (.slice p (a.hear x.1).2.length c) /\ MsgsN M w' p (a.hear x.1).2 /\ Mid Ak B0 B h ab mv nv M w' a (a.hear x.1).1 /\ Below w0.heap.size w0 w' := by
 obtain ⟨S, S', fv, lv, vs, h1, h2, h3, h4, h5, h6, h7⟩ := hm
 have hSB : ∀ k, S k -> w0.heap.size <= k := fun k hk => by have := (hO.inS h1 k hk).1; omega
 refine (hO.hear x h1 hL hsm hv (fun V hs hk => hG V (Nat.le_trans hb0.size hs) (fun k hk0 => (hk k (Nat.lt_of_lt_of_le hk0 hb0.size) (fun hS => by have := hSB k hS; omega)).trans (hb0.block k hk0)))).mono fun e w' hq => ?_
 obtain ⟨⟨p, c, e1, e2⟩, S1, g1, g2⟩ := hq
 have hbB : Below B0 W w' := ⟨g2.os, g2.tape, g2.output, g2.size, fun k hk => g2.block k (Nat.lt_of_lt_of_le hk (Nat.le_trans h6 h5)) (fun hS => by have := hSB k hS; omega)⟩
 refine ⟨p, c, e1, e2.mono h7, ⟨S1, S', fv, lv, vs, g1, h2.keep hbB (fun k hk => g2.block k (h2.inB k hk).2 (fun hS => h3 k hS hk)), fun k hk hk' => ?_, h4, Nat.le_trans h5 g2.size, h6, Nat.le_trans h7 g2.size⟩, hb0.trans (hw ▸ hbB)⟩
 rcases g2.new k hk with hk | hk
 ·exact h3 k hk hk'
 ·have := (h2.inB k hk').2
  omega
theorem mid_rhear (hO : AskOk ad X Ak) (hw : w0.heap.size = B0) (hb0 : Below w0.heap.size w0 W) (x : Msg × Lv) (hf : AFine a) (hL : HasL w0 x) (hsm : a.small x.1) {p : Option Addr} {l : List Msg} (hp : MsgsN M W p l) (hm : Mid Ak B0 B h ab mv nv M W a (a.hear x.1).1) :
 Calls Tryz.prog 19 #[.pointer (some ⟨ab, 0, none⟩), .agg #[.string x.1.from_, .string x.1.to_, .string x.1.kind, .string x.1.key, .int .i64 x.1.op, .int .i64 x.1.config, .bool x.1.shut, .slice x.2.1 x.2.2.1 x.2.2.2]] W fun e w' => ∃ q d, e = .returned (.slice q (a.hear x.1).2.length d) /\ (MsgsAt w' q (a.hear x.1).2 /\ MsgsAt w' p l) /\ (Mid Ak B0 B h ab mv nv w'.heap.size w' (a.hear x.1).1 (a.hear x.1).1 /\ Below w0.heap.size w0 w') := by
 obtain ⟨S, S', fv, lv, vs, h1, h2, h3, h4, h5, h6, h7⟩ := hm
 refine (rhear_all h2 x hf (hL.below hb0) hsm (fun V hs hk => ?_)).mono fun e w' hq => ?_
 ·rcases hL.recs with e0 | ⟨b, o, e1, e2, e3⟩
  ·exact Or.inl e0
  ·refine Or.inr ⟨b, o, e1, by have := hb0.size; omega, fun j y hy jj u hu => ?_⟩
   rw [World.cell?_of_block (a := ⟨b, o + j * verE.k + jj, none⟩) ((hk b (Nat.lt_of_lt_of_le e2 hb0.size) (fun hS => by have := (h4 b hS).1; omega)).trans (hb0.block b e2))]
   exact e3 j y hy jj u hu
 ·obtain ⟨⟨q, d, e1, e2⟩, S2, fv2, lv2, vs2, g1, g2⟩ := hq
  have hbB : Below B W w' := ⟨g2.os, g2.tape, g2.output, g2.size, fun k hk => g2.block k (Nat.lt_of_lt_of_le hk h5) (fun hS => by have := (h4 k hS).1; omega)⟩
  refine ⟨q, d, e1, ⟨e2, hp.upd g2.size (fun k hk1 hk2 => g2.block k hk2 (fun hS => by have := (h4 k hS).2; omega))⟩, ⟨S, S2, fv2, lv2, vs2, hO.keep h1 hbB (fun k hk => g2.block k (hO.inS h1 k hk).2 (h3 k hk)), g1, fun k hk hk' => ?_, fun k hk => ⟨?_, (g1.inB k hk).2⟩, Nat.le_trans h5 g2.size, h6, Nat.le_refl _⟩, hb0.trans (hbB.mono (by omega))⟩
  ·rcases g2.new k hk' with hk' | hk'
   ·exact h3 k hk hk'
   ·have := (hO.inS h1 k hk).2
    omega
  ·rcases g2.new k hk with hk | hk
   ·exact (h4 k hk).1
   ·omega
theorem hear_bulk (a : MAsk) (m : Msg) : bulkV (a.hear m).1.L.flatten <= bulkV a.L.flatten + bulkN m := by
 have hh : bulkV (a.heard m).L.flatten = bulkV a.L.flatten + bulkV m.L := by
  show bulkV (a.L ++ [m.L]).flatten = _
  unfold bulkV
  rw [List.flatten_append, List.map_append, List.sum_append]
  simp
 have hb : bulkV m.L <= bulkN m := by unfold bulkN; omega
 unfold MAsk.hear
 split
 ·exact Nat.le_add_right _ _
 ·split
  ·exact Nat.le_add_right _ _
  ·split
   ·rw [hh]; omega
   ·split
    ·show bulkV (a.heard m).L.flatten <= _
     rw [hh]; omega
    ·split
     ·show bulkV (a.heard m).found_.L.flatten <= _
      have e : (a.heard m).found_.L = (a.heard m).L := by unfold MAsk.found_; split <;> rfl
      rw [e, hh]; omega
     ·show bulkV (a.heard m).found_.keeps.L.flatten <= _
      have e : (a.heard m).found_.keeps.L = [] := by unfold MAsk.keeps; split <;> rfl
      rw [e]
      exact Nat.zero_le _
end Go.Proofs.YtobmckfcipeanaaGreatDoor
namespace Go.Proofs.YtobmckfcipeanaaGreatDoor
open Go.RowKit
variable {ad : Nat -> Addr} {X : World -> Prop} {Ak : World -> Nat -> Nat -> (Nat -> Prop) -> MAsk -> Prop}
structure LawIn (ad : Nat -> Addr) (X : World -> Prop) (b : Bid) (p : Option Addr) (cap : Nat) (l : List Msg) (lp : Option Addr) (w : World) : Prop where
 errs : ∀ V : World, w.heap.size <= V.heap.size -> (∀ k, k < w.heap.size -> V.heap[k]? = w.heap[k]?) -> ErrsQ V ad /\ X V
 sent : ∀ V : World, Below w.heap.size w V -> Sent V ad
 strs : Strs w p b.c.L
 room : b.c.L.length <= cap
 empty : p = none -> b.c.L = [] /\ cap = 0
 ints : CfgIn b.c
 who : I64 b.who
 op : I64 b.op
 config : I64 b.config
 len : b.c.L.length <= maxLen
 size : ∀ x ∈ b.c.L, x.size <= maxLen
 much : weighM l <= 4611686018427387904
 msgs : MsgsAt w lp l
 vers : ∀ m ∈ l, ∀ v ∈ m.L, VerI64 v
theorem LawIn.ok {b : Bid} {p : Option Addr} {cap : Nat} {l : List Msg} {lp : Option Addr} {w V : World} (h : LawIn ad X b p cap l lp w) (hb : Below w.heap.size w V) : ErrsQ V ad /\ X V := h.errs V hb.size (fun k hk => hb.block k hk)
set_option maxRecDepth 10000 in
set_option maxHeartbeats 8000000 in
theorem askHears_long (hO : AskOk ad X Ak) (b : Bid) (p : Option Addr) (cap : Nat) (l : List Msg) (lp : Option Addr) (lcap : Nat) (w : World) (hi : LawIn ad X b p cap l lp w) (h1 : longC b.c = true) : Calls Tryz.prog 3 #[.agg #[.bool b.put, .int .i64 b.who, .int .i64 b.op, .int .i64 b.config, .int .i64 b.c.n, .int .i64 b.c.k, .slice p b.c.L.length cap, .string b.key, .string b.text], .slice lp l.length lcap] w fun e w' => e = .returned (.bool true) /\ Below w.heap.size w w' := by
 obtain ⟨w1, hw1⟩ : ∃ w1, w1 = w.alloc (.cells #[.bool b.put, .int .i64 b.who, .int .i64 b.op, .int .i64 b.config, .int .i64 b.c.n, .int .i64 b.c.k, .slice p b.c.L.length cap, .string b.key, .string b.text] 26) := ⟨_, rfl⟩
 have hb1 : Below w.heap.size w w1 := by rw [hw1]; exact (Below.refl _ _).alloc (Nat.le_refl _) _
 have hlt1 : w.heap.size < w1.heap.size := by rw [hw1]; simp
 have hbl1 : w1.heap[w.heap.size]? = some (.cells #[.bool b.put, .int .i64 b.who, .int .i64 b.op, .int .i64 b.config, .int .i64 b.c.n, .int .i64 b.c.k, .slice p b.c.L.length cap, .string b.key, .string b.text] 26 (0, 0)) := by
  rw [hw1]
  show (w.heap.push _)[w.heap.size]? = _
  simp
 have HCE : Hid (∀ W, Below w1.heap.size w1 W -> (W.cell? ⟨w.heap.size, 0, none⟩ = some (.bool b.put) /\ W.cell? ⟨w.heap.size, 1, none⟩ = some (.int .i64 b.who) /\ W.cell? ⟨w.heap.size, 2, none⟩ = some (.int .i64 b.op) /\ W.cell? ⟨w.heap.size, 3, none⟩ = some (.int .i64 b.config) /\ W.cell? ⟨w.heap.size, 4, none⟩ = some (.int .i64 b.c.n) /\ W.cell? ⟨w.heap.size, 5, none⟩ = some (.int .i64 b.c.k) /\ W.cell? ⟨w.heap.size, 6, none⟩ = some (.slice p b.c.L.length cap) /\ W.cell? ⟨w.heap.size, 7, none⟩ = some (.string b.key) /\ W.cell? ⟨w.heap.size, 8, none⟩ = some (.string b.text) /\ Below w1.heap.size w1 W)) := fun W hW => by
  have hb := (hW.block _ hlt1).trans hbl1
  exact ⟨(rblk_cell hb 0).1, (rblk_cell hb 1).1, (rblk_cell hb 2).1, (rblk_cell hb 3).1, (rblk_cell hb 4).1, (rblk_cell hb 5).1, (rblk_cell hb 6).1, (rblk_cell hb 7).1, (rblk_cell hb 8).1, hW⟩
 have HAS := asked_any hO w1 (fun V hV => (hi.ok (hb1.trans (hV.mono hb1.size))).1) (fun V hV => (hi.ok (hb1.trans (hV.mono hb1.size))).2)
 have HLC : Hid (∀ W, Below w1.heap.size w1 W -> Calls Tryz.prog 5 #[.agg #[.int .i64 b.c.n, .int .i64 b.c.k, .slice p b.c.L.length cap]] W fun e w' => e = .returned (.bool (longC b.c)) /\ Below w1.heap.size w1 w') := fun W hW => (longConfig_any b.c p cap W hi.len hi.size ((hi.strs.below hb1).below hW)).mono fun e w' hq => ⟨hq.1, hW.trans (hq.2.mono hW.size)⟩
 have HMF : Hid (∀ W, Below w1.heap.size w1 W -> Calls Tryz.prog 6 #[.slice lp l.length lcap] W fun e w' => e = .returned (.bool (fitsM l)) /\ Below w1.heap.size w1 w') := fun W hW => (messagesFit_any lp l lcap W hi.much ((hi.msgs.below hb1).below hW)).mono fun e w' hq => ⟨hq.1, hW.trans (hq.2.mono hW.size)⟩
 have HW1 : Hid (w1 = w.alloc (.cells #[.bool b.put, .int .i64 b.who, .int .i64 b.op, .int .i64 b.config, .int .i64 b.c.n, .int .i64 b.c.k, .slice p b.c.L.length cap, .string b.key, .string b.text] 26)) := hw1
 have HB1 : Hid (Below w.heap.size w w1) := hb1
 rw [h1] at HLC
 clear hi hO hw1 hb1 hlt1 hbl1 HMF
 go_enter Tryz.func3, Tryz.ntmps3
 go_wp2_with (first | rw [<- HW1.out] | fail)
 refine HAS.mono ?_
 rintro e w2 ⟨rfl, hb2⟩
 obtain ⟨d0, d1, d2, d3, d4, d5, d6, d7, d8, _⟩ := HCE.out w2 hb2
 have HB2 : Hid (Below w1.heap.size w1 w2) := hb2
 clear hb2 HAS
 go_wp2_with fail
 refine (HLC.out w2 HB2.out).mono ?_
 rintro e w3 ⟨rfl, hb3⟩
 clear d0 d1 d2 d3 d4 d5 d6 d7 d8
 obtain ⟨d0, d1, d2, d3, d4, d5, d6, d7, d8, _⟩ := HCE.out w3 hb3
 have HB3 : Hid (Below w1.heap.size w1 w3) := hb3
 clear hb3
 go_wp2
 go_ret
 exact ⟨rfl, HB1.out.trans (HB3.out.mono HB1.out.size)⟩
set_option maxRecDepth 10000 in
set_option maxHeartbeats 8000000 in
theorem askHears_key (hO : AskOk ad X Ak) (b : Bid) (p : Option Addr) (cap : Nat) (l : List Msg) (lp : Option Addr) (lcap : Nat) (w : World) (hi : LawIn ad X b p cap l lp w) (h1 : longC b.c = false) (h2 : 100 < b.key.size) : Calls Tryz.prog 3 #[.agg #[.bool b.put, .int .i64 b.who, .int .i64 b.op, .int .i64 b.config, .int .i64 b.c.n, .int .i64 b.c.k, .slice p b.c.L.length cap, .string b.key, .string b.text], .slice lp l.length lcap] w fun e w' => e = .returned (.bool true) /\ Below w.heap.size w w' := by
 obtain ⟨w1, hw1⟩ : ∃ w1, w1 = w.alloc (.cells #[.bool b.put, .int .i64 b.who, .int .i64 b.op, .int .i64 b.config, .int .i64 b.c.n, .int .i64 b.c.k, .slice p b.c.L.length cap, .string b.key, .string b.text] 26) := ⟨_, rfl⟩
 have hb1 : Below w.heap.size w w1 := by rw [hw1]; exact (Below.refl _ _).alloc (Nat.le_refl _) _
 have hlt1 : w.heap.size < w1.heap.size := by rw [hw1]; simp
 have hbl1 : w1.heap[w.heap.size]? = some (.cells #[.bool b.put, .int .i64 b.who, .int .i64 b.op, .int .i64 b.config, .int .i64 b.c.n, .int .i64 b.c.k, .slice p b.c.L.length cap, .string b.key, .string b.text] 26 (0, 0)) := by
  rw [hw1]
  show (w.heap.push _)[w.heap.size]? = _
  simp
 have HCE : Hid (∀ W, Below w1.heap.size w1 W -> (W.cell? ⟨w.heap.size, 0, none⟩ = some (.bool b.put) /\ W.cell? ⟨w.heap.size, 1, none⟩ = some (.int .i64 b.who) /\ W.cell? ⟨w.heap.size, 2, none⟩ = some (.int .i64 b.op) /\ W.cell? ⟨w.heap.size, 3, none⟩ = some (.int .i64 b.config) /\ W.cell? ⟨w.heap.size, 4, none⟩ = some (.int .i64 b.c.n) /\ W.cell? ⟨w.heap.size, 5, none⟩ = some (.int .i64 b.c.k) /\ W.cell? ⟨w.heap.size, 6, none⟩ = some (.slice p b.c.L.length cap) /\ W.cell? ⟨w.heap.size, 7, none⟩ = some (.string b.key) /\ W.cell? ⟨w.heap.size, 8, none⟩ = some (.string b.text) /\ Below w1.heap.size w1 W)) := fun W hW => by
  have hb := (hW.block _ hlt1).trans hbl1
  exact ⟨(rblk_cell hb 0).1, (rblk_cell hb 1).1, (rblk_cell hb 2).1, (rblk_cell hb 3).1, (rblk_cell hb 4).1, (rblk_cell hb 5).1, (rblk_cell hb 6).1, (rblk_cell hb 7).1, (rblk_cell hb 8).1, hW⟩
 have HAS := asked_any hO w1 (fun V hV => (hi.ok (hb1.trans (hV.mono hb1.size))).1) (fun V hV => (hi.ok (hb1.trans (hV.mono hb1.size))).2)
 have HLC : Hid (∀ W, Below w1.heap.size w1 W -> Calls Tryz.prog 5 #[.agg #[.int .i64 b.c.n, .int .i64 b.c.k, .slice p b.c.L.length cap]] W fun e w' => e = .returned (.bool (longC b.c)) /\ Below w1.heap.size w1 w') := fun W hW => (longConfig_any b.c p cap W hi.len hi.size ((hi.strs.below hb1).below hW)).mono fun e w' hq => ⟨hq.1, hW.trans (hq.2.mono hW.size)⟩
 have HMF : Hid (∀ W, Below w1.heap.size w1 W -> Calls Tryz.prog 6 #[.slice lp l.length lcap] W fun e w' => e = .returned (.bool (fitsM l)) /\ Below w1.heap.size w1 w') := fun W hW => (messagesFit_any lp l lcap W hi.much ((hi.msgs.below hb1).below hW)).mono fun e w' hq => ⟨hq.1, hW.trans (hq.2.mono hW.size)⟩
 have HW1 : Hid (w1 = w.alloc (.cells #[.bool b.put, .int .i64 b.who, .int .i64 b.op, .int .i64 b.config, .int .i64 b.c.n, .int .i64 b.c.k, .slice p b.c.L.length cap, .string b.key, .string b.text] 26)) := hw1
 have HB1 : Hid (Below w.heap.size w w1) := hb1
 rw [h1] at HLC
 have q1 : decide ((100 : Int) < (b.key.size : Int)) = true := decide_eq_true (by omega)
 clear hi hO hw1 hb1 hlt1 hbl1 HMF
 go_enter Tryz.func3, Tryz.ntmps3
 go_wp2_with (first | rw [<- HW1.out] | fail)
 refine HAS.mono ?_
 rintro e w2 ⟨rfl, hb2⟩
 obtain ⟨d0, d1, d2, d3, d4, d5, d6, d7, d8, _⟩ := HCE.out w2 hb2
 have HB2 : Hid (Below w1.heap.size w1 w2) := hb2
 clear hb2 HAS
 go_wp2_with fail
 refine (HLC.out w2 HB2.out).mono ?_
 rintro e w3 ⟨rfl, hb3⟩
 clear d0 d1 d2 d3 d4 d5 d6 d7 d8
 obtain ⟨d0, d1, d2, d3, d4, d5, d6, d7, d8, _⟩ := HCE.out w3 hb3
 have HB3 : Hid (Below w1.heap.size w1 w3) := hb3
 clear hb3
 go_wp2
 go_ret
 exact ⟨rfl, HB1.out.trans (HB3.out.mono HB1.out.size)⟩
set_option maxRecDepth 10000 in
set_option maxHeartbeats 8000000 in
theorem askHears_text (hO : AskOk ad X Ak) (b : Bid) (p : Option Addr) (cap : Nat) (l : List Msg) (lp : Option Addr) (lcap : Nat) (w : World) (hi : LawIn ad X b p cap l lp w) (h1 : longC b.c = false) (h2 : ¬ 100 < b.key.size) (h3 : 100 < b.text.size) (h4 : b.text.size <= 1000 ∨ 2000 < b.text.size) : Calls Tryz.prog 3 #[.agg #[.bool b.put, .int .i64 b.who, .int .i64 b.op, .int .i64 b.config, .int .i64 b.c.n, .int .i64 b.c.k, .slice p b.c.L.length cap, .string b.key, .string b.text], .slice lp l.length lcap] w fun e w' => e = .returned (.bool true) /\ Below w.heap.size w w' := by
 obtain ⟨w1, hw1⟩ : ∃ w1, w1 = w.alloc (.cells #[.bool b.put, .int .i64 b.who, .int .i64 b.op, .int .i64 b.config, .int .i64 b.c.n, .int .i64 b.c.k, .slice p b.c.L.length cap, .string b.key, .string b.text] 26) := ⟨_, rfl⟩
 have hb1 : Below w.heap.size w w1 := by rw [hw1]; exact (Below.refl _ _).alloc (Nat.le_refl _) _
 have hlt1 : w.heap.size < w1.heap.size := by rw [hw1]; simp
 have hbl1 : w1.heap[w.heap.size]? = some (.cells #[.bool b.put, .int .i64 b.who, .int .i64 b.op, .int .i64 b.config, .int .i64 b.c.n, .int .i64 b.c.k, .slice p b.c.L.length cap, .string b.key, .string b.text] 26 (0, 0)) := by
  rw [hw1]
  show (w.heap.push _)[w.heap.size]? = _
  simp
 have HCE : Hid (∀ W, Below w1.heap.size w1 W -> (W.cell? ⟨w.heap.size, 0, none⟩ = some (.bool b.put) /\ W.cell? ⟨w.heap.size, 1, none⟩ = some (.int .i64 b.who) /\ W.cell? ⟨w.heap.size, 2, none⟩ = some (.int .i64 b.op) /\ W.cell? ⟨w.heap.size, 3, none⟩ = some (.int .i64 b.config) /\ W.cell? ⟨w.heap.size, 4, none⟩ = some (.int .i64 b.c.n) /\ W.cell? ⟨w.heap.size, 5, none⟩ = some (.int .i64 b.c.k) /\ W.cell? ⟨w.heap.size, 6, none⟩ = some (.slice p b.c.L.length cap) /\ W.cell? ⟨w.heap.size, 7, none⟩ = some (.string b.key) /\ W.cell? ⟨w.heap.size, 8, none⟩ = some (.string b.text) /\ Below w1.heap.size w1 W)) := fun W hW => by
  have hb := (hW.block _ hlt1).trans hbl1
  exact ⟨(rblk_cell hb 0).1, (rblk_cell hb 1).1, (rblk_cell hb 2).1, (rblk_cell hb 3).1, (rblk_cell hb 4).1, (rblk_cell hb 5).1, (rblk_cell hb 6).1, (rblk_cell hb 7).1, (rblk_cell hb 8).1, hW⟩
 have HAS := asked_any hO w1 (fun V hV => (hi.ok (hb1.trans (hV.mono hb1.size))).1) (fun V hV => (hi.ok (hb1.trans (hV.mono hb1.size))).2)
 have HLC : Hid (∀ W, Below w1.heap.size w1 W -> Calls Tryz.prog 5 #[.agg #[.int .i64 b.c.n, .int .i64 b.c.k, .slice p b.c.L.length cap]] W fun e w' => e = .returned (.bool (longC b.c)) /\ Below w1.heap.size w1 w') := fun W hW => (longConfig_any b.c p cap W hi.len hi.size ((hi.strs.below hb1).below hW)).mono fun e w' hq => ⟨hq.1, hW.trans (hq.2.mono hW.size)⟩
 have HMF : Hid (∀ W, Below w1.heap.size w1 W -> Calls Tryz.prog 6 #[.slice lp l.length lcap] W fun e w' => e = .returned (.bool (fitsM l)) /\ Below w1.heap.size w1 w') := fun W hW => (messagesFit_any lp l lcap W hi.much ((hi.msgs.below hb1).below hW)).mono fun e w' hq => ⟨hq.1, hW.trans (hq.2.mono hW.size)⟩
 have HW1 : Hid (w1 = w.alloc (.cells #[.bool b.put, .int .i64 b.who, .int .i64 b.op, .int .i64 b.config, .int .i64 b.c.n, .int .i64 b.c.k, .slice p b.c.L.length cap, .string b.key, .string b.text] 26)) := hw1
 have HB1 : Hid (Below w.heap.size w w1) := hb1
 rw [h1] at HLC
 have q1 : decide ((100 : Int) < (b.key.size : Int)) = false := decide_eq_false (by omega)
 have q2 : decide ((100 : Int) < (b.text.size : Int)) = true := decide_eq_true (by omega)
 clear hi hO hw1 hb1 hlt1 hbl1 HMF
 rcases h4 with h4 | h4
 ·have q3 : decide ((b.text.size : Int) <= 1000) = true := decide_eq_true (by omega)
  go_enter Tryz.func3, Tryz.ntmps3
  go_wp2_with (first | rw [<- HW1.out] | fail)
  refine HAS.mono ?_
  rintro e w2 ⟨rfl, hb2⟩
  obtain ⟨d0, d1, d2, d3, d4, d5, d6, d7, d8, _⟩ := HCE.out w2 hb2
  have HB2 : Hid (Below w1.heap.size w1 w2) := hb2
  clear hb2 HAS
  go_wp2_with fail
  refine (HLC.out w2 HB2.out).mono ?_
  rintro e w3 ⟨rfl, hb3⟩
  clear d0 d1 d2 d3 d4 d5 d6 d7 d8
  obtain ⟨d0, d1, d2, d3, d4, d5, d6, d7, d8, _⟩ := HCE.out w3 hb3
  have HB3 : Hid (Below w1.heap.size w1 w3) := hb3
  clear hb3
  go_wp2
  go_ret
  exact ⟨rfl, HB1.out.trans (HB3.out.mono HB1.out.size)⟩
 ·have q3 : decide ((b.text.size : Int) <= 1000) = false := decide_eq_false (by omega)
  have q4 : decide ((2000 : Int) < (b.text.size : Int)) = true := decide_eq_true (by omega)
  go_enter Tryz.func3, Tryz.ntmps3
  go_wp2_with (first | rw [<- HW1.out] | fail)
  refine HAS.mono ?_
  rintro e w2 ⟨rfl, hb2⟩
  obtain ⟨d0, d1, d2, d3, d4, d5, d6, d7, d8, _⟩ := HCE.out w2 hb2
  have HB2 : Hid (Below w1.heap.size w1 w2) := hb2
  clear hb2 HAS
  go_wp2_with fail
  refine (HLC.out w2 HB2.out).mono ?_
  rintro e w3 ⟨rfl, hb3⟩
  clear d0 d1 d2 d3 d4 d5 d6 d7 d8
  obtain ⟨d0, d1, d2, d3, d4, d5, d6, d7, d8, _⟩ := HCE.out w3 hb3
  have HB3 : Hid (Below w1.heap.size w1 w3) := hb3
  clear hb3
  go_wp2
  go_ret
  exact ⟨rfl, HB1.out.trans (HB3.out.mono HB1.out.size)⟩
set_option maxRecDepth 10000 in
set_option maxHeartbeats 8000000 in
theorem askHears_much (hO : AskOk ad X Ak) (b : Bid) (p : Option Addr) (cap : Nat) (l : List Msg) (lp : Option Addr) (lcap : Nat) (w : World) (hi : LawIn ad X b p cap l lp w) (h1 : longC b.c = false) (h2 : ¬ 100 < b.key.size) (h3 : b.text.size <= 100 ∨ 1000 < b.text.size /\ b.text.size <= 2000) (h4 : fitsM l = false) : Calls Tryz.prog 3 #[.agg #[.bool b.put, .int .i64 b.who, .int .i64 b.op, .int .i64 b.config, .int .i64 b.c.n, .int .i64 b.c.k, .slice p b.c.L.length cap, .string b.key, .string b.text], .slice lp l.length lcap] w fun e w' => e = .returned (.bool true) /\ Below w.heap.size w w' := by
 obtain ⟨w1, hw1⟩ : ∃ w1, w1 = w.alloc (.cells #[.bool b.put, .int .i64 b.who, .int .i64 b.op, .int .i64 b.config, .int .i64 b.c.n, .int .i64 b.c.k, .slice p b.c.L.length cap, .string b.key, .string b.text] 26) := ⟨_, rfl⟩
 have hb1 : Below w.heap.size w w1 := by rw [hw1]; exact (Below.refl _ _).alloc (Nat.le_refl _) _
 have hlt1 : w.heap.size < w1.heap.size := by rw [hw1]; simp
 have hbl1 : w1.heap[w.heap.size]? = some (.cells #[.bool b.put, .int .i64 b.who, .int .i64 b.op, .int .i64 b.config, .int .i64 b.c.n, .int .i64 b.c.k, .slice p b.c.L.length cap, .string b.key, .string b.text] 26 (0, 0)) := by
  rw [hw1]
  show (w.heap.push _)[w.heap.size]? = _
  simp
 have HCE : Hid (∀ W, Below w1.heap.size w1 W -> (W.cell? ⟨w.heap.size, 0, none⟩ = some (.bool b.put) /\ W.cell? ⟨w.heap.size, 1, none⟩ = some (.int .i64 b.who) /\ W.cell? ⟨w.heap.size, 2, none⟩ = some (.int .i64 b.op) /\ W.cell? ⟨w.heap.size, 3, none⟩ = some (.int .i64 b.config) /\ W.cell? ⟨w.heap.size, 4, none⟩ = some (.int .i64 b.c.n) /\ W.cell? ⟨w.heap.size, 5, none⟩ = some (.int .i64 b.c.k) /\ W.cell? ⟨w.heap.size, 6, none⟩ = some (.slice p b.c.L.length cap) /\ W.cell? ⟨w.heap.size, 7, none⟩ = some (.string b.key) /\ W.cell? ⟨w.heap.size, 8, none⟩ = some (.string b.text) /\ Below w1.heap.size w1 W)) := fun W hW => by
  have hb := (hW.block _ hlt1).trans hbl1
  exact ⟨(rblk_cell hb 0).1, (rblk_cell hb 1).1, (rblk_cell hb 2).1, (rblk_cell hb 3).1, (rblk_cell hb 4).1, (rblk_cell hb 5).1, (rblk_cell hb 6).1, (rblk_cell hb 7).1, (rblk_cell hb 8).1, hW⟩
 have HAS := asked_any hO w1 (fun V hV => (hi.ok (hb1.trans (hV.mono hb1.size))).1) (fun V hV => (hi.ok (hb1.trans (hV.mono hb1.size))).2)
 have HLC : Hid (∀ W, Below w1.heap.size w1 W -> Calls Tryz.prog 5 #[.agg #[.int .i64 b.c.n, .int .i64 b.c.k, .slice p b.c.L.length cap]] W fun e w' => e = .returned (.bool (longC b.c)) /\ Below w1.heap.size w1 w') := fun W hW => (longConfig_any b.c p cap W hi.len hi.size ((hi.strs.below hb1).below hW)).mono fun e w' hq => ⟨hq.1, hW.trans (hq.2.mono hW.size)⟩
 have HMF : Hid (∀ W, Below w1.heap.size w1 W -> Calls Tryz.prog 6 #[.slice lp l.length lcap] W fun e w' => e = .returned (.bool (fitsM l)) /\ Below w1.heap.size w1 w') := fun W hW => (messagesFit_any lp l lcap W hi.much ((hi.msgs.below hb1).below hW)).mono fun e w' hq => ⟨hq.1, hW.trans (hq.2.mono hW.size)⟩
 have HW1 : Hid (w1 = w.alloc (.cells #[.bool b.put, .int .i64 b.who, .int .i64 b.op, .int .i64 b.config, .int .i64 b.c.n, .int .i64 b.c.k, .slice p b.c.L.length cap, .string b.key, .string b.text] 26)) := hw1
 have HB1 : Hid (Below w.heap.size w w1) := hb1
 rw [h1] at HLC
 rw [h4] at HMF
 clear hi hO hw1 hb1 hlt1 hbl1
 rcases h3 with h3 | h3
 ·skip
  have q1 : decide ((100 : Int) < (b.key.size : Int)) = false := decide_eq_false (by omega)
  have q2 : decide ((100 : Int) < (b.text.size : Int)) = false := decide_eq_false (by omega)
  have q4 : decide ((2000 : Int) < (b.text.size : Int)) = false := decide_eq_false (by omega)
  go_enter Tryz.func3, Tryz.ntmps3
  go_wp2_with (first | rw [<- HW1.out] | fail)
  refine HAS.mono ?_
  rintro e w2 ⟨rfl, hb2⟩
  obtain ⟨d0, d1, d2, d3, d4, d5, d6, d7, d8, _⟩ := HCE.out w2 hb2
  have HB2 : Hid (Below w1.heap.size w1 w2) := hb2
  clear hb2 HAS
  go_wp2_with fail
  refine (HLC.out w2 HB2.out).mono ?_
  rintro e w3 ⟨rfl, hb3⟩
  clear d0 d1 d2 d3 d4 d5 d6 d7 d8
  obtain ⟨d0, d1, d2, d3, d4, d5, d6, d7, d8, _⟩ := HCE.out w3 hb3
  have HB3 : Hid (Below w1.heap.size w1 w3) := hb3
  clear hb3
  go_wp2_with fail
  refine (HMF.out w3 HB3.out).mono ?_
  rintro e w4 ⟨rfl, hb4⟩
  clear d0 d1 d2 d3 d4 d5 d6 d7 d8
  have HB4 : Hid (Below w1.heap.size w1 w4) := hb4
  clear hb4
  go_wp2
  go_ret
  exact ⟨rfl, HB1.out.trans (HB4.out.mono HB1.out.size)⟩
 ·skip
  have q1 : decide ((100 : Int) < (b.key.size : Int)) = false := decide_eq_false (by omega)
  have q2 : decide ((100 : Int) < (b.text.size : Int)) = true := decide_eq_true (by omega)
  have q3 : decide ((b.text.size : Int) <= 1000) = false := decide_eq_false (by omega)
  have q4 : decide ((2000 : Int) < (b.text.size : Int)) = false := decide_eq_false (by omega)
  go_enter Tryz.func3, Tryz.ntmps3
  go_wp2_with (first | rw [<- HW1.out] | fail)
  refine HAS.mono ?_
  rintro e w2 ⟨rfl, hb2⟩
  obtain ⟨d0, d1, d2, d3, d4, d5, d6, d7, d8, _⟩ := HCE.out w2 hb2
  have HB2 : Hid (Below w1.heap.size w1 w2) := hb2
  clear hb2 HAS
  go_wp2_with fail
  refine (HLC.out w2 HB2.out).mono ?_
  rintro e w3 ⟨rfl, hb3⟩
  clear d0 d1 d2 d3 d4 d5 d6 d7 d8
  obtain ⟨d0, d1, d2, d3, d4, d5, d6, d7, d8, _⟩ := HCE.out w3 hb3
  have HB3 : Hid (Below w1.heap.size w1 w3) := hb3
  clear hb3
  go_wp2_with fail
  refine (HMF.out w3 HB3.out).mono ?_
  rintro e w4 ⟨rfl, hb4⟩
  clear d0 d1 d2 d3 d4 d5 d6 d7 d8
  have HB4 : Hid (Below w1.heap.size w1 w4) := hb4
  clear hb4
  go_wp2
  go_ret
  exact ⟨rfl, HB1.out.trans (HB4.out.mono HB1.out.size)⟩
end Go.Proofs.YtobmckfcipeanaaGreatDoor
namespace Go.Proofs.YtobmckfcipeanaaGreatDoor
open Go.RowKit
variable {ad : Nat -> Addr} {X : World -> Prop} {Ak : World -> Nat -> Nat -> (Nat -> Prop) -> MAsk -> Prop}
theorem client_sum {n : Nat} (h : n < 6) : (⟨#[99]⟩ : ByteArray) ++ strOf [48 + n] = clientN (n : Int) := by
 match n, h with
 | 0, _ => decide +kernel
 | 1, _ => decide +kernel
 | 2, _ => decide +kernel
 | 3, _ => decide +kernel
 | 4, _ => decide +kernel
 | 5, _ => decide +kernel
def AkB (Ak : World -> Nat -> Nat -> (Nat -> Prop) -> MAsk -> Prop) (w W : World) (h : Nat) (a : MAsk) : Prop := ∃ B S, Ak W B h S a /\ B <= W.heap.size /\ w.heap.size <= B
theorem AkB.below {w W W' : World} {h : Nat} {a : MAsk} (hA : AkB Ak w W h a) (hO : AskOk ad X Ak) (hb : Below W.heap.size W W') : AkB Ak w W' h a := by
 obtain ⟨B, S, h1, h2, h3⟩ := hA
 exact ⟨B, S, hO.keep h1 (hb.mono h2) (fun k hk => hb.block k (hO.inS h1 k hk).2), Nat.le_trans h2 hb.size, h3⟩
theorem bidF_fine' {b : Bid} (h : ¬ 0 < (bidF b).1) : ¬ 0 < (cfgF b.c).1 /\ b.fits /\ bidF b = (0, -1) := by
 by_cases h1 : 0 < (cfgF b.c).1
 ·rw [bidF_cfg h1] at h; exact absurd h1 h
 ·cases h2 : isN b.key with
  | false => rw [bidF_key h1 h2] at h; exact absurd (by decide) h
  | true =>
   by_cases h3 : b.fits
   ·exact ⟨h1, h3, bidF_fine h1 h2 h3⟩
   ·rw [bidF_bound h1 h2 h3] at h; exact absurd (by decide) h
theorem mid_begin {B0 B h ab M : Nat} {mv nv : Value} {w0 W : World} {a : MAsk} (hO : AskOk ad X Ak) (hw : w0.heap.size = B0) (hb0 : Below w0.heap.size w0 W) (hX : X W) (hm : Mid Ak B0 B h ab mv nv M W a a) :
 Calls Tryz.prog 15 #[.pointer (some ⟨h, 0, none⟩)] W fun e w' => ∃ p c, e = .returned (.slice p a.begin.length c) /\ Hid (MsgsN M w' p a.begin /\ Mid Ak B0 B h ab mv nv M w' a a) /\ Below w0.heap.size w0 w' := by
 obtain ⟨S, S', fv, lv, vs, h1, h2, h3, h4, h5, h6, h7⟩ := hm
 have hSB : ∀ k, S k -> w0.heap.size <= k := fun k hk => by have := (hO.inS h1 k hk).1; omega
 refine (hO.begin h1 hX).mono fun e w' hq => ?_
 obtain ⟨⟨p, c, e1, e2⟩, S1, g1, g2⟩ := hq
 have hbB : Below B0 W w' := ⟨g2.os, g2.tape, g2.output, g2.size, fun k hk => g2.block k (Nat.lt_of_lt_of_le hk (Nat.le_trans h6 h5)) (fun hS => by have := hSB k hS; omega)⟩
 refine ⟨p, c, e1, ⟨e2.mono h7, S1, S', fv, lv, vs, g1, h2.keep hbB (fun k hk => g2.block k (h2.inB k hk).2 (fun hS => h3 k hS hk)), fun k hk hk' => ?_, h4, Nat.le_trans h5 g2.size, h6, Nat.le_trans h7 g2.size⟩, hb0.trans (hw ▸ hbB)⟩
 rcases g2.new k hk with hk | hk
 ·exact h3 k hk hk'
 ·have := (h2.inB k hk').2
  omega
theorem begin_short (b : Bid) : b.ask.begin.length = b.c.L.length /\ ∀ m ∈ b.ask.begin, m.L.length <= 1000000 := by
 have e : b.ask.begin = b.ask.send wLook false := rfl
 rw [e]
 unfold MAsk.send
 refine ⟨by rw [List.length_map, List.length_range]; rfl, fun m hm => ?_⟩
 obtain ⟨i, _, rfl⟩ := List.mem_map.1 hm
 exact Nat.zero_le _
theorem send_short (a : MAsk) (kind : ByteArray) (wt : Bool) : (a.send kind wt).length = a.c.L.length /\ ∀ m ∈ a.send kind wt, m.L.length <= 1000000 := by
 unfold MAsk.send
 refine ⟨by rw [List.length_map, List.length_range], fun m hm => ?_⟩
 obtain ⟨i, _, rfl⟩ := List.mem_map.1 hm
 show (if wt = true then [a.ver i] else []).length <= 1000000
 split <;> simp
theorem weighM_take_le (l : List Msg) (i : Nat) : weighM (l.take i) <= weighM l := by
 have e : weighM l = weighM (l.take i) + weighM (l.drop i) := by
  unfold weighM
  rw [<- List.sum_append, <- List.map_append, List.take_append_drop]
 omega
theorem hear_short {a : MAsk} (m : Msg) (hf : AFine a) : (a.hear m).2.length <= 1000 /\ ∀ x ∈ (a.hear m).2, x.L.length <= 1000000 := by
 obtain ⟨⟨_, _, h3⟩, h4, _⟩ := cfgF_fine hf.cfg
 unfold MAsk.hear
 split
 ·exact ⟨Nat.zero_le 1000, fun x hx => by cases hx⟩
 ·split
  ·exact ⟨Nat.zero_le 1000, fun x hx => by cases hx⟩
  ·split
   ·exact ⟨Nat.zero_le 1000, fun x hx => by cases hx⟩
   ·split
    ·exact ⟨Nat.zero_le 1000, fun x hx => by cases hx⟩
    ·split
     ·exact ⟨Nat.zero_le 1000, fun x hx => by cases hx⟩
     ·obtain ⟨e1, e2⟩ := send_short (a.heard m).found_.keeps wKeep true
      refine ⟨?_, e2⟩
      show (MAsk.send _ wKeep true).length <= 1000
      rw [e1]
      have e3 : (a.heard m).found_.keeps.c = a.c := by
       have h1 : (a.heard m).found_.moves = false := by rw [(found_same (a.heard m)).2.2.2.1]; exact hf.still
       rw [keeps_eq h1]
       show (a.heard m).found_.c = a.c
       rw [(found_same (a.heard m)).1]
       rfl
      rw [e3]
      omega
theorem wpAnyH_weak {P : Program} {md : Region.Mode} {ops : Array Oper} {Q : Exit -> Act -> World -> Prop} {S S' : World -> Prop} (hs : ∀ w, S' w -> S w) : ∀ (fuel : Nat) (listed : Array Bool) (a : Act) (w : World), wpAnyH P md ops Q S' fuel listed a w -> wpAnyH P md ops Q S fuel listed a w
 | 0, _, _, _, h => h
 | fuel + 1, _, _, _, h => ⟨h.1, fun i hi => wpOp_mono (fun a' w' h' => ⟨hs w' h'.1, wpAnyH_weak hs fuel _ a' w' h'.2⟩) (h.2 i hi)⟩
theorem rnd_wire {w w20 : World} {B h ab i : Nat} {mv nv : Value} {a : MAsk} {mb mo : Nat} {m1 m2 m3 m4 : ByteArray} {m5 m6 : Int} {m7 : Bool} {mL : List Ver} {lq : Option Addr} {lc : Nat} (hO : AskOk ad X Ak) (hSC : ∀ W, Below w.heap.size w W -> (W.cell? ⟨mb, mo + i * 8, none⟩ = some (.string m1) /\ W.cell? ⟨mb, mo + i * 8 + 1, none⟩ = some (.string m2) /\ W.cell? ⟨mb, mo + i * 8 + 2, none⟩ = some (.string m3) /\ W.cell? ⟨mb, mo + i * 8 + 3, none⟩ = some (.string m4) /\ W.cell? ⟨mb, mo + i * 8 + 4, none⟩ = some (.int .i64 m5) /\ W.cell? ⟨mb, mo + i * 8 + 5, none⟩ = some (.int .i64 m6) /\ W.cell? ⟨mb, mo + i * 8 + 6, none⟩ = some (.bool m7) /\ W.cell? ⟨mb, mo + i * 8 + 7, none⟩ = some (.slice lq mL.length lc) /\ Below w.heap.size w W)) (hmL : mL.length <= 150) (hx : HasL w (⟨m1, m2, m3, m4, m5, m6, m7, mL⟩, (lq, mL.length, lc))) : ∀ W, (W.cell? ⟨mb, mo + i * 8, none⟩ = some (.string m1) /\ W.cell? ⟨mb, mo + i * 8 + 1, none⟩ = some (.string m2) /\ W.cell? ⟨mb, mo + i * 8 + 2, none⟩ = some (.string m3) /\ W.cell? ⟨mb, mo + i * 8 + 3, none⟩ = some (.string m4) /\ W.cell? ⟨mb, mo + i * 8 + 4, none⟩ = some (.int .i64 m5) /\ W.cell? ⟨mb, mo + i * 8 + 5, none⟩ = some (.int .i64 m6) /\ W.cell? ⟨mb, mo + i * 8 + 6, none⟩ = some (.bool m7) /\ W.cell? ⟨mb, mo + i * 8 + 7, none⟩ = some (.slice lq mL.length lc) /\ Below w.heap.size w W) -> Hid (Mid Ak w.heap.size B h ab mv nv w20.heap.size W a a) -> Calls Tryz.prog 18 #[.agg #[.string m1, .string m2, .string m3, .string m4, .int .i64 m5, .int .i64 m6, .bool m7, .slice lq mL.length lc]] W fun e w' => ∃ q d, e = .returned (.agg #[.string m1, .string m2, .string m3, .string m4, .int .i64 m5, .int .i64 m6, .bool m7, .slice q mL.length d]) /\ Hid (HasL w' (⟨m1, m2, m3, m4, m5, m6, m7, mL⟩, (q, mL.length, d)) /\ Mid Ak w.heap.size B h ab mv nv w20.heap.size w' a a) /\ (w'.cell? ⟨mb, mo + i * 8, none⟩ = some (.string m1) /\ w'.cell? ⟨mb, mo + i * 8 + 1, none⟩ = some (.string m2) /\ w'.cell? ⟨mb, mo + i * 8 + 2, none⟩ = some (.string m3) /\ w'.cell? ⟨mb, mo + i * 8 + 3, none⟩ = some (.string m4) /\ w'.cell? ⟨mb, mo + i * 8 + 4, none⟩ = some (.int .i64 m5) /\ w'.cell? ⟨mb, mo + i * 8 + 5, none⟩ = some (.int .i64 m6) /\ w'.cell? ⟨mb, mo + i * 8 + 6, none⟩ = some (.bool m7) /\ w'.cell? ⟨mb, mo + i * 8 + 7, none⟩ = some (.slice lq mL.length lc) /\ Below w.heap.size w w') := by
 intro W hW hm
 refine (wireOf_any ⟨m1, m2, m3, m4, m5, m6, m7, mL⟩ lq lc W (by show mL.length <= 1000000; omega) (hx.below hW.2.2.2.2.2.2.2.2).recs hx.empty).mono fun e w' hq => ?_
 obtain ⟨⟨lv, e1, e2⟩, e3⟩ := hq
 obtain ⟨q, d, f1, f2, f3, f4, _⟩ := e2.form
 subst f1
 exact ⟨q, d, e1, ⟨⟨rfl, f2, f3, f4⟩, hm.out.below hO e3⟩, hSC w' (hW.2.2.2.2.2.2.2.2.trans (e3.mono hW.2.2.2.2.2.2.2.2.size))⟩
theorem rnd_hear {w w20 : World} {B h ab i : Nat} {mv nv : Value} {a : MAsk} {mb mo : Nat} {m1 m2 m3 m4 : ByteArray} {m5 m6 : Int} {m7 : Bool} {mL : List Ver} {lq : Option Addr} {lc : Nat} (hO : AskOk ad X Ak) (hSC : ∀ W, Below w.heap.size w W -> (W.cell? ⟨mb, mo + i * 8, none⟩ = some (.string m1) /\ W.cell? ⟨mb, mo + i * 8 + 1, none⟩ = some (.string m2) /\ W.cell? ⟨mb, mo + i * 8 + 2, none⟩ = some (.string m3) /\ W.cell? ⟨mb, mo + i * 8 + 3, none⟩ = some (.string m4) /\ W.cell? ⟨mb, mo + i * 8 + 4, none⟩ = some (.int .i64 m5) /\ W.cell? ⟨mb, mo + i * 8 + 5, none⟩ = some (.int .i64 m6) /\ W.cell? ⟨mb, mo + i * 8 + 6, none⟩ = some (.bool m7) /\ W.cell? ⟨mb, mo + i * 8 + 7, none⟩ = some (.slice lq mL.length lc) /\ Below w.heap.size w W)) (hG : ∀ V : World, w.heap.size <= V.heap.size -> (∀ k, k < w.heap.size -> V.heap[k]? = w.heap[k]?) -> ErrsQ V ad /\ X V) (hsm : a.small ⟨m1, m2, m3, m4, m5, m6, m7, mL⟩) (hv : ∀ v ∈ mL, VerI64 v) : ∀ W q d, (W.cell? ⟨mb, mo + i * 8, none⟩ = some (.string m1) /\ W.cell? ⟨mb, mo + i * 8 + 1, none⟩ = some (.string m2) /\ W.cell? ⟨mb, mo + i * 8 + 2, none⟩ = some (.string m3) /\ W.cell? ⟨mb, mo + i * 8 + 3, none⟩ = some (.string m4) /\ W.cell? ⟨mb, mo + i * 8 + 4, none⟩ = some (.int .i64 m5) /\ W.cell? ⟨mb, mo + i * 8 + 5, none⟩ = some (.int .i64 m6) /\ W.cell? ⟨mb, mo + i * 8 + 6, none⟩ = some (.bool m7) /\ W.cell? ⟨mb, mo + i * 8 + 7, none⟩ = some (.slice lq mL.length lc) /\ Below w.heap.size w W) -> Hid (HasL W (⟨m1, m2, m3, m4, m5, m6, m7, mL⟩, (q, mL.length, d)) /\ Mid Ak w.heap.size B h ab mv nv w20.heap.size W a a) -> Calls Tryz.prog 17 #[.pointer (some ⟨h, 0, none⟩), .agg #[.string m1, .string m2, .string m3, .string m4, .int .i64 m5, .int .i64 m6, .bool m7, .slice q mL.length d]] W fun e w' => ∃ p' c', e = .returned (.slice p' (a.hear ⟨m1, m2, m3, m4, m5, m6, m7, mL⟩).2.length c') /\ Hid (MsgsN w20.heap.size w' p' (a.hear ⟨m1, m2, m3, m4, m5, m6, m7, mL⟩).2 /\ Mid Ak w.heap.size B h ab mv nv w20.heap.size w' a (a.hear ⟨m1, m2, m3, m4, m5, m6, m7, mL⟩).1) /\ (w'.cell? ⟨mb, mo + i * 8, none⟩ = some (.string m1) /\ w'.cell? ⟨mb, mo + i * 8 + 1, none⟩ = some (.string m2) /\ w'.cell? ⟨mb, mo + i * 8 + 2, none⟩ = some (.string m3) /\ w'.cell? ⟨mb, mo + i * 8 + 3, none⟩ = some (.string m4) /\ w'.cell? ⟨mb, mo + i * 8 + 4, none⟩ = some (.int .i64 m5) /\ w'.cell? ⟨mb, mo + i * 8 + 5, none⟩ = some (.int .i64 m6) /\ w'.cell? ⟨mb, mo + i * 8 + 6, none⟩ = some (.bool m7) /\ w'.cell? ⟨mb, mo + i * 8 + 7, none⟩ = some (.slice lq mL.length lc) /\ Below w.heap.size w w') := by
 intro W q d hW hm
 refine (mid_hear hO hG rfl hW.2.2.2.2.2.2.2.2 (⟨m1, m2, m3, m4, m5, m6, m7, mL⟩, (q, mL.length, d)) hm.out.1 hsm hv hm.out.2).mono fun e w' hq => ?_
 obtain ⟨p', c', e1, e2, e3, e4⟩ := hq
 exact ⟨p', c', e1, ⟨e2, e3⟩, hSC w' e4⟩
theorem rnd_back {w w20 : World} {B h ab i : Nat} {mv nv : Value} {a r1 : MAsk} {r2 : List Msg} {mb mo : Nat} {m1 m2 m3 m4 : ByteArray} {m5 m6 : Int} {m7 : Bool} {mL : List Ver} {lq : Option Addr} {lc : Nat} (hO : AskOk ad X Ak) (hSC : ∀ W, Below w.heap.size w W -> (W.cell? ⟨mb, mo + i * 8, none⟩ = some (.string m1) /\ W.cell? ⟨mb, mo + i * 8 + 1, none⟩ = some (.string m2) /\ W.cell? ⟨mb, mo + i * 8 + 2, none⟩ = some (.string m3) /\ W.cell? ⟨mb, mo + i * 8 + 3, none⟩ = some (.string m4) /\ W.cell? ⟨mb, mo + i * 8 + 4, none⟩ = some (.int .i64 m5) /\ W.cell? ⟨mb, mo + i * 8 + 5, none⟩ = some (.int .i64 m6) /\ W.cell? ⟨mb, mo + i * 8 + 6, none⟩ = some (.bool m7) /\ W.cell? ⟨mb, mo + i * 8 + 7, none⟩ = some (.slice lq mL.length lc) /\ Below w.heap.size w W)) (hs : r2.length <= 1000) : ∀ W p' c', (W.cell? ⟨mb, mo + i * 8, none⟩ = some (.string m1) /\ W.cell? ⟨mb, mo + i * 8 + 1, none⟩ = some (.string m2) /\ W.cell? ⟨mb, mo + i * 8 + 2, none⟩ = some (.string m3) /\ W.cell? ⟨mb, mo + i * 8 + 3, none⟩ = some (.string m4) /\ W.cell? ⟨mb, mo + i * 8 + 4, none⟩ = some (.int .i64 m5) /\ W.cell? ⟨mb, mo + i * 8 + 5, none⟩ = some (.int .i64 m6) /\ W.cell? ⟨mb, mo + i * 8 + 6, none⟩ = some (.bool m7) /\ W.cell? ⟨mb, mo + i * 8 + 7, none⟩ = some (.slice lq mL.length lc) /\ Below w.heap.size w W) -> Hid (MsgsN w20.heap.size W p' r2 /\ Mid Ak w.heap.size B h ab mv nv w20.heap.size W a r1) -> Calls Tryz.prog 14 #[.slice p' r2.length c'] W fun e w' => ∃ q' d', e = .returned (.slice q' r2.length d') /\ Hid (MsgsN w20.heap.size w' q' r2 /\ Mid Ak w.heap.size B h ab mv nv w20.heap.size w' a r1) /\ (w'.cell? ⟨mb, mo + i * 8, none⟩ = some (.string m1) /\ w'.cell? ⟨mb, mo + i * 8 + 1, none⟩ = some (.string m2) /\ w'.cell? ⟨mb, mo + i * 8 + 2, none⟩ = some (.string m3) /\ w'.cell? ⟨mb, mo + i * 8 + 3, none⟩ = some (.string m4) /\ w'.cell? ⟨mb, mo + i * 8 + 4, none⟩ = some (.int .i64 m5) /\ w'.cell? ⟨mb, mo + i * 8 + 5, none⟩ = some (.int .i64 m6) /\ w'.cell? ⟨mb, mo + i * 8 + 6, none⟩ = some (.bool m7) /\ w'.cell? ⟨mb, mo + i * 8 + 7, none⟩ = some (.slice lq mL.length lc) /\ Below w.heap.size w w') := by
 intro W p' c' hW hm
 refine (backWires_any w20.heap.size p' r2 c' W hs (by obtain ⟨_, _, _, _, _, _, _, _, _, _, _, g⟩ := hm.out.2; exact g) hm.out.1).mono fun e w' hq => ?_
 obtain ⟨⟨q', d', e1, e2⟩, e3⟩ := hq
 exact ⟨q', d', e1, ⟨e2, hm.out.2.below hO e3⟩, hSC w' (hW.2.2.2.2.2.2.2.2.trans (e3.mono hW.2.2.2.2.2.2.2.2.size))⟩
theorem rnd_rhear {w w20 : World} {B h ab i : Nat} {mv nv : Value} {a : MAsk} {mb mo : Nat} {m1 m2 m3 m4 : ByteArray} {m5 m6 : Int} {m7 : Bool} {mL : List Ver} {lq : Option Addr} {lc : Nat} (hO : AskOk ad X Ak) (hSC : ∀ W, Below w.heap.size w W -> (W.cell? ⟨mb, mo + i * 8, none⟩ = some (.string m1) /\ W.cell? ⟨mb, mo + i * 8 + 1, none⟩ = some (.string m2) /\ W.cell? ⟨mb, mo + i * 8 + 2, none⟩ = some (.string m3) /\ W.cell? ⟨mb, mo + i * 8 + 3, none⟩ = some (.string m4) /\ W.cell? ⟨mb, mo + i * 8 + 4, none⟩ = some (.int .i64 m5) /\ W.cell? ⟨mb, mo + i * 8 + 5, none⟩ = some (.int .i64 m6) /\ W.cell? ⟨mb, mo + i * 8 + 6, none⟩ = some (.bool m7) /\ W.cell? ⟨mb, mo + i * 8 + 7, none⟩ = some (.slice lq mL.length lc) /\ Below w.heap.size w W)) (hA : AFine a) (hsm : a.small ⟨m1, m2, m3, m4, m5, m6, m7, mL⟩) (hx : HasL w (⟨m1, m2, m3, m4, m5, m6, m7, mL⟩, (lq, mL.length, lc))) : ∀ W p', (W.cell? ⟨mb, mo + i * 8, none⟩ = some (.string m1) /\ W.cell? ⟨mb, mo + i * 8 + 1, none⟩ = some (.string m2) /\ W.cell? ⟨mb, mo + i * 8 + 2, none⟩ = some (.string m3) /\ W.cell? ⟨mb, mo + i * 8 + 3, none⟩ = some (.string m4) /\ W.cell? ⟨mb, mo + i * 8 + 4, none⟩ = some (.int .i64 m5) /\ W.cell? ⟨mb, mo + i * 8 + 5, none⟩ = some (.int .i64 m6) /\ W.cell? ⟨mb, mo + i * 8 + 6, none⟩ = some (.bool m7) /\ W.cell? ⟨mb, mo + i * 8 + 7, none⟩ = some (.slice lq mL.length lc) /\ Below w.heap.size w W) -> Hid (MsgsN w20.heap.size W p' (a.hear ⟨m1, m2, m3, m4, m5, m6, m7, mL⟩).2 /\ Mid Ak w.heap.size B h ab mv nv w20.heap.size W a (a.hear ⟨m1, m2, m3, m4, m5, m6, m7, mL⟩).1) -> Calls Tryz.prog 19 #[.pointer (some ⟨ab, 0, none⟩), .agg #[.string m1, .string m2, .string m3, .string m4, .int .i64 m5, .int .i64 m6, .bool m7, .slice lq mL.length lc]] W fun e w' => ∃ q' d', e = .returned (.slice q' (a.hear ⟨m1, m2, m3, m4, m5, m6, m7, mL⟩).2.length d') /\ Hid ((MsgsAt w' q' (a.hear ⟨m1, m2, m3, m4, m5, m6, m7, mL⟩).2 /\ MsgsAt w' p' (a.hear ⟨m1, m2, m3, m4, m5, m6, m7, mL⟩).2) /\ Mid Ak w.heap.size B h ab mv nv w'.heap.size w' (a.hear ⟨m1, m2, m3, m4, m5, m6, m7, mL⟩).1 (a.hear ⟨m1, m2, m3, m4, m5, m6, m7, mL⟩).1) /\ (w'.cell? ⟨mb, mo + i * 8, none⟩ = some (.string m1) /\ w'.cell? ⟨mb, mo + i * 8 + 1, none⟩ = some (.string m2) /\ w'.cell? ⟨mb, mo + i * 8 + 2, none⟩ = some (.string m3) /\ w'.cell? ⟨mb, mo + i * 8 + 3, none⟩ = some (.string m4) /\ w'.cell? ⟨mb, mo + i * 8 + 4, none⟩ = some (.int .i64 m5) /\ w'.cell? ⟨mb, mo + i * 8 + 5, none⟩ = some (.int .i64 m6) /\ w'.cell? ⟨mb, mo + i * 8 + 6, none⟩ = some (.bool m7) /\ w'.cell? ⟨mb, mo + i * 8 + 7, none⟩ = some (.slice lq mL.length lc) /\ Below w.heap.size w w') := by
 intro W p' hW hm
 refine (mid_rhear hO rfl hW.2.2.2.2.2.2.2.2 (⟨m1, m2, m3, m4, m5, m6, m7, mL⟩, (lq, mL.length, lc)) hA hx hsm hm.out.1 hm.out.2).mono fun e w' hq => ?_
 obtain ⟨q', d', e1, e2, e3, e4⟩ := hq
 exact ⟨q', d', e1, ⟨e2, e3⟩, hSC w' e4⟩
theorem rnd_same {w : World} {B h ab i : Nat} {mv nv : Value} {r1 : MAsk} {r2 : List Msg} {mb mo : Nat} {m1 m2 m3 m4 : ByteArray} {m5 m6 : Int} {m7 : Bool} {mL : List Ver} {lq : Option Addr} {lc : Nat} (hO : AskOk ad X Ak) (hSC : ∀ W, Below w.heap.size w W -> (W.cell? ⟨mb, mo + i * 8, none⟩ = some (.string m1) /\ W.cell? ⟨mb, mo + i * 8 + 1, none⟩ = some (.string m2) /\ W.cell? ⟨mb, mo + i * 8 + 2, none⟩ = some (.string m3) /\ W.cell? ⟨mb, mo + i * 8 + 3, none⟩ = some (.string m4) /\ W.cell? ⟨mb, mo + i * 8 + 4, none⟩ = some (.int .i64 m5) /\ W.cell? ⟨mb, mo + i * 8 + 5, none⟩ = some (.int .i64 m6) /\ W.cell? ⟨mb, mo + i * 8 + 6, none⟩ = some (.bool m7) /\ W.cell? ⟨mb, mo + i * 8 + 7, none⟩ = some (.slice lq mL.length lc) /\ Below w.heap.size w W)) (hs : r2.length <= 1000) (hl : ∀ m ∈ r2, m.L.length <= 1000000) : ∀ W p' q' c' d', (W.cell? ⟨mb, mo + i * 8, none⟩ = some (.string m1) /\ W.cell? ⟨mb, mo + i * 8 + 1, none⟩ = some (.string m2) /\ W.cell? ⟨mb, mo + i * 8 + 2, none⟩ = some (.string m3) /\ W.cell? ⟨mb, mo + i * 8 + 3, none⟩ = some (.string m4) /\ W.cell? ⟨mb, mo + i * 8 + 4, none⟩ = some (.int .i64 m5) /\ W.cell? ⟨mb, mo + i * 8 + 5, none⟩ = some (.int .i64 m6) /\ W.cell? ⟨mb, mo + i * 8 + 6, none⟩ = some (.bool m7) /\ W.cell? ⟨mb, mo + i * 8 + 7, none⟩ = some (.slice lq mL.length lc) /\ Below w.heap.size w W) -> Hid ((MsgsAt W q' r2 /\ MsgsAt W p' r2) /\ Mid Ak w.heap.size B h ab mv nv W.heap.size W r1 r1) -> Calls Tryz.prog 13 #[.slice p' r2.length c', .slice q' r2.length d'] W fun e w' => e = .returned (.bool true) /\ Hid (Mid Ak w.heap.size B h ab mv nv w'.heap.size w' r1 r1) /\ (w'.cell? ⟨mb, mo + i * 8, none⟩ = some (.string m1) /\ w'.cell? ⟨mb, mo + i * 8 + 1, none⟩ = some (.string m2) /\ w'.cell? ⟨mb, mo + i * 8 + 2, none⟩ = some (.string m3) /\ w'.cell? ⟨mb, mo + i * 8 + 3, none⟩ = some (.string m4) /\ w'.cell? ⟨mb, mo + i * 8 + 4, none⟩ = some (.int .i64 m5) /\ w'.cell? ⟨mb, mo + i * 8 + 5, none⟩ = some (.int .i64 m6) /\ w'.cell? ⟨mb, mo + i * 8 + 6, none⟩ = some (.bool m7) /\ w'.cell? ⟨mb, mo + i * 8 + 7, none⟩ = some (.slice lq mL.length lc) /\ Below w.heap.size w w') /\ w'.cell? ⟨ab, 13, none⟩ = some (.string r1.st.word) := by
 intro W p' q' c' d' hW hm
 refine (sameMsgs_yes p' q' r2 c' d' W hs hl hm.out.1.2 hm.out.1.1).mono fun e w' hq => ?_
 have hm' := (hm.out.2.below hO hq.2).up
 exact ⟨hq.1, hm', hSC w' (hW.2.2.2.2.2.2.2.2.trans (hq.2.mono hW.2.2.2.2.2.2.2.2.size)), hm'.cell13.1⟩
theorem rnd_state {w : World} {B h ab i : Nat} {mv nv : Value} {r1 : MAsk} {mb mo : Nat} {m1 m2 m3 m4 : ByteArray} {m5 m6 : Int} {m7 : Bool} {mL : List Ver} {lq : Option Addr} {lc : Nat} (hO : AskOk ad X Ak) (hSC : ∀ W, Below w.heap.size w W -> (W.cell? ⟨mb, mo + i * 8, none⟩ = some (.string m1) /\ W.cell? ⟨mb, mo + i * 8 + 1, none⟩ = some (.string m2) /\ W.cell? ⟨mb, mo + i * 8 + 2, none⟩ = some (.string m3) /\ W.cell? ⟨mb, mo + i * 8 + 3, none⟩ = some (.string m4) /\ W.cell? ⟨mb, mo + i * 8 + 4, none⟩ = some (.int .i64 m5) /\ W.cell? ⟨mb, mo + i * 8 + 5, none⟩ = some (.int .i64 m6) /\ W.cell? ⟨mb, mo + i * 8 + 6, none⟩ = some (.bool m7) /\ W.cell? ⟨mb, mo + i * 8 + 7, none⟩ = some (.slice lq mL.length lc) /\ Below w.heap.size w W)) : ∀ W, (W.cell? ⟨mb, mo + i * 8, none⟩ = some (.string m1) /\ W.cell? ⟨mb, mo + i * 8 + 1, none⟩ = some (.string m2) /\ W.cell? ⟨mb, mo + i * 8 + 2, none⟩ = some (.string m3) /\ W.cell? ⟨mb, mo + i * 8 + 3, none⟩ = some (.string m4) /\ W.cell? ⟨mb, mo + i * 8 + 4, none⟩ = some (.int .i64 m5) /\ W.cell? ⟨mb, mo + i * 8 + 5, none⟩ = some (.int .i64 m6) /\ W.cell? ⟨mb, mo + i * 8 + 6, none⟩ = some (.bool m7) /\ W.cell? ⟨mb, mo + i * 8 + 7, none⟩ = some (.slice lq mL.length lc) /\ Below w.heap.size w W) -> Hid (Mid Ak w.heap.size B h ab mv nv W.heap.size W r1 r1) -> Calls Tryz.prog 20 #[.pointer (some ⟨h, 0, none⟩)] W fun e w' => e = .returned (.string r1.st.word) /\ Hid (Mid Ak w.heap.size B h ab mv nv w'.heap.size w' r1 r1) /\ (w'.cell? ⟨mb, mo + i * 8, none⟩ = some (.string m1) /\ w'.cell? ⟨mb, mo + i * 8 + 1, none⟩ = some (.string m2) /\ w'.cell? ⟨mb, mo + i * 8 + 2, none⟩ = some (.string m3) /\ w'.cell? ⟨mb, mo + i * 8 + 3, none⟩ = some (.string m4) /\ w'.cell? ⟨mb, mo + i * 8 + 4, none⟩ = some (.int .i64 m5) /\ w'.cell? ⟨mb, mo + i * 8 + 5, none⟩ = some (.int .i64 m6) /\ w'.cell? ⟨mb, mo + i * 8 + 6, none⟩ = some (.bool m7) /\ w'.cell? ⟨mb, mo + i * 8 + 7, none⟩ = some (.slice lq mL.length lc) /\ Below w.heap.size w w') /\ w'.cell? ⟨ab, 13, none⟩ = some (.string r1.st.word) := by
 intro W hW hm
 obtain ⟨S, S', fv, lv, vs, g1, _⟩ := id hm.out
 refine (hO.state g1).mono fun e w' hq => ?_
 have hm' := (hm.out.below hO hq.2).up
 exact ⟨hq.1, hm', hSC w' (hW.2.2.2.2.2.2.2.2.trans (hq.2.mono hW.2.2.2.2.2.2.2.2.size)), hm'.cell13.1⟩
theorem rnd_ans1 {w : World} {B h ab : Nat} {mv nv : Value} {r1 : MAsk} (hO : AskOk ad X Ak) (hc : (r1.st = .done /\ r1.found = true)) : ∀ W, Below w.heap.size w W -> Mid Ak w.heap.size B h ab mv nv W.heap.size W r1 r1 -> Calls Tryz.prog 21 #[.pointer (some ⟨h, 0, none⟩)] W fun e w' => e = .returned (.tuple #[.agg #[.int .i64 r1.tag.1, .int .i64 r1.tag.2], .string r1.text, .bool true]) /\ (w'.cell? ⟨ab, 13, none⟩ = some (.string r1.st.word) /\ w'.cell? ⟨ab, 19, none⟩ = some (.bool r1.found) /\ w'.cell? ⟨ab, 16, none⟩ = some (.int .i64 r1.tag.1) /\ w'.cell? ⟨ab, 17, none⟩ = some (.int .i64 r1.tag.2) /\ w'.cell? ⟨ab, 18, none⟩ = some (.string r1.text)) /\ Mid Ak w.heap.size B h ab mv nv w'.heap.size w' r1 r1 /\ Below w.heap.size w w' := by
 intro W hW hm
 obtain ⟨S, S', fv, lv, vs, g1, _⟩ := id hm
 refine (hO.answer g1).mono fun e w' hq => ?_
 have hm' := (hm.below hO hq.2).up
 refine ⟨?_, hm'.cell13, hm', hW.trans (hq.2.mono hW.size)⟩
 rw [hq.1, if_pos hc]
theorem rnd_ans0 {w : World} {B h ab : Nat} {mv nv : Value} {r1 : MAsk} (hO : AskOk ad X Ak) (hc : ¬ (r1.st = .done /\ r1.found = true)) : ∀ W, Below w.heap.size w W -> Mid Ak w.heap.size B h ab mv nv W.heap.size W r1 r1 -> Calls Tryz.prog 21 #[.pointer (some ⟨h, 0, none⟩)] W fun e w' => e = .returned (.tuple #[.agg #[.int .i64 0, .int .i64 0], .string ⟨#[]⟩, .bool false]) /\ (w'.cell? ⟨ab, 13, none⟩ = some (.string r1.st.word) /\ w'.cell? ⟨ab, 19, none⟩ = some (.bool r1.found) /\ w'.cell? ⟨ab, 16, none⟩ = some (.int .i64 r1.tag.1) /\ w'.cell? ⟨ab, 17, none⟩ = some (.int .i64 r1.tag.2) /\ w'.cell? ⟨ab, 18, none⟩ = some (.string r1.text)) /\ Mid Ak w.heap.size B h ab mv nv w'.heap.size w' r1 r1 /\ Below w.heap.size w w' := by
 intro W hW hm
 obtain ⟨S, S', fv, lv, vs, g1, _⟩ := id hm
 refine (hO.answer g1).mono fun e w' hq => ?_
 have hm' := (hm.below hO hq.2).up
 refine ⟨?_, hm'.cell13, hm', hW.trans (hq.2.mono hW.size)⟩
 rw [hq.1, if_neg hc]
theorem word_done {s : St} : s.word = ⟨#[100, 111, 110, 101]⟩ ↔ s = .done := by cases s <;> simp [St.word] <;> decide
theorem word_ndone {s : St} (h : s ≠ .done) : ¬ s.word.toList = [100, 111, 110, 101] := by cases s <;> first | exact absurd rfl h | decide +kernel
theorem rnd_all {w w20 : World} {B h ab i : Nat} {mv nv : Value} {a : MAsk} {l : List Msg} {lp : Option Addr} (hO : AskOk ad X Ak) (hF : ∀ (w : World) (B h : Nat) (S : Nat -> Prop) (a : MAsk), Ak w B h S a -> AFine a) (hG : ∀ V : World, w.heap.size <= V.heap.size -> (∀ k, k < w.heap.size -> V.heap[k]? = w.heap[k]?) -> ErrsQ V ad /\ X V) (hms : MsgsAt w lp l) (hVI : ∀ m ∈ l, ∀ v ∈ m.L, VerI64 v) (hfit : weighM l < 6000) (hil : i < l.length) (hA : AFine a) (hbk : bulkV a.L.flatten <= weighM (l.take i)) : ∃ (mb mo : Nat) (m1 m2 m3 m4 : ByteArray) (m5 m6 : Int) (m7 : Bool) (mL : List Ver) (lq : Option Addr) (lc : Nat) (r1 : MAsk) (r2 : List Msg) (rl : Nat) (sw : ByteArray) (fd : Bool) (t1 t2 : Int) (tx : ByteArray), lp = some ⟨mb, mo, none⟩ /\ Hid (∀ W, Below w.heap.size w W -> (W.cell? ⟨mb, mo + i * 8, none⟩ = some (.string m1) /\ W.cell? ⟨mb, mo + i * 8 + 1, none⟩ = some (.string m2) /\ W.cell? ⟨mb, mo + i * 8 + 2, none⟩ = some (.string m3) /\ W.cell? ⟨mb, mo + i * 8 + 3, none⟩ = some (.string m4) /\ W.cell? ⟨mb, mo + i * 8 + 4, none⟩ = some (.int .i64 m5) /\ W.cell? ⟨mb, mo + i * 8 + 5, none⟩ = some (.int .i64 m6) /\ W.cell? ⟨mb, mo + i * 8 + 6, none⟩ = some (.bool m7) /\ W.cell? ⟨mb, mo + i * 8 + 7, none⟩ = some (.slice lq mL.length lc) /\ Below w.heap.size w W)) /\ Hid (∀ W, (W.cell? ⟨mb, mo + i * 8, none⟩ = some (.string m1) /\ W.cell? ⟨mb, mo + i * 8 + 1, none⟩ = some (.string m2) /\ W.cell? ⟨mb, mo + i * 8 + 2, none⟩ = some (.string m3) /\ W.cell? ⟨mb, mo + i * 8 + 3, none⟩ = some (.string m4) /\ W.cell? ⟨mb, mo + i * 8 + 4, none⟩ = some (.int .i64 m5) /\ W.cell? ⟨mb, mo + i * 8 + 5, none⟩ = some (.int .i64 m6) /\ W.cell? ⟨mb, mo + i * 8 + 6, none⟩ = some (.bool m7) /\ W.cell? ⟨mb, mo + i * 8 + 7, none⟩ = some (.slice lq mL.length lc) /\ Below w.heap.size w W) -> Hid (Mid Ak w.heap.size B h ab mv nv w20.heap.size W a a) -> Calls Tryz.prog 18 #[.agg #[.string m1, .string m2, .string m3, .string m4, .int .i64 m5, .int .i64 m6, .bool m7, .slice lq mL.length lc]] W fun e w' => ∃ q d, e = .returned (.agg #[.string m1, .string m2, .string m3, .string m4, .int .i64 m5, .int .i64 m6, .bool m7, .slice q mL.length d]) /\ Hid (HasL w' (⟨m1, m2, m3, m4, m5, m6, m7, mL⟩, (q, mL.length, d)) /\ Mid Ak w.heap.size B h ab mv nv w20.heap.size w' a a) /\ (w'.cell? ⟨mb, mo + i * 8, none⟩ = some (.string m1) /\ w'.cell? ⟨mb, mo + i * 8 + 1, none⟩ = some (.string m2) /\ w'.cell? ⟨mb, mo + i * 8 + 2, none⟩ = some (.string m3) /\ w'.cell? ⟨mb, mo + i * 8 + 3, none⟩ = some (.string m4) /\ w'.cell? ⟨mb, mo + i * 8 + 4, none⟩ = some (.int .i64 m5) /\ w'.cell? ⟨mb, mo + i * 8 + 5, none⟩ = some (.int .i64 m6) /\ w'.cell? ⟨mb, mo + i * 8 + 6, none⟩ = some (.bool m7) /\ w'.cell? ⟨mb, mo + i * 8 + 7, none⟩ = some (.slice lq mL.length lc) /\ Below w.heap.size w w')) /\ Hid (∀ W q d, (W.cell? ⟨mb, mo + i * 8, none⟩ = some (.string m1) /\ W.cell? ⟨mb, mo + i * 8 + 1, none⟩ = some (.string m2) /\ W.cell? ⟨mb, mo + i * 8 + 2, none⟩ = some (.string m3) /\ W.cell? ⟨mb, mo + i * 8 + 3, none⟩ = some (.string m4) /\ W.cell? ⟨mb, mo + i * 8 + 4, none⟩ = some (.int .i64 m5) /\ W.cell? ⟨mb, mo + i * 8 + 5, none⟩ = some (.int .i64 m6) /\ W.cell? ⟨mb, mo + i * 8 + 6, none⟩ = some (.bool m7) /\ W.cell? ⟨mb, mo + i * 8 + 7, none⟩ = some (.slice lq mL.length lc) /\ Below w.heap.size w W) -> Hid (HasL W (⟨m1, m2, m3, m4, m5, m6, m7, mL⟩, (q, mL.length, d)) /\ Mid Ak w.heap.size B h ab mv nv w20.heap.size W a a) -> Calls Tryz.prog 17 #[.pointer (some ⟨h, 0, none⟩), .agg #[.string m1, .string m2, .string m3, .string m4, .int .i64 m5, .int .i64 m6, .bool m7, .slice q mL.length d]] W fun e w' => ∃ p' c', e = .returned (.slice p' rl c') /\ Hid (MsgsN w20.heap.size w' p' r2 /\ Mid Ak w.heap.size B h ab mv nv w20.heap.size w' a r1) /\ (w'.cell? ⟨mb, mo + i * 8, none⟩ = some (.string m1) /\ w'.cell? ⟨mb, mo + i * 8 + 1, none⟩ = some (.string m2) /\ w'.cell? ⟨mb, mo + i * 8 + 2, none⟩ = some (.string m3) /\ w'.cell? ⟨mb, mo + i * 8 + 3, none⟩ = some (.string m4) /\ w'.cell? ⟨mb, mo + i * 8 + 4, none⟩ = some (.int .i64 m5) /\ w'.cell? ⟨mb, mo + i * 8 + 5, none⟩ = some (.int .i64 m6) /\ w'.cell? ⟨mb, mo + i * 8 + 6, none⟩ = some (.bool m7) /\ w'.cell? ⟨mb, mo + i * 8 + 7, none⟩ = some (.slice lq mL.length lc) /\ Below w.heap.size w w')) /\ Hid (∀ W p' c', (W.cell? ⟨mb, mo + i * 8, none⟩ = some (.string m1) /\ W.cell? ⟨mb, mo + i * 8 + 1, none⟩ = some (.string m2) /\ W.cell? ⟨mb, mo + i * 8 + 2, none⟩ = some (.string m3) /\ W.cell? ⟨mb, mo + i * 8 + 3, none⟩ = some (.string m4) /\ W.cell? ⟨mb, mo + i * 8 + 4, none⟩ = some (.int .i64 m5) /\ W.cell? ⟨mb, mo + i * 8 + 5, none⟩ = some (.int .i64 m6) /\ W.cell? ⟨mb, mo + i * 8 + 6, none⟩ = some (.bool m7) /\ W.cell? ⟨mb, mo + i * 8 + 7, none⟩ = some (.slice lq mL.length lc) /\ Below w.heap.size w W) -> Hid (MsgsN w20.heap.size W p' r2 /\ Mid Ak w.heap.size B h ab mv nv w20.heap.size W a r1) -> Calls Tryz.prog 14 #[.slice p' rl c'] W fun e w' => ∃ q' d', e = .returned (.slice q' rl d') /\ Hid (MsgsN w20.heap.size w' q' r2 /\ Mid Ak w.heap.size B h ab mv nv w20.heap.size w' a r1) /\ (w'.cell? ⟨mb, mo + i * 8, none⟩ = some (.string m1) /\ w'.cell? ⟨mb, mo + i * 8 + 1, none⟩ = some (.string m2) /\ w'.cell? ⟨mb, mo + i * 8 + 2, none⟩ = some (.string m3) /\ w'.cell? ⟨mb, mo + i * 8 + 3, none⟩ = some (.string m4) /\ w'.cell? ⟨mb, mo + i * 8 + 4, none⟩ = some (.int .i64 m5) /\ w'.cell? ⟨mb, mo + i * 8 + 5, none⟩ = some (.int .i64 m6) /\ w'.cell? ⟨mb, mo + i * 8 + 6, none⟩ = some (.bool m7) /\ w'.cell? ⟨mb, mo + i * 8 + 7, none⟩ = some (.slice lq mL.length lc) /\ Below w.heap.size w w')) /\ Hid (∀ W p', (W.cell? ⟨mb, mo + i * 8, none⟩ = some (.string m1) /\ W.cell? ⟨mb, mo + i * 8 + 1, none⟩ = some (.string m2) /\ W.cell? ⟨mb, mo + i * 8 + 2, none⟩ = some (.string m3) /\ W.cell? ⟨mb, mo + i * 8 + 3, none⟩ = some (.string m4) /\ W.cell? ⟨mb, mo + i * 8 + 4, none⟩ = some (.int .i64 m5) /\ W.cell? ⟨mb, mo + i * 8 + 5, none⟩ = some (.int .i64 m6) /\ W.cell? ⟨mb, mo + i * 8 + 6, none⟩ = some (.bool m7) /\ W.cell? ⟨mb, mo + i * 8 + 7, none⟩ = some (.slice lq mL.length lc) /\ Below w.heap.size w W) -> Hid (MsgsN w20.heap.size W p' r2 /\ Mid Ak w.heap.size B h ab mv nv w20.heap.size W a r1) -> Calls Tryz.prog 19 #[.pointer (some ⟨ab, 0, none⟩), .agg #[.string m1, .string m2, .string m3, .string m4, .int .i64 m5, .int .i64 m6, .bool m7, .slice lq mL.length lc]] W fun e w' => ∃ q' d', e = .returned (.slice q' rl d') /\ Hid ((MsgsAt w' q' r2 /\ MsgsAt w' p' r2) /\ Mid Ak w.heap.size B h ab mv nv w'.heap.size w' r1 r1) /\ (w'.cell? ⟨mb, mo + i * 8, none⟩ = some (.string m1) /\ w'.cell? ⟨mb, mo + i * 8 + 1, none⟩ = some (.string m2) /\ w'.cell? ⟨mb, mo + i * 8 + 2, none⟩ = some (.string m3) /\ w'.cell? ⟨mb, mo + i * 8 + 3, none⟩ = some (.string m4) /\ w'.cell? ⟨mb, mo + i * 8 + 4, none⟩ = some (.int .i64 m5) /\ w'.cell? ⟨mb, mo + i * 8 + 5, none⟩ = some (.int .i64 m6) /\ w'.cell? ⟨mb, mo + i * 8 + 6, none⟩ = some (.bool m7) /\ w'.cell? ⟨mb, mo + i * 8 + 7, none⟩ = some (.slice lq mL.length lc) /\ Below w.heap.size w w')) /\ Hid (∀ W p' q' c' d', (W.cell? ⟨mb, mo + i * 8, none⟩ = some (.string m1) /\ W.cell? ⟨mb, mo + i * 8 + 1, none⟩ = some (.string m2) /\ W.cell? ⟨mb, mo + i * 8 + 2, none⟩ = some (.string m3) /\ W.cell? ⟨mb, mo + i * 8 + 3, none⟩ = some (.string m4) /\ W.cell? ⟨mb, mo + i * 8 + 4, none⟩ = some (.int .i64 m5) /\ W.cell? ⟨mb, mo + i * 8 + 5, none⟩ = some (.int .i64 m6) /\ W.cell? ⟨mb, mo + i * 8 + 6, none⟩ = some (.bool m7) /\ W.cell? ⟨mb, mo + i * 8 + 7, none⟩ = some (.slice lq mL.length lc) /\ Below w.heap.size w W) -> Hid ((MsgsAt W q' r2 /\ MsgsAt W p' r2) /\ Mid Ak w.heap.size B h ab mv nv W.heap.size W r1 r1) -> Calls Tryz.prog 13 #[.slice p' rl c', .slice q' rl d'] W fun e w' => e = .returned (.bool true) /\ Hid (Mid Ak w.heap.size B h ab mv nv w'.heap.size w' r1 r1) /\ (w'.cell? ⟨mb, mo + i * 8, none⟩ = some (.string m1) /\ w'.cell? ⟨mb, mo + i * 8 + 1, none⟩ = some (.string m2) /\ w'.cell? ⟨mb, mo + i * 8 + 2, none⟩ = some (.string m3) /\ w'.cell? ⟨mb, mo + i * 8 + 3, none⟩ = some (.string m4) /\ w'.cell? ⟨mb, mo + i * 8 + 4, none⟩ = some (.int .i64 m5) /\ w'.cell? ⟨mb, mo + i * 8 + 5, none⟩ = some (.int .i64 m6) /\ w'.cell? ⟨mb, mo + i * 8 + 6, none⟩ = some (.bool m7) /\ w'.cell? ⟨mb, mo + i * 8 + 7, none⟩ = some (.slice lq mL.length lc) /\ Below w.heap.size w w') /\ w'.cell? ⟨ab, 13, none⟩ = some (.string sw)) /\ Hid (∀ W, (W.cell? ⟨mb, mo + i * 8, none⟩ = some (.string m1) /\ W.cell? ⟨mb, mo + i * 8 + 1, none⟩ = some (.string m2) /\ W.cell? ⟨mb, mo + i * 8 + 2, none⟩ = some (.string m3) /\ W.cell? ⟨mb, mo + i * 8 + 3, none⟩ = some (.string m4) /\ W.cell? ⟨mb, mo + i * 8 + 4, none⟩ = some (.int .i64 m5) /\ W.cell? ⟨mb, mo + i * 8 + 5, none⟩ = some (.int .i64 m6) /\ W.cell? ⟨mb, mo + i * 8 + 6, none⟩ = some (.bool m7) /\ W.cell? ⟨mb, mo + i * 8 + 7, none⟩ = some (.slice lq mL.length lc) /\ Below w.heap.size w W) -> Hid (Mid Ak w.heap.size B h ab mv nv W.heap.size W r1 r1) -> Calls Tryz.prog 20 #[.pointer (some ⟨h, 0, none⟩)] W fun e w' => e = .returned (.string sw) /\ Hid (Mid Ak w.heap.size B h ab mv nv w'.heap.size w' r1 r1) /\ (w'.cell? ⟨mb, mo + i * 8, none⟩ = some (.string m1) /\ w'.cell? ⟨mb, mo + i * 8 + 1, none⟩ = some (.string m2) /\ w'.cell? ⟨mb, mo + i * 8 + 2, none⟩ = some (.string m3) /\ w'.cell? ⟨mb, mo + i * 8 + 3, none⟩ = some (.string m4) /\ w'.cell? ⟨mb, mo + i * 8 + 4, none⟩ = some (.int .i64 m5) /\ w'.cell? ⟨mb, mo + i * 8 + 5, none⟩ = some (.int .i64 m6) /\ w'.cell? ⟨mb, mo + i * 8 + 6, none⟩ = some (.bool m7) /\ w'.cell? ⟨mb, mo + i * 8 + 7, none⟩ = some (.slice lq mL.length lc) /\ Below w.heap.size w w') /\ w'.cell? ⟨ab, 13, none⟩ = some (.string sw)) /\ ((Hid (sw = ⟨#[100, 111, 110, 101]⟩ /\ fd = true) /\ Hid (∀ W, Below w.heap.size w W -> Mid Ak w.heap.size B h ab mv nv W.heap.size W r1 r1 -> Calls Tryz.prog 21 #[.pointer (some ⟨h, 0, none⟩)] W fun e w' => e = .returned (.tuple #[.agg #[.int .i64 t1, .int .i64 t2], .string tx, .bool true]) /\ (w'.cell? ⟨ab, 13, none⟩ = some (.string sw) /\ w'.cell? ⟨ab, 19, none⟩ = some (.bool fd) /\ w'.cell? ⟨ab, 16, none⟩ = some (.int .i64 t1) /\ w'.cell? ⟨ab, 17, none⟩ = some (.int .i64 t2) /\ w'.cell? ⟨ab, 18, none⟩ = some (.string tx)) /\ Mid Ak w.heap.size B h ab mv nv w'.heap.size w' r1 r1 /\ Below w.heap.size w w')) ∨ (Hid (¬ sw.toList = [100, 111, 110, 101] ∨ fd = false) /\ Hid (∀ W, Below w.heap.size w W -> Mid Ak w.heap.size B h ab mv nv W.heap.size W r1 r1 -> Calls Tryz.prog 21 #[.pointer (some ⟨h, 0, none⟩)] W fun e w' => e = .returned (.tuple #[.agg #[.int .i64 0, .int .i64 0], .string ⟨#[]⟩, .bool false]) /\ (w'.cell? ⟨ab, 13, none⟩ = some (.string sw) /\ w'.cell? ⟨ab, 19, none⟩ = some (.bool fd) /\ w'.cell? ⟨ab, 16, none⟩ = some (.int .i64 t1) /\ w'.cell? ⟨ab, 17, none⟩ = some (.int .i64 t2) /\ w'.cell? ⟨ab, 18, none⟩ = some (.string tx)) /\ Mid Ak w.heap.size B h ab mv nv w'.heap.size w' r1 r1 /\ Below w.heap.size w w'))) /\ Hid (∀ W, Mid Ak w.heap.size B h ab mv nv W.heap.size W r1 r1 -> AFine r1) /\ Hid (bulkV r1.L.flatten <= weighM (l.take (i + 1))) := by
 obtain ⟨ml, hml, hmr, hmh⟩ := hms
 have hix : i < ml.length := by rw [<- List.length_map (f := Prod.fst), hml]; exact hil
 obtain ⟨mb, mo, hmp, hmlt, t0, t1, t2, t3, t4, t5, t6, t7⟩ := msg_cells hmr hix
 have hxl : l[i]? = some (msgAt ml i).1 := by rw [<- hml, List.getElem?_map, List.getElem?_eq_getElem hix, msgAt_get hix]; rfl
 have hxv := hVI _ (List.mem_of_getElem? hxl)
 have hxh := hmh _ (msgAt_mem hix)
 rw [msgAt_get hix] at t0 t1 t2 t3 t4 t5 t6 t7
 have hwt := weighM_take hxl
 have hwl := weighM_take_le l (i + 1)
 have hhb := hear_bulk a (msgAt ml i).1
 generalize msgAt ml i = x at *
 obtain ⟨⟨m1, m2, m3, m4, m5, m6, m7, mL⟩, lq, ln, lc⟩ := x
 have hln : ln = mL.length := hxh.len
 subst hln
 dsimp only at *
 have hsm : a.small ⟨m1, m2, m3, m4, m5, m6, m7, mL⟩ := by unfold MAsk.small; omega
 have hNB : bulkV (a.hear ⟨m1, m2, m3, m4, m5, m6, m7, mL⟩).1.L.flatten <= weighM (l.take (i + 1)) := by omega
 have hmL : mL.length <= 150 := (bulk_from hsm).2.1
 have hSC : ∀ W, Below w.heap.size w W -> (W.cell? ⟨mb, mo + i * 8, none⟩ = some (.string m1) /\ W.cell? ⟨mb, mo + i * 8 + 1, none⟩ = some (.string m2) /\ W.cell? ⟨mb, mo + i * 8 + 2, none⟩ = some (.string m3) /\ W.cell? ⟨mb, mo + i * 8 + 3, none⟩ = some (.string m4) /\ W.cell? ⟨mb, mo + i * 8 + 4, none⟩ = some (.int .i64 m5) /\ W.cell? ⟨mb, mo + i * 8 + 5, none⟩ = some (.int .i64 m6) /\ W.cell? ⟨mb, mo + i * 8 + 6, none⟩ = some (.bool m7) /\ W.cell? ⟨mb, mo + i * 8 + 7, none⟩ = some (.slice lq mL.length lc) /\ Below w.heap.size w W) := fun W hW => ⟨(hW.cell (p := ⟨mb, mo + i * 8, none⟩) hmlt).trans t0, (hW.cell (p := ⟨mb, mo + i * 8 + 1, none⟩) hmlt).trans t1, (hW.cell (p := ⟨mb, mo + i * 8 + 2, none⟩) hmlt).trans t2, (hW.cell (p := ⟨mb, mo + i * 8 + 3, none⟩) hmlt).trans t3, (hW.cell (p := ⟨mb, mo + i * 8 + 4, none⟩) hmlt).trans t4, (hW.cell (p := ⟨mb, mo + i * 8 + 5, none⟩) hmlt).trans t5, (hW.cell (p := ⟨mb, mo + i * 8 + 6, none⟩) hmlt).trans t6, (hW.cell (p := ⟨mb, mo + i * 8 + 7, none⟩) hmlt).trans t7, hW⟩
 have hsh := hear_short ⟨m1, m2, m3, m4, m5, m6, m7, mL⟩ hA
 refine ⟨mb, mo, m1, m2, m3, m4, m5, m6, m7, mL, lq, lc, (a.hear ⟨m1, m2, m3, m4, m5, m6, m7, mL⟩).1, (a.hear ⟨m1, m2, m3, m4, m5, m6, m7, mL⟩).2, _, _, (a.hear ⟨m1, m2, m3, m4, m5, m6, m7, mL⟩).1.found, (a.hear ⟨m1, m2, m3, m4, m5, m6, m7, mL⟩).1.tag.1, (a.hear ⟨m1, m2, m3, m4, m5, m6, m7, mL⟩).1.tag.2, (a.hear ⟨m1, m2, m3, m4, m5, m6, m7, mL⟩).1.text, hmp, hSC, rnd_wire hO hSC hmL hxh, rnd_hear hO hSC hG hsm hxv, rnd_back hO hSC hsh.1, rnd_rhear hO hSC hA hsm hxh, rnd_same hO hSC hsh.1 hsh.2, rnd_state hO hSC, ?_, fun W hm => ?_, hNB⟩
 ·by_cases hc : (a.hear ⟨m1, m2, m3, m4, m5, m6, m7, mL⟩).1.st = .done /\ (a.hear ⟨m1, m2, m3, m4, m5, m6, m7, mL⟩).1.found = true
  ·exact Or.inl ⟨⟨word_done.2 hc.1, hc.2⟩, rnd_ans1 hO hc⟩
  ·refine Or.inr ⟨?_, rnd_ans0 hO hc⟩
   by_cases h1 : (a.hear ⟨m1, m2, m3, m4, m5, m6, m7, mL⟩).1.st = .done
   ·exact Or.inr (by simpa [h1] using hc)
   ·exact Or.inl (word_ndone h1)
 ·obtain ⟨S, S', fv, lv, vs, g1, _⟩ := hm
  exact hF _ _ _ _ _ g1
end Go.Proofs.YtobmckfcipeanaaGreatDoor
namespace Go.Proofs.YtobmckfcipeanaaGreatDoor
open Go.RowKit
variable {ad : Nat -> Addr} {X : World -> Prop} {Ak : World -> Nat -> Nat -> (Nat -> Prop) -> MAsk -> Prop}
set_option maxRecDepth 20000 in
set_option maxHeartbeats 40000000 in
theorem askHears_put_bad (hO : AskOk ad X Ak) (b : Bid) (p : Option Addr) (cap : Nat) (l : List Msg) (lp : Option Addr) (lcap : Nat) (w : World) (hi : LawIn ad X b p cap l lp w) (h1 : longC b.c = false) (h2 : ¬ 100 < b.key.size) (h3 : b.text.size <= 100 ∨ 1000 < b.text.size /\ b.text.size <= 2000) (h4 : fitsM l = true) (h5 : b.put = true) (h6 : 0 < (bidF b).1) : Calls Tryz.prog 3 #[.agg #[.bool b.put, .int .i64 b.who, .int .i64 b.op, .int .i64 b.config, .int .i64 b.c.n, .int .i64 b.c.k, .slice p b.c.L.length cap, .string b.key, .string b.text], .slice lp l.length lcap] w fun e w' => e = .returned (.bool true) /\ Below w.heap.size w w' := by
 rw [h5]
 obtain ⟨w1, hw1⟩ : ∃ w1, w1 = w.alloc (.cells #[.bool true, .int .i64 b.who, .int .i64 b.op, .int .i64 b.config, .int .i64 b.c.n, .int .i64 b.c.k, .slice p b.c.L.length cap, .string b.key, .string b.text] 26) := ⟨_, rfl⟩
 have hb1 : Below w.heap.size w w1 := by rw [hw1]; exact (Below.refl _ _).alloc (Nat.le_refl _) _
 have hlt1 : w.heap.size < w1.heap.size := by rw [hw1]; simp
 have hbl1 : w1.heap[w.heap.size]? = some (.cells #[.bool true, .int .i64 b.who, .int .i64 b.op, .int .i64 b.config, .int .i64 b.c.n, .int .i64 b.c.k, .slice p b.c.L.length cap, .string b.key, .string b.text] 26 (0, 0)) := by
  rw [hw1]
  show (w.heap.push _)[w.heap.size]? = _
  simp
 have HCE : Hid (∀ W, Below w1.heap.size w1 W -> (W.cell? ⟨w.heap.size, 0, none⟩ = some (.bool true) /\ W.cell? ⟨w.heap.size, 1, none⟩ = some (.int .i64 b.who) /\ W.cell? ⟨w.heap.size, 2, none⟩ = some (.int .i64 b.op) /\ W.cell? ⟨w.heap.size, 3, none⟩ = some (.int .i64 b.config) /\ W.cell? ⟨w.heap.size, 4, none⟩ = some (.int .i64 b.c.n) /\ W.cell? ⟨w.heap.size, 5, none⟩ = some (.int .i64 b.c.k) /\ W.cell? ⟨w.heap.size, 6, none⟩ = some (.slice p b.c.L.length cap) /\ W.cell? ⟨w.heap.size, 7, none⟩ = some (.string b.key) /\ W.cell? ⟨w.heap.size, 8, none⟩ = some (.string b.text) /\ Below w1.heap.size w1 W)) := fun W hW => by
  have hb := (hW.block _ hlt1).trans hbl1
  exact ⟨(rblk_cell hb 0).1, (rblk_cell hb 1).1, (rblk_cell hb 2).1, (rblk_cell hb 3).1, (rblk_cell hb 4).1, (rblk_cell hb 5).1, (rblk_cell hb 6).1, (rblk_cell hb 7).1, (rblk_cell hb 8).1, hW⟩
 have HAS := asked_any hO w1 (fun V hV => (hi.ok (hb1.trans (hV.mono hb1.size))).1) (fun V hV => (hi.ok (hb1.trans (hV.mono hb1.size))).2)
 have HLC : Hid (∀ W, Below w1.heap.size w1 W -> Calls Tryz.prog 5 #[.agg #[.int .i64 b.c.n, .int .i64 b.c.k, .slice p b.c.L.length cap]] W fun e w' => e = .returned (.bool (longC b.c)) /\ Below w1.heap.size w1 w') := fun W hW => (longConfig_any b.c p cap W hi.len hi.size ((hi.strs.below hb1).below hW)).mono fun e w' hq => ⟨hq.1, hW.trans (hq.2.mono hW.size)⟩
 have HMF : Hid (∀ W, Below w1.heap.size w1 W -> Calls Tryz.prog 6 #[.slice lp l.length lcap] W fun e w' => e = .returned (.bool (fitsM l)) /\ Below w1.heap.size w1 w') := fun W hW => (messagesFit_any lp l lcap W hi.much ((hi.msgs.below hb1).below hW)).mono fun e w' hq => ⟨hq.1, hW.trans (hq.2.mono hW.size)⟩
 have HW1 : Hid (w1 = w.alloc (.cells #[.bool true, .int .i64 b.who, .int .i64 b.op, .int .i64 b.config, .int .i64 b.c.n, .int .i64 b.c.k, .slice p b.c.L.length cap, .string b.key, .string b.text] 26)) := hw1
 have HB1 : Hid (Below w.heap.size w w1) := hb1
 rw [h1] at HLC
 rw [h4] at HMF
 obtain ⟨n1, n2⟩ := longC_fine h1
 have HST1 : Hid (∀ W, Below w1.heap.size w1 W -> Strs W p b.c.L) := fun W hW => (hi.strs.below hb1).below hW
 have HCFA : Hid (∀ W q d, Strs W q b.c.L -> b.c.L.length <= d -> (q = none -> b.c.L = [] /\ d = 0) -> CfgAt W b.c q d) := fun W q d g1 g2 g3 => cfgAt_of g1 g2 g3 h1 hi.ints
 have HOC : Hid (∀ W, (W.cell? ⟨w.heap.size, 0, none⟩ = some (.bool true) /\ W.cell? ⟨w.heap.size, 1, none⟩ = some (.int .i64 b.who) /\ W.cell? ⟨w.heap.size, 2, none⟩ = some (.int .i64 b.op) /\ W.cell? ⟨w.heap.size, 3, none⟩ = some (.int .i64 b.config) /\ W.cell? ⟨w.heap.size, 4, none⟩ = some (.int .i64 b.c.n) /\ W.cell? ⟨w.heap.size, 5, none⟩ = some (.int .i64 b.c.k) /\ W.cell? ⟨w.heap.size, 6, none⟩ = some (.slice p b.c.L.length cap) /\ W.cell? ⟨w.heap.size, 7, none⟩ = some (.string b.key) /\ W.cell? ⟨w.heap.size, 8, none⟩ = some (.string b.text) /\ Below w1.heap.size w1 W) -> Calls Tryz.prog 8 #[.agg #[.int .i64 b.c.n, .int .i64 b.c.k, .slice p b.c.L.length cap]] W fun e w' => ∃ q d, e = .returned (.agg #[.int .i64 b.c.n, .int .i64 b.c.k, .slice q b.c.L.length d]) /\ Hid (CfgAt w' b.c q d) /\ (w'.cell? ⟨w.heap.size, 0, none⟩ = some (.bool true) /\ w'.cell? ⟨w.heap.size, 1, none⟩ = some (.int .i64 b.who) /\ w'.cell? ⟨w.heap.size, 2, none⟩ = some (.int .i64 b.op) /\ w'.cell? ⟨w.heap.size, 3, none⟩ = some (.int .i64 b.config) /\ w'.cell? ⟨w.heap.size, 4, none⟩ = some (.int .i64 b.c.n) /\ w'.cell? ⟨w.heap.size, 5, none⟩ = some (.int .i64 b.c.k) /\ w'.cell? ⟨w.heap.size, 6, none⟩ = some (.slice p b.c.L.length cap) /\ w'.cell? ⟨w.heap.size, 7, none⟩ = some (.string b.key) /\ w'.cell? ⟨w.heap.size, 8, none⟩ = some (.string b.text) /\ Below w1.heap.size w1 w')) := fun W hW => (ownConfig_any b.c p cap W (by omega) (HST1.out W hW.2.2.2.2.2.2.2.2.2) hi.empty).mono fun e w' hq => by
  obtain ⟨⟨q, d, e1, e2, e3, e4⟩, e5⟩ := hq
  exact ⟨q, d, e1, HCFA.out w' q d e2 e3 e4, HCE.out w' (hW.2.2.2.2.2.2.2.2.2.trans (e5.mono hW.2.2.2.2.2.2.2.2.2.size))⟩
 have HOKX : Hid (∀ W, Below w1.heap.size w1 W -> ErrsQ W ad /\ X W) := fun W hW => hi.ok (hb1.trans (hW.mono hb1.size))
 have HPT : Hid (∀ W q d, Hid (CfgAt W b.c q d) -> (W.cell? ⟨w.heap.size, 0, none⟩ = some (.bool true) /\ W.cell? ⟨w.heap.size, 1, none⟩ = some (.int .i64 b.who) /\ W.cell? ⟨w.heap.size, 2, none⟩ = some (.int .i64 b.op) /\ W.cell? ⟨w.heap.size, 3, none⟩ = some (.int .i64 b.config) /\ W.cell? ⟨w.heap.size, 4, none⟩ = some (.int .i64 b.c.n) /\ W.cell? ⟨w.heap.size, 5, none⟩ = some (.int .i64 b.c.k) /\ W.cell? ⟨w.heap.size, 6, none⟩ = some (.slice p b.c.L.length cap) /\ W.cell? ⟨w.heap.size, 7, none⟩ = some (.string b.key) /\ W.cell? ⟨w.heap.size, 8, none⟩ = some (.string b.text) /\ Below w1.heap.size w1 W) -> Calls Tryz.prog 7 #[.int .i64 b.who, .int .i64 b.op, .agg #[.int .i64 b.c.n, .int .i64 b.c.k, .slice q b.c.L.length d], .int .i64 b.config, .string b.key, .string b.text] W fun e w' => ∃ et eu, e = .returned (.tuple #[.pointer none, .iface et eu]) /\ Hid (ErrIs w' ad (.iface et eu) (bidF b).1 (bidF b).2) /\ (w'.cell? ⟨w.heap.size, 0, none⟩ = some (.bool true) /\ w'.cell? ⟨w.heap.size, 1, none⟩ = some (.int .i64 b.who) /\ w'.cell? ⟨w.heap.size, 2, none⟩ = some (.int .i64 b.op) /\ w'.cell? ⟨w.heap.size, 3, none⟩ = some (.int .i64 b.config) /\ w'.cell? ⟨w.heap.size, 4, none⟩ = some (.int .i64 b.c.n) /\ w'.cell? ⟨w.heap.size, 5, none⟩ = some (.int .i64 b.c.k) /\ w'.cell? ⟨w.heap.size, 6, none⟩ = some (.slice p b.c.L.length cap) /\ w'.cell? ⟨w.heap.size, 7, none⟩ = some (.string b.key) /\ w'.cell? ⟨w.heap.size, 8, none⟩ = some (.string b.text) /\ Below w1.heap.size w1 w')) := fun W q d hc hW => (hO.put b q d W hc.out h5 (by omega) (by omega) hi.who hi.op hi.config (HOKX.out W hW.2.2.2.2.2.2.2.2.2).1 (HOKX.out W hW.2.2.2.2.2.2.2.2.2).2).mono fun e w' hq => by
  obtain ⟨⟨ev, g1, g2⟩, g3⟩ := hq
  obtain ⟨et, eu, rfl⟩ := g1.some h6
  rcases g2 with ⟨_, g4⟩ | ⟨g4, _⟩
  ·exact ⟨et, eu, g4, g1, HCE.out w' (hW.2.2.2.2.2.2.2.2.2.trans (g3.mono hW.2.2.2.2.2.2.2.2.2.size))⟩
  ·exact absurd h6 g4
 have HBF : Hid (∀ W, Below w1.heap.size w1 W -> Calls Tryz.prog 10 #[.agg #[.bool true, .int .i64 b.who, .int .i64 b.op, .int .i64 b.config, .int .i64 b.c.n, .int .i64 b.c.k, .slice p b.c.L.length cap, .string b.key, .string b.text]] W fun e w' => e = .returned (.agg #[.int .i64 (bidF b).1, .int .i64 (bidF b).2]) /\ Below W.heap.size W w') := fun W hW => by
  have hbf := bidFault_any b p cap W (HCFA.out W p cap (HST1.out W hW) hi.room hi.empty) (by omega)
  unfold bidA at hbf
  rw [h5] at hbf
  exact hbf
 have HFT : Hid (∀ W et eu, Below w1.heap.size w1 W -> Hid (ErrIs W ad (.iface et eu) (bidF b).1 (bidF b).2) -> Calls Tryz.prog 11 #[.iface et eu, .agg #[.int .i64 (bidF b).1, .int .i64 (bidF b).2]] W fun e w' => e = .returned (.bool true) /\ Below w1.heap.size w1 w') := fun W et eu hW he => (faulted2_any ad (.iface et eu) (bidF b).1 (bidF b).2 W (hi.sent W (hb1.trans (hW.mono hb1.size))) he.out).mono fun e w' hq => ⟨hq.1, hW.trans (hq.2.mono hW.size)⟩
 have h6' : decide ((0 : Int) < (bidF b).1) = true := decide_eq_true h6
 have HS9 : Hid (∀ W, Below w1.heap.size w1 W -> (W.cell? ⟨w.heap.size, 0, none⟩ = some (.bool true) /\ W.cell? ⟨w.heap.size, 1, none⟩ = some (.int .i64 b.who) /\ W.cell? ⟨w.heap.size, 2, none⟩ = some (.int .i64 b.op) /\ W.cell? ⟨w.heap.size, 3, none⟩ = some (.int .i64 b.config) /\ W.cell? ⟨w.heap.size, 4, none⟩ = some (.int .i64 b.c.n) /\ W.cell? ⟨w.heap.size, 5, none⟩ = some (.int .i64 b.c.k) /\ W.cell? ⟨w.heap.size, 6, none⟩ = some (.slice p b.c.L.length cap) /\ W.cell? ⟨w.heap.size, 7, none⟩ = some (.string b.key) /\ W.cell? ⟨w.heap.size, 8, none⟩ = some (.string b.text) /\ Below w1.heap.size w1 W)) := HCE.out
 have H5 : Hid (b.put = true) := h5
 clear h1 h4 h5 h6
 clear hi hO hw1 hb1 hlt1 hbl1 n2 HCFA HST1 HOKX
 generalize bidF b = F at *
 go_enter Tryz.func3, Tryz.ntmps3
 go_wp2_with (first | rw [<- HW1.out] | fail)
 refine HAS.mono ?_
 rintro e w2 ⟨rfl, hb2⟩
 have HB2 : Hid (Below w1.heap.size w1 w2) := hb2
 clear hb2 HAS
 go_upto_region 2 with fail
 go_cut [50] from 15 to 50 (fun v W => v = .bool false /\ Below w1.heap.size w1 W)
 case first =>
  obtain ⟨d0, d1, d2, d3, d4, d5, d6, d7, d8, _⟩ := HCE.out w2 HB2.out
  rcases h3 with h3 | h3
  ·skip
   have q1 : decide ((100 : Int) < (b.key.size : Int)) = false := decide_eq_false (by omega)
   have q2 : decide ((100 : Int) < (b.text.size : Int)) = false := decide_eq_false (by omega)
   have q4 : decide ((2000 : Int) < (b.text.size : Int)) = false := decide_eq_false (by omega)
   go_wp2_with fail
   refine (HLC.out w2 HB2.out).mono ?_
   rintro e w3 ⟨rfl, hb3⟩
   clear d0 d1 d2 d3 d4 d5 d6 d7 d8
   obtain ⟨d0, d1, d2, d3, d4, d5, d6, d7, d8, _⟩ := HCE.out w3 hb3
   have HB3 : Hid (Below w1.heap.size w1 w3) := hb3
   clear hb3
   go_wp2_with fail
   refine (HMF.out w3 HB3.out).mono ?_
   rintro e w4 ⟨rfl, hb4⟩
   have HB4 : Hid (Below w1.heap.size w1 w4) := hb4
   clear d0 d1 d2 d3 d4 d5 d6 d7 d8 hb4
   go_wp2_with fail
   go_meet
   exact ⟨rfl, HB4.out⟩
  ·skip
   have q1 : decide ((100 : Int) < (b.key.size : Int)) = false := decide_eq_false (by omega)
   have q2 : decide ((100 : Int) < (b.text.size : Int)) = true := decide_eq_true (by omega)
   have q3 : decide ((b.text.size : Int) <= 1000) = false := decide_eq_false (by omega)
   have q4 : decide ((2000 : Int) < (b.text.size : Int)) = false := decide_eq_false (by omega)
   go_wp2_with fail
   refine (HLC.out w2 HB2.out).mono ?_
   rintro e w3 ⟨rfl, hb3⟩
   clear d0 d1 d2 d3 d4 d5 d6 d7 d8
   obtain ⟨d0, d1, d2, d3, d4, d5, d6, d7, d8, _⟩ := HCE.out w3 hb3
   have HB3 : Hid (Below w1.heap.size w1 w3) := hb3
   clear hb3
   go_wp2_with fail
   refine (HMF.out w3 HB3.out).mono ?_
   rintro e w4 ⟨rfl, hb4⟩
   have HB4 : Hid (Below w1.heap.size w1 w4) := hb4
   clear d0 d1 d2 d3 d4 d5 d6 d7 d8 hb4
   go_wp2_with fail
   go_meet
   exact ⟨rfl, HB4.out⟩
 case rest =>
  obtain ⟨rfl, hb4⟩ := hcut
  obtain ⟨w4, rfl⟩ : ∃ w4, w4 = wc := ⟨_, rfl⟩
  have HB4 : Hid (Below w1.heap.size w1 w4) := hb4
  have d0 := (HCE.out w4 hb4).1
  have HS40 := HS9.out w4.drew hb4.drew
  clear hb4 HLC HMF h3 HB2
  go_wp2
  go_region_held3 (fun W => (W.cell? ⟨w.heap.size, 0, none⟩ = some (.bool true) /\ W.cell? ⟨w.heap.size, 1, none⟩ = some (.int .i64 b.who) /\ W.cell? ⟨w.heap.size, 2, none⟩ = some (.int .i64 b.op) /\ W.cell? ⟨w.heap.size, 3, none⟩ = some (.int .i64 b.config) /\ W.cell? ⟨w.heap.size, 4, none⟩ = some (.int .i64 b.c.n) /\ W.cell? ⟨w.heap.size, 5, none⟩ = some (.int .i64 b.c.k) /\ W.cell? ⟨w.heap.size, 6, none⟩ = some (.slice p b.c.L.length cap) /\ W.cell? ⟨w.heap.size, 7, none⟩ = some (.string b.key) /\ W.cell? ⟨w.heap.size, 8, none⟩ = some (.string b.text) /\ Below w1.heap.size w1 W)) (first | assumption | exact HS40) (first | (go_at_call 8; refine (HOC.out _ (by assumption)).mono ?_; rintro e w5 ⟨q5, d5, rfl, hC5, hS5⟩) | (go_at_call 7; refine (HPT.out _ _ _ (by assumption) (by assumption)).mono ?_; rintro e w6 ⟨et, eu, rfl, hE6, hS6⟩))
  obtain ⟨e0, e1, e2, e3, e4, e5, e6, e7, e8, hb6⟩ := hS6
  have HB6 : Hid (Below w1.heap.size w1 w6) := hb6
  have HB6F := HBF.out w6 hb6
  clear hb6 HS40 HOC HPT hC5 hS5 d0 HBF
  go_wp2_with fail
  refine HB6F.mono ?_
  rintro e w7 ⟨rfl, hb7⟩
  obtain ⟨w8, hw8⟩ : ∃ w8, w8 = w7.alloc (.cells #[.int .i64 F.1, .int .i64 F.2] 39) := ⟨_, rfl⟩
  have hb78 : Below w7.heap.size w7 w8 := by rw [hw8]; exact (Below.refl _ _).alloc (Nat.le_refl _) _
  have k0 : w8.cell? ⟨w7.heap.size, 0, none⟩ = some (.int .i64 F.1) := by rw [hw8, World.cell?_alloc_at _ _ _ _ rfl]; rfl
  have k1 : w8.cell? ⟨w7.heap.size, 1, none⟩ = some (.int .i64 F.2) := by rw [hw8, World.cell?_alloc_at _ _ _ _ rfl]; rfl
  have hb68 : Below w6.heap.size w6 w8 := hb7.trans (hb78.mono hb7.size)
  have hb18 : Below w1.heap.size w1 w8 := HB6.out.trans (hb68.mono HB6.out.size)
  have HB18 : Hid (Below w1.heap.size w1 w8) := hb18
  have HW8 : Hid (w8 = w7.alloc (.cells #[.int .i64 F.1, .int .i64 F.2] 39)) := hw8
  have HE8 : Hid (ErrIs w8 ad (.iface et eu) F.1 F.2) := hE6.out.below hb68
  have HFX := HFT.out w8 et eu hb18 HE8
  clear hE6 hw8 hb78 hb68 hb18 hb7 HB6F HFT
  go_wp2_with (first | rw [<- HW8.out] | fail)
  refine HFX.mono ?_
  rintro e w9 ⟨rfl, hb9⟩
  have HB9 : Hid (Below w1.heap.size w1 w9) := hb9
  clear hb9 HFX
  go_wp2
  go_ret
  exact ⟨rfl, HB1.out.trans (HB9.out.mono HB1.out.size)⟩
set_option maxRecDepth 20000 in
set_option maxHeartbeats 40000000 in
theorem askHears_get_bad (hO : AskOk ad X Ak) (b : Bid) (p : Option Addr) (cap : Nat) (l : List Msg) (lp : Option Addr) (lcap : Nat) (w : World) (hi : LawIn ad X b p cap l lp w) (h1 : longC b.c = false) (h2 : ¬ 100 < b.key.size) (h3 : b.text.size <= 100 ∨ 1000 < b.text.size /\ b.text.size <= 2000) (h4 : fitsM l = true) (h5 : b.put = false) (h6 : 0 < (bidF b).1) : Calls Tryz.prog 3 #[.agg #[.bool b.put, .int .i64 b.who, .int .i64 b.op, .int .i64 b.config, .int .i64 b.c.n, .int .i64 b.c.k, .slice p b.c.L.length cap, .string b.key, .string b.text], .slice lp l.length lcap] w fun e w' => e = .returned (.bool true) /\ Below w.heap.size w w' := by
 rw [h5]
 obtain ⟨w1, hw1⟩ : ∃ w1, w1 = w.alloc (.cells #[.bool false, .int .i64 b.who, .int .i64 b.op, .int .i64 b.config, .int .i64 b.c.n, .int .i64 b.c.k, .slice p b.c.L.length cap, .string b.key, .string b.text] 26) := ⟨_, rfl⟩
 have hb1 : Below w.heap.size w w1 := by rw [hw1]; exact (Below.refl _ _).alloc (Nat.le_refl _) _
 have hlt1 : w.heap.size < w1.heap.size := by rw [hw1]; simp
 have hbl1 : w1.heap[w.heap.size]? = some (.cells #[.bool false, .int .i64 b.who, .int .i64 b.op, .int .i64 b.config, .int .i64 b.c.n, .int .i64 b.c.k, .slice p b.c.L.length cap, .string b.key, .string b.text] 26 (0, 0)) := by
  rw [hw1]
  show (w.heap.push _)[w.heap.size]? = _
  simp
 have HCE : Hid (∀ W, Below w1.heap.size w1 W -> (W.cell? ⟨w.heap.size, 0, none⟩ = some (.bool false) /\ W.cell? ⟨w.heap.size, 1, none⟩ = some (.int .i64 b.who) /\ W.cell? ⟨w.heap.size, 2, none⟩ = some (.int .i64 b.op) /\ W.cell? ⟨w.heap.size, 3, none⟩ = some (.int .i64 b.config) /\ W.cell? ⟨w.heap.size, 4, none⟩ = some (.int .i64 b.c.n) /\ W.cell? ⟨w.heap.size, 5, none⟩ = some (.int .i64 b.c.k) /\ W.cell? ⟨w.heap.size, 6, none⟩ = some (.slice p b.c.L.length cap) /\ W.cell? ⟨w.heap.size, 7, none⟩ = some (.string b.key) /\ W.cell? ⟨w.heap.size, 8, none⟩ = some (.string b.text) /\ Below w1.heap.size w1 W)) := fun W hW => by
  have hb := (hW.block _ hlt1).trans hbl1
  exact ⟨(rblk_cell hb 0).1, (rblk_cell hb 1).1, (rblk_cell hb 2).1, (rblk_cell hb 3).1, (rblk_cell hb 4).1, (rblk_cell hb 5).1, (rblk_cell hb 6).1, (rblk_cell hb 7).1, (rblk_cell hb 8).1, hW⟩
 have HAS := asked_any hO w1 (fun V hV => (hi.ok (hb1.trans (hV.mono hb1.size))).1) (fun V hV => (hi.ok (hb1.trans (hV.mono hb1.size))).2)
 have HLC : Hid (∀ W, Below w1.heap.size w1 W -> Calls Tryz.prog 5 #[.agg #[.int .i64 b.c.n, .int .i64 b.c.k, .slice p b.c.L.length cap]] W fun e w' => e = .returned (.bool (longC b.c)) /\ Below w1.heap.size w1 w') := fun W hW => (longConfig_any b.c p cap W hi.len hi.size ((hi.strs.below hb1).below hW)).mono fun e w' hq => ⟨hq.1, hW.trans (hq.2.mono hW.size)⟩
 have HMF : Hid (∀ W, Below w1.heap.size w1 W -> Calls Tryz.prog 6 #[.slice lp l.length lcap] W fun e w' => e = .returned (.bool (fitsM l)) /\ Below w1.heap.size w1 w') := fun W hW => (messagesFit_any lp l lcap W hi.much ((hi.msgs.below hb1).below hW)).mono fun e w' hq => ⟨hq.1, hW.trans (hq.2.mono hW.size)⟩
 have HW1 : Hid (w1 = w.alloc (.cells #[.bool false, .int .i64 b.who, .int .i64 b.op, .int .i64 b.config, .int .i64 b.c.n, .int .i64 b.c.k, .slice p b.c.L.length cap, .string b.key, .string b.text] 26)) := hw1
 have HB1 : Hid (Below w.heap.size w w1) := hb1
 rw [h1] at HLC
 rw [h4] at HMF
 obtain ⟨n1, n2⟩ := longC_fine h1
 have HST1 : Hid (∀ W, Below w1.heap.size w1 W -> Strs W p b.c.L) := fun W hW => (hi.strs.below hb1).below hW
 have HCFA : Hid (∀ W q d, Strs W q b.c.L -> b.c.L.length <= d -> (q = none -> b.c.L = [] /\ d = 0) -> CfgAt W b.c q d) := fun W q d g1 g2 g3 => cfgAt_of g1 g2 g3 h1 hi.ints
 have HOC : Hid (∀ W, (W.cell? ⟨w.heap.size, 0, none⟩ = some (.bool false) /\ W.cell? ⟨w.heap.size, 1, none⟩ = some (.int .i64 b.who) /\ W.cell? ⟨w.heap.size, 2, none⟩ = some (.int .i64 b.op) /\ W.cell? ⟨w.heap.size, 3, none⟩ = some (.int .i64 b.config) /\ W.cell? ⟨w.heap.size, 4, none⟩ = some (.int .i64 b.c.n) /\ W.cell? ⟨w.heap.size, 5, none⟩ = some (.int .i64 b.c.k) /\ W.cell? ⟨w.heap.size, 6, none⟩ = some (.slice p b.c.L.length cap) /\ W.cell? ⟨w.heap.size, 7, none⟩ = some (.string b.key) /\ W.cell? ⟨w.heap.size, 8, none⟩ = some (.string b.text) /\ Below w1.heap.size w1 W) -> Calls Tryz.prog 8 #[.agg #[.int .i64 b.c.n, .int .i64 b.c.k, .slice p b.c.L.length cap]] W fun e w' => ∃ q d, e = .returned (.agg #[.int .i64 b.c.n, .int .i64 b.c.k, .slice q b.c.L.length d]) /\ Hid (CfgAt w' b.c q d) /\ (w'.cell? ⟨w.heap.size, 0, none⟩ = some (.bool false) /\ w'.cell? ⟨w.heap.size, 1, none⟩ = some (.int .i64 b.who) /\ w'.cell? ⟨w.heap.size, 2, none⟩ = some (.int .i64 b.op) /\ w'.cell? ⟨w.heap.size, 3, none⟩ = some (.int .i64 b.config) /\ w'.cell? ⟨w.heap.size, 4, none⟩ = some (.int .i64 b.c.n) /\ w'.cell? ⟨w.heap.size, 5, none⟩ = some (.int .i64 b.c.k) /\ w'.cell? ⟨w.heap.size, 6, none⟩ = some (.slice p b.c.L.length cap) /\ w'.cell? ⟨w.heap.size, 7, none⟩ = some (.string b.key) /\ w'.cell? ⟨w.heap.size, 8, none⟩ = some (.string b.text) /\ Below w1.heap.size w1 w')) := fun W hW => (ownConfig_any b.c p cap W (by omega) (HST1.out W hW.2.2.2.2.2.2.2.2.2) hi.empty).mono fun e w' hq => by
  obtain ⟨⟨q, d, e1, e2, e3, e4⟩, e5⟩ := hq
  exact ⟨q, d, e1, HCFA.out w' q d e2 e3 e4, HCE.out w' (hW.2.2.2.2.2.2.2.2.2.trans (e5.mono hW.2.2.2.2.2.2.2.2.2.size))⟩
 have HOKX : Hid (∀ W, Below w1.heap.size w1 W -> ErrsQ W ad /\ X W) := fun W hW => hi.ok (hb1.trans (hW.mono hb1.size))
 have HPT : Hid (∀ W q d, Hid (CfgAt W b.c q d) -> (W.cell? ⟨w.heap.size, 0, none⟩ = some (.bool false) /\ W.cell? ⟨w.heap.size, 1, none⟩ = some (.int .i64 b.who) /\ W.cell? ⟨w.heap.size, 2, none⟩ = some (.int .i64 b.op) /\ W.cell? ⟨w.heap.size, 3, none⟩ = some (.int .i64 b.config) /\ W.cell? ⟨w.heap.size, 4, none⟩ = some (.int .i64 b.c.n) /\ W.cell? ⟨w.heap.size, 5, none⟩ = some (.int .i64 b.c.k) /\ W.cell? ⟨w.heap.size, 6, none⟩ = some (.slice p b.c.L.length cap) /\ W.cell? ⟨w.heap.size, 7, none⟩ = some (.string b.key) /\ W.cell? ⟨w.heap.size, 8, none⟩ = some (.string b.text) /\ Below w1.heap.size w1 W) -> Calls Tryz.prog 9 #[.int .i64 b.who, .int .i64 b.op, .agg #[.int .i64 b.c.n, .int .i64 b.c.k, .slice q b.c.L.length d], .int .i64 b.config, .string b.key] W fun e w' => ∃ et eu, e = .returned (.tuple #[.pointer none, .iface et eu]) /\ Hid (ErrIs w' ad (.iface et eu) (bidF b).1 (bidF b).2) /\ (w'.cell? ⟨w.heap.size, 0, none⟩ = some (.bool false) /\ w'.cell? ⟨w.heap.size, 1, none⟩ = some (.int .i64 b.who) /\ w'.cell? ⟨w.heap.size, 2, none⟩ = some (.int .i64 b.op) /\ w'.cell? ⟨w.heap.size, 3, none⟩ = some (.int .i64 b.config) /\ w'.cell? ⟨w.heap.size, 4, none⟩ = some (.int .i64 b.c.n) /\ w'.cell? ⟨w.heap.size, 5, none⟩ = some (.int .i64 b.c.k) /\ w'.cell? ⟨w.heap.size, 6, none⟩ = some (.slice p b.c.L.length cap) /\ w'.cell? ⟨w.heap.size, 7, none⟩ = some (.string b.key) /\ w'.cell? ⟨w.heap.size, 8, none⟩ = some (.string b.text) /\ Below w1.heap.size w1 w')) := fun W q d hc hW => (hO.get b q d W hc.out h5 (by omega) hi.who hi.op hi.config (HOKX.out W hW.2.2.2.2.2.2.2.2.2).1 (HOKX.out W hW.2.2.2.2.2.2.2.2.2).2).mono fun e w' hq => by
  obtain ⟨⟨ev, g1, g2⟩, g3⟩ := hq
  obtain ⟨et, eu, rfl⟩ := g1.some h6
  rcases g2 with ⟨_, g4⟩ | ⟨g4, _⟩
  ·exact ⟨et, eu, g4, g1, HCE.out w' (hW.2.2.2.2.2.2.2.2.2.trans (g3.mono hW.2.2.2.2.2.2.2.2.2.size))⟩
  ·exact absurd h6 g4
 have HBF : Hid (∀ W, Below w1.heap.size w1 W -> Calls Tryz.prog 10 #[.agg #[.bool false, .int .i64 b.who, .int .i64 b.op, .int .i64 b.config, .int .i64 b.c.n, .int .i64 b.c.k, .slice p b.c.L.length cap, .string b.key, .string b.text]] W fun e w' => e = .returned (.agg #[.int .i64 (bidF b).1, .int .i64 (bidF b).2]) /\ Below W.heap.size W w') := fun W hW => by
  have hbf := bidFault_any b p cap W (HCFA.out W p cap (HST1.out W hW) hi.room hi.empty) (by omega)
  unfold bidA at hbf
  rw [h5] at hbf
  exact hbf
 have HFT : Hid (∀ W et eu, Below w1.heap.size w1 W -> Hid (ErrIs W ad (.iface et eu) (bidF b).1 (bidF b).2) -> Calls Tryz.prog 11 #[.iface et eu, .agg #[.int .i64 (bidF b).1, .int .i64 (bidF b).2]] W fun e w' => e = .returned (.bool true) /\ Below w1.heap.size w1 w') := fun W et eu hW he => (faulted2_any ad (.iface et eu) (bidF b).1 (bidF b).2 W (hi.sent W (hb1.trans (hW.mono hb1.size))) he.out).mono fun e w' hq => ⟨hq.1, hW.trans (hq.2.mono hW.size)⟩
 have h6' : decide ((0 : Int) < (bidF b).1) = true := decide_eq_true h6
 have HS9 : Hid (∀ W, Below w1.heap.size w1 W -> (W.cell? ⟨w.heap.size, 0, none⟩ = some (.bool false) /\ W.cell? ⟨w.heap.size, 1, none⟩ = some (.int .i64 b.who) /\ W.cell? ⟨w.heap.size, 2, none⟩ = some (.int .i64 b.op) /\ W.cell? ⟨w.heap.size, 3, none⟩ = some (.int .i64 b.config) /\ W.cell? ⟨w.heap.size, 4, none⟩ = some (.int .i64 b.c.n) /\ W.cell? ⟨w.heap.size, 5, none⟩ = some (.int .i64 b.c.k) /\ W.cell? ⟨w.heap.size, 6, none⟩ = some (.slice p b.c.L.length cap) /\ W.cell? ⟨w.heap.size, 7, none⟩ = some (.string b.key) /\ W.cell? ⟨w.heap.size, 8, none⟩ = some (.string b.text) /\ Below w1.heap.size w1 W)) := HCE.out
 have H5 : Hid (b.put = false) := h5
 clear h1 h4 h5 h6
 clear hi hO hw1 hb1 hlt1 hbl1 n2 HCFA HST1 HOKX
 generalize bidF b = F at *
 go_enter Tryz.func3, Tryz.ntmps3
 go_wp2_with (first | rw [<- HW1.out] | fail)
 refine HAS.mono ?_
 rintro e w2 ⟨rfl, hb2⟩
 have HB2 : Hid (Below w1.heap.size w1 w2) := hb2
 clear hb2 HAS
 go_upto_region 2 with fail
 go_cut [50] from 15 to 50 (fun v W => v = .bool false /\ Below w1.heap.size w1 W)
 case first =>
  obtain ⟨d0, d1, d2, d3, d4, d5, d6, d7, d8, _⟩ := HCE.out w2 HB2.out
  rcases h3 with h3 | h3
  ·skip
   have q1 : decide ((100 : Int) < (b.key.size : Int)) = false := decide_eq_false (by omega)
   have q2 : decide ((100 : Int) < (b.text.size : Int)) = false := decide_eq_false (by omega)
   have q4 : decide ((2000 : Int) < (b.text.size : Int)) = false := decide_eq_false (by omega)
   go_wp2_with fail
   refine (HLC.out w2 HB2.out).mono ?_
   rintro e w3 ⟨rfl, hb3⟩
   clear d0 d1 d2 d3 d4 d5 d6 d7 d8
   obtain ⟨d0, d1, d2, d3, d4, d5, d6, d7, d8, _⟩ := HCE.out w3 hb3
   have HB3 : Hid (Below w1.heap.size w1 w3) := hb3
   clear hb3
   go_wp2_with fail
   refine (HMF.out w3 HB3.out).mono ?_
   rintro e w4 ⟨rfl, hb4⟩
   have HB4 : Hid (Below w1.heap.size w1 w4) := hb4
   clear d0 d1 d2 d3 d4 d5 d6 d7 d8 hb4
   go_wp2_with fail
   go_meet
   exact ⟨rfl, HB4.out⟩
  ·skip
   have q1 : decide ((100 : Int) < (b.key.size : Int)) = false := decide_eq_false (by omega)
   have q2 : decide ((100 : Int) < (b.text.size : Int)) = true := decide_eq_true (by omega)
   have q3 : decide ((b.text.size : Int) <= 1000) = false := decide_eq_false (by omega)
   have q4 : decide ((2000 : Int) < (b.text.size : Int)) = false := decide_eq_false (by omega)
   go_wp2_with fail
   refine (HLC.out w2 HB2.out).mono ?_
   rintro e w3 ⟨rfl, hb3⟩
   clear d0 d1 d2 d3 d4 d5 d6 d7 d8
   obtain ⟨d0, d1, d2, d3, d4, d5, d6, d7, d8, _⟩ := HCE.out w3 hb3
   have HB3 : Hid (Below w1.heap.size w1 w3) := hb3
   clear hb3
   go_wp2_with fail
   refine (HMF.out w3 HB3.out).mono ?_
   rintro e w4 ⟨rfl, hb4⟩
   have HB4 : Hid (Below w1.heap.size w1 w4) := hb4
   clear d0 d1 d2 d3 d4 d5 d6 d7 d8 hb4
   go_wp2_with fail
   go_meet
   exact ⟨rfl, HB4.out⟩
 case rest =>
  obtain ⟨rfl, hb4⟩ := hcut
  obtain ⟨w4, rfl⟩ : ∃ w4, w4 = wc := ⟨_, rfl⟩
  have HB4 : Hid (Below w1.heap.size w1 w4) := hb4
  have d0 := (HCE.out w4 hb4).1
  have HS40 := HS9.out w4.drew hb4.drew
  clear hb4 HLC HMF h3 HB2
  go_wp2
  go_region_held3 (fun W => (W.cell? ⟨w.heap.size, 0, none⟩ = some (.bool false) /\ W.cell? ⟨w.heap.size, 1, none⟩ = some (.int .i64 b.who) /\ W.cell? ⟨w.heap.size, 2, none⟩ = some (.int .i64 b.op) /\ W.cell? ⟨w.heap.size, 3, none⟩ = some (.int .i64 b.config) /\ W.cell? ⟨w.heap.size, 4, none⟩ = some (.int .i64 b.c.n) /\ W.cell? ⟨w.heap.size, 5, none⟩ = some (.int .i64 b.c.k) /\ W.cell? ⟨w.heap.size, 6, none⟩ = some (.slice p b.c.L.length cap) /\ W.cell? ⟨w.heap.size, 7, none⟩ = some (.string b.key) /\ W.cell? ⟨w.heap.size, 8, none⟩ = some (.string b.text) /\ Below w1.heap.size w1 W)) (first | assumption | exact HS40) (first | (go_at_call 8; refine (HOC.out _ (by assumption)).mono ?_; rintro e w5 ⟨q5, d5, rfl, hC5, hS5⟩) | (go_at_call 9; refine (HPT.out _ _ _ (by assumption) (by assumption)).mono ?_; rintro e w6 ⟨et, eu, rfl, hE6, hS6⟩))
  obtain ⟨e0, e1, e2, e3, e4, e5, e6, e7, e8, hb6⟩ := hS6
  have HB6 : Hid (Below w1.heap.size w1 w6) := hb6
  have HB6F := HBF.out w6 hb6
  clear hb6 HS40 HOC HPT hC5 hS5 d0 HBF
  go_wp2_with fail
  refine HB6F.mono ?_
  rintro e w7 ⟨rfl, hb7⟩
  obtain ⟨w8, hw8⟩ : ∃ w8, w8 = w7.alloc (.cells #[.int .i64 F.1, .int .i64 F.2] 39) := ⟨_, rfl⟩
  have hb78 : Below w7.heap.size w7 w8 := by rw [hw8]; exact (Below.refl _ _).alloc (Nat.le_refl _) _
  have k0 : w8.cell? ⟨w7.heap.size, 0, none⟩ = some (.int .i64 F.1) := by rw [hw8, World.cell?_alloc_at _ _ _ _ rfl]; rfl
  have k1 : w8.cell? ⟨w7.heap.size, 1, none⟩ = some (.int .i64 F.2) := by rw [hw8, World.cell?_alloc_at _ _ _ _ rfl]; rfl
  have hb68 : Below w6.heap.size w6 w8 := hb7.trans (hb78.mono hb7.size)
  have hb18 : Below w1.heap.size w1 w8 := HB6.out.trans (hb68.mono HB6.out.size)
  have HB18 : Hid (Below w1.heap.size w1 w8) := hb18
  have HW8 : Hid (w8 = w7.alloc (.cells #[.int .i64 F.1, .int .i64 F.2] 39)) := hw8
  have HE8 : Hid (ErrIs w8 ad (.iface et eu) F.1 F.2) := hE6.out.below hb68
  have HFX := HFT.out w8 et eu hb18 HE8
  clear hE6 hw8 hb78 hb68 hb18 hb7 HB6F HFT
  go_wp2_with (first | rw [<- HW8.out] | fail)
  refine HFX.mono ?_
  rintro e w9 ⟨rfl, hb9⟩
  have HB9 : Hid (Below w1.heap.size w1 w9) := hb9
  clear hb9 HFX
  go_wp2
  go_ret
  exact ⟨rfl, HB1.out.trans (HB9.out.mono HB1.out.size)⟩
end Go.Proofs.YtobmckfcipeanaaGreatDoor
