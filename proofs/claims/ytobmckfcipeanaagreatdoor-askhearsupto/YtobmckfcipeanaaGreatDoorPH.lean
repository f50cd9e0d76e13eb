import Derived.Test.YtobmckfcipeanaaGreatDoorPT
import Derived.Test.YtobmckfcipeanaaGreatDoorPkGW
import Derived.Test.YtobmckfcipeanaaGreatDoorYF
import Derived.Test.YtobmckfcipeanaaGreatDoorPkCW
import Derived.Deep.RegionHeld3
import Derived.Test.YtobmckfcipeanaaGreatDoorPS
import Derived.Test.YtobmckfcipeanaaGreatDoorRA
import Derived.Deep.CutRange
namespace Go.Proofs.YtobmckfcipeanaaGreatDoor
open Go.RowKit
theorem idxN_old {F : List ByteArray} {x y : ByteArray} (hy : y ∈ F) : idxN (F ++ [x]) y = idxN F y := by
 unfold idxN
 rw [List.findIdx_append]
 rw [if_pos (List.findIdx_lt_length_of_exists ⟨y, hy, by simp⟩)]
theorem idxN_new {F : List ByteArray} {x : ByteArray} (hx : x ∉ F) : idxN (F ++ [x]) x = F.length := by
 unfold idxN
 rw [List.findIdx_append]
 have h : List.findIdx (fun z => decide (z = x)) F = F.length := by
  rw [List.findIdx_eq_length]
  intro z hz
  exact decide_eq_false (fun e => hx (e ▸ hz))
 rw [if_neg (by omega)]
 simp
theorem rowL_old {a : MAsk} {m : Msg} (hb : a.from_.length = a.L.length) {y : ByteArray} (hy : y ∈ a.from_) : rowL (a.heard m) y = rowL a y := by
 unfold rowL MAsk.heard
 show (a.L ++ [m.L]).getD (idxN (a.from_ ++ [m.from_]) y) [] = _
 rw [idxN_old hy, List.getD_eq_getElem?_getD, List.getD_eq_getElem?_getD, List.getElem?_append_left (by rw [<- hb]; exact idxN_lt' hy)]
theorem rowL_new {a : MAsk} {m : Msg} (hb : a.from_.length = a.L.length) (hn : m.from_ ∉ a.from_) : rowL (a.heard m) m.from_ = m.L := by
 unfold rowL MAsk.heard
 show (a.L ++ [m.L]).getD (idxN (a.from_ ++ [m.from_]) m.from_) [] = _
 rw [idxN_new hn, hb, List.getD_eq_getElem?_getD, List.getElem?_append_right (Nat.le_refl _), Nat.sub_self]
 rfl
theorem idxN_txt {F : List ByteArray} (hn : F.Nodup) {i : Nat} (hi : i < F.length) : idxN F F[i] = i := idxN_eq hi (txt_getElem F i hi) fun j hj e => by
 rw [txt_getElem F j (by omega)] at e
 exact List.pairwise_iff_getElem.1 hn j i (by omega) hi hj e
theorem told_mem {a : MAsk} (hb : a.from_.length = a.L.length) (hn : a.from_.Nodup) (hs : ∀ x ∈ a.from_, x ∈ a.c.L) (v : Ver) : v ∈ (toldP a a.c.L).flatten ↔ v ∈ a.L.flatten := by
 simp only [List.mem_flatten]
 constructor
 ·rintro ⟨l, hl, hv⟩
  unfold toldP at hl
  obtain ⟨x, hx, rfl⟩ := List.mem_map.1 hl
  by_cases hi : inL a.from_ x = true
  ·rw [if_pos hi] at hv
   have hlt : idxN a.from_ x < a.L.length := by rw [<- hb]; exact idxN_lt' (inL_iff.1 hi)
   refine ⟨rowL a x, ?_, hv⟩
   unfold rowL
   rw [List.getD_eq_getElem?_getD, List.getElem?_eq_getElem hlt]
   exact List.getElem_mem hlt
  ·rw [if_neg hi] at hv
   cases hv
 ·rintro ⟨l, hl, hv⟩
  obtain ⟨i, hi, rfl⟩ := List.getElem_of_mem hl
  have hi' : i < a.from_.length := by omega
  have hm : a.from_[i] ∈ a.from_ := List.getElem_mem hi'
  refine ⟨rowL a a.from_[i], ?_, ?_⟩
  ·unfold toldP
   refine List.mem_map.2 ⟨a.from_[i], hs _ hm, ?_⟩
   rw [if_pos (inL_iff.2 hm)]
  ·unfold rowL
   rw [idxN_txt hn hi', List.getD_eq_getElem?_getD, List.getElem?_eq_getElem hi]
   exact hv
theorem takes_facts {a : MAsk} {m : Msg} (hs : a.st ≠ .sealing) (h : a.takes m = true) : (a.st = .looking ∨ a.st = .keeping) /\ m.from_ ∈ a.c.L /\ m.from_ ∉ a.from_ := by
 unfold MAsk.takes at h
 rw [Bool.and_eq_true, Bool.and_eq_true] at h
 obtain ⟨q1, q2, q3⟩ := h
 refine ⟨?_, inL_iff.1 q2, fun hm => by rw [inL_iff.2 hm] at q3; cases q3⟩
 have h0 := (of_decide_eq_true q1).1
 cases e : a.st with
 | looking => exact Or.inl rfl
 | sealing => exact absurd e hs
 | keeping => exact Or.inr rfl
 | done => rw [e] at h0; exact absurd rfl h0
 | refused => rw [e] at h0; exact absurd rfl h0
theorem AFine.heard {a : MAsk} {m : Msg} (h : AFine a) (ht : a.takes m = true) (hv : ∀ v ∈ m.L, VerI64 v) : AFine (a.heard m) := by
 obtain ⟨_, h2, h3⟩ := takes_facts h.st ht
 refine ⟨h.cfg, h.key, h.name, h.still, h.whos, h.opb, h.cfb, h.text, h.st, ?_, ?_, ?_, h.keep, ?_⟩
 ·show (a.from_ ++ [m.from_]).Nodup
  rw [List.nodup_append]
  exact ⟨h.nodup, by simp, fun x hx y hy => by rw [List.mem_singleton.1 hy]; intro e; exact h3 (e ▸ hx)⟩
 ·intro x hx
  rcases List.mem_append.1 hx with hx | hx
  ·exact h.sub x hx
  ·rw [List.mem_singleton.1 hx]; exact h2
 ·show (a.from_ ++ [m.from_]).length = (a.L ++ [m.L]).length
  simp [h.both]
 ·intro l hl
  rcases List.mem_append.1 hl with hl | hl
  ·exact h.vers l hl
  ·rw [List.mem_singleton.1 hl]; exact hv
theorem found_text {a : MAsk} (h : AFine a) : a.found_.text.size <= 1000 := by
 unfold MAsk.found_
 split
 ·exact h.text
 ·obtain ⟨⟨h1, _, _⟩, _⟩ := cfgF_fine h.cfg
  exact bestF_size (by omega) _ _ (by decide)
theorem found_same (a : MAsk) : a.found_.c = a.c /\ a.found_.key = a.key /\ a.found_.name = a.name /\ a.found_.moves = a.moves /\ a.found_.who = a.who /\ a.found_.op = a.op /\ a.found_.config = a.config /\ a.found_.st = a.st /\ a.found_.from_ = a.from_ /\ a.found_.L = a.L /\ a.found_.put = a.put := by
 unfold MAsk.found_
 split <;> exact ⟨rfl, rfl, rfl, rfl, rfl, rfl, rfl, rfl, rfl, rfl, rfl⟩
theorem AFine.ended {a : MAsk} (h : AFine a) {st : St} (hs : st = .done ∨ st = .refused) : AFine { a with st := st } := ⟨h.cfg, h.key, h.name, h.still, h.whos, h.opb, h.cfb, h.text, (by intro e; rcases hs with hs | hs <;> rw [hs] at e <;> cases e), h.nodup, h.sub, h.both, (fun e => by rcases hs with hs | hs <;> rw [hs] at e <;> cases e), h.vers⟩
theorem AFine.found {a : MAsk} (h : AFine a) (hst : a.st = .looking) : AFine a.found_ := by
 obtain ⟨e1, e2, e3, e4, e5, e6, e7, e8, e9, e10, _⟩ := found_same a
 exact ⟨by rw [e1]; exact h.cfg, by rw [e2]; exact h.key, by rw [e3]; exact h.name, by rw [e4]; exact h.still, by rw [e5]; exact h.whos, by rw [e6]; exact h.opb, by rw [e7]; exact h.cfb, found_text h, by rw [e8]; exact h.st, by rw [e9]; exact h.nodup, by rw [e9, e1]; exact h.sub, by rw [e9, e10]; exact h.both, (fun e => by rw [e8, hst] at e; cases e), by rw [e10]; exact h.vers⟩
theorem keeps_eq {a : MAsk} (h : a.moves = false) : a.keeps = { a with st := .keeping, from_ := [], L := [] } := by
 unfold MAsk.keeps
 rw [h]
 rfl
theorem AFine.keeps {a : MAsk} (h : AFine a) (hf : a.found = true) : AFine a.keeps := by
 rw [keeps_eq h.still]
 exact ⟨h.cfg, h.key, h.name, h.still, h.whos, h.opb, h.cfb, h.text, (by intro e; cases e), List.nodup_nil, (fun x hx => by cases hx), rfl, (fun _ => hf), (fun l hl => by cases hl)⟩
variable {w w' : World} {B h : Nat} {S S0 : Nat -> Prop} {a : MAsk} {mv cv : Value} {aw : ByteArray} {m : Option Nat} {D : DataW Value} {row : ByteArray -> Value}
theorem Stat.shut {a' : MAsk} {cv' : Value} {row' : ByteArray -> Value} (hst : Stat w S0 a mv cv row) (hc : a'.c = a.c) (hs : a'.st ≠ .looking) : Stat w S0 a' mv cv' row' := ⟨by rw [hc]; exact hst.mem, fun e => absurd e hs, fun e => absurd e hs, hst.lt⟩
theorem PAk.ended {a' : MAsk} {cv' : Value} (hp : PAk w B h S S0 a mv cv aw m D row) (hw : AskWr h (pkCells a' (enoughN a'.c) mv (.map none) cv' aw) w w') (hc : a'.c = a.c) (hf : AFine a') (hs : a'.st = .done ∨ a'.st = .refused) : PAkOf w' B h S a' := by
 have hne : a'.st ≠ .looking := by rcases hs with e | e <;> rw [e] <;> intro e' <;> cases e'
 have hnk : a'.st ≠ .keeping := by rcases hs with e | e <;> rw [e] <;> intro e' <;> cases e'
 have hst : Stat w' S0 a mv cv row := hp.stat.keep hw.size (fun k hk => hw.oth k (hp.stat.lt k hk) (hp.s0 k hk).2.1)
 exact ⟨S0, mv, cv', aw, none, D, row, hw.blk, hp.self, fun k hk => ⟨(hp.inB k hk).1, Nat.lt_of_lt_of_le (hp.inB k hk).2 hw.size⟩, hst.shut hc hne, fun k hk => ⟨(hp.s0 k hk).1, (hp.s0 k hk).2.1, fun e => by cases e⟩, hf, (fun e => by rcases e with e | e; exact absurd e hne; exact absurd e hnk), (fun _ => rfl), (fun e => absurd e hne), (fun e => absurd e hnk)⟩
theorem PAk.kept {a' : MAsk} {cv' : Value} {mb : Nat} (hp : PAk w B h S S0 a mv cv aw m D row) (hw : AskWr h (pkCells a' (enoughN a'.c) mv (.map (some mb)) cv' wKept) w w') (hc : a'.c = a.c) (hf : AFine a') (hs : a'.st = .keeping) (hn : a'.from_ = []) (hmb : w.heap.size <= mb) (hm : w'.heap[mb]? = some (.map #[] 0)) : ∃ row' D', PAk w' B h (fun k => S k ∨ k = mb) S0 a' mv cv' wKept (some mb) D' row' := by
 have hne : a'.st ≠ .looking := by rw [hs]; intro e; cases e
 have hst : Stat w' S0 a mv cv row := hp.stat.keep hw.size (fun k hk => hw.oth k (hp.stat.lt k hk) (hp.s0 k hk).2.1)
 have hmlt : mb < w'.heap.size := by
  rcases Nat.lt_or_ge mb w'.heap.size with h' | h'
  ·exact h'
  ·rw [Array.getElem?_eq_none h'] at hm; cases hm
 have hB : B <= mb := Nat.le_trans (hp.inB h hp.self).1 (Nat.le_trans (Nat.le_of_lt hp.lt) hmb)
 refine ⟨fun _ => .slice none 0 0, .map [], hw.blk, Or.inl hp.self, ?_, hst.shut hc hne, fun k hk => ⟨Or.inl (hp.s0 k hk).1, (hp.s0 k hk).2.1, fun e => ?_⟩, hf, fun _ => ⟨mb, rfl, Or.inr rfl, ?_, ?_⟩, (fun e => by rw [hs] at e; rcases e with e | e <;> cases e), (fun e => absurd e hne), (fun _ => rfl)⟩
 ·rintro k (hk | rfl)
  ·exact ⟨(hp.inB k hk).1, Nat.lt_of_lt_of_le (hp.inB k hk).2 hw.size⟩
  ·exact ⟨hB, hmlt⟩
 ·have := hp.stat.lt k hk
  have := Option.some.inj e
  omega
 ·have := hp.lt
  omega
 ·rw [hn]
  refine ⟨⟨0, #[], 0, hm, ?_⟩, fun _ _ => rfl, (fun x hx => by cases hx), rfl⟩
  obtain ⟨es, clock, g1, g2, g3, g4⟩ := World.ownsMap_made w' Tryz.prog 9 anyR
  have e : (w'.alloc (.map #[] 0)).heap[w'.heap.size]? = some (.map #[] 0) := by
   show (w'.heap.push _)[w'.heap.size]? = _
   simp
  rw [e] at g1
  injection g1 with g1
  injection g1 with g5 g6
  subst g5 g6
  exact ⟨g2, g3, g4⟩
theorem PAk.heard {b : Nat} {msg : Msg} {l : List Ver} {v' : Value} {w1 : World} (hp : PAk w B h S S0 a mv cv aw (some b) D row) (ht : a.takes msg = true) (hv : ∀ v ∈ msg.L, VerI64 v) (hl : a.st = .looking -> l = msg.L) (hfs : msg.from_.size <= maxLen)
 (ho : OwnR verE 69 w1 w.heap.size v' l) (hb : Below w.heap.size w w1) (hs : SetOk w1 w' b D msg.from_ v') :
 ∃ S1 S01 D' row', PAk w' B h S1 S01 (a.heard msg) mv cv aw (some b) D' row' /\ Upd S S1 w w' := by
 obtain ⟨h1, h2, h3⟩ := takes_facts hp.fine.st ht
 obtain ⟨b', hbe, hSb, hbh, hH⟩ := hp.open_ h1
 obtain rfl : b = b' := Option.some.inj hbe
 have hg := hs.grown
 have hblt : b < w.heap.size := (hp.inB b hSb).2
 have hsz : w.heap.size <= w'.heap.size := Nat.le_trans hb.size hg.size
 have hoth : ∀ k, k < w.heap.size -> k ≠ b -> w'.heap[k]? = w.heap[k]? := fun k hk hne => (hg.block k (Nat.lt_of_lt_of_le hk hb.size) (fun e => hne (Option.some.inj e))).trans (hb.block k hk)
 have hvb : ∀ k, v'.ownBlock = some k -> w.heap.size <= k /\ k < w1.heap.size := fun k hk => ho.block hk
 have hBw : B <= w.heap.size := Nat.le_trans (hp.inB h hp.self).1 (Nat.le_of_lt hp.lt)
 have hs0 : ∀ k, S0 k -> w'.heap[k]? = w.heap[k]? := fun k hk => hoth k (hp.stat.lt k hk) (fun e => (hp.s0 k hk).2.2 (by rw [e]))
 have hst : Stat w' S0 a mv cv row := hp.stat.keep hsz hs0
 refine ⟨fun k => S k ∨ v'.ownBlock = some k, fun k => S0 k ∨ v'.ownBlock = some k, D.put (litK msg.from_) (.held v'), fun y => if y = msg.from_ then v' else row y, ⟨?_, Or.inl hp.self, ?_, ⟨?_, fun hlk => ?_, fun hlk x hx => ?_, ?_⟩, ?_, hp.fine.heard ht hv, fun _ => ⟨b, rfl, Or.inl hSb, hbh, ?_⟩, hp.shut, hp.aw1, hp.aw2⟩, ⟨hg.os.trans hb.os, hg.tape.trans hb.tape, hg.output.trans hb.output, hsz, ?_, ?_⟩⟩
 ·rw [hoth h hp.lt (fun e => hbh e.symm)]
  exact hp.blk
 ·rintro k (hk | hk)
  ·exact ⟨(hp.inB k hk).1, Nat.lt_of_lt_of_le (hp.inB k hk).2 hsz⟩
  ·have := hvb k hk; exact ⟨by omega, Nat.lt_of_lt_of_le this.2 hg.size⟩
 ·obtain ⟨p, c, g1, g2, g3, g4, g5⟩ := hst.mem
  exact ⟨p, c, g1, g2, g3, g4, fun b o e => Or.inl (g5 b o e)⟩
 ·rcases hst.ch hlk with ⟨g0, wb, tb, g1, g2, g3, g4⟩ | ⟨g0, cb, g1, g2, g3⟩
  ·exact Or.inl ⟨g0, wb, tb, g1, Or.inl g2, Or.inl g3, g4⟩
  ·exact Or.inr ⟨g0, cb, g1, Or.inl g2, g3⟩
 ·by_cases e : x = msg.from_
  ·subst e
   rw [if_pos rfl, rowL_new hp.fine.both h3, <- hl hlk]
   obtain ⟨q, c, g1, g2, g3, g4, g5⟩ := ho.form
   refine ⟨q, c, g1, g2.sameAt hg.size fun b' o' e' => ?_, g3, g4, fun b' o' e' => Or.inr (by rw [g1, e']; rfl)⟩
   exact hg.block b' (g5 b' o' e').2 (fun e2 => by have := (g5 b' o' e').1; have := Option.some.inj e2; omega)
  ·have hx' : x ∈ a.from_ := by
    rcases List.mem_append.1 hx with hx | hx
    ·exact hx
    ·exact absurd (List.mem_singleton.1 hx) e
   rw [if_neg e, rowL_old hp.fine.both hx']
   obtain ⟨q, c, g1, g2, g3, g4, g5⟩ := hst.rows hlk x hx'
   exact ⟨q, c, g1, g2, g3, g4, fun b o e => Or.inl (g5 b o e)⟩
 ·rintro k (hk | hk)
  ·exact hst.lt k hk
  ·exact Nat.lt_of_lt_of_le (hvb k hk).2 hg.size
 ·rintro k (hk | hk)
  ·exact ⟨Or.inl (hp.s0 k hk).1, (hp.s0 k hk).2⟩
  ·have := hvb k hk
   have := hp.lt
   exact ⟨Or.inr hk, by omega, fun e => by have := Option.some.inj e; omega⟩
 ·exact hH.put hfs h3 v' hs.own
 ·intro k hk hn
  exact hoth k hk (fun e => hn (by rw [e]; exact hSb))
 ·rintro k (hk | hk)
  ·exact Or.inl hk
  ·exact Or.inr (hvb k hk).1
end Go.Proofs.YtobmckfcipeanaaGreatDoor
namespace Go.Proofs.YtobmckfcipeanaaGreatDoor
open Go.RowKit
variable {w w' : World} {B h : Nat} {S S0 : Nat -> Prop} {a : MAsk} {mv cv : Value} {aw : ByteArray} {m : Option Nat} {D : DataW Value} {row : ByteArray -> Value}
set_option maxRecDepth 10000 in
theorem pstate_any (hp : PAk w B h S S0 a mv cv aw m D row) : Calls Tryz.prog 20 #[.pointer (some ⟨h, 0, none⟩)] w fun e w' => e = .returned (.string a.st.word) /\ Below w.heap.size w w' := by
 have c10 : w.cell? ⟨h, 10, none⟩ = some (.string a.st.word) := hp.cell 10
 clear hp
 generalize a.st.word = sw at *
 go_enter Tryz.func20, Tryz.ntmps20
 go_wp2
 go_ret
 exact ⟨rfl, Below.refl _ _⟩
set_option maxRecDepth 10000 in
set_option maxHeartbeats 4000000 in
theorem panswer_any (hp : PAk w B h S S0 a mv cv aw m D row) : Calls Tryz.prog 21 #[.pointer (some ⟨h, 0, none⟩)] w fun e w' => e = .returned (if a.st = .done /\ a.found = true then .tuple #[.agg #[.int .i64 a.tag.1, .int .i64 a.tag.2], .string a.text, .bool true] else .tuple #[.agg #[.int .i64 0, .int .i64 0], .string ⟨#[]⟩, .bool false]) /\ Below w.heap.size w w' := by
 obtain ⟨w1, hw1⟩ : ∃ w1, w1 = w.alloc (.cells #[.int .i64 0, .int .i64 0] 46) := ⟨_, rfl⟩
 have hb1 : Below w.heap.size w w1 := by rw [hw1]; exact (Below.refl _ _).alloc (Nat.le_refl _) _
 have hP1 := hp.below hb1
 have hlt1 : w.heap.size < w1.heap.size := by rw [hw1]; simp
 have k0 : w1.cell? ⟨w.heap.size, 0, none⟩ = some (.int .i64 0) := by rw [hw1, World.cell?_alloc_at _ _ _ _ rfl]; rfl
 have k1 : w1.cell? ⟨w.heap.size, 1, none⟩ = some (.int .i64 0) := by rw [hw1, World.cell?_alloc_at _ _ _ _ rfl]; rfl
 have f0 : w1.frozen? ⟨w.heap.size, 0, none⟩ = false := by rw [hw1]; exact World.frozen?_alloc_at _ _ _ _ rfl
 have f1 : w1.frozen? ⟨w.heap.size, 1, none⟩ = false := by rw [hw1]; exact World.frozen?_alloc_at _ _ _ _ rfl
 have c10 : w1.cell? ⟨h, 10, none⟩ = some (.string a.st.word) := hP1.cell 10
 have HW1 : Hid (w1 = w.alloc (.cells #[.int .i64 0, .int .i64 0] 46)) := hw1
 have HB1 : Hid (Below w.heap.size w w1) := hb1
 have htx : a.obj.2.2.1.size <= 1000 := by
  unfold MAsk.obj
  split
  ·exact hp.fine.text
  ·decide
 by_cases hd : a.st = .done
 ·have hres : (if a.st = .done /\ a.found = true then (.tuple #[.agg #[.int .i64 a.tag.1, .int .i64 a.tag.2], .string a.text, .bool true] : Value) else .tuple #[.agg #[.int .i64 0, .int .i64 0], .string ⟨#[]⟩, .bool false]) = .tuple #[.agg #[.int .i64 a.obj.1, .int .i64 a.obj.2.1], .string a.obj.2.2.1, .bool a.obj.2.2.2] := by
   unfold MAsk.obj
   by_cases hf : a.found = true
   ·rw [if_pos ⟨hd, hf⟩, if_pos ⟨Or.inr hd, hf⟩]
   ·rw [if_neg (fun e => hf e.2), if_neg (fun e => hf e.2)]
  rw [hres]
  have q : w1.cell? ⟨h, 10, none⟩ = some (.string ⟨#[100, 111, 110, 101]⟩) := by rw [c10, hd]; rfl
  have HS : Hid (∀ W, Below w.heap.size w W -> (W.cell? ⟨h, 12, none⟩ = some (.int .i64 a.obj.1) /\ W.cell? ⟨h, 13, none⟩ = some (.int .i64 a.obj.2.1) /\ W.cell? ⟨h, 14, none⟩ = some (.string a.obj.2.2.1) /\ W.cell? ⟨h, 15, none⟩ = some (.bool a.obj.2.2.2) /\ Below w.heap.size w W)) := fun W hW => by
   have hq := hp.below hW
   exact ⟨hq.cell 12, hq.cell 13, hq.cell 14, hq.cell 15, hW⟩
  generalize a.obj = ob at *
  obtain ⟨o1, o2, o3, o4⟩ := ob
  dsimp only at *
  have HCL : Hid (Calls Tryz.prog 24 #[.string o3] w1.drew fun e w' => e = .returned (.string o3) /\ (w'.cell? ⟨h, 12, none⟩ = some (.int .i64 o1) /\ w'.cell? ⟨h, 13, none⟩ = some (.int .i64 o2) /\ w'.cell? ⟨h, 14, none⟩ = some (.string o3) /\ w'.cell? ⟨h, 15, none⟩ = some (.bool o4) /\ Below w.heap.size w w') /\ (w'.cell? ⟨w.heap.size, 0, none⟩ = some (.int .i64 0) /\ w'.cell? ⟨w.heap.size, 1, none⟩ = some (.int .i64 0) /\ w'.frozen? ⟨w.heap.size, 0, none⟩ = false /\ w'.frozen? ⟨w.heap.size, 1, none⟩ = false)) := (sclone_any o3 w1.drew (by omega)).mono fun e w' hq => by
   have hW : Below w1.heap.size w1 w' := (Below.refl _ w1).drew.trans hq.2
   exact ⟨hq.1, HS.out w' (hb1.trans (hW.mono hb1.size)), (hW.cell (p := ⟨w.heap.size, 0, none⟩) hlt1).trans k0, (hW.cell (p := ⟨w.heap.size, 1, none⟩) hlt1).trans k1, (hW.frozen (p := ⟨w.heap.size, 0, none⟩) hlt1).trans f0, (hW.frozen (p := ⟨w.heap.size, 1, none⟩) hlt1).trans f1⟩
  have HS0 := HS.out w1.drew hb1.drew
  clear hp hP1 c10 hw1 hb1 hres hd hlt1
  go_enter Tryz.func21, Tryz.ntmps21
  go_wp2_with (first | rw [<- HW1.out] | fail)
  go_region_held3 (fun W => (W.cell? ⟨h, 12, none⟩ = some (.int .i64 o1) /\ W.cell? ⟨h, 13, none⟩ = some (.int .i64 o2) /\ W.cell? ⟨h, 14, none⟩ = some (.string o3) /\ W.cell? ⟨h, 15, none⟩ = some (.bool o4) /\ Below w.heap.size w W)) (first | assumption | exact HS0 | exact HS.out _ ((hS2.2.2.2.2.setCell (Nat.le_refl _) _).setCell (Nat.le_refl _) _)) (first | (go_at_call 24; refine HCL.out.mono ?_; rintro e w2 ⟨rfl, hS2, x0, x1, y0, y1⟩))
  have HB9 : Hid (Below w.heap.size w ((w2.setCell ⟨w.heap.size, 0, none⟩ (.int .i64 o1)).setCell ⟨w.heap.size, 1, none⟩ (.int .i64 o2))) := (hS2.2.2.2.2.setCell (Nat.le_refl _) _).setCell (Nat.le_refl _) _
  go_wp2
  exact bodyPost_ret (v := .tuple #[.agg #[.int .i64 o1, .int .i64 o2], .string o3, .bool o4]) (by simp [results, Tryz.results21, go_sem, x0, x1]) rfl ⟨rfl, HB9.out⟩
 ·rw [if_neg (fun e => hd e.1)]
  have hne : ¬ a.st.word.toList = [100, 111, 110, 101] := by
   generalize a.st = st at *
   cases st <;> first | exact absurd rfl hd | decide +kernel
  have hbq : (a.st.word.toList == [100, 111, 110, 101]) = false := by
   generalize a.st = st at *
   cases st <;> first | exact absurd rfl hd | decide +kernel
  clear hp hP1 hw1 hb1 hd hlt1 htx
  generalize a.st.word = sw at *
  go_enter Tryz.func21, Tryz.ntmps21
  go_wp2_with (first | rw [<- HW1.out] | fail)
  exact bodyPost_ret (v := .tuple #[.agg #[.int .i64 0, .int .i64 0], .string ⟨#[]⟩, .bool false]) (by simp [results, Tryz.results21, go_sem, k0, k1]) rfl ⟨rfl, (HB1.out.setCell (Nat.le_refl _) _).setCell (Nat.le_refl _) _⟩
theorem end_cells {a a' : MAsk} (en : Nat) (mv hv cv : Value) (aw : ByteArray) (e1 : a'.name = a.name) (e2 : a'.key = a.key) (e3 : a'.op = a.op) (e4 : a'.config = a.config) (e5 : a'.c = a.c) : (((((((pkCells a en mv hv cv aw).setIfInBounds 10 (.string a'.st.word)).setIfInBounds 12 (.int .i64 a'.obj.1)).setIfInBounds 13 (.int .i64 a'.obj.2.1)).setIfInBounds 14 (.string a'.obj.2.2.1)).setIfInBounds 15 (.bool a'.obj.2.2.2)).setIfInBounds 11 .nilFunc).setIfInBounds 9 (.map none) = pkCells a' en mv (.map none) .nilFunc aw := by
 unfold pkCells
 rw [e1, e2, e3, e4, e5]
 generalize a.obj = ob
 generalize a'.obj = ob'
 simp only [List.setIfInBounds_toArray, List.set_cons_zero, List.set_cons_succ]
theorem bulkV_mem : ∀ {l : List Ver} {v : Ver}, v ∈ l -> v.text.size <= bulkV l
 | u :: l, v, h => by
  have e : bulkV (u :: l) = 40 + u.text.size + bulkV l := by unfold bulkV; rw [List.map_cons, List.sum_cons]
  rw [e]
  rcases List.mem_cons.1 h with rfl | h
  ·omega
  ·have := bulkV_mem h
   omega
theorem bulk_from {m : Msg} {a : MAsk} (h : a.small m) : m.from_.size <= 6000 /\ m.L.length <= 150 /\ (∀ v ∈ m.L, v.text.size <= 6000) /\ a.L.flatten.length <= 150 /\ (a.heard m).L.flatten.length <= 150 := by
 unfold MAsk.small bulkN at h
 have h1 := bulkV_len m.L
 have h2 := bulkV_len a.L.flatten
 have h3 : (a.heard m).L.flatten.length = a.L.flatten.length + m.L.length := by
  show (a.L ++ [m.L]).flatten.length = _
  rw [List.flatten_append, List.length_append]
  simp
 refine ⟨by omega, by omega, fun v hv => ?_, by omega, by omega⟩
 have := bulkV_mem hv
 omega
set_option maxRecDepth 10000 in
set_option maxHeartbeats 4000000 in
theorem phkept_any (hp : PAk w B h S S0 a mv cv aw m D row) (msg : Msg) (ht : a.takes msg = true) (hst : a.st = .keeping) (hv : ∀ v ∈ msg.L, VerI64 v) (hf : msg.from_.size <= 6000) :
 Calls Tryz.prog 42 #[.pointer (some ⟨h, 0, none⟩), .string msg.from_] w fun e w' => e = .returned (.tuple #[]) /\ ∃ S', PAkOf w' B h S' (if (a.heard msg).from_.length < enoughN a.c then a.heard msg else { a.heard msg with st := .done }) /\ Upd S S' w w' := by
 obtain ⟨b, hmb, hSb, hbh, hH⟩ := hp.open_ (Or.inr hst)
 subst hmb
 obtain ⟨n0, hown0⟩ := hH.own
 have hown := hown0.tight
 have hsz : Maps.size D <= 12 := by
  rw [hH.size]
  obtain ⟨⟨_, _, h3⟩, h4, _⟩ := cfgF_fine hp.fine.cfg
  have := length_le_sub hp.fine.nodup hp.fine.sub
  omega
 have hlt := hp.lt
 have HNT := pnote_any msg.from_ none [] 0 hlt (hp.cell 9) hown (by unfold maxLen; omega) (by omega) (Rec.nil _ _) (fun _ => ⟨rfl, rfl⟩) (by decide) (fun v hv => by cases hv)
 have HNU : Hid (Calls Tryz.prog 68 #[.pointer (some ⟨h, 0, none⟩), .string msg.from_, .slice none 0 0] w fun e w' => e = .returned (.tuple #[]) /\ ∃ S1 S01 D' row', PAk w' B h S1 S01 (a.heard msg) mv cv aw (some b) D' row' /\ Upd S S1 w w') := HNT.mono fun e w' hq => by
  obtain ⟨h1, v', w1, h2, h3, h4⟩ := hq
  exact ⟨h1, hp.heard ht hv (fun e => by rw [hst] at e; cases e) (by unfold maxLen; omega) h2 h3 h4⟩
 have HST' : Hid ((a.heard msg).st = .keeping) := hst
 have HEC : Hid (enoughN (a.heard msg).c = enoughN a.c) := by show _ = _; rfl
 clear hown hown0 hH HNT hsz hp hv hst ht
 generalize a.heard msg = a' at *
 generalize msg.from_ = mf at *
 by_cases hfl : a'.from_.length < enoughN a.c
 ·rw [if_pos hfl]
  go_enter Tryz.func42, Tryz.ntmps42
  go_wp2_with fail
  refine HNU.out.mono ?_
  rintro e w2 ⟨rfl, S1, S01, D', row', hP, hU⟩
  obtain ⟨b2, hb2, _, _, hH2⟩ := hP.open_ (Or.inr HST'.out)
  have HFU := pfull_any (h := h) (enoughN a'.c) hH2 (by rw [hP.cell 9, hb2]; rfl) (hP.cell 7)
  have hdf : decide (enoughN a'.c <= a'.from_.length) = false := decide_eq_false (by rw [HEC.out]; omega)
  rw [hdf] at HFU
  have HP2 : Hid (PAk w2 B h S1 S01 a' mv cv aw (some b) D' row') := hP
  have HU2 : Hid (Upd S S1 w w2) := hU
  clear hP hU hH2 hdf HNU
  go_wp2_with fail
  refine HFU.mono ?_
  rintro e w3 ⟨rfl, hb3⟩
  have HB3 : Hid (Below w2.heap.size w2 w3) := hb3
  clear hb3 HFU
  go_wp2
  go_end0
  exact ⟨rfl, S1, ⟨_, _, _, _, _, _, _, HP2.out.below HB3.out⟩, HU2.out.trans (Upd.of_below HB3.out)⟩
 ·rw [if_neg hfl]
  go_enter Tryz.func42, Tryz.ntmps42
  go_wp2_with fail
  refine HNU.out.mono ?_
  rintro e w2 ⟨rfl, S1, S01, D', row', hP, hU⟩
  obtain ⟨b2, hb2, _, _, hH2⟩ := hP.open_ (Or.inr HST'.out)
  have HFU := pfull_any (h := h) (enoughN a'.c) hH2 (by rw [hP.cell 9, hb2]; rfl) (hP.cell 7)
  have hdf : decide (enoughN a'.c <= a'.from_.length) = true := decide_eq_true (by rw [HEC.out]; omega)
  rw [hdf] at HFU
  have HP2 : Hid (PAk w2 B h S1 S01 a' mv cv aw (some b) D' row') := hP
  have HU2 : Hid (Upd S S1 w w2) := hU
  clear hP hU hH2 hdf HNU
  go_wp2_with fail
  refine HFU.mono ?_
  rintro e w3 ⟨rfl, hb3⟩
  have hP3 := HP2.out.below hb3
  have hobj : a'.obj = (a'.tag.1, a'.tag.2, a'.text, true) := if_pos ⟨Or.inl HST'.out, hP3.fine.keep HST'.out⟩
  have c12 : w3.cell? ⟨h, 12, none⟩ = some (.int .i64 a'.obj.1) := hP3.cell 12
  have c13 : w3.cell? ⟨h, 13, none⟩ = some (.int .i64 a'.obj.2.1) := hP3.cell 13
  have c14 : w3.cell? ⟨h, 14, none⟩ = some (.string a'.obj.2.2.1) := hP3.cell 14
  have c15 : w3.cell? ⟨h, 15, none⟩ = some (.bool a'.obj.2.2.2) := hP3.cell 15
  have HEND := pend_any ⟨#[100, 111, 110, 101]⟩ a'.obj.1 a'.obj.2.1 a'.obj.2.2.1 a'.obj.2.2.2 hP3.blk rfl
  have HENE : Hid (Calls Tryz.prog 40 #[.pointer (some ⟨h, 0, none⟩), .string ⟨#[100, 111, 110, 101]⟩, .agg #[.int .i64 a'.obj.1, .int .i64 a'.obj.2.1, .string a'.obj.2.2.1, .bool a'.obj.2.2.2]] w3 fun e w' => e = .returned (.tuple #[]) /\ PAkOf w' B h S1 { a' with st := .done } /\ Upd S S1 w w') := HEND.mono fun e w' hq => by
   obtain ⟨h1, h2⟩ := hq
   have hob2 : ({ a' with st := .done } : MAsk).obj = a'.obj := by rw [hobj]; exact if_pos ⟨Or.inr rfl, hP3.fine.keep HST'.out⟩
   refine ⟨h1, hP3.ended (cv' := .nilFunc) (a' := { a' with st := .done }) ?_ rfl (hP3.fine.ended (Or.inl rfl)) (Or.inl rfl), (HU2.out.trans (Upd.of_below hb3)).trans (h2.upd hP3.self (fun k hk => Or.inl hk))⟩
   rw [<- hob2] at h2
   exact (end_cells (a := a') (a' := { a' with st := .done }) _ mv (.map (some b)) cv aw rfl rfl rfl rfl rfl) ▸ h2
  clear hP3 hb3 HFU HEND hobj
  generalize a'.obj = ob at *
  obtain ⟨o1, o2, o3, o4⟩ := ob
  dsimp only at *
  go_wp2_with fail
  refine HENE.out.mono ?_
  rintro e w4 ⟨rfl, hP4, hU4⟩
  have HP4 : Hid (PAkOf w4 B h S1 { a' with st := .done }) := hP4
  have HU4 : Hid (Upd S S1 w w4) := hU4
  clear hP4 hU4 HENE
  go_wp2
  go_end0
  exact ⟨rfl, S1, HP4.out, HU4.out⟩
end Go.Proofs.YtobmckfcipeanaaGreatDoor
namespace Go.Proofs.YtobmckfcipeanaaGreatDoor
open Go.RowKit
variable {w w' : World} {B h : Nat} {S S0 : Nat -> Prop} {a : MAsk} {mv cv : Value} {aw : ByteArray} {m : Option Nat} {D : DataW Value} {row : ByteArray -> Value}
theorem idxN_get {F : List ByteArray} {x : ByteArray} (h : x ∈ F) : F[idxN F x]'(idxN_lt' h) = x := by
 have := List.findIdx_getElem (p := fun z => decide (z = x)) (xs := F) (w := idxN_lt' h)
 exact of_decide_eq_true this
theorem sum_sub (f : Nat -> Nat) : ∀ (n : Nat) (I : List Nat), I.Nodup -> (∀ i ∈ I, i < n) -> (I.map f).sum <= ((List.range n).map f).sum
 | 0, I, _, h => by
  cases I with
  | nil => exact Nat.le_refl _
  | cons i I => exact absurd (h i (by simp)) (Nat.not_lt_zero _)
 | n + 1, I, hn, h => by
  rw [List.range_succ, List.map_append, List.sum_append]
  by_cases hm : n ∈ I
  ·have hp : I.Perm (n :: I.erase n) := List.perm_cons_erase hm
   have e : (I.map f).sum = f n + ((I.erase n).map f).sum := by
    rw [(hp.map f).sum_nat, List.map_cons, List.sum_cons]
   have := sum_sub f n (I.erase n) (hn.erase n) (fun i hi => by
    have h1 := (List.Nodup.mem_erase_iff hn).1 hi
    have := h i h1.2
    have := h1.1
    omega)
   simp
   omega
  ·have := sum_sub f n I hn (fun i hi => by
    have := h i hi
    have : i ≠ n := fun e => hm (e ▸ hi)
    omega)
   omega
theorem flat_sum (L : List (List Ver)) : L.flatten.length = ((List.range L.length).map fun i => (L.getD i []).length).sum := by
 rw [List.length_flatten]
 congr 1
 refine List.ext_getElem (by simp) fun i h1 h2 => ?_
 simp at h1
 simp [List.getElem?_eq_getElem h1]
theorem toldP_len {a : MAsk} (hb : a.from_.length = a.L.length) (hn : a.from_.Nodup) : ∀ l : List ByteArray, l.Nodup -> ∃ I : List Nat, I.Nodup /\ (∀ i ∈ I, i < a.L.length) /\ (∀ i ∈ I, ∃ x ∈ l, x ∈ a.from_ /\ i = idxN a.from_ x) /\ (toldP a l).flatten.length = (I.map fun i => (a.L.getD i []).length).sum
 | [], _ => ⟨[], List.nodup_nil, (fun i hi => by cases hi), (fun i hi => by cases hi), rfl⟩
 | x :: l, h => by
  obtain ⟨hx, hl⟩ := List.nodup_cons.1 h
  obtain ⟨I, h1, h2, h3, h4⟩ := toldP_len hb hn l hl
  have e : (toldP a (x :: l)).flatten.length = (if inL a.from_ x then rowL a x else []).length + (toldP a l).flatten.length := by
   unfold toldP
   rw [List.map_cons, List.flatten_cons, List.length_append]
  by_cases hi : inL a.from_ x = true
  ·have hm := inL_iff.1 hi
   refine ⟨idxN a.from_ x :: I, List.nodup_cons.2 ⟨fun hI => ?_, h1⟩, ?_, ?_, ?_⟩
   ·obtain ⟨y, hy, hyF, he⟩ := h3 _ hI
    have ex : a.from_[idxN a.from_ x]'(idxN_lt' hm) = x := idxN_get hm
    have ey : a.from_[idxN a.from_ y]'(idxN_lt' hyF) = y := idxN_get hyF
    have : x = y := by rw [<- ex, <- ey]; simp only [he]
    exact hx (this ▸ hy)
   ·intro i hi'
    rcases List.mem_cons.1 hi' with rfl | hi'
    ·rw [<- hb]; exact idxN_lt' hm
    ·exact h2 i hi'
   ·intro i hi'
    rcases List.mem_cons.1 hi' with rfl | hi'
    ·exact ⟨x, by simp, hm, rfl⟩
    ·obtain ⟨y, hy, g⟩ := h3 i hi'
     exact ⟨y, by simp [hy], g⟩
   ·rw [e, if_pos hi, h4, List.map_cons, List.sum_cons]
    rfl
  ·refine ⟨I, h1, h2, fun i hi' => ?_, ?_⟩
   ·obtain ⟨y, hy, g⟩ := h3 i hi'
    exact ⟨y, by simp [hy], g⟩
   ·rw [e, if_neg hi, h4]
    simp
theorem toldP_le {a : MAsk} (hb : a.from_.length = a.L.length) (hn : a.from_.Nodup) {l : List ByteArray} (hl : l.Nodup) : (toldP a l).flatten.length <= a.L.flatten.length := by
 obtain ⟨I, h1, h2, _, h4⟩ := toldP_len hb hn l hl
 rw [h4, flat_sum]
 exact sum_sub _ _ I h1 h2
theorem choose_any (ad : Nat -> Addr) (z : Addr) (hp : PAk w B h S S0 a mv cv aw m D row) (hst : a.st = .looking) (hfl : a.L.flatten.length <= 1000) (hE : ErrsQ w ad) (hZ : w.cell? ⟨11, 0, none⟩ = some (.iface 234 (.pointer (some z)))) :
 ∃ fn caps, cv = .func (.func fn) #[] caps /\ (∀ args W, Sem.run Tryz.prog (callFunc fn args) W = .ok (.enter fn args) W) /\ ∀ W, Below w.heap.size w W -> ∀ p c, Vss W p (toldP a a.c.L) -> Calls Tryz.prog fn (#[.slice p (toldP a a.c.L).length c] ++ caps) W fun e w' => e = .returned (.agg #[.int .i64 a.found_.tag.1, .int .i64 a.found_.tag.2, .string a.found_.text, .bool a.found_.found]) /\ Below W.heap.size W w' := by
 obtain ⟨⟨_, _, hn12⟩, hln, _, hnm, hnd⟩ := cfgF_fine hp.fine.cfg
 have htl : (toldP a a.c.L).length = a.c.L.length := by unfold toldP; simp
 have hmem := told_mem hp.fine.both hp.fine.nodup hp.fine.sub
 have hfe : (toldP a a.c.L).flatten = (toldL a.from_ a.L a.c.L).flatten := toldP_flat a a.c.L
 have hrow : ∀ l ∈ toldP a a.c.L, l.length <= 1000 := fun l hl => by
  unfold toldP at hl
  obtain ⟨x, _, rfl⟩ := List.mem_map.1 hl
  by_cases hi : inL a.from_ x = true
  ·rw [if_pos hi]
   have hlt : idxN a.from_ x < a.L.length := by rw [<- hp.fine.both]; exact idxN_lt' (inL_iff.1 hi)
   have hm : rowL a x ∈ a.L := by
    unfold rowL
    rw [List.getD_eq_getElem?_getD, List.getElem?_eq_getElem hlt]
    exact List.getElem_mem hlt
   have := flat_mem hm
   omega
  ·rw [if_neg hi]; decide
 rcases hp.stat.ch hst with ⟨hput, wb, tb, rfl, h1, h2, h3, h4⟩ | ⟨hput, cb, rfl, h1, h2, h3, h4⟩
 ·refine ⟨_, _, rfl, fun args W => by kernel_rfl, fun W hW p c hv => ?_⟩
  have e1 : maxN (toldP a a.c.L) = maxN a.L := maxN_same hmem
  have e2 : a.found_ = { a with tag := (maxN a.L + 1, a.who), found := true } := by unfold MAsk.found_; rw [hput]; rfl
  rw [e2, <- e1]
  exact put1_any wb tb a.who a.text p (toldP a a.c.L) c W hv (by omega) hrow ((hW.cell (p := ⟨wb, 0, none⟩) (lt_of_cellB h3)).trans h3) ((hW.cell (p := ⟨tb, 0, none⟩) (lt_of_cellB h4)).trans h4)
 ·refine ⟨_, _, rfl, fun args W => by kernel_rfl, fun W hW p c hv => ?_⟩
  obtain ⟨mp, mc, hmv, g1, g2, g3, _⟩ := hp.stat.mem
  have e2 : a.found_ = { a with tag := (bestF a.c.n.toNat a.c.k.toNat (toldL a.from_ a.L a.c.L).flatten (toldL a.from_ a.L a.c.L).flatten).1, text := (bestF a.c.n.toNat a.c.k.toNat (toldL a.from_ a.L a.c.L).flatten (toldL a.from_ a.L a.c.L).flatten).2.1, found := (bestF a.c.n.toNat a.c.k.toNat (toldL a.from_ a.L a.c.L).flatten (toldL a.from_ a.L a.c.L).flatten).2.2 } := by unfold MAsk.found_; rw [hput]; rfl
  rw [e2, <- hfe]
  subst hmv
  have hflat : (toldP a a.c.L).flatten.length <= 1000 := Nat.le_trans (toldP_le hp.fine.both hp.fine.nodup hnd) hfl
  exact get1_any ad cb a.c mp mc p (toldP a a.c.L) c W ⟨g1.below hW, g2, g3, by omega, fun x hx => by have := isN_size (hnm x hx); omega, ⟨by omega, by omega⟩, by omega, by omega⟩ hp.fine.cfg hv (by rw [htl]; omega) (by omega) hflat (fun v hv' => by
   obtain ⟨l, hl, hvl⟩ := List.mem_flatten.1 ((hmem v).1 hv')
   exact hp.fine.vers l hl v hvl) (hE.below hW) z ((hW.cell (p := ⟨11, 0, none⟩) (lt_of_cellB hZ)).trans hZ) ((hW.cell (p := ⟨cb, 0, none⟩) (lt_of_cellB h2)).trans h2) ((hW.cell (p := ⟨cb, 1, none⟩) (lt_of_cellB h3)).trans h3) ((hW.cell (p := ⟨cb, 2, none⟩) (lt_of_cellB h4)).trans h4)
end Go.Proofs.YtobmckfcipeanaaGreatDoor
