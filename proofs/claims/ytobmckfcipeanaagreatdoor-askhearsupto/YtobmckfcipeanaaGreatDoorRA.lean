import Derived.Test.YtobmckfcipeanaaGreatDoorYE
import Derived.Test.YtobmckfcipeanaaGreatDoorZB
import Derived.Test.YtobmckfcipeanaaGreatDoorYF
namespace Go.Proofs.YtobmckfcipeanaaGreatDoor
def tolR (a : MAsk) : MAsk × List Msg := if a.from_.length < enoughN a.c then (a, []) else if a.found_.found = false then ({ a.found_ with st := .done }, []) else (a.found_.keeps, a.found_.keeps.send wKeep true)
theorem hear_no {a : MAsk} {m : Msg} (h : a.takes m = false) : a.hear m = (a, []) := if_pos h
theorem hear_shut {a : MAsk} {m : Msg} (h : a.takes m = true) (h1 : m.shut = true) (h2 : a.st ≠ .sealing) : a.hear m = ({ a with st := .refused }, []) := by
 unfold MAsk.hear
 rw [if_neg (by rw [h]; decide), if_pos ⟨h1, h2⟩]
theorem hear_told {a : MAsk} {m : Msg} (h : a.takes m = true) (h1 : m.shut = false) (h2 : a.st = .looking) : a.hear m = tolR (a.heard m) := by
 unfold MAsk.hear tolR
 rw [if_neg (by rw [h]; decide), if_neg (fun e => by rw [h1] at e; cases e.1)]
 by_cases h3 : (a.heard m).from_.length < enoughN a.c
 ·rw [if_pos h3]
  exact (if_pos h3).symm
 ·rw [if_neg h3, if_neg (by rw [h2]; intro e; cases e)]
  exact (if_neg h3).symm
theorem hear_kept {a : MAsk} {m : Msg} (h : a.takes m = true) (h1 : m.shut = false) (h2 : a.st = .keeping) : a.hear m = (if (a.heard m).from_.length < enoughN a.c then a.heard m else { a.heard m with st := .done }, []) := by
 unfold MAsk.hear
 rw [if_neg (by rw [h]; decide), if_neg (fun e => by rw [h1] at e; cases e.1)]
 by_cases h3 : (a.heard m).from_.length < enoughN a.c
 ·rw [if_pos h3, if_pos h3]
 ·rw [if_neg h3, if_neg h3, if_pos h2]
end Go.Proofs.YtobmckfcipeanaaGreatDoor
namespace Go.Proofs.YtobmckfcipeanaaGreatDoor
theorem maxStep_ge (n : Int) (v : Ver) : n <= maxStep n v := by unfold maxStep; split <;> omega
theorem foldl_maxStep_ge : ∀ (l : List Ver) (n : Int), n <= l.foldl maxStep n
 | [], n => Int.le_refl n
 | v :: l, n => Int.le_trans (maxStep_ge n v) (foldl_maxStep_ge l _)
theorem foldl_maxStep_le : ∀ (l : List Ver) (n : Int), n <= 1099511627776 -> l.foldl maxStep n <= 1099511627776
 | [], n, h => h
 | v :: l, n, h => foldl_maxStep_le l _ (by unfold maxStep; split <;> omega)
theorem maxN_bounds (LL : List (List Ver)) : 0 <= maxN LL /\ maxN LL <= 1099511627776 := ⟨foldl_maxStep_ge _ _, foldl_maxStep_le _ _ (by decide)⟩
theorem maxN_take_succ {LL : List (List Ver)} {i : Nat} (h : i < LL.length) : maxN (LL.take (i + 1)) = (LL.getD i []).foldl maxStep (maxN (LL.take i)) := by
 unfold maxN
 rw [List.take_succ_eq_append_getElem h, List.flatten_append, List.foldl_append]
 have e : LL.getD i [] = LL[i] := by rw [List.getD_eq_getElem?_getD, List.getElem?_eq_getElem h]; rfl
 rw [e]
 simp
theorem fold_take_succ {l : List Ver} {j : Nat} (h : j < l.length) (n : Int) : (l.take (j + 1)).foldl maxStep n = maxStep ((l.take j).foldl maxStep n) (verAt l j) := by
 rw [List.take_add_one, verAt_get h]
 simp
theorem foldl_max_mem : ∀ (l : List Ver) (n : Int), 0 <= n -> (∀ v ∈ l, v.n <= 1099511627776 -> v.n <= l.foldl maxStep n) /\ (l.foldl maxStep n = n ∨ ∃ v ∈ l, v.n = l.foldl maxStep n /\ v.n <= 1099511627776)
 | [], n, _ => ⟨(fun v hv => by cases hv), Or.inl rfl⟩
 | v :: l, n, h => by
  have h0 : 0 <= maxStep n v := Int.le_trans h (maxStep_ge n v)
  obtain ⟨h1, h2⟩ := foldl_max_mem l (maxStep n v) h0
  refine ⟨fun x hx hb => ?_, ?_⟩
  ·rcases List.mem_cons.1 hx with rfl | hx
   ·refine Int.le_trans ?_ (foldl_maxStep_ge l _)
    unfold maxStep
    split <;> omega
   ·exact h1 x hx hb
  ·rcases h2 with h2 | ⟨x, hx, h3, h4⟩
   ·show l.foldl maxStep (maxStep n v) = n ∨ _
    by_cases hc : n < v.n /\ v.n <= 1099511627776
    ·refine Or.inr ⟨v, by simp, ?_, hc.2⟩
     show v.n = l.foldl maxStep (maxStep n v)
     rw [h2]
     unfold maxStep
     rw [if_pos hc]
    ·left
     rw [h2]
     unfold maxStep
     rw [if_neg hc]
   ·exact Or.inr ⟨x, by simp [hx], h3, h4⟩
theorem maxN_same {L M : List (List Ver)} (h : ∀ v, v ∈ L.flatten ↔ v ∈ M.flatten) : maxN L = maxN M := by
 unfold maxN
 obtain ⟨a1, a2⟩ := foldl_max_mem L.flatten 0 (by decide)
 obtain ⟨b1, b2⟩ := foldl_max_mem M.flatten 0 (by decide)
 have a0 := foldl_maxStep_ge L.flatten 0
 have b0 := foldl_maxStep_ge M.flatten 0
 refine Int.le_antisymm ?_ ?_
 ·rcases a2 with e | ⟨v, hv, e, hb⟩
  ·rw [e]; exact b0
  ·rw [<- e]; exact b1 v ((h v).1 hv) hb
 ·rcases b2 with e | ⟨v, hv, e, hb⟩
  ·rw [e]; exact a0
  ·rw [<- e]; exact a1 v ((h v).2 hv) hb
theorem flat_mem {l : List Ver} : ∀ {L : List (List Ver)}, l ∈ L -> l.length <= L.flatten.length
 | m :: L, h => by
  rw [List.flatten_cons, List.length_append]
  rcases List.mem_cons.1 h with rfl | h
  ·omega
  ·have := flat_mem h
   omega
theorem bestStep_size {n k : Nat} {all : List Ver} {S : (Int × Int) × ByteArray × Bool} {v : Ver} (hk : 1 <= k) (h : S.2.1.size <= 1000) : (bestStep n k all S v).2.1.size <= 1000 := by
 unfold bestStep
 split
 ·exact h
 ·split
  ·exact h
  ·rename_i h2
   show (decT _ _ _).size <= 1000
   rw [decT_size]
   exact (shOf_fits hk h2).2.1
theorem bestF_size {n k : Nat} {all : List Ver} (hk : 1 <= k) : ∀ (L : List Ver) (S : (Int × Int) × ByteArray × Bool), S.2.1.size <= 1000 -> (L.foldl (bestStep n k all) S).2.1.size <= 1000
 | [], _, h => h
 | _ :: L, _, h => bestF_size hk L _ (bestStep_size hk h)
end Go.Proofs.YtobmckfcipeanaaGreatDoor
namespace Go.Proofs.YtobmckfcipeanaaGreatDoor
open Go.RowKit
variable {w w' : World} {B : Nat} {S : Nat -> Prop} {ab : Nat} {a : MAsk} {mv nv fv lv : Value} {vs : List Value}
structure RWr (ab : Nat) (cs : Array Value) (w w' : World) : Prop where
 os : w'.os = w.os
 tape : w'.tape = w.tape
 output : w'.output = w.output
 size : w'.heap.size = w.heap.size
 blk : w'.heap[ab]? = some (.cells cs 48 (0, 0))
 oth : ∀ k, k ≠ ab -> w'.heap[k]? = w.heap[k]?
theorem RWr.refl {cs : Array Value} (hb : w.heap[ab]? = some (.cells cs 48 (0, 0))) : RWr ab cs w w := ⟨rfl, rfl, rfl, rfl, hb, fun _ _ => rfl⟩
theorem RWr.set {cs : Array Value} (hw : RWr ab cs w w') (i : Nat) (v : Value) : RWr ab (cs.setIfInBounds i v) w (w'.setCell ⟨ab, i, none⟩ v) := ⟨hw.os, hw.tape, hw.output, by simpa [World.setCell] using hw.size, blk_set hw.blk i v, fun k hne => (Below.heap_setCell w' _ v k hne).trans (hw.oth k hne)⟩
theorem RWr.upd {cs : Array Value} (hw : RWr ab cs w w') (hs : S ab) : Upd S S w w' := ⟨hw.os, hw.tape, hw.output, Nat.le_of_eq hw.size.symm, fun k _ hk => hw.oth k (fun e => hk (e ▸ hs)), fun _ h => Or.inl h⟩
theorem RAk.written (h : RAk w B S ab a mv nv fv lv vs) {a' : MAsk} (hw : RWr ab (akCells a' mv nv fv lv) w w') (e1 : a'.c.L = a.c.L) (e2 : a'.next.L = a.next.L) (e3 : a'.from_ = a.from_) (e4 : a'.L = a.L) : RAk w' B S ab a' mv nv fv lv vs := by
 have hb : Below B w w' := ⟨hw.os, hw.tape, hw.output, Nat.le_of_eq hw.size.symm, fun k hk => hw.oth k (fun e => by have := (h.inB ab h.self).1; omega)⟩
 exact ⟨hw.blk, by rw [e1]; exact h.mem.belowAt hb, by rw [e2]; exact h.nxt.belowAt hb, by rw [e3]; exact ownT_same h.from_ fun k hk => hw.oth k (h.sF k hk).2, by rw [e4]; exact ownVs_same h.told (Nat.le_of_eq hw.size.symm) (fun k hk => hw.oth k (h.sL k hk).2.1) (fun x hx k hk => hw.oth k (h.sV x hx k hk).2.1), h.self, h.sF, h.sL, h.sV, fun k hk => ⟨(h.inB k hk).1, by rw [hw.size]; exact (h.inB k hk).2⟩⟩
theorem RAk.fresh (h : RAk w B S ab a mv nv fv lv vs) {a' : MAsk} (hw : RWr ab (akCells a' mv nv (.slice none 0 0) (.slice none 0 0)) w w') (e1 : a'.c.L = a.c.L) (e2 : a'.next.L = a.next.L) (e3 : a'.from_ = []) (e4 : a'.L = []) : RAk w' B S ab a' mv nv (.slice none 0 0) (.slice none 0 0) [] := by
 have hb : Below B w w' := ⟨hw.os, hw.tape, hw.output, Nat.le_of_eq hw.size.symm, fun k hk => hw.oth k (fun e => by have := (h.inB ab h.self).1; omega)⟩
 exact ⟨hw.blk, by rw [e1]; exact h.mem.belowAt hb, by rw [e2]; exact h.nxt.belowAt hb, by rw [e3]; exact OwnT.nil _ _, by rw [e4]; exact ⟨OwnV.nil _ _ _, rfl, fun i hi => absurd hi (Nat.not_lt_zero _)⟩, h.self, (fun k hk => by cases hk), (fun k hk => by cases hk), (fun v hv => by cases hv), fun k hk => ⟨(h.inB k hk).1, by rw [hw.size]; exact (h.inB k hk).2⟩⟩
theorem rblk_cell {cs : Array Value} {T : TypeId} (hb : w.heap[ab]? = some (.cells cs T (0, 0))) (i : Nat) : w.cell? ⟨ab, i, none⟩ = cs[i]? /\ w.frozen? ⟨ab, i, none⟩ = false := ⟨by simp [World.cell?, hb], by simp [World.frozen?, hb]⟩
theorem two_set {w : World} {b : Nat} {v0 v1 u0 u1 : Value} (k0 : w.cell? ⟨b, 0, none⟩ = some u0) (k1 : w.cell? ⟨b, 1, none⟩ = some u1) : ((w.setCell ⟨b, 0, none⟩ v0).setCell ⟨b, 1, none⟩ v1).cell? ⟨b, 0, none⟩ = some v0 /\ ((w.setCell ⟨b, 0, none⟩ v0).setCell ⟨b, 1, none⟩ v1).cell? ⟨b, 1, none⟩ = some v1 := by
 refine ⟨?_, ?_⟩ <;> simp [go_sem, k0, k1]
theorem keeps_cells {a' : MAsk} (e0 : a'.name = a.name) (e1 : a'.key = a.key) (e2 : a'.who = a.who) (e3 : a'.op = a.op) (e4 : a'.config = a.config) (e5 : a'.c = a.c) (e6 : a'.next = a.next) (e7 : a'.put = a.put) (e8 : a'.moves = a.moves) :
 ((((((((akCells a mv nv fv lv).setIfInBounds 16 (.int .i64 a'.tag.1)).setIfInBounds 17 (.int .i64 a'.tag.2)).setIfInBounds 18 (.string a'.text)).setIfInBounds 19 (.bool a'.found)).setIfInBounds 13 (.string a'.st.word)).setIfInBounds 14 (.slice none 0 0)).setIfInBounds 15 (.slice none 0 0)) = akCells a' mv nv (.slice none 0 0) (.slice none 0 0) := by
 unfold akCells
 rw [e0, e1, e2, e3, e4, e5, e6, e7, e8]
 simp only [List.setIfInBounds_toArray, List.set_cons_zero, List.set_cons_succ]
theorem keepsP_cells {a' : MAsk} (e0 : a'.name = a.name) (e1 : a'.key = a.key) (e2 : a'.who = a.who) (e3 : a'.op = a.op) (e4 : a'.config = a.config) (e5 : a'.c = a.c) (e6 : a'.next = a.next) (e7 : a'.put = a.put) (e8 : a'.moves = a.moves) (e9 : a'.text = a.text) :
 (((((((akCells a mv nv fv lv).setIfInBounds 16 (.int .i64 a'.tag.1)).setIfInBounds 17 (.int .i64 a'.tag.2)).setIfInBounds 19 (.bool a'.found)).setIfInBounds 13 (.string a'.st.word)).setIfInBounds 14 (.slice none 0 0)).setIfInBounds 15 (.slice none 0 0)) = akCells a' mv nv (.slice none 0 0) (.slice none 0 0) := by
 unfold akCells
 rw [e0, e1, e2, e3, e4, e5, e6, e7, e8, e9]
 simp only [List.setIfInBounds_toArray, List.set_cons_zero, List.set_cons_succ]
theorem dones_cells {a' : MAsk} (e0 : a'.name = a.name) (e1 : a'.key = a.key) (e2 : a'.who = a.who) (e3 : a'.op = a.op) (e4 : a'.config = a.config) (e5 : a'.c = a.c) (e6 : a'.next = a.next) (e7 : a'.put = a.put) (e8 : a'.moves = a.moves) :
 (((((akCells a mv nv fv lv).setIfInBounds 16 (.int .i64 a'.tag.1)).setIfInBounds 17 (.int .i64 a'.tag.2)).setIfInBounds 18 (.string a'.text)).setIfInBounds 19 (.bool a'.found)).setIfInBounds 13 (.string a'.st.word) = akCells a' mv nv fv lv := by
 unfold akCells
 rw [e0, e1, e2, e3, e4, e5, e6, e7, e8]
 simp only [List.setIfInBounds_toArray, List.set_cons_zero, List.set_cons_succ]
end Go.Proofs.YtobmckfcipeanaaGreatDoor
