import Derived.Test.YtobmckfcipeanaaGreatDoorYE
import Derived.Test.YtobmckfcipeanaaGreatDoorZA
import Derived.Deep.RegionLaw
namespace Go.Proofs.YtobmckfcipeanaaGreatDoor
open Go.RowKit
def akCells (a : MAsk) (mv nv fv lv : Value) : Array Value := #[.string a.name, .string a.key, .int .i64 a.who, .int .i64 a.op, .int .i64 a.config, .int .i64 a.c.n, .int .i64 a.c.k, mv, .int .i64 a.next.n, .int .i64 a.next.k, nv, .bool a.put, .bool a.moves, .string a.st.word, fv, lv, .int .i64 a.tag.1, .int .i64 a.tag.2, .string a.text, .bool a.found]
structure NamesAt (w : World) (B : Nat) (v : Value) (L : List ByteArray) : Prop where
 at_ : ∃ p c, v = .slice p L.length c /\ Strs w p L /\ L.length <= c /\ (p = none -> L = [] /\ c = 0) /\ ∀ b o, p = some ⟨b, o, none⟩ -> b < B
theorem NamesAt.belowAt {w w' : World} {B : Nat} {v : Value} {L : List ByteArray} (h : NamesAt w B v L) (hb : Below B w w') : NamesAt w' B v L := by
 obtain ⟨p, c, h1, h2, h3, h4, h5⟩ := h.at_
 exact ⟨p, c, h1, h2.belowAt hb h5, h3, h4, h5⟩
structure RAk (w : World) (B : Nat) (S : Nat -> Prop) (ab : Nat) (a : MAsk) (mv nv fv lv : Value) (vs : List Value) : Prop where
 blk : w.heap[ab]? = some (.cells (akCells a mv nv fv lv) 48 (0, 0))
 mem : NamesAt w B mv a.c.L
 nxt : NamesAt w B nv a.next.L
 from_ : OwnT w B fv a.from_
 told : OwnVsV B w 55 lv vs a.L
 self : S ab
 sF : ∀ k, fv.ownBlock = some k -> S k /\ k ≠ ab
 sL : ∀ k, lv.ownBlock = some k -> S k /\ k ≠ ab /\ fv.ownBlock ≠ some k
 sV : ∀ v ∈ vs, ∀ k, v.ownBlock = some k -> S k /\ k ≠ ab /\ fv.ownBlock ≠ some k
 inB : ∀ k, S k -> B <= k /\ k < w.heap.size
theorem ownVs_same {B : Nat} {w w' : World} {e : TypeId} {v : Value} {vs : List Value} {M : List (List Ver)} (h : OwnVsV B w e v vs M) (hs : w.heap.size <= w'.heap.size) (hv : ∀ k, v.ownBlock = some k -> w'.heap[k]? = w.heap[k]?) (hi : ∀ x ∈ vs, ∀ k, x.ownBlock = some k -> w'.heap[k]? = w.heap[k]?) : OwnVsV B w' e v vs M := by
 obtain ⟨h1, h2, h3⟩ := h
 refine ⟨?_, h2, fun i hi' => ?_⟩
 ·obtain ⟨e1, e2⟩ := h1
  refine ⟨e1, ?_⟩
  rcases e2 with e2 | ⟨g, cap, cur, hvv, hbg, hg, hrest⟩
  ·exact Or.inl e2
  ·exact Or.inr ⟨g, cap, cur, hvv, hbg, (hv g (by rw [hvv]; rfl)).trans hg, hrest⟩
 ·obtain ⟨q, c, g1, g2, g3, g4, g5⟩ := h3 i hi'
  refine ⟨q, c, g1, ?_, g3, g4, fun b o hq => ⟨(g5 b o hq).1, Nat.lt_of_lt_of_le (g5 b o hq).2.1 hs, (g5 b o hq).2.2⟩⟩
  rcases g2 with g2 | ⟨b, o, hp, hlt, hc⟩
  ·exact Or.inl g2
  ·have hbk : w'.heap[b]? = w.heap[b]? := hi _ (List.mem_of_getElem? g1) b (by rw [hp]; rfl)
   exact Or.inr ⟨b, o, hp, Nat.lt_of_lt_of_le hlt hs, fun j x hx jj u hu => (World.cell?_of_block (a := ⟨b, o + j * verE.k + jj, none⟩) hbk).trans (hc j x hx jj u hu)⟩
theorem ownT_same {w w' : World} {B : Nat} {v : Value} {l : List ByteArray} (h : OwnT w B v l) (hv : ∀ k, v.ownBlock = some k -> w'.heap[k]? = w.heap[k]?) : OwnT w' B v l := by
 obtain ⟨e1, e2⟩ := h
 refine ⟨e1, ?_⟩
 rcases e2 with e2 | ⟨g, cap, cur, hvv, hbg, hg, hrest⟩
 ·exact Or.inl e2
 ·exact Or.inr ⟨g, cap, cur, hvv, hbg, (hv g (by rw [hvv]; rfl)).trans hg, hrest⟩
variable {w w' : World} {B : Nat} {S : Nat -> Prop} {ab : Nat} {a : MAsk} {mv nv fv lv : Value} {vs : List Value}
theorem RAk.keep (h : RAk w B S ab a mv nv fv lv vs) (hb : Below B w w') (hk : ∀ k, S k -> w'.heap[k]? = w.heap[k]?) : RAk w' B S ab a mv nv fv lv vs where
 blk := (hk ab h.self).trans h.blk
 mem := h.mem.belowAt hb
 nxt := h.nxt.belowAt hb
 from_ := ownT_same h.from_ fun k hk' => hk k (h.sF k hk').1
 told := ownVs_same h.told hb.size (fun k hk' => hk k (h.sL k hk').1) (fun x hx k hk' => hk k (h.sV x hx k hk').1)
 self := h.self
 sF := h.sF
 sL := h.sL
 sV := h.sV
 inB := fun k hk' => ⟨(h.inB k hk').1, Nat.lt_of_lt_of_le (h.inB k hk').2 hb.size⟩
theorem RAk.leB (h : RAk w B S ab a mv nv fv lv vs) : B <= w.heap.size := Nat.le_of_lt (Nat.lt_of_le_of_lt (h.inB ab h.self).1 (h.inB ab h.self).2)
theorem RAk.below (h : RAk w B S ab a mv nv fv lv vs) (hb : Below w.heap.size w w') : RAk w' B S ab a mv nv fv lv vs := h.keep (hb.mono h.leB) fun k hk => hb.block k (h.inB k hk).2
theorem RAk.cell (h : RAk w B S ab a mv nv fv lv vs) (i : Nat) : w.cell? ⟨ab, i, none⟩ = (akCells a mv nv fv lv)[i]? := by simp [World.cell?, h.blk]
theorem RAk.free (h : RAk w B S ab a mv nv fv lv vs) (i : Nat) : w.frozen? ⟨ab, i, none⟩ = false := by simp [World.frozen?, h.blk]
theorem blk_set {w : World} {b : Nat} {cs : Array Value} {t : TypeId} (h : w.heap[b]? = some (.cells cs t (0, 0))) (i : Nat) (v : Value) : (w.setCell ⟨b, i, none⟩ v).heap[b]? = some (.cells (cs.setIfInBounds i v) t (0, 0)) := by
 simp [World.setCell, Array.getElem?_modify, h]
theorem RAk.set (h : RAk w B S ab a mv nv fv lv vs) (i : Nat) (v : Value) {a' : MAsk} {fv' lv' : Value} (hc : (akCells a mv nv fv lv).setIfInBounds i v = akCells a' mv nv fv' lv') (e1 : a'.c.L = a.c.L) (e2 : a'.next.L = a.next.L) (e3 : a'.from_ = a.from_) (e4 : a'.L = a.L) (e5 : fv' = fv) (e6 : lv' = lv) : RAk (w.setCell ⟨ab, i, none⟩ v) B S ab a' mv nv fv' lv' vs := by
 subst e5 e6
 have hbw : Below B w (w.setCell ⟨ab, i, none⟩ v) := (Below.refl _ _).setCell (h.inB ab h.self).1 _
 have hoth : ∀ k, k ≠ ab -> (w.setCell ⟨ab, i, none⟩ v).heap[k]? = w.heap[k]? := fun k hk => Below.heap_setCell w _ v k hk
 refine ⟨(blk_set h.blk i v).trans (by rw [hc]), by rw [e1]; exact h.mem.belowAt hbw, by rw [e2]; exact h.nxt.belowAt hbw, by rw [e3]; exact ownT_same h.from_ fun k hk => hoth k (h.sF k hk).2, by rw [e4]; exact ownVs_same h.told hbw.size (fun k hk => hoth k (h.sL k hk).2.1) (fun x hx k hk => hoth k (h.sV x hx k hk).2.1), h.self, h.sF, h.sL, h.sV, fun k hk => ⟨(h.inB k hk).1, Nat.lt_of_lt_of_le (h.inB k hk).2 hbw.size⟩⟩
end Go.Proofs.YtobmckfcipeanaaGreatDoor
namespace Go.Proofs.YtobmckfcipeanaaGreatDoor
open Go.RowKit
variable {w w1 w3 : World} {B : Nat} {S : Nat -> Prop} {ab : Nat} {a : MAsk} {mv nv fv lv : Value} {vs : List Value}
theorem RAk.from (h : RAk w B S ab a mv nv fv lv vs) {v1 : Value} {x : ByteArray} (hO : OwnT w1 B v1 (a.from_ ++ [x])) (hg : w.grownBy w1 fv.ownBlock) (hl : v1.ownBlock = fv.ownBlock ∨ v1.ownBlock = some w.heap.size) :
 RAk (w1.setCell ⟨ab, 14, none⟩ v1) B (fun k => S k ∨ v1.ownBlock = some k) ab { a with from_ := a.from_ ++ [x] } mv nv v1 lv vs /\ Upd S (fun k => S k ∨ v1.ownBlock = some k) w (w1.setCell ⟨ab, 14, none⟩ v1) := by
 have hab := h.inB ab h.self
 have hz := hg.size
 have hfb : ∀ k, fv.ownBlock = some k -> B <= k := fun k hk => (h.inB k (h.sF k hk).1).1
 have hw1 : Below B w w1 := (Below.refl _ _).grown hg h.leB hfb
 have hw2 : Below B w (w1.setCell ⟨ab, 14, none⟩ v1) := hw1.setCell hab.1 _
 have hna : some ab ≠ fv.ownBlock := fun e => (h.sF ab e.symm).2 rfl
 have hblk : w1.heap[ab]? = w.heap[ab]? := hg.block ab hab.2 hna
 have hv1 : ∀ k, v1.ownBlock = some k -> k ≠ ab := fun k hk => by
  rcases hl with e | e
  ·exact (h.sF k (by rw [<- e]; exact hk)).2
  ·rw [e] at hk; have := Option.some.inj hk; omega
 have hsame : ∀ k, k < w.heap.size -> k ≠ ab -> fv.ownBlock ≠ some k -> (w1.setCell ⟨ab, 14, none⟩ v1).heap[k]? = w.heap[k]? := fun k hk h1 h2 => (Below.heap_setCell w1 _ _ k h1).trans (hg.block k hk (fun e => h2 e.symm))
 refine ⟨⟨(blk_set (hblk.trans h.blk) 14 v1).trans rfl, h.mem.belowAt hw2, h.nxt.belowAt hw2, ownT_same hO fun k hk => Below.heap_setCell w1 _ _ k (hv1 k hk), ?_, Or.inl h.self, fun k hk => ⟨Or.inr hk, hv1 k hk⟩, fun k hk => ?_, fun v hv k hk => ?_, fun k hk => ?_⟩, ⟨hw2.os, hw2.tape, hw2.output, hw2.size, fun k hk hs => ?_, fun k hk => ?_⟩⟩
 ·exact ownVs_same h.told hw2.size (fun k hk => hsame k (h.inB k (h.sL k hk).1).2 (h.sL k hk).2.1 (h.sL k hk).2.2) (fun v hv k hk => hsame k (h.inB k (h.sV v hv k hk).1).2 (h.sV v hv k hk).2.1 (h.sV v hv k hk).2.2)
 ·obtain ⟨h1, h2, h3⟩ := h.sL k hk
  refine ⟨Or.inl h1, h2, ?_⟩
  rcases hl with e | e
  ·rw [e]; exact h3
  ·rw [e]; intro e'; have := Option.some.inj e'; have := (h.inB k h1).2; omega
 ·obtain ⟨h1, h2, h3⟩ := h.sV v hv k hk
  refine ⟨Or.inl h1, h2, ?_⟩
  rcases hl with e | e
  ·rw [e]; exact h3
  ·rw [e]; intro e'; have := Option.some.inj e'; have := (h.inB k h1).2; omega
 ·rcases hk with hk | hk
  ·have := h.inB k hk; exact ⟨this.1, Nat.lt_of_lt_of_le this.2 hw2.size⟩
  ·have := hO.block hk
   exact ⟨this.1, by have e : (w1.setCell ⟨ab, 14, none⟩ v1).heap.size = w1.heap.size := (by simp [World.setCell]); omega⟩
 ·exact hsame k hk (fun e => hs (by rw [e]; exact h.self)) (fun e => hs (h.sF k e).1)
 ·rcases hk with hk | hk
  ·exact Or.inl hk
  ·rcases hl with e | e
   ·exact Or.inl (h.sF k (by rw [<- e]; exact hk)).1
   ·rw [e] at hk; have := Option.some.inj hk; exact Or.inr (by omega)
theorem RAk.list (h : RAk w B S ab a mv nv fv lv vs) {r v' : Value} {row : List Ver} {E : TypeId} {o : Obj} (hr : OwnR verE E w1 w.heap.size r row) (hb : Below w.heap.size w w1) (hv : OwnV w3 B 55 v' (vs ++ [r])) (hg : (w1.alloc o).grownBy w3 lv.ownBlock) (hl : v'.ownBlock = lv.ownBlock ∨ v'.ownBlock = some (w1.alloc o).heap.size) :
 RAk (w3.setCell ⟨ab, 15, none⟩ v') B (fun k => S k ∨ v'.ownBlock = some k ∨ r.ownBlock = some k) ab { a with L := a.L ++ [row] } mv nv fv v' (vs ++ [r]) /\ Upd S (fun k => S k ∨ v'.ownBlock = some k ∨ r.ownBlock = some k) w (w3.setCell ⟨ab, 15, none⟩ v') := by
 have hab := h.inB ab h.self
 have hz := hb.size
 have hza : (w1.alloc o).heap.size = w1.heap.size + 1 := by simp
 have hz3 := hg.size
 have hs3 : (w3.setCell ⟨ab, 15, none⟩ v').heap.size = w3.heap.size := by simp [World.setCell]
 have hT := OwnVsV.snoc h.told h.leB hr hb hv hg hl
 have hlb : ∀ k, lv.ownBlock = some k -> B <= k := fun k hk => (h.inB k (h.sL k hk).1).1
 have hwa : Below B w (w1.alloc o) := (hb.mono h.leB).alloc (Nat.le_trans h.leB hz) _
 have hw3 : Below B w w3 := hwa.trans ((Below.refl _ _).grown hg (by rw [hza]; have := h.leB; omega) hlb)
 have hw4 : Below B w (w3.setCell ⟨ab, 15, none⟩ v') := hw3.setCell hab.1 _
 have hrb : ∀ k, r.ownBlock = some k -> w.heap.size <= k /\ k < w1.heap.size := fun k hk => hr.block hk
 have hvb : ∀ k, v'.ownBlock = some k -> k ≠ ab := fun k hk => by
  rcases hl with e | e
  ·exact (h.sL k (by rw [<- e]; exact hk)).2.1
  ·rw [e, hza] at hk; have := Option.some.inj hk; omega
 have hsame : ∀ k, k < w.heap.size -> k ≠ ab -> lv.ownBlock ≠ some k -> (w3.setCell ⟨ab, 15, none⟩ v').heap[k]? = w.heap[k]? := fun k hk h1 h2 => (Below.heap_setCell w3 _ _ k h1).trans ((hg.block k (by omega) (fun e => h2 e.symm)).trans ((Below.heap_alloc w1 o k (by omega)).trans (hb.block k hk)))
 have hblk : w3.heap[ab]? = w.heap[ab]? := (hg.block ab (by omega) (fun e => (h.sL ab e.symm).2.1 rfl)).trans ((Below.heap_alloc w1 o ab (by omega)).trans (hb.block ab hab.2))
 refine ⟨⟨(blk_set (hblk.trans h.blk) 15 v').trans rfl, h.mem.belowAt hw4, h.nxt.belowAt hw4, ownT_same h.from_ fun k hk => hsame k (h.inB k (h.sF k hk).1).2 (h.sF k hk).2 (fun e => (h.sL k e).2.2 hk), ?_, Or.inl h.self, fun k hk => ⟨Or.inl (h.sF k hk).1, (h.sF k hk).2⟩, fun k hk => ?_, fun v hm k hk => ?_, fun k hk => ?_⟩, ⟨hw4.os, hw4.tape, hw4.output, hw4.size, fun k hk hs => ?_, fun k hk => ?_⟩⟩
 ·refine ownVs_same hT (Nat.le_of_eq hs3.symm) (fun k hk => Below.heap_setCell w3 _ _ k (hvb k hk)) (fun v hm k hk => Below.heap_setCell w3 _ _ k ?_)
  rcases List.mem_append.1 hm with hm | hm
  ·exact (h.sV v hm k hk).2.1
  ·rw [List.mem_singleton.1 hm] at hk; have := (hrb k hk).1; show k ≠ ab; omega
 ·refine ⟨Or.inr (Or.inl hk), hvb k hk, fun e => ?_⟩
  rcases hl with e' | e'
  ·exact (h.sL k (by rw [<- e']; exact hk)).2.2 e
  ·rw [e', hza] at hk; have := Option.some.inj hk; have := (h.inB k (h.sF k e).1).2; omega
 ·rcases List.mem_append.1 hm with hm | hm
  ·exact ⟨Or.inl (h.sV v hm k hk).1, (h.sV v hm k hk).2⟩
  ·rw [List.mem_singleton.1 hm] at hk
   have := (hrb k hk).1
   exact ⟨Or.inr (Or.inr hk), by omega, fun e => by have := (h.inB k (h.sF k e).1).2; omega⟩
 ·rw [hs3]
  rcases hk with hk | hk | hk
  ·have := h.inB k hk; exact ⟨this.1, by omega⟩
  ·have := hv.block hk; exact this
  ·have := hrb k hk; have := h.leB; exact ⟨by omega, by omega⟩
 ·exact hsame k hk (fun e => hs (by rw [e]; exact h.self)) (fun e => hs (h.sL k e).1)
 ·rcases hk with hk | hk | hk
  ·exact Or.inl hk
  ·rcases hl with e | e
   ·exact Or.inl (h.sL k (by rw [<- e]; exact hk)).1
   ·rw [e, hza] at hk; have := Option.some.inj hk; exact Or.inr (by omega)
  ·exact Or.inr (hrb k hk).1
end Go.Proofs.YtobmckfcipeanaaGreatDoor
namespace Go.Proofs.YtobmckfcipeanaaGreatDoor
open Go.RowKit
theorem Upd.trans {S S1 S2 : Nat -> Prop} {w w1 w2 : World} (h1 : Upd S S1 w w1) (h2 : Upd S1 S2 w1 w2) : Upd S S2 w w2 :=
 ⟨h2.os.trans h1.os, h2.tape.trans h1.tape, h2.output.trans h1.output, Nat.le_trans h1.size h2.size, fun k hk hs => (h2.block k (Nat.lt_of_lt_of_le hk h1.size) (fun h => (h1.new k h).elim hs (by omega))).trans (h1.block k hk hs), fun k hk => (h2.new k hk).elim (h1.new k) (fun h => Or.inr (Nat.le_trans h1.size h))⟩
theorem step_append_val {P : Program} {ops : Array Oper} {o : Oper} {a : Act} {w : World} {K : Act -> World -> Prop} {Q : Exit -> Act -> World -> Prop} {E : Prop}
 (hg : o.guard = none) (s x : Operand) (t : TypeId) (hop : o.op = Op.call { callee := Callee.builtin Builtin.append, args := #[s, x], argTypes := #[t, t] })
 (B : Nat) (e : TypeId) (i : TypeInfo) (z : Value) (bytes : Nat) (ht : P.underlying t = some (.slice e)) (hi : P.info? e = some i) (hz : i.zero = some z) (hzs : z.cells.size = 1) (hsize : i.size = 1) (hby : i.bytes = bytes) (h24 : bytes <= 64)
 (v : Value) (l : List Value) (hs : a.eval s = v) (hown : OwnV w B e v l) (ad : Addr) (c : Nat) (u : Value) (hu : u.oneCell' = true) (hx : a.eval x = .slice (some ad) 1 c) (hb : w.cell? ad = some u) (hl : l.length + 1 <= 1000000) (hbase : B <= w.heap.size)
 (hK : ∀ v' w', OwnV w' B e v' (l ++ [u]) -> w.grownBy w' v.ownBlock -> (v'.ownBlock = v.ownBlock ∨ v'.ownBlock = some w.heap.size) -> K (a.put o.dst v') w') :
 if Region.wanted o (yielded ops a.tmps) = true then Oper.wp P o a w K Q else E := by
 have hw : Region.wanted o (yielded ops a.tmps) = true := by simp [Region.wanted, hg]
 rw [if_pos hw]
 have hnews : ∀ j x, [u][j]? = some x -> w.cell? (ad.add j) = some x := by
  intro j x hj
  match j, hj with
  | 0, hj =>
   obtain rfl : u = x := by simpa using hj
   simpa [Addr.add] using hb
 have hbd : (l.length + 1) * bytes <= 1000000 * 64 := Nat.mul_le_mul hl h24
 obtain ⟨v', w', hr, h2, h3, _⟩ := run_append_own (P := P) w B t o.type e i z 1 bytes ht hi hz hsize hby hzs (by decide) v l.length l hown ad 1 c [u] rfl hnews (fun x hx => by rw [List.mem_singleton.1 hx]; exact hu) (by unfold maxLen; omega) (by omega) hbase
 have h4 := append_where_val B t o.type e i z bytes ht hi hz hsize hby h24 v l hown ad c u hu hb hl hr
 have h5 : OwnV w' B e v' (l ++ [u]) := by
  unfold OwnV
  rw [List.length_append]
  exact h2
 unfold Oper.wp
 simp [execOp, hop, resolve, invoke, builtin, hs, hx, hr, Result.andThen]
 exact hK v' w' h5 h3 h4
theorem step_append_recs {α : Type} {E : Enc α} {ops : Array Oper} {o : Oper} {a : Act} {w : World} {K : Act -> World -> Prop} {Q : Exit -> Act -> World -> Prop} {E' : Prop}
 (hgd : o.guard = none) (s x : Operand) (t T : TypeId) (ho : o.op = .call { callee := .builtin .append, args := #[s, x], argTypes := #[t, t] }) (z : Value) (bytes : Nat) (ht : Tryz.prog.underlying t = some (.slice T))
 (hinfo : (Tryz.prog.info? T).map (fun i => (i.zero, i.size, i.bytes)) = some (some z, E.k, bytes)) (hzc : z.cells.size = E.k)
 (B : Nat) (v : Value) (l : List α) (hs : a.eval s = v) (hown : OwnR E T w B v l) (q : Option Addr) (r : List α) (c : Nat) (hx : a.eval x = .slice q r.length c) (hq : Rec E w q r) (hc0 : q = none -> r = [] /\ c = 0) (hl : l.length + r.length <= maxLen) (hby : (l.length + r.length) * bytes <= 140737488355328) (hbase : B <= w.heap.size)
 (h : ∀ v' w', OwnR E T w' B v' (l ++ r) -> Below B w w' -> K (a.put o.dst v') w') :
 if Region.wanted o (yielded ops a.tmps) = true then Oper.wp Tryz.prog o a w K Q else E' := by
 have hw : Region.wanted o (yielded ops a.tmps) = true := by simp [Region.wanted, hgd]
 rw [if_pos hw]
 obtain ⟨i0, hi0, hz0, hz1, hzb⟩ := info_parts hinfo
 cases q with
 | none =>
  obtain ⟨hr, hc⟩ := hc0 rfl
  subst hr hc
  have hx' : a.eval x = .slice none 0 0 := hx
  have hrun := run_append_owned_none (P := Tryz.prog) (w := w) B t o.type T i0 E.k ht hi0 v l.length (recVals E l) hown
  unfold Oper.wp
  simp [execOp, ho, resolve, invoke, builtin, hs, hx', hrun, Result.andThen]
  exact h v w (by rw [List.append_nil]; exact hown) (Below.refl _ _)
 | some ad =>
  have hn : ∀ j u, (recVals E r)[j]? = some u -> w.cell? (ad.add j) = some u := by
   rcases hq with h0 | ⟨b, o', hp, _, hcell⟩
   ·subst h0
    intro j u hj
    simp [recVals] at hj
   ·obtain rfl : ad = ⟨b, o', none⟩ := by simpa using hp
    exact Rec.cells hcell
  obtain ⟨v', w', hrun, h2, h3, _⟩ := run_append_own (P := Tryz.prog) w B t o.type T i0 z E.k bytes ht hi0 hz0 hz1 hzb hzc E.pos v l.length (recVals E l) hown ad r.length c (recVals E r) (recVals_length E r) hn (recVals_one' E r) hl hby hbase
  unfold Oper.wp
  simp [execOp, ho, resolve, invoke, builtin, hs, hx, hrun, Result.andThen]
  refine h v' w' ?_ ((Below.refl _ _).grown h3 hbase (fun k hk => (hown.block hk).1))
  unfold OwnR
  rw [recVals_append, List.length_append]
  exact h2
end Go.Proofs.YtobmckfcipeanaaGreatDoor
