/- Texts laid together. -/
import Derived.Test.YtppcijpgalaohaaDoorDe1
import Derived.Deep.OwnRows
import Derived.Deep.QuietTactic
import Derived.BigQuiet
import Derived.Laws.BytesArg
namespace Go.Proofs.YtppcijpgalaohaaDoor
open Go.RowKit
/-- In the world w the rows M lie from p on. -/
def Mat (w : World) (p : Option Addr) (M : List (List Nat)) : Prop :=
  M = [] ∨ ∃ b o, p = some ⟨b, o, none⟩ ∧ b < w.heap.size ∧ ∀ i, i < M.length → ∃ q c, w.cell? ⟨b, o + i, none⟩ = some (.slice q (rowOf M i).length c) ∧ Seg w q (rowOf M i) ∧ (q = none → c = 0)
theorem Mat.below {w w' : World} {p : Option Addr} {M : List (List Nat)} (h : Mat w p M) (hb : Below w.heap.size w w') : Mat w' p M := by
  rcases h with h | ⟨b, o, hp, hlt, hc⟩
  · exact Or.inl h
  · refine Or.inr ⟨b, o, hp, Nat.lt_of_lt_of_le hlt hb.size, fun i hi => ?_⟩
    obtain ⟨q, c, h1, h2⟩ := hc i hi
    exact ⟨q, c, (hb.cell (p := ⟨b, o + i, none⟩) hlt).trans h1, h2.1.below hb, h2.2⟩
theorem Mat.drewN {w : World} {p : Option Addr} {M : List (List Nat)} (h : Mat w p M) (n : Nat) : Mat (w.drewN n) p M := h.below (below_drewN (Below.refl _ _) n)
/-- Is one too large for a statement? -/
def wideB (M : List (List Nat)) : Bool := decide (40 < M.length) || !decide (∀ i, i < M.length → (rowOf M i).length ≤ 40)
/-- Rows of as many bytes each, from 1 to 16 of both. -/
def IsMat (M : List (List Nat)) : Prop := 1 ≤ M.length ∧ M.length ≤ 16 ∧ ∀ i, i < M.length → 1 ≤ (rowOf M i).length ∧ (rowOf M i).length ≤ 16 ∧ (rowOf M i).length = (rowOf M 0).length
/-- Are these rows a matrix? -/
def isMatB (M : List (List Nat)) : Bool := decide (1 ≤ M.length ∧ M.length ≤ 16) && (List.range M.length).all fun i => decide (1 ≤ (rowOf M i).length ∧ (rowOf M i).length ≤ 16 ∧ (rowOf M i).length = (rowOf M 0).length)
theorem isMatB_iff (M : List (List Nat)) : isMatB M = true ↔ IsMat M := by
  unfold isMatB IsMat
  simp only [Bool.and_eq_true, decide_eq_true_eq, List.all_eq_true, List.mem_range]
  exact ⟨fun h => ⟨h.1.1, h.1.2, h.2⟩, fun h => ⟨⟨h.1, h.2.1⟩, h.2.2⟩⟩
theorem isMatB_false {M : List (List Nat)} (h : ¬ IsMat M) : isMatB M = false := by
  cases e : isMatB M with
  | false => rfl
  | true => exact absurd ((isMatB_iff M).1 e) h
theorem u8info : (Tryd.prog.info? 5).map (fun i => (i.zero, i.size, i.bytes)) = some (some (byteV 0), 1, 1) := by kernel_rfl
/-- The bytes 0 to k - 1. -/
def upToL (k : Nat) : List Nat := List.range k
theorem Seg.kept {w w' : World} {q : Option Addr} {l : List Nat} {row : Option Nat} (h : Seg w q l) (hg : w.grownBy w' row) (hne : ∀ ad, q = some ad → some ad.block ≠ row) : Seg w' q l := by
  refine ⟨h.lt, ?_⟩
  rcases h.cells with h | ⟨b, o, hp, hlt, hc⟩
  · exact Or.inl h
  · refine Or.inr ⟨b, o, hp, Nat.lt_of_lt_of_le hlt hg.size, fun i hi => ?_⟩
    exact (World.cell?_of_block (a := ⟨b, o + i, none⟩) (hg.block b hlt (hne _ hp))).trans (hc i hi)
/-- v owns a slice of rows that lie in rows of their own, all from block B on. -/
def OwnMatV (B : Nat) (w : World) (e : TypeId) (v : Value) (vs : List Value) (M : List (List Nat)) : Prop :=
  OwnV w B e v vs ∧ vs.length = M.length ∧ ∀ i, i < M.length → ∃ q c, vs[i]? = some (.slice q (rowOf M i).length c) ∧ Seg w q (rowOf M i) ∧ (q = none → c = 0) ∧ ∀ ad, q = some ad → B ≤ ad.block ∧ ad.block < w.heap.size ∧ v.ownBlock ≠ some ad.block
def OwnMat (B : Nat) (w : World) (e : TypeId) (v : Value) (M : List (List Nat)) : Prop := ∃ vs, OwnMatV B w e v vs M
theorem OwnMat.nil (B : Nat) (w : World) (e : TypeId) : OwnMat B w e (.slice none 0 0) [] := ⟨[], OwnV.nil w B e, rfl, fun _ hi => absurd hi (Nat.not_lt_zero _)⟩
theorem Own.form {w : World} {B : Nat} {e : TypeId} {v : Value} {l : List Nat} (h : Own w B e v l) (hl : Gf.Bytes l) : ∃ q c, v = .slice q l.length c ∧ Seg w q l ∧ (q = none → c = 0) ∧ ∀ ad, q = some ad → B ≤ ad.block ∧ ad.block < w.heap.size := by
  rcases h.2 with ⟨rfl, h0⟩ | ⟨g, cap, cur, rfl, hb, hg, hnc, hcm, hcs, htake⟩
  · have : l = [] := List.length_eq_zero_iff.1 h0
    subst this
    exact ⟨none, 0, rfl, ⟨hl, Or.inl rfl⟩, fun _ => rfl, fun ad h => by cases h⟩
  · refine ⟨some ⟨g, 0, none⟩, cap, rfl, ?_, (fun h => by cases h), (fun ad h => by injection h with h; subst h; exact ⟨hb, (Array.getElem?_eq_some_iff.1 hg).1⟩)⟩
    obtain ⟨p, c, hv, hs⟩ := h.seg hl
    injection hv with h1 h2 h3
    subst h1
    exact hs
/-- One row more. -/
theorem OwnMatV.snoc {B : Nat} {w w1 w3 : World} {T E : TypeId} {v v' r : Value} {vs : List Value} {M : List (List Nat)} {row : List Nat} {o : Obj} (h : OwnMatV B w T v vs M) (hB : B ≤ w.heap.size) (hr : Own w1 w.heap.size E r row) (hrow : Gf.Bytes row) (hb : Below w.heap.size w w1)
    (hv : OwnV w3 B T v' (vs ++ [r]))
    (hg : (w1.alloc o).grownBy w3 v.ownBlock) (hw : v'.ownBlock = v.ownBlock ∨ v'.ownBlock = some (w1.alloc o).heap.size) : OwnMatV B w3 T v' (vs ++ [r]) (M ++ [row]) := by
  obtain ⟨hvs, hlen, hall⟩ := h
  have hz := hb.size
  have hsz : (w1.alloc o).heap.size = w1.heap.size + 1 := by simp
  have hvb : ∀ k, v.ownBlock = some k → k < w.heap.size := fun k hk => (hvs.block hk).2
  have hg1 : w1.grownBy w3 v.ownBlock := ⟨hg.os, hg.tape, hg.output, by have := hg.size; omega, fun k hk hne => (hg.block k (by omega) hne).trans (Below.heap_alloc w1 o k hk)⟩
  refine ⟨hv, by simp [hlen], fun i hi => ?_⟩
  rw [List.length_append, List.length_singleton] at hi
  by_cases hlt : i < M.length
  · obtain ⟨q, c, h1, h2, h3, h4⟩ := hall i hlt
    rw [rowOf_append_lt M row i hlt]
    refine ⟨q, c, by rw [List.getElem?_append_left (by omega)]; exact h1, (h2.below hb).kept hg1 (fun ad hq => fun e => (h4 ad hq).2.2 e.symm), h3, fun ad hq => ?_⟩
    have := h4 ad hq
    refine ⟨this.1, by have := hg1.size; omega, ?_⟩
    rcases hw with hw | hw
    · rw [hw]; exact this.2.2
    · rw [hw, hsz]; intro e; have := Option.some.inj e; omega
  · obtain rfl : i = M.length := by omega
    rw [rowOf_append_eq]
    obtain ⟨q, c, h1, h2, h3, h4⟩ := hr.form hrow
    refine ⟨q, c, by rw [List.getElem?_append_right (by omega), hlen, Nat.sub_self, h1]; rfl, h2.kept hg1 (fun ad hq => ?_), h3, fun ad hq => ?_⟩
    · have := h4 ad hq
      intro e
      have := hvb _ e.symm
      omega
    · have := h4 ad hq
      refine ⟨by omega, by have := hg1.size; omega, ?_⟩
      rcases hw with hw | hw
      · rw [hw]; intro e; have := hvb _ e; omega
      · rw [hw, hsz]; intro e; have := Option.some.inj e; omega
theorem OwnMat.mat {B : Nat} {w : World} {T : TypeId} {v : Value} {M : List (List Nat)} (h : OwnMat B w T v M) : ∃ p c, v = .slice p M.length c ∧ Mat w p M := by
  obtain ⟨vs, hvs, hlen, hall⟩ := h
  rcases hvs.cells with ⟨rfl, rfl⟩ | ⟨g, cap, rfl, hB, hg, hcell⟩
  · have : M = [] := List.length_eq_zero_iff.1 (by simpa using hlen.symm)
    subst this
    exact ⟨none, 0, rfl, Or.inl rfl⟩
  · refine ⟨some ⟨g, 0, none⟩, cap, by rw [hlen], Or.inr ⟨g, 0, rfl, hg, fun i hi => ?_⟩⟩
    obtain ⟨q, c, h1, h2, h3, _⟩ := hall i hi
    refine ⟨q, c, ?_, h2, h3⟩
    rw [Nat.zero_add]
    exact hcell i _ h1
theorem rowinfo : (Tryd.prog.info? 58).map (fun i => (i.zero, i.size, i.bytes)) = some (some (.slice none 0 0), 1, 24) := by kernel_rfl
/-- The row in block g is the call's own and holds l. -/
def OwnN (w : World) (B : Nat) (E : TypeId) (g n : Nat) (l : List Nat) : Prop := w.ownsRow B E 1 (.slice (some ⟨g, 0, none⟩) n n) n (l.map byteV)
theorem OwnN.made (w : World) (B : Nat) (E : TypeId) (n : Nat) (hB : B ≤ w.heap.size) (hn : n ≤ 1000000) : OwnN (w.alloc (.cells (madeCells #[byteV 0] n) E)) B E w.heap.size n (rowFn n fun _ => 0) := by
  have h := World.ownsRow_lit (base := B) (e := E) (size := 1) w (madeCells #[byteV 0] n) n hB (by unfold maxLen; omega) (by have := congrArg List.length (toList_madeCells_one (byteV 0) n); simpa using this)
  rw [toList_madeCells_one] at h
  have e : (rowFn n fun _ => 0).map byteV = List.replicate n (byteV 0) := by
    simp [rowFn, List.map_const']
  unfold OwnN
  rw [e]
  exact h
theorem OwnN.cell {w : World} {B : Nat} {E : TypeId} {g n : Nat} {l : List Nat} (h : OwnN w B E g n l) (j : Nat) (hj : j < n) (hl : l.length = n) : w.cell? ⟨g, j, none⟩ = some (.int .u8 ((Gf.nth l j : Nat) : Int)) := by
  rw [World.ownsRow.cellAt (w := w) h j (by omega), List.getElem?_map, List.getElem?_eq_getElem (by omega), Gf.nth_getElem l j (by omega)]
  rfl
theorem OwnN.free {w : World} {B : Nat} {E : TypeId} {g n : Nat} {l : List Nat} (h : OwnN w B E g n l) (j : Nat) : w.frozen? ⟨g, j, none⟩ = false := World.ownsRow.frozenAt (w := w) h j
theorem OwnN.set {w : World} {B : Nat} {E : TypeId} {g n : Nat} {f : Nat → Nat} (h : OwnN w B E g n (rowFn n f)) (j v : Nat) : OwnN (w.setCell ⟨g, j, none⟩ (.int .u8 (v : Int))) B E g n (rowFn n (fun i => if i = j then v else f i)) := by
  have := (World.ownsRow.stored (w := w) h j (byteV v)).1
  rw [← List.map_set, rowFn_set] at this
  exact this
theorem OwnN.drewN {w : World} {B : Nat} {E : TypeId} {g n : Nat} {l : List Nat} (h : OwnN w B E g n l) (m : Nat) : OwnN (w.drewN m) B E g n l := World.ownsRow.kept h (grownBy_drewN w m none) (Or.inr (by simp [Value.ownBlock]))
theorem OwnN.own {w : World} {B : Nat} {E : TypeId} {g n : Nat} {l : List Nat} (h : OwnN w B E g n l) (hl : l.length = n) : Own w B E (.slice (some ⟨g, 0, none⟩) n n) l := by
  unfold Own
  rw [hl]
  exact h
theorem OwnN.lt {w : World} {B : Nat} {E : TypeId} {g n : Nat} {l : List Nat} (h : OwnN w B E g n l) : B ≤ g ∧ g < w.heap.size := World.ownsRow.lt h g rfl
/-- Place j of row i of the product, so far. -/
def dotN (A B : List (List Nat)) (i j : Nat) : Nat → Nat
  | 0 => 0
  | k + 1 => dotN A B i j k ^^^ Gf.mul (Gf.nth (rowOf A i) k) (Gf.nth (rowOf B k) j)
/-- The product. -/
def prodM (A B : List (List Nat)) (m : Nat) : List (List Nat) := (List.range m).map fun i => rowFn (rowOf B 0).length fun j => dotN A B i j B.length
theorem prodM_succ (A B : List (List Nat)) (m : Nat) : prodM A B (m + 1) = prodM A B m ++ [rowFn (rowOf B 0).length fun j => dotN A B m j B.length] := by simp [prodM, List.range_succ]
theorem prodM_length (A B : List (List Nat)) (m : Nat) : (prodM A B m).length = m := by simp [prodM]
/-- All bytes of all rows are bytes. -/
def BytesM (M : List (List Nat)) : Prop := ∀ i, Gf.Bytes (rowOf M i)
theorem dotN_lt (A B : List (List Nat)) (hA : BytesM A) (i j : Nat) : ∀ k, dotN A B i j k < 256
  | 0 => by show 0 < 256; decide
  | k + 1 => Gf.xlt (dotN_lt A B hA i j k) (Gf.mul_lt (hA i k) _)
theorem Mat.row {w : World} {p : Option Addr} {M : List (List Nat)} (h : Mat w p M) {i : Nat} (hi : i < M.length) (hne : 0 < (rowOf M i).length) :
    ∃ b o b1 o1 c, p = some ⟨b, o, none⟩ ∧ b < w.heap.size ∧ b1 < w.heap.size ∧ w.cell? ⟨b, o + i, none⟩ = some (.slice (some ⟨b1, o1, none⟩) (rowOf M i).length c) ∧ ∀ j, j < (rowOf M i).length → w.cell? ⟨b1, o1 + j, none⟩ = some (.int .u8 ((Gf.nth (rowOf M i) j : Nat) : Int)) := by
  rcases h with h | ⟨b, o, hp, hb, hc⟩
  · rw [h] at hi; exact absurd hi (Nat.not_lt_zero _)
  · obtain ⟨q, c, h1, h2, _⟩ := hc i hi
    rcases h2.cells with h3 | ⟨b1, o1, hq, hb1, hc1⟩
    · rw [h3] at hne; exact absurd hne (Nat.lt_irrefl _)
    · subst hq
      exact ⟨b, o, b1, o1, c, hp, hb, hb1, h1, hc1⟩
theorem add_any (a b : Nat) (w : World) (ha : a < 256) (hb : b < 256) :
    Calls Tryd.prog 52 #[.int .u8 (a : Int), .int .u8 (b : Int)] w fun e w' => e = .returned (.int .u8 ((a ^^^ b : Nat) : Int)) ∧ w' = w := by
  go_enter Tryd.func52, Tryd.ntmps52
  go_wp2
  go_ret
  exact ⟨ret_int (u8_xor_nat a b ha hb), rfl⟩
set_option maxRecDepth 10000 in
theorem tx_any (a : Nat) (w : World) (ha : a < 256)  :
    Calls Tryd.prog 73 #[.int .u8 (a : Int)] w fun e w' => e = .returned (.int .u8 ((Gf.tx a : Nat) : Int)) ∧ w' = w := by
  by_cases h : a < 128
  · go_enter Tryd.func73, Tryd.ntmps73
    go_wp2
    go_ret
    exact ⟨ret_int (by simp [Gf.tx, h]), rfl⟩
  · go_enter Tryd.func73, Tryd.ntmps73
    go_wp2_with fail
    have e : ((a : Int) * 2 % 256) = ((a * 2 - 256 : Nat) : Int) := by omega
    rw [e]
    refine (add_any (a * 2 - 256) 29 _ (by omega) (by decide)).mono ?_
    rintro e w' ⟨rfl, rfl⟩
    go_wp2
    go_ret
    exact ⟨ret_int (by simp [Gf.tx, h]), rfl⟩
set_option maxRecDepth 10000 in
set_option maxHeartbeats 400000 in
theorem mul_any (a b : Nat) (w : World) (ha : a < 256) (hb : b < 256) :
    Calls Tryd.prog 53 #[.int .u8 (a : Int), .int .u8 (b : Int)] w fun e w' => e = .returned (.int .u8 ((Gf.mul a b : Nat) : Int)) ∧ w' = w := by
  go_enter Tryd.func53, Tryd.ntmps53
  go_wp2
  go_loop [0, 5, 7] (fun x p i => ∃ k : Nat, k ≤ 8 ∧ i = .int .i64 k ∧ x = .int .u8 (Gf.txn a k : Nat) ∧ p = .int .u8 (Gf.part a b k : Nat)) (fun _ _ i => 8 - (intOf i).toNat)
  case atStart => exact ⟨0, by omega, rfl, rfl, rfl⟩
  case round =>
    obtain ⟨k, hk, rfl, rfl, rfl⟩ := hrel
    have htx := Gf.txn_lt ha k
    have hpt := Gf.part_lt ha b k
    have hbt := bit_test b k hb
    by_cases hlt : k < 8
    · by_cases hbit : Gf.bitOf b k = 1
      · have HP : Hid (Gf.part a b (k + 1) = Gf.part a b k ^^^ Gf.txn a k) := by show _ = _; simp [Gf.part, hbit]
        rw [decide_eq_true hbit] at hbt
        clear hbit
        go_wp2_with (first | (go_at_call 52; refine (add_any _ _ _ hpt htx).mono ?_; rintro e w' ⟨rfl, rfl⟩) | (go_at_call 73; refine (tx_any _ _ htx).mono ?_; rintro e w' ⟨rfl, rfl⟩))
        go_round
        case rel => exact ⟨k + 1, by omega, by go_num, rfl, by rw [HP.out]⟩
        case measure => simp [intOf]; omega
      · have HP : Hid (Gf.part a b (k + 1) = Gf.part a b k) := by show _ = _; simp [Gf.part, hbit]
        rw [decide_eq_false hbit] at hbt
        clear hbit
        go_wp2_with (first | (go_at_call 52; refine (add_any _ _ _ hpt htx).mono ?_; rintro e w' ⟨rfl, rfl⟩) | (go_at_call 73; refine (tx_any _ _ htx).mono ?_; rintro e w' ⟨rfl, rfl⟩))
        go_round
        case rel => exact ⟨k + 1, by omega, by go_num, rfl, by rw [HP.out]⟩
        case measure => simp [intOf]; omega
    · go_wp2
      go_ret
      have hk8 : k = 8 := by omega
      subst hk8
      exact ⟨rfl, rfl⟩
set_option maxRecDepth 10000 in
set_option maxHeartbeats 400000 in
theorem power_any (a n : Nat) (w : World) (ha : a < 256) (hn : n < 256) :
    Calls Tryd.prog 118 #[.int .u8 (a : Int), .int .i64 (n : Int)] w fun e w' => e = .returned (.int .u8 ((Gf.power a n : Nat) : Int)) ∧ w' = w := by
  go_enter Tryd.func118, Tryd.ntmps118
  go_wp2
  go_loop [0, 5, 7] (fun x p i => ∃ k : Nat, k ≤ 8 ∧ i = .int .i64 k ∧ x = .int .u8 (Gf.sq a k : Nat) ∧ p = .int .u8 (Gf.pw a n k : Nat)) (fun _ _ i => 8 - (intOf i).toNat)
  case atStart => exact ⟨0, by omega, rfl, rfl, rfl⟩
  case round =>
    obtain ⟨k, hk, rfl, rfl, rfl⟩ := hrel
    have htx := Gf.sq_lt ha k
    have hpt := Gf.pw_lt (a := a) n k
    have hbt := bit_test64 n k hn
    by_cases hlt : k < 8
    · by_cases hbit : Gf.bitOf n k = 1
      · have HP : Hid (Gf.pw a n (k + 1) = Gf.mul (Gf.pw a n k) (Gf.sq a k)) := by show _ = _; simp [Gf.pw, hbit]
        rw [decide_eq_true hbit] at hbt
        clear hbit
        go_wp2_with fail
        refine (mul_any _ _ _ hpt htx).mono ?_
        rintro e w' ⟨rfl, rfl⟩
        go_wp2_with fail
        refine (mul_any _ _ _ htx htx).mono ?_
        rintro e w' ⟨rfl, rfl⟩
        go_wp2
        go_round
        case rel => exact ⟨k + 1, by omega, by go_num, rfl, by rw [HP.out]⟩
        case measure => simp [intOf]; omega
      · have HP : Hid (Gf.pw a n (k + 1) = Gf.pw a n k) := by show _ = _; simp [Gf.pw, hbit]
        rw [decide_eq_false hbit] at hbt
        clear hbit
        go_wp2_with fail
        refine (mul_any _ _ _ htx htx).mono ?_
        rintro e w' ⟨rfl, rfl⟩
        go_wp2
        go_round
        case rel => exact ⟨k + 1, by omega, by go_num, rfl, by rw [HP.out]⟩
        case measure => simp [intOf]; omega
    · go_wp2
      go_ret
      have hk8 : k = 8 := by omega
      subst hk8
      exact ⟨rfl, rfl⟩
theorem inverse_any (a : Nat) (w : World) (ha : a < 256) :
    Calls Tryd.prog 120 #[.int .u8 (a : Int)] w fun e w' => e = .returned (.int .u8 ((Gf.inv a : Nat) : Int)) ∧ w' = w := by
  go_enter Tryd.func120, Tryd.ntmps120
  go_wp2_with fail
  refine (power_any a 254 _ ha (by decide)).mono ?_
  rintro e w' ⟨rfl, rfl⟩
  go_wp2
  go_ret
  exact ⟨rfl, rfl⟩
theorem map_range_set (r : Nat) (vf : Nat → Value) (j : Nat) (v : Value) : ((List.range r).map vf).set j v = (List.range r).map (fun i => if i = j then v else vf i) := by
  apply List.ext_getElem?
  intro i
  rw [List.getElem?_set, List.getElem?_map, List.getElem?_map]
  by_cases hi : i < r
  · rw [List.getElem?_range hi]
    by_cases e : j = i
    · subst e; simp [hi]
    · have e' : ¬ i = j := fun h => e h.symm
      simp [e, e']
  · rw [List.getElem?_eq_none (by simpa using hi)]
    by_cases e : j = i
    · subst e; simp [hi]
    · simp [e]
/-- Values of type E in a row of the call's own. -/
def OwnE (w : World) (E : TypeId) (B g r : Nat) (vf : Nat → Value) : Prop := w.ownsRow B E 1 (.slice (some ⟨g, 0, none⟩) r r) r ((List.range r).map vf)
theorem OwnE.made (w : World) (E : TypeId) (z : Value) (B r : Nat) (hB : B ≤ w.heap.size) (hr : r ≤ 1000000) : OwnE (w.alloc (.cells (madeCells #[z] r) E)) E B w.heap.size r (fun _ => z) := by
  have h := World.ownsRow_lit (base := B) (e := E) (size := 1) w (madeCells #[z] r) r hB (by unfold maxLen; omega) (by have := congrArg List.length (toList_madeCells_one z r); simpa using this)
  rw [toList_madeCells_one] at h
  unfold OwnE
  rw [List.map_const', List.length_range]
  exact h
theorem OwnE.cell {w : World} {E : TypeId} {B g r : Nat} {vf : Nat → Value} (h : OwnE w E B g r vf) (j : Nat) (hj : j < r) : w.cell? ⟨g, j, none⟩ = some (vf j) := by
  rw [World.ownsRow.cellAt (w := w) h j (by omega), List.getElem?_map, List.getElem?_range hj]
  rfl
theorem OwnE.free {w : World} {E : TypeId} {B g r : Nat} {vf : Nat → Value} (h : OwnE w E B g r vf) (j : Nat) : w.frozen? ⟨g, j, none⟩ = false := World.ownsRow.frozenAt (w := w) h j
theorem OwnE.set {w : World} {E : TypeId} {B g r : Nat} {vf : Nat → Value} (h : OwnE w E B g r vf) (j : Nat) (v : Value) : OwnE (w.setCell ⟨g, j, none⟩ v) E B g r (fun i => if i = j then v else vf i) := by
  have := (World.ownsRow.stored (w := w) h j v).1
  rw [map_range_set] at this
  exact this
theorem OwnE.kept {w w' : World} {E : TypeId} {B g r : Nat} {vf : Nat → Value} {row : Option Nat} (h : OwnE w E B g r vf) (hg : w.grownBy w' row) (hne : row ≠ some g) : OwnE w' E B g r vf :=
  World.ownsRow.kept h hg (Or.inr (fun e => hne e.symm))
theorem OwnE.congr {w : World} {E : TypeId} {B g r : Nat} {vf vg : Nat → Value} (h : OwnE w E B g r vf) (he : ∀ i, i < r → vf i = vg i) : OwnE w E B g r vg := by
  unfold OwnE
  rw [List.map_congr_left (g := vf) (fun i hi => (he i (List.mem_range.1 hi)).symm)]
  exact h
theorem OwnE.lt {w : World} {E : TypeId} {B g r : Nat} {vf : Nat → Value} (h : OwnE w E B g r vf) : B ≤ g ∧ g < w.heap.size := World.ownsRow.lt h g rfl
/-- In the world w the numbers l lie from p on. -/
def Ints (w : World) (p : Option Addr) (l : List Int) : Prop := l = [] ∨ ∃ b o, p = some ⟨b, o, none⟩ ∧ b < w.heap.size ∧ ∀ i, i < l.length → w.cell? ⟨b, o + i, none⟩ = some (.int .i64 (l.getD i 0))
theorem Ints.below {w w' : World} {p : Option Addr} {l : List Int} (h : Ints w p l) (hb : Below w.heap.size w w') : Ints w' p l := by
  rcases h with h | ⟨b, o, hp, hlt, hc⟩
  · exact Or.inl h
  · exact Or.inr ⟨b, o, hp, Nat.lt_of_lt_of_le hlt hb.size, fun i hi => (hb.cell (p := ⟨b, o + i, none⟩) hlt).trans (hc i hi)⟩
/-- Unlike ones among others: no more than those. -/
theorem length_le_of_subset : ∀ (l X : List Nat), l.Nodup → (∀ x ∈ l, x ∈ X) → l.length ≤ X.length
  | [], _, _, _ => Nat.zero_le _
  | a :: t, X, hn, hs => by
    have ha : a ∈ X := hs a (List.mem_cons_self ..)
    have hn' := List.nodup_cons.1 hn
    have := length_le_of_subset t (X.erase a) hn'.2 (fun x hx => (List.mem_erase_of_ne (fun e => hn'.1 (by rw [← e]; exact hx))).2 (hs x (List.mem_cons_of_mem _ hx)))
    rw [List.length_erase_of_mem ha] at this
    have hp := List.length_pos_of_mem ha
    simp only [List.length_cons]
    omega
theorem boolinfo : (Tryd.prog.info? 4).map (fun i => (i.zero, i.size, i.bytes)) = some (some (.bool false), 1, 1) := by kernel_rfl
theorem within_any (n : Int) (w : World) :
    Calls Tryd.prog 119 #[.int .i64 n] w fun e w' => e = .returned (.int .i64 ((red n : Nat) : Int)) ∧ w' = w := by
  have HR : Hid (((red n : Nat) : Int) = n % 255) := red_cast n
  by_cases h0 : 0 ≤ n
  · go_enter Tryd.func119, Tryd.ntmps119
    go_wp2
    go_ret
    exact ⟨ret_int HR.out.symm, rfl⟩
  · have HT : Hid (n.tmod 255 = -((-n) % 255)) := by show _ = _; rw [tmod_neg, Int.tmod_eq_emod_of_nonneg (by omega)]
    have hb1 : -255 < n.tmod 255 := by rw [HT.out]; omega
    have hb2 : n.tmod 255 ≤ 0 := by rw [HT.out]; omega
    go_enter Tryd.func119, Tryd.ntmps119
    go_wp2
    · go_ret
      exact ⟨ret_int (by have := HT.out; have := HR.out; omega), rfl⟩
    · go_ret
      exact ⟨ret_int (by have := HT.out; have := HR.out; omega), rfl⟩
theorem pow_zero_pos (n : Int) (w : World) (hn : 0 < n) :
    Calls Tryd.prog 96 #[.int .u8 0, .int .i64 n] w fun e w' => e = .returned (.tuple #[.int .u8 0, .nilIface]) ∧ w' = w := by
  go_enter Tryd.func96, Tryd.ntmps96
  go_wp2
  go_ret2
  exact ⟨rfl, rfl⟩
theorem pow_reg (a : Nat) (n : Int) (w : World) (ha : a < 256) (h : a = 0 → n = 0) :
    Calls Tryd.prog 96 #[.int .u8 (a : Int), .int .i64 n] w fun e w' => e = .returned (.tuple #[.int .u8 (Gf.power a (red n) : Nat), .nilIface]) ∧ w' = w := by
  have hr := red_lt n
  by_cases h0 : a = 0
  · obtain rfl := h h0
    subst h0
    clear h
    go_enter Tryd.func96, Tryd.ntmps96
    go_wp2_with (first | (go_at_call 119; refine (within_any 0 _).mono ?_; rintro e w' ⟨rfl, rfl⟩) | (go_at_call 118; refine (power_any 0 (red 0) _ (by decide) (by omega)).mono ?_; rintro e w' ⟨rfl, rfl⟩))
    go_ret2
    exact ⟨rfl, rfl⟩
  · have h1 : ((a : Int) == 0) = false := by simpa using h0
    clear h h0
    go_enter Tryd.func96, Tryd.ntmps96
    go_wp2_with (first | (go_at_call 119; refine (within_any n _).mono ?_; rintro e w' ⟨rfl, rfl⟩) | (go_at_call 118; refine (power_any a (red n) _ ha (by omega)).mono ?_; rintro e w' ⟨rfl, rfl⟩))
    go_ret2
    exact ⟨rfl, rfl⟩
theorem pow_err (n : Int) (z : Addr) (w : World) (hn : n < 0) (hz : w.cell? ⟨3, 0, none⟩ = some (.iface 200 (.pointer (some z)))) :
    Calls Tryd.prog 96 #[.int .u8 0, .int .i64 n] w fun e w' => e = .returned (.tuple #[.int .u8 0, .iface 200 (.pointer (some z))]) ∧ Below w.heap.size w w' := by
  go_enter Tryd.func96, Tryd.ntmps96
  go_wp2
  go_quiet (fail)
  go_wp2
  go_ret2
  exact ⟨rfl, below_drewN (Below.refl _ _) _⟩
theorem inv_zero (z : Addr) (w : World) (hz : w.cell? ⟨3, 0, none⟩ = some (.iface 200 (.pointer (some z)))) :
    Calls Tryd.prog 100 #[.int .u8 0] w fun e w' => e = .returned (.tuple #[.int .u8 0, .iface 200 (.pointer (some z))]) ∧ Below w.heap.size w w' := by
  go_enter Tryd.func100, Tryd.ntmps100
  go_wp2
  go_quiet (fail)
  go_wp2
  go_ret2
  exact ⟨rfl, below_drewN (Below.refl _ _) _⟩
theorem inv_zero' (b : Nat) (h : b = 0) (z : Addr) (w : World) (hz : w.cell? ⟨3, 0, none⟩ = some (.iface 200 (.pointer (some z)))) :
    Calls Tryd.prog 100 #[.int .u8 (b : Int)] w fun e w' => e = .returned (.tuple #[.int .u8 0, .iface 200 (.pointer (some z))]) ∧ Below w.heap.size w w' := by
  subst h; exact inv_zero z w hz
theorem inv_any (a : Nat) (w : World) (ha : a < 256) (h0 : a ≠ 0) :
    Calls Tryd.prog 100 #[.int .u8 (a : Int)] w fun e w' => e = .returned (.tuple #[.int .u8 (Gf.inv a : Nat), .nilIface]) ∧ w' = w := by
  have h1 : ((a : Int) == 0) = false := by simpa using h0
  clear h0
  go_enter Tryd.func100, Tryd.ntmps100
  go_wp2_with (go_at_call 120; refine (inverse_any a _ ha).mono ?_; rintro e w' ⟨rfl, rfl⟩)
  go_ret2
  exact ⟨rfl, rfl⟩
/-- Bytes as a text. -/
def strOf (l : List Nat) : ByteArray := strOfNums (l.map Int.ofNat)
theorem conv_seg {w : World} {q : Option Addr} {l : List Nat} (h : Seg w q l) (c : Nat) : (convert 58 9 (.slice q l.length c)).run Tryd.prog w = .ok (.string (strOf l)) w := by
  rcases h.cells with hl | ⟨b, o, rfl, hb, hc⟩
  · subst hl
    cases q with
    | none => exact run_convert_bytes_nil w 58 5 Tryd.underlying58 Tryd.underlying5 0 c 9 Tryd.underlying9
    | some ad =>
      have hl : (loadCells ad 0).run Tryd.prog w = .ok (([] : List Int).map (Value.int .u8)).toArray w := by simp [loadCells, loadCellsFrom]
      rw [List.length_nil, run_convert_bytes_string w 58 9 5 _ 0 c Tryd.underlying58 Tryd.underlying5 Tryd.underlying9, run_bytesToString w ad 0 c [] hl]
      rfl
  · refine run_convert_bytes_arg w 58 5 Tryd.underlying58 Tryd.underlying5 b o l.length c (l.map Int.ofNat) (by simp) (fun i hi => ?_) 9 Tryd.underlying9
    rw [hc i hi, Gf.nth_getElem l i hi, List.getD_eq_getElem?_getD, List.getElem?_map, List.getElem?_eq_getElem hi]
    rfl
set_option maxRecDepth 10000 in
theorem mfits_any (n k : Int) (w : World) : Calls Tryd.prog 44 #[.int .i64 n, .int .i64 k] w fun e w' => e = .returned (.bool (decide (1 ≤ k ∧ k ≤ n ∧ n ≤ 12))) ∧ w' = w := by
  by_cases h1 : 1 ≤ k
  · by_cases h2 : k ≤ n
    · by_cases h3 : n ≤ 12
      · have HE : Hid (decide (1 ≤ k ∧ k ≤ n ∧ n ≤ 12) = true) := decide_eq_true ⟨h1, h2, h3⟩
        rw [HE.out]
        go_enter Tryd.func44, Tryd.ntmps44
        go_wp2
        go_ret
        exact ⟨rfl, rfl⟩
      · have HE : Hid (decide (1 ≤ k ∧ k ≤ n ∧ n ≤ 12) = false) := decide_eq_false fun h => h3 h.2.2
        rw [HE.out]
        go_enter Tryd.func44, Tryd.ntmps44
        go_wp2
        go_ret
        exact ⟨rfl, rfl⟩
    · have HE : Hid (decide (1 ≤ k ∧ k ≤ n ∧ n ≤ 12) = false) := decide_eq_false fun h => h2 h.2.1
      rw [HE.out]
      go_enter Tryd.func44, Tryd.ntmps44
      go_wp2
      go_ret
      exact ⟨rfl, rfl⟩
  · have HE : Hid (decide (1 ≤ k ∧ k ≤ n ∧ n ≤ 12) = false) := decide_eq_false fun h => h1 h.1
    rw [HE.out]
    go_enter Tryd.func44, Tryd.ntmps44
    go_wp2
    go_ret
    exact ⟨rfl, rfl⟩
end Go.Proofs.YtppcijpgalaohaaDoor
