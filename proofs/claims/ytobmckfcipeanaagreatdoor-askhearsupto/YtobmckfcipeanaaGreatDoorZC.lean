import Derived.Test.YtobmckfcipeanaaGreatDoorZA
import Derived.Below
import Derived.WalkSmall
import Derived.Shelf.Abstract
import Derived.Test.YtobmckfcipeanaaGreatDoorGfAll
import Derived.Deep.OwnRows
namespace Go.Proofs.YtobmckfcipeanaaGreatDoor
open Go.RowKit
def shAt (l : List (Int × ByteArray)) (i : Nat) : Int × ByteArray := l.getD i (0, ⟨#[]⟩)
def Shs (w : World) (p : Option Addr) (l : List (Int × ByteArray)) : Prop :=
 l = [] ∨ ∃ b o, p = some ⟨b, o, none⟩ /\ b < w.heap.size /\ ∀ i, i < l.length -> w.cell? ⟨b, o + i * 2, none⟩ = some (.int .i64 (shAt l i).1) /\ w.cell? ⟨b, o + i * 2 + 1, none⟩ = some (.string (shAt l i).2)
theorem Shs.below {w w' : World} {p : Option Addr} {l : List (Int × ByteArray)} (h : Shs w p l) (hb : Below w.heap.size w w') : Shs w' p l := by
 rcases h with h | ⟨b, o, hp, hlt, hc⟩
 ·exact Or.inl h
 ·exact Or.inr ⟨b, o, hp, Nat.lt_of_lt_of_le hlt hb.size, fun i hi => ⟨(hb.cell (p := ⟨b, o + i * 2, none⟩) hlt).trans (hc i hi).1, (hb.cell (p := ⟨b, o + i * 2 + 1, none⟩) hlt).trans (hc i hi).2⟩⟩
def Asks (w : World) (fn : FuncId) (caps : Array Value) (l : List (Int × ByteArray)) (P : Int × ByteArray -> Bool) : Prop :=
 ∀ i, i < l.length -> ∀ w1, Below w.heap.size w w1 -> Calls Tryz.prog fn (#[.agg #[.int .i64 (shAt l i).1, .string (shAt l i).2]] ++ caps) w1 fun e w2 => e = .returned (.bool (P (shAt l i))) /\ Below w1.heap.size w1 w2
theorem shAt_mem {l : List (Int × ByteArray)} {i : Nat} (h : i < l.length) : shAt l i ∈ l := by
 unfold shAt
 rw [List.getD_eq_getElem?_getD, List.getElem?_eq_getElem h]
 exact List.getElem_mem h
theorem mem_shAt {l : List (Int × ByteArray)} {x : Int × ByteArray} (h : x ∈ l) : ∃ i, i < l.length /\ shAt l i = x := by
 obtain ⟨i, hi, rfl⟩ := List.getElem_of_mem h
 refine ⟨i, hi, ?_⟩
 unfold shAt
 rw [List.getD_eq_getElem?_getD, List.getElem?_eq_getElem hi]
 rfl
theorem any_of_at {l : List (Int × ByteArray)} {P : Int × ByteArray -> Bool} {i : Nat} (h : i < l.length) (hp : P (shAt l i) = true) : l.any P = true := List.any_eq_true.2 ⟨_, shAt_mem h, hp⟩
theorem none_of_at {l : List (Int × ByteArray)} {P : Int × ByteArray -> Bool} (h : ∀ i, i < l.length -> P (shAt l i) = false) : l.any P = false := by
 rw [List.any_eq_false]
 intro x hx
 obtain ⟨i, hi, rfl⟩ := mem_shAt hx
 rw [h i hi]
 decide
set_option maxRecDepth 10000 in
set_option maxHeartbeats 1000000 in
theorem index_any (p : Option Addr) (l : List (Int × ByteArray)) (cap : Nat) (fn : FuncId) (caps : Array Value) (P : Int × ByteArray -> Bool) (w : World) (hl : l.length <= 100000) (hs : Shs w p l)
 (hent : ∀ args W, Sem.run Tryz.prog (callFunc fn args) W = .ok (.enter fn args) W) (hc : Asks w fn caps l P) :
 Calls Tryz.prog 117 #[.slice p l.length cap, .func (.func fn) #[] caps] w fun e w' => (∃ r : Int, e = .returned (.int .i64 r) /\ (0 <= r /\ l.any P = true ∨ r = -1 /\ l.any P = false)) /\ Below w.heap.size w w' := by
 have HS : Hid (Shs w p l) := hs
 have HC : Hid (Asks w fn caps l P) := hc
 clear hs hc
 go_enter Tryz.func117, Tryz.ntmps117
 go_wp2
 go_loopw [8] (fun x wr => ∃ i : Nat, i <= l.length /\ x = .int .i64 i /\ (∀ j, j < i -> P (shAt l j) = false) /\ Below w.heap.size w wr) (fun x _ => l.length - (intOf x).toNat)
 case atStart => exact ⟨0, by omega, rfl, fun j hj => absurd hj (Nat.not_lt_zero _), Below.refl _ _⟩
 case round =>
  obtain ⟨i, hi, rfl, hall, hB⟩ := hrel
  have HALL : Hid (∀ j, j < i -> P (shAt l j) = false) := hall
  have HB : Hid (Below w.heap.size w wr) := hB
  clear hall hB
  by_cases hil : i < l.length
  ·rcases (HS.out.below HB.out) with h0 | ⟨b1, o1, rfl, _, hc1⟩
   ·rw [h0] at hil; simp at hil
   obtain ⟨q1, q2⟩ := hc1 i hil
   have HX := HC.out i hil wr HB.out
   clear hc1
   have HPX : Hid (∀ v, P (shAt l i) = v -> v = P (shAt l i)) := fun v h => h.symm
   by_cases hp : P (shAt l i) = true
   ·have HA : Hid (l.any P = true) := any_of_at hil hp
    rw [hp] at HX
    clear hp HPX
    generalize (shAt l i).1 = x at q1 HX
    generalize (shAt l i).2 = t at q2 HX
    go_wp2_with fail
    refine HX.mono ?_
    rintro e w2 ⟨rfl, hb2⟩
    clear HX
    go_wp2
    go_ret
    exact ⟨⟨(i : Int), rfl, Or.inl ⟨by omega, HA.out⟩⟩, HB.out.trans (hb2.mono HB.out.size)⟩
   ·have hpf : P (shAt l i) = false := by simpa using hp
    have HPF : Hid (P (shAt l i) = false) := hpf
    rw [hpf] at HX
    clear hp hpf HPX
    generalize (shAt l i).1 = x at q1 HX
    generalize (shAt l i).2 = t at q2 HX
    go_wp2_with fail
    refine HX.mono ?_
    rintro e w2 ⟨rfl, hb2⟩
    have HB2 : Hid (Below w.heap.size w w2) := HB.out.trans (hb2.mono HB.out.size)
    clear HX hb2 q1 q2
    go_wp2
    go_roundw
    case rel =>
     refine ⟨i + 1, by omega, by go_num, fun j hj => ?_, HB2.out⟩
     by_cases e : j = i
     ·rw [e]; exact HPF.out
     ·exact HALL.out j (by omega)
    case measure => simp [intOf]; omega
  ·have HN : Hid (l.any P = false) := none_of_at fun j hj => HALL.out j (by omega)
   go_wp2
   go_ret
   exact ⟨⟨-1, rfl, Or.inr ⟨rfl, HN.out⟩⟩, HB.out⟩
set_option maxRecDepth 10000 in
theorem contains_any (p : Option Addr) (l : List (Int × ByteArray)) (cap : Nat) (fn : FuncId) (caps : Array Value) (P : Int × ByteArray -> Bool) (w : World) (hl : l.length <= 100000) (hs : Shs w p l)
 (hent : ∀ args W, Sem.run Tryz.prog (callFunc fn args) W = .ok (.enter fn args) W) (hc : Asks w fn caps l P) :
 Calls Tryz.prog 85 #[.slice p l.length cap, .func (.func fn) #[] caps] w fun e w' => e = .returned (.bool (l.any P)) /\ Below w.heap.size w w' := by
 have HI := index_any p l cap fn caps P w hl hs hent hc
 clear hs hc hent
 go_enter Tryz.func85, Tryz.ntmps85
 go_wp2_with fail
 refine HI.mono ?_
 rintro e w1 ⟨⟨r, rfl, hr⟩, hb⟩
 clear HI
 rcases hr with ⟨hr, ha⟩ | ⟨hr, ha⟩
 ·have HA : Hid (l.any P = true) := ha
  clear ha
  go_wp2
  go_ret
  exact ⟨ret_bool (by rw [HA.out]), hb⟩
 ·have HA : Hid (l.any P = false) := ha
  subst hr
  clear ha
  go_wp2
  go_ret
  exact ⟨ret_bool (by rw [HA.out]), hb⟩
def Mat (w : World) (p : Option Addr) (M : List (List Nat)) : Prop :=
 M = [] ∨ ∃ b o, p = some ⟨b, o, none⟩ /\ b < w.heap.size /\ ∀ i, i < M.length -> ∃ q c, w.cell? ⟨b, o + i, none⟩ = some (.slice q (rowOf M i).length c) /\ Seg w q (rowOf M i) /\ (q = none -> c = 0)
theorem Mat.below {w w' : World} {p : Option Addr} {M : List (List Nat)} (h : Mat w p M) (hb : Below w.heap.size w w') : Mat w' p M := by
 rcases h with h | ⟨b, o, hp, hlt, hc⟩
 ·exact Or.inl h
 ·refine Or.inr ⟨b, o, hp, Nat.lt_of_lt_of_le hlt hb.size, fun i hi => ?_⟩
  obtain ⟨q, c, h1, h2⟩ := hc i hi
  exact ⟨q, c, (hb.cell (p := ⟨b, o + i, none⟩) hlt).trans h1, h2.1.below hb, h2.2⟩
theorem Mat.drewN {w : World} {p : Option Addr} {M : List (List Nat)} (h : Mat w p M) (n : Nat) : Mat (w.drewN n) p M := h.below (below_drewN (Below.refl _ _) n)
def IsMat (M : List (List Nat)) : Prop := 1 <= M.length /\ M.length <= 16 /\ ∀ i, i < M.length -> 1 <= (rowOf M i).length /\ (rowOf M i).length <= 16 /\ (rowOf M i).length = (rowOf M 0).length
theorem u8info : (Tryz.prog.info? 5).map (fun i => (i.zero, i.size, i.bytes)) = some (some (byteV 0), 1, 1) := by kernel_rfl
def upToL (k : Nat) : List Nat := List.range k
theorem Seg.kept {w w' : World} {q : Option Addr} {l : List Nat} {row : Option Nat} (h : Seg w q l) (hg : w.grownBy w' row) (hne : ∀ ad, q = some ad -> some ad.block ≠ row) : Seg w' q l := by
 refine ⟨h.lt, ?_⟩
 rcases h.cells with h | ⟨b, o, hp, hlt, hc⟩
 ·exact Or.inl h
 ·refine Or.inr ⟨b, o, hp, Nat.lt_of_lt_of_le hlt hg.size, fun i hi => ?_⟩
  exact (World.cell?_of_block (a := ⟨b, o + i, none⟩) (hg.block b hlt (hne _ hp))).trans (hc i hi)
def OwnMatV (B : Nat) (w : World) (e : TypeId) (v : Value) (vs : List Value) (M : List (List Nat)) : Prop :=
 OwnV w B e v vs /\ vs.length = M.length /\ ∀ i, i < M.length -> ∃ q c, vs[i]? = some (.slice q (rowOf M i).length c) /\ Seg w q (rowOf M i) /\ (q = none -> c = 0) /\ ∀ ad, q = some ad -> B <= ad.block /\ ad.block < w.heap.size /\ v.ownBlock ≠ some ad.block
def OwnMat (B : Nat) (w : World) (e : TypeId) (v : Value) (M : List (List Nat)) : Prop := ∃ vs, OwnMatV B w e v vs M
theorem OwnMat.nil (B : Nat) (w : World) (e : TypeId) : OwnMat B w e (.slice none 0 0) [] := ⟨[], OwnV.nil w B e, rfl, fun _ hi => absurd hi (Nat.not_lt_zero _)⟩
theorem Own.form {w : World} {B : Nat} {e : TypeId} {v : Value} {l : List Nat} (h : Own w B e v l) (hl : Gf.Bytes l) : ∃ q c, v = .slice q l.length c /\ Seg w q l /\ (q = none -> c = 0) /\ ∀ ad, q = some ad -> B <= ad.block /\ ad.block < w.heap.size := by
 rcases h.2 with ⟨rfl, h0⟩ | ⟨g, cap, cur, rfl, hb, hg, hnc, hcm, hcs, htake⟩
 ·have : l = [] := List.length_eq_zero_iff.1 h0
  subst this
  exact ⟨none, 0, rfl, ⟨hl, Or.inl rfl⟩, fun _ => rfl, fun ad h => by cases h⟩
 ·refine ⟨some ⟨g, 0, none⟩, cap, rfl, ?_, (fun h => by cases h), (fun ad h => by injection h with h; subst h; exact ⟨hb, (Array.getElem?_eq_some_iff.1 hg).1⟩)⟩
  obtain ⟨p, c, hv, hs⟩ := h.seg hl
  injection hv with h1 h2 h3
  subst h1
  exact hs
theorem OwnMatV.snoc {B : Nat} {w w1 w3 : World} {T E : TypeId} {v v' r : Value} {vs : List Value} {M : List (List Nat)} {row : List Nat} {o : Obj} (h : OwnMatV B w T v vs M) (hB : B <= w.heap.size) (hr : Own w1 w.heap.size E r row) (hrow : Gf.Bytes row) (hb : Below w.heap.size w w1)
 (hv : OwnV w3 B T v' (vs ++ [r]))
 (hg : (w1.alloc o).grownBy w3 v.ownBlock) (hw : v'.ownBlock = v.ownBlock ∨ v'.ownBlock = some (w1.alloc o).heap.size) : OwnMatV B w3 T v' (vs ++ [r]) (M ++ [row]) := by
 obtain ⟨hvs, hlen, hall⟩ := h
 have hz := hb.size
 have hsz : (w1.alloc o).heap.size = w1.heap.size + 1 := by simp
 have hvb : ∀ k, v.ownBlock = some k -> k < w.heap.size := fun k hk => (hvs.block hk).2
 have hg1 : w1.grownBy w3 v.ownBlock := ⟨hg.os, hg.tape, hg.output, by have := hg.size; omega, fun k hk hne => (hg.block k (by omega) hne).trans (Below.heap_alloc w1 o k hk)⟩
 refine ⟨hv, by simp [hlen], fun i hi => ?_⟩
 rw [List.length_append, List.length_singleton] at hi
 by_cases hlt : i < M.length
 ·obtain ⟨q, c, h1, h2, h3, h4⟩ := hall i hlt
  rw [rowOf_append_lt M row i hlt]
  refine ⟨q, c, by rw [List.getElem?_append_left (by omega)]; exact h1, (h2.below hb).kept hg1 (fun ad hq => fun e => (h4 ad hq).2.2 e.symm), h3, fun ad hq => ?_⟩
  have := h4 ad hq
  refine ⟨this.1, by have := hg1.size; omega, ?_⟩
  rcases hw with hw | hw
  ·rw [hw]; exact this.2.2
  ·rw [hw, hsz]; intro e; have := Option.some.inj e; omega
 ·obtain rfl : i = M.length := by omega
  rw [rowOf_append_eq]
  obtain ⟨q, c, h1, h2, h3, h4⟩ := hr.form hrow
  refine ⟨q, c, by rw [List.getElem?_append_right (by omega), hlen, Nat.sub_self, h1]; rfl, h2.kept hg1 (fun ad hq => ?_), h3, fun ad hq => ?_⟩
  ·have := h4 ad hq
   intro e
   have := hvb _ e.symm
   omega
  ·have := h4 ad hq
   refine ⟨by omega, by have := hg1.size; omega, ?_⟩
   rcases hw with hw | hw
   ·rw [hw]; intro e; have := hvb _ e; omega
   ·rw [hw, hsz]; intro e; have := Option.some.inj e; omega
theorem OwnMat.mat {B : Nat} {w : World} {T : TypeId} {v : Value} {M : List (List Nat)} (h : OwnMat B w T v M) : ∃ p c, v = .slice p M.length c /\ Mat w p M := by
 obtain ⟨vs, hvs, hlen, hall⟩ := h
 rcases hvs.cells with ⟨rfl, rfl⟩ | ⟨g, cap, rfl, hB, hg, hcell⟩
 ·have : M = [] := List.length_eq_zero_iff.1 (by simpa using hlen.symm)
  subst this
  exact ⟨none, 0, rfl, Or.inl rfl⟩
 ·refine ⟨some ⟨g, 0, none⟩, cap, by rw [hlen], Or.inr ⟨g, 0, rfl, hg, fun i hi => ?_⟩⟩
  obtain ⟨q, c, h1, h2, h3, _⟩ := hall i hi
  refine ⟨q, c, ?_, h2, h3⟩
  rw [Nat.zero_add]
  exact hcell i _ h1
theorem rowinfo : (Tryz.prog.info? 133).map (fun i => (i.zero, i.size, i.bytes)) = some (some (.slice none 0 0), 1, 24) := by kernel_rfl
def OwnN (w : World) (B : Nat) (E : TypeId) (g n : Nat) (l : List Nat) : Prop := w.ownsRow B E 1 (.slice (some ⟨g, 0, none⟩) n n) n (l.map byteV)
theorem OwnN.made (w : World) (B : Nat) (E : TypeId) (n : Nat) (hB : B <= w.heap.size) (hn : n <= 1000000) : OwnN (w.alloc (.cells (madeCells #[byteV 0] n) E)) B E w.heap.size n (rowFn n fun _ => 0) := by
 have h := World.ownsRow_lit (base := B) (e := E) (size := 1) w (madeCells #[byteV 0] n) n hB (by unfold maxLen; omega) (by have := congrArg List.length (toList_madeCells_one (byteV 0) n); simpa using this)
 rw [toList_madeCells_one] at h
 have e : (rowFn n fun _ => 0).map byteV = List.replicate n (byteV 0) := by
  simp [rowFn, List.map_const']
 unfold OwnN
 rw [e]
 exact h
theorem OwnN.cell {w : World} {B : Nat} {E : TypeId} {g n : Nat} {l : List Nat} (h : OwnN w B E g n l) (j : Nat) (hj : j < n) (hl : l.length = n) : w.cell? ⟨g, j, none⟩ = some (.int .u8 ((Gf.nth l j : Nat) : Int)) := by
 rw [World.ownsRow.cellAt (w := w) h j (by omega), List.getElem?_map, List.getElem?_eq_getElem (by omega), Gf.nth_getElem l j (by omega)]
 rfl
theorem OwnN.free {w : World} {B : Nat} {E : TypeId} {g n : Nat} {l : List Nat} (h : OwnN w B E g n l) (j : Nat) : w.frozen? ⟨g, j, none⟩ = false := World.ownsRow.frozenAt (w := w) h j
theorem OwnN.set {w : World} {B : Nat} {E : TypeId} {g n : Nat} {f : Nat -> Nat} (h : OwnN w B E g n (rowFn n f)) (j v : Nat) : OwnN (w.setCell ⟨g, j, none⟩ (.int .u8 (v : Int))) B E g n (rowFn n (fun i => if i = j then v else f i)) := by
 have := (World.ownsRow.stored (w := w) h j (byteV v)).1
 rw [<- List.map_set, rowFn_set] at this
 exact this
theorem OwnN.drewN {w : World} {B : Nat} {E : TypeId} {g n : Nat} {l : List Nat} (h : OwnN w B E g n l) (m : Nat) : OwnN (w.drewN m) B E g n l := World.ownsRow.kept h (grownBy_drewN w m none) (Or.inr (by simp [Value.ownBlock]))
theorem OwnN.own {w : World} {B : Nat} {E : TypeId} {g n : Nat} {l : List Nat} (h : OwnN w B E g n l) (hl : l.length = n) : Own w B E (.slice (some ⟨g, 0, none⟩) n n) l := by
 unfold Own
 rw [hl]
 exact h
theorem OwnN.lt {w : World} {B : Nat} {E : TypeId} {g n : Nat} {l : List Nat} (h : OwnN w B E g n l) : B <= g /\ g < w.heap.size := World.ownsRow.lt h g rfl
def dotN (A B : List (List Nat)) (i j : Nat) : Nat -> Nat
 | 0 => 0
 | k + 1 => dotN A B i j k ^^^ Gf.mul (Gf.nth (rowOf A i) k) (Gf.nth (rowOf B k) j)
def prodM (A B : List (List Nat)) (m : Nat) : List (List Nat) := (List.range m).map fun i => rowFn (rowOf B 0).length fun j => dotN A B i j B.length
def BytesM (M : List (List Nat)) : Prop := ∀ i, Gf.Bytes (rowOf M i)
theorem dotN_lt (A B : List (List Nat)) (hA : BytesM A) (i j : Nat) : ∀ k, dotN A B i j k < 256
 | 0 => by show 0 < 256; decide
 | k + 1 => Gf.xlt (dotN_lt A B hA i j k) (Gf.mul_lt (hA i k) _)
theorem Mat.row {w : World} {p : Option Addr} {M : List (List Nat)} (h : Mat w p M) {i : Nat} (hi : i < M.length) (hne : 0 < (rowOf M i).length) :
 ∃ b o b1 o1 c, p = some ⟨b, o, none⟩ /\ b < w.heap.size /\ b1 < w.heap.size /\ w.cell? ⟨b, o + i, none⟩ = some (.slice (some ⟨b1, o1, none⟩) (rowOf M i).length c) /\ ∀ j, j < (rowOf M i).length -> w.cell? ⟨b1, o1 + j, none⟩ = some (.int .u8 ((Gf.nth (rowOf M i) j : Nat) : Int)) := by
 rcases h with h | ⟨b, o, hp, hb, hc⟩
 ·rw [h] at hi; exact absurd hi (Nat.not_lt_zero _)
 ·obtain ⟨q, c, h1, h2, _⟩ := hc i hi
  rcases h2.cells with h3 | ⟨b1, o1, hq, hb1, hc1⟩
  ·rw [h3] at hne; exact absurd hne (Nat.lt_irrefl _)
  ·subst hq
   exact ⟨b, o, b1, o1, c, hp, hb, hb1, h1, hc1⟩
end Go.Proofs.YtobmckfcipeanaaGreatDoor
