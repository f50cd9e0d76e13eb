/- Texts laid together. -/
import Derived.Test.YtpjeibicopgedaaGreatDoorQb3
import Derived.RegionTactic
import Derived.BigRegion
namespace Go.Proofs.YtpjeibicopgedaaGreatDoor
open Go.RowKit
theorem grown_trans {a b c : World} {row : Option Nat} (h : a.grownBy b row) (k : b.grownBy c row) : a.grownBy c row :=
  ⟨k.os.trans h.os, k.tape.trans h.tape, k.output.trans h.output, Nat.le_trans h.size k.size, fun i hi hne => (k.block i (Nat.lt_of_lt_of_le hi h.size) hne).trans (h.block i hi hne)⟩
theorem below_grown {w w' : World} (h : Below w.heap.size w w') (row : Option Nat) : w.grownBy w' row := ⟨h.os, h.tape, h.output, h.size, fun i hi _ => h.block i hi⟩
theorem grown_set (w : World) (g j : Nat) (v : Value) : w.grownBy (w.setCell ⟨g, j, none⟩ v) (some g) :=
  ⟨rfl, rfl, rfl, by simp [World.setCell], fun i _ hne => Below.heap_setCell w _ v i (fun e => hne (by rw [e]))⟩
theorem OwnN.below {w w' : World} {B : Nat} {E : TypeId} {g n : Nat} {l : List Nat} (h : OwnN w B E g n l) (hb : Below w.heap.size w w') : OwnN w' B E g n l := World.ownsRow.kept h (below_grown hb none) (Or.inr (by simp [Value.ownBlock]))
set_option maxRecDepth 10000 in
set_option maxHeartbeats 2000000 in
theorem change_any (g n B : Nat) (old val : Nat → Nat) (fn : FuncId) (caps : Array Value) (w : World) (hn : n ≤ 1000) (hent : ∀ args W, Sem.run Tryz.prog (callFunc fn args) W = .ok (.enter fn args) W) (hO : OwnN w B 5 g n (rowFn n old))
    (hc : ∀ j, j < n → ∀ w1, w.grownBy w1 (some g) → OwnN w1 B 5 g n (rowFn n (fun i => if i < j then val i else old i)) →
      Calls Tryz.prog fn (#[.int .i64 (j : Int)] ++ caps) w1 fun e w2 => e = .returned (.int .u8 ((val j : Nat) : Int)) ∧ Below w1.heap.size w1 w2) :
    Calls Tryz.prog 86 #[.slice (some ⟨g, 0, none⟩) n n, .func (.func fn) #[] caps] w fun e w' => e = .returned (.tuple #[]) ∧ OwnN w' B 5 g n (rowFn n val) ∧ w.grownBy w' (some g) := by
  go_enter Tryz.func86, Tryz.ntmps86
  go_wp2
  go_loopw [7] (fun x wr => ∃ k : Nat, k ≤ n ∧ x = .int .i64 k ∧ OwnN wr B 5 g n (rowFn n (fun i => if i < k then val i else old i)) ∧ w.grownBy wr (some g)) (fun x _ => n - (intOf x).toNat)
  case atStart => exact ⟨0, by omega, rfl, by simpa using hO, below_grown (Below.refl _ _) _⟩
  case round =>
    obtain ⟨k, hk, rfl, hO1, hg1⟩ := hrel
    by_cases hlt : k < n
    · have HC := hc k hlt wr hg1 hO1
      have HO : Hid (OwnN wr B 5 g n (rowFn n (fun i => if i < k then val i else old i))) := hO1
      have HG : Hid (w.grownBy wr (some g)) := hg1
      clear hO1 hg1 hc hO
      go_wp2_with fail
      refine HC.mono ?_
      rintro e w2 ⟨rfl, hb2⟩
      have hO2 := HO.out.below hb2
      have hf : w2.frozen? ⟨g, k, none⟩ = false := hO2.free k
      have hcl := hO2.cell k hlt (rowFn_length _ _)
      have hO3 := hO2.set k (val k)
      rw [rowFn_congr n _ (fun i => if i < k + 1 then val i else old i) (fun i _ => by by_cases e : i = k <;> by_cases e' : i < k <;> simp [e, e'] <;> omega)] at hO3
      have HO3 : Hid (OwnN (w2.setCell ⟨g, k, none⟩ (.int .u8 ((val k : Nat) : Int))) B 5 g n (rowFn n (fun i => if i < k + 1 then val i else old i))) := hO3
      have HG3 : Hid (w.grownBy (w2.setCell ⟨g, k, none⟩ (.int .u8 ((val k : Nat) : Int))) (some g)) := grown_trans (grown_trans HG.out (below_grown hb2 _)) (grown_set _ _ _ _)
      clear hO2 hO3 hb2 HC HO HG hent
      go_wp2
      go_roundw
      case rel => exact ⟨k + 1, by omega, by go_num, HO3.out, HG3.out⟩
      case measure => simp [intOf]; omega
    · have hke : k = n := by omega
      subst hke
      go_wp2
      go_end0
      refine ⟨rfl, ?_, hg1⟩
      rw [rowFn_congr k val (fun i => if i < k then val i else old i) (fun i hi => by simp [hi])]
      exact hO1
set_option maxRecDepth 10000 in
set_option maxHeartbeats 2000000 in
/-- The sum of what a function tells. -/
theorem sum_any (n : Nat) (val : Nat → Nat) (fn : FuncId) (caps : Array Value) (w : World) (hn : n ≤ 1000) (hval : ∀ l, val l < 256) (hent : ∀ args W, Sem.run Tryz.prog (callFunc fn args) W = .ok (.enter fn args) W)
    (tot : Nat → Nat) (ht0 : tot 0 = 0) (hts : ∀ l, tot (l + 1) = tot l ^^^ val l) (htl : ∀ l, tot l < 256)
    (hc : ∀ l, l < n → ∀ w1, Below w.heap.size w w1 → Calls Tryz.prog fn (#[.int .i64 (l : Int)] ++ caps) w1 fun e w2 => e = .returned (.int .u8 ((val l : Nat) : Int)) ∧ Below w1.heap.size w1 w2) :
    Calls Tryz.prog 99 #[.int .i64 (n : Int), .func (.func fn) #[] caps] w fun e w' => e = .returned (.int .u8 ((tot n : Nat) : Int)) ∧ Below w.heap.size w w' := by
  have HT0 : Hid (tot 0 = 0) := ht0
  have HTS : Hid (∀ l, tot (l + 1) = tot l ^^^ val l) := hts
  clear ht0 hts
  go_enter Tryz.func99, Tryz.ntmps99
  go_wp2
  go_loopw [5, 8] (fun s x wr => ∃ k : Nat, k ≤ n ∧ x = .int .i64 k ∧ s = .int .u8 ((tot k : Nat) : Int) ∧ Below w.heap.size w wr) (fun _ x _ => n - (intOf x).toNat)
  case atStart => exact ⟨0, by omega, rfl, by rw [HT0.out]; rfl, Below.refl _ _⟩
  case round =>
    obtain ⟨k, hk, rfl, rfl, hb⟩ := hrel
    by_cases hlt : k < n
    · have HC := hc k hlt wr hb
      have HB : Hid (Below w.heap.size w wr) := hb
      have hz : w.heap.size ≤ wr.heap.size := hb.size
      have lt := htl k
      have lv := hval k
      have HS : Hid (tot (k + 1) = tot k ^^^ val k) := HTS.out k
      clear hb hc HTS HT0 hval htl
      generalize tot k = t at HS lt ⊢
      generalize val k = v at HS lv HC
      go_wp2_with fail
      refine HC.mono ?_
      rintro e w2 ⟨rfl, hb2⟩
      have HB2 : Hid (Below w.heap.size w w2) := HB.out.trans (hb2.mono hz)
      clear hb2 HC HB hent
      go_wp2_with (go_at_call 66; refine (add_any t v _ lt lv).mono ?_; rintro e w' ⟨rfl, rfl⟩)
      go_roundw
      case rel => exact ⟨k + 1, by omega, by go_num, by rw [HS.out], HB2.out⟩
      case measure => simp [intOf]; omega
    · have hke : k = n := by omega
      subst hke
      go_wp2
      go_ret
      exact ⟨rfl, hb⟩
theorem kept_of_grown {w w' : World} {B : Nat} {E : TypeId} {g n : Nat} {l : List Nat} {row : Nat} (h : OwnN w B E g n l) (hg : w.grownBy w' (some row)) (hne : g ≠ row) : OwnN w' B E g n l :=
  World.ownsRow.kept h hg (Or.inr (fun e => hne (Option.some.inj e)))
theorem OwnN.mono {w : World} {B B' : Nat} {E : TypeId} {g n : Nat} {l : List Nat} (h : OwnN w B E g n l) (hB : B' ≤ B) : OwnN w B' E g n l := by
  obtain ⟨h1, h2⟩ := h
  refine ⟨h1, ?_⟩
  rcases h2 with h2 | ⟨g', cap, cur, e, hb, rest⟩
  · exact Or.inl h2
  · exact Or.inr ⟨g', cap, cur, e, Nat.le_trans hB hb, rest⟩
/-- Values in a row of the call's own. -/
def OwnS (w : World) (B gm r : Nat) (vf : Nat → Value) : Prop := w.ownsRow B 80 1 (.slice (some ⟨gm, 0, none⟩) r r) r ((List.range r).map vf)
theorem OwnS.made (w : World) (B r : Nat) (hB : B ≤ w.heap.size) (hr : r ≤ 1000000) : OwnS (w.alloc (.cells (madeCells #[.slice none 0 0] r) 80)) B w.heap.size r (fun _ => .slice none 0 0) := by
  have h := World.ownsRow_lit (base := B) (e := 80) (size := 1) w (madeCells #[.slice none 0 0] r) r hB (by unfold maxLen; omega) (by have := congrArg List.length (toList_madeCells_one (.slice none 0 0) r); simpa using this)
  rw [toList_madeCells_one] at h
  unfold OwnS
  rw [List.map_const', List.length_range]
  exact h
theorem OwnS.cell {w : World} {B gm r : Nat} {vf : Nat → Value} (h : OwnS w B gm r vf) (j : Nat) (hj : j < r) : w.cell? ⟨gm, j, none⟩ = some (vf j) := by
  rw [World.ownsRow.cellAt (w := w) h j (by omega), List.getElem?_map, List.getElem?_range hj]
  rfl
theorem OwnS.free {w : World} {B gm r : Nat} {vf : Nat → Value} (h : OwnS w B gm r vf) (j : Nat) : w.frozen? ⟨gm, j, none⟩ = false := World.ownsRow.frozenAt (w := w) h j
theorem OwnS.set {w : World} {B gm r : Nat} {vf : Nat → Value} (h : OwnS w B gm r vf) (j : Nat) (v : Value) : OwnS (w.setCell ⟨gm, j, none⟩ v) B gm r (fun i => if i = j then v else vf i) := by
  have := (World.ownsRow.stored (w := w) h j v).1
  rw [map_range_set] at this
  exact this
theorem OwnS.kept {w w' : World} {B gm r : Nat} {vf : Nat → Value} {row : Option Nat} (h : OwnS w B gm r vf) (hg : w.grownBy w' row) (hne : row ≠ some gm) : OwnS w' B gm r vf :=
  World.ownsRow.kept h hg (Or.inr (fun e => hne e.symm))
theorem OwnS.below {w w' : World} {B gm r : Nat} {vf : Nat → Value} (h : OwnS w B gm r vf) (hb : Below w.heap.size w w') : OwnS w' B gm r vf := h.kept (below_grown hb none) (by simp)
theorem OwnS.congr {w : World} {B gm r : Nat} {vf vg : Nat → Value} (h : OwnS w B gm r vf) (he : ∀ i, i < r → vf i = vg i) : OwnS w B gm r vg := by
  unfold OwnS
  rw [List.map_congr_left (g := vf) (fun i hi => (he i (List.mem_range.1 hi)).symm)]
  exact h
theorem OwnS.lt {w : World} {B gm r : Nat} {vf : Nat → Value} (h : OwnS w B gm r vf) : B ≤ gm ∧ gm < w.heap.size := World.ownsRow.lt h gm rfl
def rowV (n g : Nat) : Value := .slice (some ⟨g, 0, none⟩) n n
/-- The first k rows, each in a row of its own. -/
structure OwnK (w : World) (B gm : Nat) (gs : Nat → Nat) (k n : Nat) (f : Nat → Nat → Nat) : Prop where
  row : ∀ i, i < k → OwnN w B 5 (gs i) n (rowFn n (f i))
  ne : ∀ i, i < k → gs i ≠ gm
  inj : ∀ i j, i < k → j < k → gs i = gs j → i = j
/-- A matrix that the call itself made. -/
structure OwnG (w : World) (B gm : Nat) (gs : Nat → Nat) (r n : Nat) (f : Nat → Nat → Nat) : Prop where
  rows : OwnS w B gm r (fun i => rowV n (gs i))
  all : OwnK w B gm gs r n f
theorem OwnK.below {w w' : World} {B gm : Nat} {gs : Nat → Nat} {k n : Nat} {f : Nat → Nat → Nat} (h : OwnK w B gm gs k n f) (hb : Below w.heap.size w w') : OwnK w' B gm gs k n f := ⟨fun i hi => (h.row i hi).below hb, h.ne, h.inj⟩
theorem OwnG.below {w w' : World} {B gm : Nat} {gs : Nat → Nat} {r n : Nat} {f : Nat → Nat → Nat} (h : OwnG w B gm gs r n f) (hb : Below w.heap.size w w') : OwnG w' B gm gs r n f := ⟨h.rows.below hb, h.all.below hb⟩
/-- The rows of a function of two numbers. -/
def matFn (r n : Nat) (f : Nat → Nat → Nat) : List (List Nat) := (List.range r).map fun i => rowFn n (f i)
theorem matFn_length (r n : Nat) (f : Nat → Nat → Nat) : (matFn r n f).length = r := by simp [matFn]
theorem rowOf_matFn (r n : Nat) (f : Nat → Nat → Nat) (i : Nat) (hi : i < r) : rowOf (matFn r n f) i = rowFn n (f i) := by
  unfold rowOf matFn
  rw [List.getD_eq_getElem?_getD, List.getElem?_map, List.getElem?_range hi]
  rfl
theorem OwnG.mat {w : World} {B gm : Nat} {gs : Nat → Nat} {r n : Nat} {f : Nat → Nat → Nat} (h : OwnG w B gm gs r n f) (hf : ∀ i j, f i j < 256) (k : Nat) (hk : k ≤ r) : Mat w (some ⟨gm, 0, none⟩) (matFn k n f) := by
  refine Or.inr ⟨gm, 0, rfl, h.rows.lt.2, fun i hi => ?_⟩
  rw [matFn_length] at hi
  have hc := h.rows.cell i (by omega)
  have ho := h.all.row i (by omega)
  rw [rowOf_matFn _ _ _ i hi, rowFn_length, Nat.zero_add]
  refine ⟨_, _, hc, ⟨rowFn_bytes _ _ (hf i), ?_⟩, fun e => by cases e⟩
  refine Or.inr ⟨gs i, 0, rfl, ho.lt.2, fun j hj => ?_⟩
  rw [rowFn_length] at hj
  rw [Nat.zero_add]
  exact ho.cell j hj (rowFn_length _ _)
/-- One row more, written into its place. -/
theorem OwnK.snoc {w w' : World} {B gm : Nat} {gs : Nat → Nat} {k n g : Nat} {f : Nat → Nat → Nat} (h : OwnK w B gm gs k n f) (hg : ∀ i, i < k → gs i ≠ g) (hgm : g ≠ gm) (hold : ∀ i, i < k → OwnN w' B 5 (gs i) n (rowFn n (f i))) (hnew : OwnN w' B 5 g n (rowFn n (f k))) : OwnK w' B gm (fun i => if i = k then g else gs i) (k + 1) n f where
  row := fun i hi => by
    by_cases e : i = k
    · simp only [e, if_true]; exact hnew
    · simp only [e, if_false]; exact hold i (by omega)
  ne := fun i hi => by
    by_cases e : i = k
    · simp only [e, if_true]; exact hgm
    · simp only [e, if_false]; exact h.ne i (by omega)
  inj := fun i j hi hj => by
    by_cases e : i = k <;> by_cases e' : j = k <;> simp only [e, e', if_true, if_false]
    · intro _; trivial
    · intro e2; exact absurd e2.symm (hg j (by omega))
    · intro e2; exact absurd e2 (hg i (by omega))
    · exact h.inj i j (by omega) (by omega)
set_option maxRecDepth 10000 in
theorem build1_any (pa pi k j v : Nat) (fn : FuncId) (caps : Array Value) (w : World) (hent : ∀ args W, Sem.run Tryz.prog (callFunc fn args) W = .ok (.enter fn args) W)
    (hA : w.cell? ⟨pa, 0, none⟩ = some (.func (.func fn) #[] caps)) (hI : w.cell? ⟨pi, 0, none⟩ = some (.int .i64 (k : Int)))
    (hc : Calls Tryz.prog fn (#[.int .i64 (k : Int), .int .i64 (j : Int)] ++ caps) w fun e w2 => e = .returned (.int .u8 (v : Int)) ∧ Below w.heap.size w w2) :
    Calls Tryz.prog 87 #[.int .i64 (j : Int), .pointer (some ⟨pa, 0, none⟩), .pointer (some ⟨pi, 0, none⟩)] w fun e w2 => e = .returned (.int .u8 (v : Int)) ∧ Below w.heap.size w w2 := by
  go_enter Tryz.func87, Tryz.ntmps87
  go_wp2_with fail
  refine hc.mono ?_
  rintro e w2 ⟨rfl, hb2⟩
  clear hent hc hA hI
  go_wp2
  go_ret
  exact ⟨rfl, hb2⟩
set_option maxRecDepth 10000 in
set_option maxHeartbeats 4000000 in
theorem build_any (r n : Nat) (val : Nat → Nat → Nat) (fn : FuncId) (caps : Array Value) (w : World) (hr : r ≤ 1000) (hn : n ≤ 1000) (hent : ∀ args W, Sem.run Tryz.prog (callFunc fn args) W = .ok (.enter fn args) W)
    (hc : ∀ i j, i < r → j < n → ∀ w1, Below w.heap.size w w1 → Calls Tryz.prog fn (#[.int .i64 (i : Int), .int .i64 (j : Int)] ++ caps) w1 fun e w2 => e = .returned (.int .u8 ((val i j : Nat) : Int)) ∧ Below w1.heap.size w1 w2) :
    Calls Tryz.prog 61 #[.int .i64 (r : Int), .int .i64 (n : Int), .func (.func fn) #[] caps] w fun e w' => (∃ gm gs, e = .returned (.slice (some ⟨gm, 0, none⟩) r r) ∧ OwnG w' w.heap.size gm gs r n val) ∧ Below w.heap.size w w' := by
  obtain ⟨i1, hi1, hy0, hy1, hy2⟩ := info_parts rowinfo
  obtain ⟨i0, hi0, hz0, hz1, hzb⟩ := info_parts u8info
  have HC : Hid (∀ i j, i < r → j < n → ∀ w1, Below w.heap.size w w1 → Calls Tryz.prog fn (#[.int .i64 (i : Int), .int .i64 (j : Int)] ++ caps) w1 fun e w2 => e = .returned (.int .u8 ((val i j : Nat) : Int)) ∧ Below w1.heap.size w1 w2) := hc
  have HENT : Hid (∀ args W, Sem.run Tryz.prog (callFunc fn args) W = .ok (.enter fn args) W) := hent
  clear hc hent
  go_enter Tryz.func61, Tryz.ntmps61
  go_wp2_with (first | (at_make; refine wpList_make_row _ rfl (.tmp 9) (.tmp 9) 74 rfl 80 i1 (.slice none 0 0) Tryz.underlying74 hi1 hy0 hy1 rfl .i64 .i64 r rfl rfl (by rw [hy2]; omega) (by omega) ?_))
  obtain ⟨w2, hw2⟩ : ∃ w2, w2 = (w.alloc (.cells #[.func (.func fn) #[] caps] 84)).alloc (.cells (madeCells #[.slice none 0 0] r) 80) := ⟨_, rfl⟩
  rw [← hw2]
  have HS0 : Hid (OwnS w2 w.heap.size (w.heap.size + 1) r (fun _ => .slice none 0 0)) := by
    show OwnS _ _ _ _ _
    have := OwnS.made (w.alloc (.cells #[.func (.func fn) #[] caps] 84)) w.heap.size r (by simp) (by omega)
    rw [hw2]
    simpa using this
  have HB0 : Hid (Below w.heap.size w w2) := by
    show Below _ _ _
    rw [hw2]
    exact ((Below.refl _ _).alloc (Nat.le_refl _) _).alloc (by simp) _
  have HA0 : Hid (w2.cell? ⟨w.heap.size, 0, none⟩ = some (.func (.func fn) #[] caps)) := by
    show _ = _
    rw [hw2, World.cell?_alloc_past _ _ _ (by simp), World.cell?_alloc_at _ _ _ _ rfl]
    rfl
  clear hw2
  have hmk : ∀ W : World, Sem.run Tryz.prog (Instr.makeSlice 80 (.int .i64 (n : Int)) (.int .i64 (n : Int))) W = .ok (.slice (some ⟨W.heap.size, 0, none⟩) n n) (W.alloc (.cells (madeCells #[byteV 0] n) 5)) := fun W => run_make_row (P := Tryz.prog) 80 5 i0 (byteV 0) Tryz.underlying80 hi0 hz0 hz1 rfl .i64 .i64 n (by rw [hzb]; omega) (by omega) W
  clear hi1 hy0 hy1 hy2 hi0 hz0 hz1 hzb
  go_loopw [13] (fun x wr => ∃ (k : Nat) (gs : Nat → Nat), k ≤ r ∧ x = .int .i64 k ∧ OwnS wr w.heap.size (w.heap.size + 1) r (fun i => if i < k then rowV n (gs i) else .slice none 0 0) ∧ OwnK wr w.heap.size (w.heap.size + 1) gs k n val ∧ Below w.heap.size w wr ∧ wr.cell? ⟨w.heap.size, 0, none⟩ = some (.func (.func fn) #[] caps)) (fun x _ => r - (intOf x).toNat)
  case atStart => exact ⟨0, fun _ => 0, by omega, rfl, by simpa using HS0.out, ⟨fun i hi => absurd hi (Nat.not_lt_zero _), fun i hi => absurd hi (Nat.not_lt_zero _), fun i j hi => absurd hi (Nat.not_lt_zero _)⟩, HB0.out, HA0.out⟩
  case round =>
    obtain ⟨k, gs, hk, rfl, hS, hK, hB, hA⟩ := hrel
    obtain ⟨w3, rfl⟩ : ∃ w3, w3 = wr := ⟨_, rfl⟩
    have HS : Hid (OwnS w3 w.heap.size (w.heap.size + 1) r (fun i => if i < k then rowV n (gs i) else .slice none 0 0)) := hS
    have HK : Hid (OwnK w3 w.heap.size (w.heap.size + 1) gs k n val) := hK
    have HB : Hid (Below w.heap.size w w3) := hB
    have HA : Hid (w3.cell? ⟨w.heap.size, 0, none⟩ = some (.func (.func fn) #[] caps)) := hA
    have hgm : w.heap.size + 1 < w3.heap.size := hS.lt.2
    clear HS0 HB0 HA0 hS hK hB hA
    by_cases hlt : k < r
    · go_wp2
      obtain ⟨w4, hw4⟩ : ∃ w4, w4 = w3.alloc (.cells #[.int .i64 (k : Int)] 3) := ⟨_, rfl⟩
      rw [← hw4]
      have hb4 : Below w3.heap.size w3 w4 := by rw [hw4]; exact (Below.refl _ _).alloc (Nat.le_refl _) _
      have hz4 : w4.heap.size = w3.heap.size + 1 := by rw [hw4]; simp
      have hI4 : w4.cell? ⟨w3.heap.size, 0, none⟩ = some (.int .i64 (k : Int)) := by rw [hw4, World.cell?_alloc_at _ _ _ _ rfl]; rfl
      have hS4 := HS.out.below hb4
      have hK4 := HK.out.below hb4
      have HB4 : Hid (Below w.heap.size w w4) := HB.out.trans (hb4.mono (by omega))
      have HA4 : Hid (w4.cell? ⟨w.heap.size, 0, none⟩ = some (.func (.func fn) #[] caps)) := (hb4.cell (p := ⟨w.heap.size, 0, none⟩) (by show w.heap.size < _; omega)).trans HA.out
      have HS4 : Hid (OwnS w4 w.heap.size (w.heap.size + 1) r (fun i => if i < k then rowV n (gs i) else .slice none 0 0)) := hS4
      have HK4 : Hid (OwnK w4 w.heap.size (w.heap.size + 1) gs k n val) := hK4
      clear hw4 hb4 hS4 hK4 HS HK HB HA
      have hS5 := HS4.out.below ((Below.refl _ w4).alloc (Nat.le_refl _) (.cells (madeCells #[byteV 0] n) 5))
      have hf : (w4.alloc (.cells (madeCells #[byteV 0] n) 5)).frozen? ⟨w.heap.size + 1, k, none⟩ = false := hS5.free k
      have hcl : (w4.alloc (.cells (madeCells #[byteV 0] n) 5)).cell? ⟨w.heap.size + 1, k, none⟩ = some (.slice none 0 0) := by rw [hS5.cell k hlt, if_neg (Nat.lt_irrefl _)]
      have HS5 : Hid (OwnS (w4.alloc (.cells (madeCells #[byteV 0] n) 5)) w.heap.size (w.heap.size + 1) r (fun i => if i < k then rowV n (gs i) else .slice none 0 0)) := hS5
      clear hS5
      go_region
      obtain ⟨w5, hw5⟩ : ∃ w5, w5 = ((w4.alloc (.cells (madeCells #[byteV 0] n) 5)).setCell ⟨w.heap.size + 1, k, none⟩ (.slice (some ⟨w3.heap.size + 1, 0, none⟩) n n)).drew := ⟨_, rfl⟩
      rw [← hw5]
      have hg5 : w4.grownBy w5 (some (w.heap.size + 1)) := by
        rw [hw5]
        exact grown_trans (World.grownBy_alloc w4 _ _) (grown_trans (grown_set _ _ _ _) (grownBy_drewN _ 1 _))
      have hS6 : OwnS w5 w.heap.size (w.heap.size + 1) r (fun i => if i < k + 1 then rowV n (if i = k then w3.heap.size + 1 else gs i) else .slice none 0 0) := by
        have h1 := HS5.out.set k (.slice (some ⟨w3.heap.size + 1, 0, none⟩) n n)
        rw [hw5]
        refine OwnS.congr (OwnS.kept h1 (grownBy_drewN _ 1 none) (by simp)) (fun i _ => ?_)
        by_cases e : i = k
        · simp [e, rowV]
        · by_cases e' : i < k
          · simp [e, e', show i < k + 1 by omega]
          · simp [e, e', show ¬ i < k + 1 by omega]
      have hN5 : OwnN w5 w.heap.size 5 (w3.heap.size + 1) n (rowFn n fun _ => 0) := by
        have h1 := OwnN.made w4 w.heap.size 5 n (by omega) (by omega)
        rw [hz4] at h1
        rw [hw5]
        exact kept_of_grown (row := w.heap.size + 1) h1 (grown_trans (grown_set _ _ _ _) (grownBy_drewN _ 1 _)) (by omega)
      have hA5 : w5.cell? ⟨w.heap.size, 0, none⟩ = some (.func (.func fn) #[] caps) := hg5.cell HA4.out (by show some w.heap.size ≠ _; intro e; have := Option.some.inj e; omega)
      have hI5 : w5.cell? ⟨w3.heap.size, 0, none⟩ = some (.int .i64 (k : Int)) := hg5.cell hI4 (by show some w3.heap.size ≠ _; intro e; have := Option.some.inj e; omega)
      have HB5 : Hid (Below w.heap.size w w5) := HB4.out.grown hg5 (by omega) (fun k' hk' => by have := Option.some.inj hk'; omega)
      have hK5 : ∀ i, i < k → OwnN w5 w.heap.size 5 (gs i) n (rowFn n (val i)) := fun i hi => kept_of_grown (HK4.out.row i hi) hg5 (HK4.out.ne i hi)
      have hrow5 : w5.cell? ⟨w.heap.size + 1, k, none⟩ = some (.slice (some ⟨w3.heap.size + 1, 0, none⟩) n n) := by rw [hS6.cell k hlt]; simp [rowV]
      have hlt3 : ∀ i, i < k → gs i < w4.heap.size := fun i hi => (HK4.out.row i hi).lt.2
      have hne3 : ∀ i, i < k → gs i ≠ w3.heap.size + 1 := fun i hi e => by have := hlt3 i hi; omega
      have hz5 : w4.heap.size ≤ w5.heap.size := hg5.size
      have HS6 : Hid (OwnS w5 w.heap.size (w.heap.size + 1) r (fun i => if i < k + 1 then rowV n (if i = k then w3.heap.size + 1 else gs i) else .slice none 0 0)) := hS6
      have HN5 : Hid (OwnN w5 w.heap.size 5 (w3.heap.size + 1) n (rowFn n fun _ => 0)) := hN5
      have HK5 : Hid (∀ i, i < k → OwnN w5 w.heap.size 5 (gs i) n (rowFn n (val i))) := hK5
      have HNE : Hid (∀ i, i < k → gs i ≠ w3.heap.size + 1) := hne3
      have HA5 : Hid (w5.cell? ⟨w.heap.size, 0, none⟩ = some (.func (.func fn) #[] caps)) := hA5
      clear hw5 hg5 hS6 hN5 hK5 hlt3 hne3 HS5 HS4 HB4 HA4 hf hcl hI4 hmk hA5
      have hcc : Hid (∀ j, j < n → ∀ w1, w5.grownBy w1 (some (w3.heap.size + 1)) → OwnN w1 w.heap.size 5 (w3.heap.size + 1) n (rowFn n (fun i => if i < j then val k i else 0)) →
          Calls Tryz.prog 87 (#[.int .i64 (j : Int)] ++ #[.pointer (some ⟨w.heap.size, 0, none⟩), .pointer (some ⟨w3.heap.size, 0, none⟩)]) w1 fun e w2 => e = .returned (.int .u8 ((val k j : Nat) : Int)) ∧ Below w1.heap.size w1 w2) := by
        intro j hj w1 hg1 _
        exact build1_any w.heap.size w3.heap.size k j (val k j) fn caps w1 HENT.out (hg1.cell HA5.out (by show some w.heap.size ≠ _; intro e; have := Option.some.inj e; omega)) (hg1.cell hI5 (by show some w3.heap.size ≠ _; intro e; have := Option.some.inj e; omega)) (HC.out k j hlt hj w1 (HB5.out.grown hg1 (by omega) (fun k' hk' => by have := Option.some.inj hk'; omega)))
      go_wp2_with (go_at_call 86; refine (change_any (w3.heap.size + 1) n w.heap.size (fun _ => 0) (val k) 87 #[.pointer (some ⟨w.heap.size, 0, none⟩), .pointer (some ⟨w3.heap.size, 0, none⟩)] w5 hn (enters_of Tryz.func87 (by kernel_rfl) rfl) HN5.out hcc.out).mono ?_; rintro e w6 ⟨rfl, hN6, hg6⟩)
      have hS7 := HS6.out.kept hg6 (by intro e; have := Option.some.inj e; omega)
      have hK7 := HK4.out.snoc (w' := w6) HNE.out (by omega) (fun i hi => kept_of_grown (HK5.out i hi) hg6 (HNE.out i hi)) hN6
      have hB7 : Below w.heap.size w w6 := HB5.out.grown hg6 (by omega) (fun k' hk' => by have := Option.some.inj hk'; omega)
      have hA7 := hg6.cell HA5.out (by show some w.heap.size ≠ _; intro e; have := Option.some.inj e; omega)
      go_roundw
      case rel => exact ⟨k + 1, fun i => if i = k then w3.heap.size + 1 else gs i, by omega, by go_num, hS7, hK7, hB7, hA7⟩
      case measure => simp [intOf]; omega
    · have hke : k = r := by omega
      subst hke
      go_wp2
      go_ret
      exact ⟨⟨_, gs, rfl, ⟨HS.out.congr (fun i hi => by simp [hi]), HK.out⟩⟩, HB.out⟩
/-- Nothing is written but in the blocks of S. -/
structure Frame (S : Nat → Prop) (w w' : World) : Prop where
  os : w'.os = w.os
  tape : w'.tape = w.tape
  output : w'.output = w.output
  size : w.heap.size ≤ w'.heap.size
  block : ∀ k, k < w.heap.size → ¬ S k → w'.heap[k]? = w.heap[k]?
theorem Frame.trans {S : Nat → Prop} {a b c : World} (h : Frame S a b) (k : Frame S b c) : Frame S a c :=
  ⟨k.os.trans h.os, k.tape.trans h.tape, k.output.trans h.output, Nat.le_trans h.size k.size, fun i hi hne => (k.block i (Nat.lt_of_lt_of_le hi h.size) hne).trans (h.block i hi hne)⟩
theorem frame_below {S : Nat → Prop} {w w' : World} (h : Below w.heap.size w w') : Frame S w w' := ⟨h.os, h.tape, h.output, h.size, fun i hi _ => h.block i hi⟩
theorem frame_grown {S : Nat → Prop} {w w' : World} {row : Nat} (h : w.grownBy w' (some row)) (hr : S row) : Frame S w w' := ⟨h.os, h.tape, h.output, h.size, fun i hi hn => h.block i hi (fun e => hn (by rw [Option.some.inj e]; exact hr))⟩
theorem Frame.cell {S : Nat → Prop} {w w' : World} (h : Frame S w w') {b o : Nat} {v : Value} (hv : w.cell? ⟨b, o, none⟩ = some v) (hn : ¬ S b) : w'.cell? ⟨b, o, none⟩ = some v :=
  (World.cell?_of_block (a := ⟨b, o, none⟩) (h.block b (lt_of_cell hv) hn)).trans hv
theorem Frame.below {S : Nat → Prop} {w w' : World} (h : Frame S w w') {B : Nat} (hB : ∀ k, S k → B ≤ k) (hw : B ≤ w.heap.size) : Below B w w' := ⟨h.os, h.tape, h.output, h.size, fun k hk => h.block k (by omega) (fun hs => by have := hB k hs; omega)⟩
def liftF (g : Nat → Nat → Nat) (d p k : Nat) : Nat → Nat → Nat := fun i j => if i = d then Gf.mul (Gf.inv (g p k)) (g p j) else if i = p then g d j else g i j
def clearF (h : Nat → Nat → Nat) (d k : Nat) : Nat → Nat → Nat := fun i j => if i = d then h i j else h i j ^^^ Gf.mul (h i k) (h d j)
theorem liftF_lt {g : Nat → Nat → Nat} (h : ∀ i j, g i j < 256) (d p k i j : Nat) : liftF g d p k i j < 256 := by
  unfold liftF
  split
  · exact Gf.mul_lt (Gf.inv_lt _) _
  · split <;> exact h _ _
theorem clearF_lt {g : Nat → Nat → Nat} (h : ∀ i j, g i j < 256) (d k i j : Nat) : clearF g d k i j < 256 := by
  unfold clearF
  split
  · exact h _ _
  · exact Gf.xlt (h _ _) (Gf.mul_lt (h _ _) _)
/-- Two rows change their places. -/
def swapF {α : Type} (g : Nat → α) (d p : Nat) : Nat → α := fun i => if i = d then g p else if i = p then g d else g i
theorem swapF_eq {α : Type} (g : Nat → α) (d p i : Nat) : swapF g d p i = g (if i = d then p else if i = p then d else i) := by
  unfold swapF
  by_cases a : i = d
  · rw [if_pos a, if_pos a]
  · by_cases b : i = p
    · rw [if_neg a, if_neg a, if_pos b, if_pos b]
    · rw [if_neg a, if_neg a, if_neg b, if_neg b]
theorem swap_lt {d p i r : Nat} (hd : d < r) (hp : p < r) (hi : i < r) : (if i = d then p else if i = p then d else i) < r := by
  by_cases a : i = d
  · rw [if_pos a]; exact hp
  · by_cases b : i = p
    · rw [if_neg a, if_pos b]; exact hd
    · rw [if_neg a, if_neg b]; exact hi
theorem swap_inj {d p i j : Nat} (h : (if i = d then p else if i = p then d else i) = (if j = d then p else if j = p then d else j)) : i = j := by
  split at h <;> split at h <;> (try split at h) <;> (try split at h) <;> omega
theorem OwnK.swap {w w' : World} {B gm : Nat} {gs : Nat → Nat} {r n d p : Nat} {f : Nat → Nat → Nat} (h : OwnK w B gm gs r n f) (hd : d < r) (hp : p < r) (hk : ∀ i, i < r → OwnN w' B 5 (gs i) n (rowFn n (f i))) : OwnK w' B gm (swapF gs d p) r n (swapF f d p) where
  row := fun i hi => by rw [swapF_eq, swapF_eq]; exact hk _ (swap_lt hd hp hi)
  ne := fun i hi => by rw [swapF_eq]; exact h.ne _ (swap_lt hd hp hi)
  inj := fun i j hi hj e => by rw [swapF_eq, swapF_eq] at e; exact swap_inj (h.inj _ _ (swap_lt hd hp hi) (swap_lt hd hp hj) e)
theorem OwnG.swap {w : World} {B gm : Nat} {gs : Nat → Nat} {r n d p : Nat} {f : Nat → Nat → Nat} (h : OwnG w B gm gs r n f) (hd : d < r) (hp : p < r) : OwnG ((w.setCell ⟨gm, d, none⟩ (rowV n (gs p))).setCell ⟨gm, p, none⟩ (rowV n (gs d))).drew B gm (swapF gs d p) r n (swapF f d p) := by
  have hg : w.grownBy ((w.setCell ⟨gm, d, none⟩ (rowV n (gs p))).setCell ⟨gm, p, none⟩ (rowV n (gs d))).drew (some gm) := grown_trans (grown_set _ _ _ _) (grown_trans (grown_set _ _ _ _) (grownBy_drewN _ 1 _))
  refine ⟨?_, h.all.swap hd hp (fun i hi => kept_of_grown (h.all.row i hi) hg (h.all.ne i hi))⟩
  refine OwnS.congr (OwnS.kept ((h.rows.set d (rowV n (gs p))).set p (rowV n (gs d))) (grownBy_drewN _ 1 none) (by simp)) (fun i _ => ?_)
  unfold swapF
  by_cases e : i = p
  · by_cases e' : i = d
    · rw [if_pos e, if_pos e', ← e, ← e']
    · rw [if_pos e, if_neg e', if_pos e]
  · by_cases e' : i = d
    · rw [if_neg e, if_pos e', if_pos e']
    · rw [if_neg e, if_neg e', if_neg e', if_neg e]
theorem OwnG.change {w w' : World} {B gm : Nat} {gs : Nat → Nat} {r n d : Nat} {f : Nat → Nat → Nat} {v : Nat → Nat} (h : OwnG w B gm gs r n f) (hd : d < r) (hg : w.grownBy w' (some (gs d))) (hn : OwnN w' B 5 (gs d) n (rowFn n v)) : OwnG w' B gm gs r n (fun i => if i = d then v else f i) where
  rows := h.rows.kept hg (fun e => h.all.ne d hd (Option.some.inj e))
  all := ⟨fun i hi => by
    by_cases e : i = d
    · simp only [e, if_true]; exact hn
    · simp only [e, if_false]; exact kept_of_grown (h.all.row i hi) hg (fun e' => e (h.all.inj i d hi hd e')), h.all.ne, h.all.inj⟩
theorem OwnG.congr {w : World} {B gm : Nat} {gs : Nat → Nat} {r n : Nat} {f f' : Nat → Nat → Nat} (h : OwnG w B gm gs r n f) (he : ∀ i j, f i j = f' i j) : OwnG w B gm gs r n f' := by
  have : f = f' := funext fun i => funext fun j => he i j
  rw [← this]; exact h
set_option maxRecDepth 10000 in
theorem lift1_any (ps pr g n j s x : Nat) (w : World) (hs : w.cell? ⟨ps, 0, none⟩ = some (.int .u8 (s : Int))) (hr : w.cell? ⟨pr, 0, none⟩ = some (.slice (some ⟨g, 0, none⟩) n n)) (hx : w.cell? ⟨g, j, none⟩ = some (.int .u8 (x : Int))) (hj : j < n) (ls : s < 256) (lx : x < 256) :
    Calls Tryz.prog 102 #[.int .i64 (j : Int), .pointer (some ⟨ps, 0, none⟩), .pointer (some ⟨pr, 0, none⟩)] w fun e w2 => e = .returned (.int .u8 ((Gf.mul s x : Nat) : Int)) ∧ Below w.heap.size w w2 := by
  go_enter Tryz.func102, Tryz.ntmps102
  go_wp2
  go_quiet ((go_at_call 67; exact Calls.quiet_of_same (mul_any s x _ ls lx)))
  go_wp2
  go_ret
  exact ⟨rfl, below_drewN (Below.refl _ _) _⟩
set_option maxRecDepth 10000 in
set_option maxHeartbeats 4000000 in
theorem lift_any (S : Nat → Prop) (B gm : Nat) (gs : Nat → Nat) (r n d c : Nat) (f : Nat → Nat → Nat) (z : Addr) (w : World) (hr : r ≤ 1000) (hn : n ≤ 1000) (hd : d ≤ r) (hc : c < n) (hf : ∀ i j, f i j < 256) (hG : OwnG w B gm gs r n f) (hSm : S gm) (hSg : ∀ i, i < r → S (gs i)) (hgE : 11 < B)
    (hz : w.cell? ⟨11, 0, none⟩ = some (.iface 165 (.pointer (some z)))) :
    Calls Tryz.prog 88 #[.slice (some ⟨gm, 0, none⟩) r r, .int .i64 (d : Int), .int .i64 (c : Int)] w fun e w' => Frame S w w' ∧
      ((e = .returned (.bool false) ∧ (∀ i, d ≤ i → i < r → f i c = 0) ∧ OwnG w' B gm gs r n f) ∨
       (e = .returned (.bool true) ∧ ∃ p gs', d ≤ p ∧ p < r ∧ f p c ≠ 0 ∧ (∀ i, i < r → S (gs' i)) ∧ OwnG w' B gm gs' r n (liftF f d p c))) := by
  have HG : Hid (OwnG w B gm gs r n f) := hG
  have HZ : Hid (w.cell? ⟨11, 0, none⟩ = some (.iface 165 (.pointer (some z)))) := hz
  clear hG hz
  go_enter Tryz.func88, Tryz.ntmps88
  go_wp2
  go_loopw [7] (fun x wr => ∃ i : Nat, d ≤ i ∧ i ≤ r ∧ x = .int .i64 i ∧ (∀ i', d ≤ i' → i' < i → f i' c = 0) ∧ Below w.heap.size w wr) (fun x _ => r - (intOf x).toNat)
  case atStart => exact ⟨d, Nat.le_refl _, hd, rfl, fun i' h1 h2 => by omega, Below.refl _ _⟩
  case round =>
    obtain ⟨i, hdi, hir, rfl, h0, hB⟩ := hrel
    obtain ⟨w3, rfl⟩ : ∃ w3, w3 = wr := ⟨_, rfl⟩
    have H0 : Hid (∀ i', d ≤ i' → i' < i → f i' c = 0) := h0
    have HB : Hid (Below w.heap.size w w3) := hB
    have HG3 : Hid (OwnG w3 B gm gs r n f) := HG.out.below hB
    clear h0 hB
    by_cases hlt : i < r
    · have c1 : w3.cell? ⟨gm, i, none⟩ = some (.slice (some ⟨gs i, 0, none⟩) n n) := HG3.out.rows.cell i hlt
      have c2 : w3.cell? ⟨gs i, c, none⟩ = some (.int .u8 ((f i c : Nat) : Int)) := by rw [(HG3.out.all.row i hlt).cell c hc (rowFn_length _ _), nth_rowFn _ _ c hc]
      have lx := hf i c
      by_cases hx : f i c = 0
      · have hz3 : w3.cell? ⟨11, 0, none⟩ = some (.iface 165 (.pointer (some z))) := (HB.out.cell (p := ⟨11, 0, none⟩) (by have := HG.out.rows.lt; show 11 < _; omega)).trans HZ.out
        have HX : Hid (f i c = 0) := hx
        rw [hx] at c2
        clear hx lx
        go_wp2_with (go_at_call 101; refine (inv_zero z _ hz3).mono ?_; rintro e w4 ⟨rfl, hb4⟩)
        go_roundw
        case rel =>
          refine ⟨i + 1, by omega, by omega, by go_num, fun i' h1 h2 => ?_, ?_⟩
          · by_cases e : i' = i
            · rw [e]; exact HX.out
            · exact H0.out i' h1 (by omega)
          · exact (HB.out.trans (hb4.mono HB.out.size)).alloc (by have := hb4.size; have := HB.out.size; omega) _
        case measure => simp [intOf]; omega
      · have HX : Hid (f i c ≠ 0) := hx
        have HI := inv_any (f i c) w3 lx hx
        clear hx
        go_wp2_with (first | (go_at_call 101; refine HI.mono ?_; rintro e w4 ⟨rfl, rfl⟩))
        clear HI c1 c2
        have hdr : d < r := by omega
        have lv := Gf.inv_lt (f i c)
        obtain ⟨w5, hw5⟩ : ∃ w5, w5 = w4.alloc (.cells #[.int .u8 ((Gf.inv (f i c) : Nat) : Int)] 5) := ⟨_, rfl⟩
        rw [← hw5]
        have hb5 : Below w4.heap.size w4 w5 := by rw [hw5]; exact (Below.refl _ _).alloc (Nat.le_refl _) _
        have hz5 : w5.heap.size = w4.heap.size + 1 := by rw [hw5]; simp
        have hs5 : w5.cell? ⟨w4.heap.size, 0, none⟩ = some (.int .u8 ((Gf.inv (f i c) : Nat) : Int)) := by rw [hw5, World.cell?_alloc_at _ _ _ _ rfl]; rfl
        have HG5 : Hid (OwnG w5 B gm gs r n f) := HG3.out.below hb5
        have HF5 : Hid (Frame S w w5) := frame_below (HB.out.trans (hb5.mono HB.out.size))
        have hgm4 : gm < w4.heap.size := HG3.out.rows.lt.2
        have hgi4 : gs i < w4.heap.size := (HG3.out.all.row i hlt).lt.2
        clear hw5 hb5
        have d1 : w5.cell? ⟨gm, i, none⟩ = some (.slice (some ⟨gs i, 0, none⟩) n n) := HG5.out.rows.cell i hlt
        have d2 : w5.cell? ⟨gm, d, none⟩ = some (.slice (some ⟨gs d, 0, none⟩) n n) := HG5.out.rows.cell d hdr
        have f1 : w5.frozen? ⟨gm, i, none⟩ = false := HG5.out.rows.free i
        have f2 : w5.frozen? ⟨gm, d, none⟩ = false := HG5.out.rows.free d
        obtain ⟨v', hv'⟩ := cell?_setCell_some (w := w5) (p := ⟨gm, d, none⟩) (x := .slice (some ⟨gs i, 0, none⟩) n n) (q := ⟨gm, i, none⟩) (v := .slice (some ⟨gs i, 0, none⟩) n n) d1
        go_region
        obtain ⟨w6, hw6⟩ : ∃ w6, w6 = ((w5.setCell ⟨gm, d, none⟩ (.slice (some ⟨gs i, 0, none⟩) n n)).setCell ⟨gm, i, none⟩ (.slice (some ⟨gs d, 0, none⟩) n n)).drew := ⟨_, rfl⟩
        rw [← hw6]
        have HG6 : Hid (OwnG w6 B gm (swapF gs d i) r n (swapF f d i)) := by
          show OwnG _ _ _ _ _ _ _
          rw [hw6]
          exact HG5.out.swap hdr hlt
        have hg6 : w5.grownBy w6 (some gm) := by
          rw [hw6]
          exact grown_trans (grown_set _ _ _ _) (grown_trans (grown_set _ _ _ _) (grownBy_drewN _ 1 _))
        have hs6 : w6.cell? ⟨w4.heap.size, 0, none⟩ = some (.int .u8 ((Gf.inv (f i c) : Nat) : Int)) := hg6.cell hs5 (by show some w4.heap.size ≠ _; intro e; have := Option.some.inj e; omega)
        have HF6 : Hid (Frame S w w6) := HF5.out.trans (frame_grown hg6 hSm)
        have hz6 : w5.heap.size ≤ w6.heap.size := hg6.size
        clear hw6 hg6 d1 d2 f1 f2 hv' hs5 HG5 HF5
        have sd : swapF gs d i d = gs i := if_pos rfl
        have sf : swapF f d i d = f i := if_pos rfl
        have c6 : w6.cell? ⟨gm, d, none⟩ = some (.slice (some ⟨gs i, 0, none⟩) n n) := by have := HG6.out.rows.cell d hdr; rw [sd] at this; exact this
        obtain ⟨w7, hw7⟩ : ∃ w7, w7 = w6.alloc (.cells #[.slice (some ⟨gs i, 0, none⟩) n n] 80) := ⟨_, rfl⟩
        have hb7 : Below w6.heap.size w6 w7 := by rw [hw7]; exact (Below.refl _ _).alloc (Nat.le_refl _) _
        have hz7 : w7.heap.size = w6.heap.size + 1 := by rw [hw7]; simp
        have hr7 : w7.cell? ⟨w6.heap.size, 0, none⟩ = some (.slice (some ⟨gs i, 0, none⟩) n n) := by rw [hw7, World.cell?_alloc_at _ _ _ _ rfl]; rfl
        have hs7 : w7.cell? ⟨w4.heap.size, 0, none⟩ = some (.int .u8 ((Gf.inv (f i c) : Nat) : Int)) := (hb7.cell (p := ⟨w4.heap.size, 0, none⟩) (by show w4.heap.size < _; omega)).trans hs6
        have HG7 : Hid (OwnG w7 B gm (swapF gs d i) r n (swapF f d i)) := HG6.out.below hb7
        have HF7 : Hid (Frame S w w7) := HF6.out.trans (frame_below hb7)
        have HN7 : Hid (OwnN w7 B 5 (gs i) n (rowFn n (f i))) := by have := HG7.out.all.row d hdr; rw [sd, sf] at this; exact this
        have HCC : Hid (∀ j, j < n → ∀ w1, w7.grownBy w1 (some (gs i)) → OwnN w1 B 5 (gs i) n (rowFn n (fun l => if l < j then Gf.mul (Gf.inv (f i c)) (f i l) else f i l)) →
            Calls Tryz.prog 102 (#[.int .i64 (j : Int)] ++ #[.pointer (some ⟨w4.heap.size, 0, none⟩), .pointer (some ⟨w6.heap.size, 0, none⟩)]) w1 fun e w2 => e = .returned (.int .u8 ((Gf.mul (Gf.inv (f i c)) (f i j) : Nat) : Int)) ∧ Below w1.heap.size w1 w2) := by
          intro j hj w1 hg1 hO1
          refine lift1_any w4.heap.size w6.heap.size (gs i) n j (Gf.inv (f i c)) (f i j) w1 (hg1.cell hs7 (by show some w4.heap.size ≠ _; intro e; have := Option.some.inj e; omega)) (hg1.cell hr7 (by show some w6.heap.size ≠ _; intro e; have := Option.some.inj e; omega)) ?_ hj lv (hf i j)
          rw [hO1.cell j hj (rowFn_length _ _), nth_rowFn _ _ j hj, if_neg (Nat.lt_irrefl _)]
        have HFR : Hid (w7 = w6.alloc (.cells #[.slice (some ⟨gs i, 0, none⟩) n n] 80)) := hw7
        clear hw7 hb7 hs6 hr7 hs7 HG6 HF6 sd sf hf
        go_wp2_with (go_at_call 86; rw [← HFR.out]; refine (change_any (gs i) n B (f i) (fun l => Gf.mul (Gf.inv (f i c)) (f i l)) 102 #[.pointer (some ⟨w4.heap.size, 0, none⟩), .pointer (some ⟨w6.heap.size, 0, none⟩)] w7 hn (enters_of Tryz.func102 (by kernel_rfl) rfl) HN7.out HCC.out).mono ?_; rintro e w8 ⟨rfl, hN8, hg8⟩)
        go_ret
        have sd : swapF gs d i d = gs i := if_pos rfl
        refine ⟨HF7.out.trans (frame_grown hg8 (hSg i hlt)), Or.inr ⟨rfl, i, swapF gs d i, hdi, hlt, HX.out, fun i' hi' => by rw [swapF_eq]; exact hSg _ (swap_lt hdr hlt hi'), ?_⟩⟩
        refine OwnG.congr (HG7.out.change (v := fun l => Gf.mul (Gf.inv (f i c)) (f i l)) hdr (by rw [sd]; exact hg8) (by rw [sd]; exact hN8)) (fun i' j => ?_)
        unfold liftF swapF
        by_cases e : i' = d
        · rw [if_pos e, if_pos e]
        · by_cases e' : i' = i
          · rw [if_neg e, if_neg e, if_neg e, if_pos e', if_pos e']
          · rw [if_neg e, if_neg e, if_neg e, if_neg e', if_neg e']
    · have hke : i = r := by omega
      subst hke
      go_wp2
      go_ret
      exact ⟨frame_below HB.out, Or.inl ⟨rfl, H0.out, HG3.out⟩⟩
set_option maxRecDepth 10000 in
set_option maxHeartbeats 1000000 in
theorem clear1_any (pr pt pm pf g gm gf n r j fr t x y : Nat) (w : World) (hr : w.cell? ⟨pr, 0, none⟩ = some (.slice (some ⟨g, 0, none⟩) n n)) (ht : w.cell? ⟨pt, 0, none⟩ = some (.int .u8 (t : Int))) (hm : w.cell? ⟨pm, 0, none⟩ = some (.slice (some ⟨gm, 0, none⟩) r r)) (hf : w.cell? ⟨pf, 0, none⟩ = some (.int .i64 (fr : Int)))
    (hg : w.cell? ⟨gm, fr, none⟩ = some (.slice (some ⟨gf, 0, none⟩) n n)) (hx : w.cell? ⟨g, j, none⟩ = some (.int .u8 (x : Int))) (hy : w.cell? ⟨gf, j, none⟩ = some (.int .u8 (y : Int))) (hj : j < n) (hfr : fr < r) (lt : t < 256) (lx : x < 256) (ly : y < 256) :
    Calls Tryz.prog 103 #[.int .i64 (j : Int), .pointer (some ⟨pr, 0, none⟩), .pointer (some ⟨pt, 0, none⟩), .pointer (some ⟨pm, 0, none⟩), .pointer (some ⟨pf, 0, none⟩)] w fun e w2 => e = .returned (.int .u8 ((x ^^^ Gf.mul t y : Nat) : Int)) ∧ Below w.heap.size w w2 := by
  have lm := Gf.mul_lt lt y
  go_enter Tryz.func103, Tryz.ntmps103
  go_wp2
  go_quiet ((first | (go_at_call 67; exact Calls.quiet_of_same (mul_any t y _ lt ly)) | (go_at_call 66; exact Calls.quiet_of_same (add_any x (Gf.mul t y) _ lx lm))))
  go_wp2
  go_ret
  exact ⟨rfl, below_drewN (Below.refl _ _) _⟩
set_option maxRecDepth 10000 in
set_option maxHeartbeats 4000000 in
theorem clear_any (S : Nat → Prop) (B gm : Nat) (gs : Nat → Nat) (r n d c : Nat) (f : Nat → Nat → Nat) (w : World) (hr : r ≤ 1000) (hn : n ≤ 1000) (hd : d < r) (hc : c < n) (hf : ∀ i j, f i j < 256) (hG : OwnG w B gm gs r n f) (hSg : ∀ i, i < r → S (gs i)) (hSw : ∀ k, S k → k < w.heap.size) (hSm : S gm) :
    Calls Tryz.prog 89 #[.slice (some ⟨gm, 0, none⟩) r r, .int .i64 (d : Int), .int .i64 (c : Int)] w fun e w' => e = .returned (.tuple #[]) ∧ Frame S w w' ∧ OwnG w' B gm gs r n (clearF f d c) := by
  have HG : Hid (OwnG w B gm gs r n f) := hG
  have HSW : Hid (∀ k, S k → k < w.heap.size) := hSw
  clear hG hSw
  go_enter Tryz.func89, Tryz.ntmps89
  go_wp2
  obtain ⟨w2, hw2⟩ : ∃ w2, w2 = (w.alloc (.cells #[.slice (some ⟨gm, 0, none⟩) r r] 74)).alloc (.cells #[.int .i64 (d : Int)] 3) := ⟨_, rfl⟩
  rw [← hw2]
  have HB2 : Hid (Below w.heap.size w w2) := by
    show Below _ _ _
    rw [hw2]
    exact ((Below.refl _ _).alloc (Nat.le_refl _) _).alloc (by simp) _
  have hz2 : w2.heap.size = w.heap.size + 2 := by rw [hw2]; simp
  have HM2 : Hid (w2.cell? ⟨w.heap.size, 0, none⟩ = some (.slice (some ⟨gm, 0, none⟩) r r)) := by
    show _ = _
    rw [hw2, World.cell?_alloc_past _ _ _ (by simp), World.cell?_alloc_at _ _ _ _ rfl]
    rfl
  have HD2 : Hid (w2.cell? ⟨w.heap.size + 1, 0, none⟩ = some (.int .i64 (d : Int))) := by
    show _ = _
    rw [hw2, World.cell?_alloc_at _ _ _ _ (by simp)]
    rfl
  clear hw2
  go_loopw [11] (fun x wr => ∃ k : Nat, k ≤ r ∧ x = .int .i64 k ∧ OwnG wr B gm gs r n (fun i j => if i < k then clearF f d c i j else f i j) ∧ Frame S w wr ∧ w.heap.size + 2 ≤ wr.heap.size ∧ wr.cell? ⟨w.heap.size, 0, none⟩ = some (.slice (some ⟨gm, 0, none⟩) r r) ∧ wr.cell? ⟨w.heap.size + 1, 0, none⟩ = some (.int .i64 (d : Int))) (fun x _ => r - (intOf x).toNat)
  case atStart => exact ⟨0, by omega, rfl, by simpa using HG.out.below HB2.out, frame_below HB2.out, by omega, HM2.out, HD2.out⟩
  case round =>
    obtain ⟨k, hk, rfl, hGk, hFk, hzk, hMk, hDk⟩ := hrel
    obtain ⟨w3, rfl⟩ : ∃ w3, w3 = wr := ⟨_, rfl⟩
    have HGk : Hid (OwnG w3 B gm gs r n (fun i j => if i < k then clearF f d c i j else f i j)) := hGk
    have HFk : Hid (Frame S w w3) := hFk
    have HMk : Hid (w3.cell? ⟨w.heap.size, 0, none⟩ = some (.slice (some ⟨gm, 0, none⟩) r r)) := hMk
    clear hGk hFk HB2 HM2 HD2 hMk
    by_cases hlt : k < r
    · have c1 : w3.cell? ⟨gm, k, none⟩ = some (.slice (some ⟨gs k, 0, none⟩) n n) := HGk.out.rows.cell k hlt
      have hDa : (w3.alloc (.cells #[.slice (some ⟨gs k, 0, none⟩) n n] 80)).cell? ⟨w.heap.size + 1, 0, none⟩ = some (.int .i64 (d : Int)) := (World.cell?_alloc_past _ _ _ (by show w.heap.size + 1 < _; omega)).trans hDk
      by_cases hkd : k = d
      · have ht : ((k : Int) != (d : Int)) = false := by simp; omega
        have HE : Hid (∀ i j, (if i < k then clearF f d c i j else f i j) = if i < k + 1 then clearF f d c i j else f i j) := fun i j => by
          by_cases e : i < k
          · rw [if_pos e, if_pos (by omega)]
          · by_cases e' : i = k
            · rw [if_neg e, if_pos (by omega)]
              unfold clearF
              rw [if_pos (by omega)]
            · rw [if_neg e, if_neg (by omega)]
        clear hkd
        go_wp2
        have hb : Below w3.heap.size w3 (w3.alloc (.cells #[.slice (some ⟨gs k, 0, none⟩) n n] 80)) := (Below.refl _ _).alloc (Nat.le_refl _) _
        go_roundw
        case rel => exact ⟨k + 1, by omega, by go_num, OwnG.congr (HGk.out.below hb) HE.out, HFk.out.trans (frame_below hb), by simp; omega, (hb.cell (p := ⟨w.heap.size, 0, none⟩) (by show w.heap.size < _; omega)).trans HMk.out, (hb.cell (p := ⟨w.heap.size + 1, 0, none⟩) (by show w.heap.size + 1 < _; omega)).trans hDk⟩
        case measure => simp [intOf]; omega
      · have ht : ((k : Int) != (d : Int)) = true := by simp; omega
        have HKD : Hid (k ≠ d) := hkd
        have fk : (fun j => if k < k then clearF f d c k j else f k j) = f k := funext fun j => if_neg (Nat.lt_irrefl _)
        have fd : ∀ j, (if d < k then clearF f d c d j else f d j) = f d j := fun j => by
          by_cases e : d < k
          · rw [if_pos e]; unfold clearF; rw [if_pos rfl]
          · rw [if_neg e]
        have c2 : w3.cell? ⟨gs k, c, none⟩ = some (.int .u8 ((f k c : Nat) : Int)) := by
          have := HGk.out.all.row k hlt
          rw [fk] at this
          rw [this.cell c hc (rowFn_length _ _), nth_rowFn _ _ c hc]
        have c3 : (w3.alloc (.cells #[.slice (some ⟨gs k, 0, none⟩) n n] 80)).cell? ⟨gs k, c, none⟩ = some (.int .u8 ((f k c : Nat) : Int)) := (World.cell?_alloc_past _ _ _ (lt_of_cell c2)).trans c2
        have lt := hf k c
        have hgk : gs k < w.heap.size := HSW.out _ (hSg k hlt)
        have hgm : gm < w.heap.size := HSW.out _ hSm
        obtain ⟨w5, hw5⟩ : ∃ w5, w5 = (w3.alloc (.cells #[.slice (some ⟨gs k, 0, none⟩) n n] 80)).alloc (.cells #[.int .u8 ((f k c : Nat) : Int)] 5) := ⟨_, rfl⟩
        have hb5 : Below w3.heap.size w3 w5 := by rw [hw5]; exact ((Below.refl _ _).alloc (Nat.le_refl _) _).alloc (by simp) _
        have hz5 : w5.heap.size = w3.heap.size + 2 := by rw [hw5]; simp
        have hr5 : w5.cell? ⟨w3.heap.size, 0, none⟩ = some (.slice (some ⟨gs k, 0, none⟩) n n) := by rw [hw5, World.cell?_alloc_past _ _ _ (by simp), World.cell?_alloc_at _ _ _ _ rfl]; rfl
        have ht5 : w5.cell? ⟨w3.heap.size + 1, 0, none⟩ = some (.int .u8 ((f k c : Nat) : Int)) := by rw [hw5, World.cell?_alloc_at _ _ _ _ (by simp)]; rfl
        have hm5 : w5.cell? ⟨w.heap.size, 0, none⟩ = some (.slice (some ⟨gm, 0, none⟩) r r) := (hb5.cell (p := ⟨w.heap.size, 0, none⟩) (by show w.heap.size < _; omega)).trans HMk.out
        have hd5 : w5.cell? ⟨w.heap.size + 1, 0, none⟩ = some (.int .i64 (d : Int)) := (hb5.cell (p := ⟨w.heap.size + 1, 0, none⟩) (by show w.heap.size + 1 < _; omega)).trans hDk
        have HG5 : Hid (OwnG w5 B gm gs r n (fun i j => if i < k then clearF f d c i j else f i j)) := HGk.out.below hb5
        have HF5 : Hid (Frame S w w5) := HFk.out.trans (frame_below hb5)
        have HN5 : Hid (OwnN w5 B 5 (gs k) n (rowFn n (f k))) := by have := HG5.out.all.row k hlt; rw [fk] at this; exact this
        have hne : gs k ≠ gm := HG5.out.all.ne k hlt
        have hne2 : gs d ≠ gs k := fun e => hkd (HG5.out.all.inj d k hd hlt e).symm
        have HCC : Hid (∀ j, j < n → ∀ w1, w5.grownBy w1 (some (gs k)) → OwnN w1 B 5 (gs k) n (rowFn n (fun l => if l < j then f k l ^^^ Gf.mul (f k c) (f d l) else f k l)) →
            Calls Tryz.prog 103 (#[.int .i64 (j : Int)] ++ #[.pointer (some ⟨w3.heap.size, 0, none⟩), .pointer (some ⟨w3.heap.size + 1, 0, none⟩), .pointer (some ⟨w.heap.size, 0, none⟩), .pointer (some ⟨w.heap.size + 1, 0, none⟩)]) w1 fun e w2 => e = .returned (.int .u8 ((f k j ^^^ Gf.mul (f k c) (f d j) : Nat) : Int)) ∧ Below w1.heap.size w1 w2) := by
          intro j hj w1 hg1 hO1
          have keep : ∀ {b o : Nat} {v : Value}, w5.cell? ⟨b, o, none⟩ = some v → b ≠ gs k → w1.cell? ⟨b, o, none⟩ = some v := fun {b o v} h hb => hg1.cell h (by show some b ≠ _; intro e; exact hb (Option.some.inj e))
          refine clear1_any w3.heap.size (w3.heap.size + 1) w.heap.size (w.heap.size + 1) (gs k) gm (gs d) n r j d (f k c) (f k j) (f d j) w1 (keep hr5 (by omega)) (keep ht5 (by omega)) (keep hm5 (by omega)) (keep hd5 (by omega)) (keep (HG5.out.rows.cell d hd) (fun e => hne e.symm)) ?_ (keep ?_ hne2) hj hd lt (hf k j) (hf d j)
          · rw [hO1.cell j hj (rowFn_length _ _), nth_rowFn _ _ j hj, if_neg (Nat.lt_irrefl _)]
          · rw [(HG5.out.all.row d hd).cell j hj (rowFn_length _ _), nth_rowFn _ _ j hj, fd j]
        have HFR : Hid (w5 = (w3.alloc (.cells #[.slice (some ⟨gs k, 0, none⟩) n n] 80)).alloc (.cells #[.int .u8 ((f k c : Nat) : Int)] 5)) := hw5
        have HE : Hid (∀ i j, (if i = k then fun l => f k l ^^^ Gf.mul (f k c) (f d l) else fun j => if i < k then clearF f d c i j else f i j) j = if i < k + 1 then clearF f d c i j else f i j) := fun i j => by
          by_cases e : i = k
          · rw [if_pos e, if_pos (by omega)]
            unfold clearF
            rw [if_neg (by omega), e]
          · rw [if_neg e]
            by_cases e' : i < k
            · rw [if_pos (by omega : i < k + 1)]; exact if_pos e'
            · rw [if_neg (by omega : ¬ i < k + 1)]; exact if_neg e'
        have HM5 : Hid (w5.cell? ⟨w.heap.size, 0, none⟩ = some (.slice (some ⟨gm, 0, none⟩) r r)) := hm5
        have HD5 : Hid (w5.cell? ⟨w.heap.size + 1, 0, none⟩ = some (.int .i64 (d : Int))) := hd5
        clear hw5 hb5 hr5 ht5 hm5 hd5 fk fd hkd hf
        go_wp2_with (go_at_call 86; rw [← HFR.out]; refine (change_any (gs k) n B (f k) (fun l => f k l ^^^ Gf.mul (f k c) (f d l)) 103 #[.pointer (some ⟨w3.heap.size, 0, none⟩), .pointer (some ⟨w3.heap.size + 1, 0, none⟩), .pointer (some ⟨w.heap.size, 0, none⟩), .pointer (some ⟨w.heap.size + 1, 0, none⟩)] w5 hn (enters_of Tryz.func103 (by kernel_rfl) rfl) HN5.out HCC.out).mono ?_; rintro e w8 ⟨rfl, hN8, hg8⟩)
        go_roundw
        case rel =>
          refine ⟨k + 1, by omega, by go_num, OwnG.congr (HG5.out.change hlt hg8 hN8) HE.out, HF5.out.trans (frame_grown hg8 (hSg k hlt)), by have := hg8.size; omega, hg8.cell HM5.out (by show some w.heap.size ≠ _; intro e; have := Option.some.inj e; omega), hg8.cell HD5.out (by show some (w.heap.size + 1) ≠ _; intro e; have := Option.some.inj e; omega)⟩
        case measure => simp [intOf]; omega
    · have hke : k = r := by omega
      subst hke
      go_wp2
      go_end0
      refine ⟨rfl, HFk.out, ⟨HGk.out.rows, fun i hi => ?_, HGk.out.all.ne, HGk.out.all.inj⟩⟩
      have := HGk.out.all.row i hi
      rw [show (fun j => if i < k then clearF f d c i j else f i j) = clearF f d c i from funext fun j => if_pos hi] at this
      exact this
theorem toF_lift {g : Nat → Nat → Nat} (h : ∀ i j, g i j < 256) (d p k i j : Nat) : toF (liftF g d p k i j) = Lin.liftV (fun i j => toF (g i j)) d p k i j := by
  have hi : toF (Gf.inv (g p k)) = Lin.iv (toF (g p k)) := Fin.ext (by
    show (toF (Gf.inv (g p k))).1 = Gf.inv (toF (g p k)).1
    rw [toF_val (Gf.inv_lt _), toF_val (h p k)])
  unfold liftF Lin.liftV
  by_cases e : i = d
  · rw [if_pos e, if_pos e, toF_mu (Gf.inv_lt _) (h _ _), hi]
  · by_cases e' : i = p
    · rw [if_neg e, if_neg e, if_pos e', if_pos e']
    · rw [if_neg e, if_neg e, if_neg e', if_neg e']
theorem toF_clear {g : Nat → Nat → Nat} (h : ∀ i j, g i j < 256) (d k i j : Nat) : toF (clearF g d k i j) = Lin.clearV (fun i j => toF (g i j)) d k i j := by
  unfold clearF Lin.clearV
  by_cases e : i = d
  · rw [if_pos e, if_pos e]
  · rw [if_neg e, if_neg e, toF_ad (h _ _) (Gf.mul_lt (h _ _) _), toF_mu (h _ _) (h _ _)]
def vecF (f : Nat → Nat → Nat) : Nat → Nat → Lin.F := fun i j => toF (f i j)
theorem vecF_step {g : Nat → Nat → Nat} (h : ∀ i j, g i j < 256) (d p k : Nat) : vecF (clearF (liftF g d p k) d k) = Lin.clearV (Lin.liftV (vecF g) d p k) d k := by
  have e1 : vecF (liftF g d p k) = Lin.liftV (vecF g) d p k := funext fun i => funext fun j => toF_lift h d p k i j
  rw [← e1]
  exact funext fun i => funext fun j => toF_clear (fun i j => liftF_lt h d p k i j) d k i j
set_option maxRecDepth 10000 in
set_option maxHeartbeats 4000000 in
theorem reduce_any (S : Nat → Prop) (B gm : Nat) (gs : Nat → Nat) (r n c : Nat) (f : Nat → Nat → Nat) (z : Addr) (w : World) (hr : r ≤ 1000) (hn : n ≤ 1000) (hc : c ≤ n) (hf : ∀ i j, f i j < 256) (hG : OwnG w B gm gs r n f) (hSm : S gm) (hSg : ∀ i, i < r → S (gs i)) (hSw : ∀ k, S k → B ≤ k ∧ k < w.heap.size) (hgE : 11 < B)
    (hz : w.cell? ⟨11, 0, none⟩ = some (.iface 165 (.pointer (some z)))) :
    Calls Tryz.prog 64 #[.slice (some ⟨gm, 0, none⟩) r r, .int .i64 (c : Int)] w fun e w' => Frame S w w' ∧ ∃ (d : Nat) (gs' : Nat → Nat) (g : Nat → Nat → Nat), e = .returned (.int .i64 (d : Int)) ∧ OwnG w' B gm gs' r n g ∧ (∀ i j, g i j < 256) ∧ Lin.Red r n c (vecF f) (vecF g) d := by
  have HG : Hid (OwnG w B gm gs r n f) := hG
  have HSW : Hid (∀ k, S k → B ≤ k ∧ k < w.heap.size) := hSw
  have HZ : Hid (w.cell? ⟨11, 0, none⟩ = some (.iface 165 (.pointer (some z)))) := hz
  clear hG hSw hz
  go_enter Tryz.func64, Tryz.ntmps64
  go_wp2
  go_loopw [5, 8] (fun y x wr => ∃ (k d : Nat) (gs' : Nat → Nat) (g : Nat → Nat → Nat), k ≤ c ∧ x = .int .i64 k ∧ y = .int .i64 d ∧ OwnG wr B gm gs' r n g ∧ (∀ i, i < r → S (gs' i)) ∧ (∀ i j, g i j < 256) ∧ Lin.Red r n k (vecF f) (vecF g) d ∧ Frame S w wr) (fun _ x _ => c - (intOf x).toNat)
  case atStart => exact ⟨0, 0, gs, f, by omega, rfl, rfl, HG.out, hSg, hf, Lin.Red.start _ _ _, frame_below (Below.refl _ _)⟩
  case round =>
    obtain ⟨k, d, gs', g, hk, rfl, rfl, hG1, hS1, hl1, hR1, hF1⟩ := hrel
    obtain ⟨w3, rfl⟩ : ∃ w3, w3 = wr := ⟨_, rfl⟩
    have HG1 : Hid (OwnG w3 B gm gs' r n g) := hG1
    have HS1 : Hid (∀ i, i < r → S (gs' i)) := hS1
    have HL1 : Hid (∀ i j, g i j < 256) := hl1
    have HR1 : Hid (Lin.Red r n k (vecF f) (vecF g) d) := hR1
    have HF1 : Hid (Frame S w w3) := hF1
    have hdr : d ≤ r := hR1.le
    clear hG1 hS1 hl1 hR1 hF1
    by_cases hlt : k < c
    · have HZ3 : Hid (w3.cell? ⟨11, 0, none⟩ = some (.iface 165 (.pointer (some z)))) := HF1.out.cell HZ.out (fun hs => by have := (HSW.out _ hs).1; omega)
      go_wp2_with (go_at_call 88; refine (lift_any S B gm gs' r n d k g z _ hr hn hdr (by omega) HL1.out HG1.out hSm HS1.out hgE HZ3.out).mono ?_; rintro e w4 ⟨hF4, ⟨rfl, h0, hG4⟩ | ⟨rfl, p, gs4, hdp, hpr, hne, hS4, hG4⟩⟩)
      · go_roundw
        case rel => exact ⟨k + 1, d, gs', g, by omega, by go_num, rfl, hG4, HS1.out, HL1.out, HR1.out.skip (fun i h1 h2 => by show toF (g i k) = 0; rw [h0 i h1 h2]; rfl), HF1.out.trans hF4⟩
        case measure => simp [intOf]; omega
      · have HF4 : Hid (Frame S w3 w4) := hF4
        have HS4 : Hid (∀ i, i < r → S (gs4 i)) := hS4
        have HG4 : Hid (OwnG w4 B gm gs4 r n (liftF g d p k)) := hG4
        have HNE : Hid (g p k ≠ 0) := hne
        clear hF4 hS4 hG4 hne HZ3 HZ
        go_wp2_with (go_at_call 89; refine (clear_any S B gm gs4 r n d k (liftF g d p k) _ hr hn (by omega) (by omega) (fun i j => liftF_lt HL1.out d p k i j) HG4.out HS4.out (fun q hq => Nat.lt_of_lt_of_le (HSW.out q hq).2 (Nat.le_trans HF1.out.size HF4.out.size)) hSm).mono ?_; rintro e w5 ⟨rfl, hF5, hG5⟩)
        go_roundw
        case rel =>
          refine ⟨k + 1, d + 1, gs4, clearF (liftF g d p k) d k, by omega, by go_num, by go_num, hG5, HS4.out, fun i j => clearF_lt (fun i j => liftF_lt HL1.out d p k i j) d k i j, ?_, HF1.out.trans (HF4.out.trans hF5)⟩
          rw [vecF_step HL1.out]
          exact HR1.out.step hdp hpr (fun h => HNE.out ((toF_zero (HL1.out p k)).1 h))
        case measure => simp [intOf]; omega
    · have hke : k = c := by omega
      subst hke
      go_wp2
      go_ret
      exact ⟨HF1.out, d, gs', g, rfl, HG1.out, HL1.out, HR1.out⟩
theorem dotN_fsum {A B : List (List Nat)} (hA : BytesM A) (hB : BytesM B) (i j : Nat) : ∀ k, toF (dotN A B i j k) = Lin.fsum k (fun t => Lin.mu (vec A i t) (vec B t j))
  | 0 => rfl
  | k + 1 => by
    show toF (dotN A B i j k ^^^ Gf.mul (Gf.nth (rowOf A i) k) (Gf.nth (rowOf B k) j)) = Lin.ad _ _
    rw [toF_ad (dotN_lt A B hA i j k) (Gf.mul_lt (hA i k) _), toF_mu (hA i k) (hB k j), dotN_fsum hA hB i j k]
    rfl
theorem toF_inj {x y : Nat} (hx : x < 256) (hy : y < 256) (h : toF x = toF y) : x = y := by
  have := congrArg Fin.val h
  rw [toF_val hx, toF_val hy] at this
  exact this
theorem prod_one {A B : List (List Nat)} (hA : BytesM A) (hB : BytesM B) (r i j : Nat) (h : Lin.mm r (vec A) (vec B) i j = Lin.one i j) : dotN A B i j r = if i = j then 1 else 0 := by
  refine toF_inj (dotN_lt A B hA i j r) (by split <;> decide) ?_
  rw [dotN_fsum hA hB]
  refine Eq.trans h ?_
  unfold Lin.one
  by_cases e : i = j
  · rw [if_pos e, if_pos e]; rfl
  · rw [if_neg e, if_neg e]; rfl
theorem matFn_bytes {r n : Nat} {f : Nat → Nat → Nat} (h : ∀ i j, f i j < 256) : BytesM (matFn r n f) := fun i => by
  by_cases hi : i < r
  · rw [rowOf_matFn r n f i hi]; exact rowFn_bytes _ _ (h i)
  · intro j
    have : rowOf (matFn r n f) i = [] := by unfold rowOf; rw [List.getD_eq_getElem?_getD, List.getElem?_eq_none (by rw [matFn_length]; omega)]; rfl
    rw [this]
    show ([] : List Nat).getD j 0 < 256
    simp
theorem vec_matFn {r n : Nat} {f : Nat → Nat → Nat} {i j : Nat} (hi : i < r) (hj : j < n) : vec (matFn r n f) i j = vecF f i j := by
  unfold vec vecF
  rw [rowOf_matFn r n f i hi, nth_rowFn _ _ j hj]
theorem isMat_matFn {r n : Nat} {f : Nat → Nat → Nat} (h1 : 1 ≤ r) (h2 : r ≤ 16) (h3 : 1 ≤ n) (h4 : n ≤ 16) : IsMat (matFn r n f) := by
  refine ⟨by rw [matFn_length]; exact h1, by rw [matFn_length]; exact h2, fun i hi => ?_⟩
  rw [matFn_length] at hi
  rw [rowOf_matFn r n f i hi, rowOf_matFn r n f 0 (by omega), rowFn_length, rowFn_length]
  exact ⟨h3, h4, rfl⟩
theorem prodM_fn (A B : List (List Nat)) (m : Nat) : prodM A B m = matFn m (rowOf B 0).length (fun i j => dotN A B i j B.length) := rfl
theorem mat_cells {w : World} {p : Option Addr} {r n : Nat} {f : Nat → Nat → Nat} (h : Mat w p (matFn r n f)) (hr : 1 ≤ r) (hn : 1 ≤ n) : ∃ b o, p = some ⟨b, o, none⟩ ∧ ∀ i, i < r → ∃ b1 o1 c, w.cell? ⟨b, o + i, none⟩ = some (.slice (some ⟨b1, o1, none⟩) n c) ∧ ∀ j, j < n → w.cell? ⟨b1, o1 + j, none⟩ = some (.int .u8 ((f i j : Nat) : Int)) := by
  have ln : ∀ i, i < r → (rowOf (matFn r n f) i).length = n := fun i hi => by rw [rowOf_matFn r n f i hi, rowFn_length]
  obtain ⟨b, o, _, _, _, hp, _, _, _, _⟩ := h.row (i := 0) (by rw [matFn_length]; omega) (by rw [ln 0 (by omega)]; omega)
  refine ⟨b, o, hp, fun i hi => ?_⟩
  obtain ⟨b', o', b1, o1, c, hp', _, _, h1, h2⟩ := h.row (i := i) (by rw [matFn_length]; omega) (by rw [ln i hi]; omega)
  rw [hp] at hp'
  injection hp' with hp'
  injection hp' with e1 e2 _
  subst e1 e2
  rw [ln i hi] at h1
  refine ⟨b1, o1, c, h1, fun j hj => ?_⟩
  rw [h2 j (by rw [ln i hi]; exact hj), rowOf_matFn r n f i hi, nth_rowFn _ _ j hj]
/-- Byte c of row i, so far. -/
def rsumN (f val : Nat → Nat → Nat) (i c : Nat) : Nat → Nat
  | 0 => 0
  | j + 1 => rsumN f val i c j ^^^ Gf.mul (f i j) (val j c)
def rowT (f val : Nat → Nat → Nat) (k wd i : Nat) : List Nat := rowFn wd fun c => rsumN f val i c k
theorem rsumN_lt {f val : Nat → Nat → Nat} (hf : ∀ i j, f i j < 256) (i c : Nat) : ∀ j, rsumN f val i c j < 256
  | 0 => by show 0 < 256; decide
  | j + 1 => Gf.xlt (rsumN_lt hf i c j) (Gf.mul_lt (hf _ _) _)
theorem strinfo : (Tryz.prog.info? 9).map (fun i => (i.zero, i.size, i.bytes)) = some (some (.string ⟨#[]⟩), 1, 16) := by kernel_rfl
theorem below_since {B : Nat} {w w' : World} (h : Below B w w') : w.Since B w' := ⟨h.os, h.tape, h.output, h.size, h.block⟩
theorem rowIs_below {w w' : World} {b : Nat} {t : TypeId} {n : Nat} {f : Nat → Value} (h : w.rowIs b t n f) (hb : Below w.heap.size w w') : w'.rowIs b t n f := h.of_block (hb.block _ h.lt)
/-- What a function that is handed to rows tells, whatever was made since w. -/
def Tells (w : World) (fn : FuncId) (caps : Array Value) (val : Nat → Nat → Nat) (k wd : Nat) : Prop :=
  ∀ j c, j < k → c < wd → ∀ w1, Below w.heap.size w w1 → Calls Tryz.prog fn (#[.int .i64 (j : Int), .int .i64 (c : Int)] ++ caps) w1 fun e w2 => e = .returned (.int .u8 ((val j c : Nat) : Int)) ∧ w2 = w1
set_option maxRecDepth 10000 in
set_option maxHeartbeats 4000000 in
theorem rows_any (p : Option Addr) (r k wd cap : Nat) (f val : Nat → Nat → Nat) (fn : FuncId) (caps : Array Value) (w : World) (hr1 : 1 ≤ r) (hr : r ≤ 1000) (hk1 : 1 ≤ k) (hk : k ≤ 1000) (hwd : wd ≤ 100000)
    (hf : ∀ i j, f i j < 256) (hv : ∀ j c, val j c < 256) (hm : Mat w p (matFn r k f)) (hent : ∀ args W, Sem.run Tryz.prog (callFunc fn args) W = .ok (.enter fn args) W) (hc : Tells w fn caps val k wd) :
    Calls Tryz.prog 36 #[.slice p r cap, .int .i64 (wd : Int), .func (.func fn) #[] caps] w fun e w' => e = .returned (.slice (some ⟨w.heap.size, 0, none⟩) r r) ∧ w'.rowIs w.heap.size 9 r (fun i => .string (strOf (rowT f val k wd i))) ∧ Below w.heap.size w w' := by
  obtain ⟨b, o, rfl, hrows⟩ := mat_cells hm hr1 hk1
  have hbl : ∀ i, i < r → ∃ b1 o1 c, b < w.heap.size ∧ b1 < w.heap.size ∧ w.cell? ⟨b, o + i, none⟩ = some (.slice (some ⟨b1, o1, none⟩) k c) ∧ ∀ j, j < k → w.cell? ⟨b1, o1 + j, none⟩ = some (.int .u8 ((f i j : Nat) : Int)) := fun i hi => by
    obtain ⟨b1, o1, c, h1, h2⟩ := hrows i hi
    exact ⟨b1, o1, c, lt_of_cell h1, lt_of_cell (h2 0 (by omega)), h1, h2⟩
  have HR : Hid (∀ i, i < r → ∃ b1 o1 c, b < w.heap.size ∧ b1 < w.heap.size ∧ w.cell? ⟨b, o + i, none⟩ = some (.slice (some ⟨b1, o1, none⟩) k c) ∧ ∀ j, j < k → w.cell? ⟨b1, o1 + j, none⟩ = some (.int .u8 ((f i j : Nat) : Int))) := hbl
  have HC : Hid (Tells w fn caps val k wd) := hc
  have HF : Hid (∀ i j, f i j < 256) := hf
  have HV : Hid (∀ j c, val j c < 256) := hv
  obtain ⟨i0, hi0, hz0, hz1, hzb⟩ := info_parts u8info
  obtain ⟨i1, hi1, hy0, hy1, hyb⟩ := info_parts strinfo
  have hmk : ∀ W : World, Sem.run Tryz.prog (Instr.makeSlice 22 (.int .i64 (r : Int)) (.int .i64 (r : Int))) W = .ok (.slice (some ⟨W.heap.size, 0, none⟩) r r) (W.alloc (.cells (madeCells #[.string ⟨#[]⟩] r) 9)) := fun W => run_make_row (P := Tryz.prog) 22 9 i1 (.string ⟨#[]⟩) Tryz.underlying22 hi1 hy0 hy1 rfl .i64 .i64 r (by rw [hyb]; omega) (by omega) W
  have hmk2 : ∀ W : World, Sem.run Tryz.prog (Instr.makeSlice 80 (.int .i64 (wd : Int)) (.int .i64 (wd : Int))) W = .ok (.slice (some ⟨W.heap.size, 0, none⟩) wd wd) (W.alloc (.cells (madeCells #[byteV 0] wd) 5)) := fun W => run_make_row (P := Tryz.prog) 80 5 i0 (byteV 0) Tryz.underlying80 hi0 hz0 hz1 rfl .i64 .i64 wd (by rw [hzb]; omega) (by omega) W
  clear hm hrows hbl hc hf hv hi0 hz0 hz1 hzb hi1 hy0 hy1 hyb
  go_enter Tryz.func36, Tryz.ntmps36
  go_wp2
  have hS0 : (w.alloc (.cells (madeCells #[.string ⟨#[]⟩] r) 9)).rowIs w.heap.size 9 r (fun _ => .string ⟨#[]⟩) := World.rowIs_made w _ r _
  have hB0 : Below w.heap.size w (w.alloc (.cells (madeCells #[.string ⟨#[]⟩] r) 9)) := (Below.refl _ _).alloc (Nat.le_refl _) _
  generalize w.alloc (.cells (madeCells #[.string ⟨#[]⟩] r) 9) = w0 at hS0 hB0 ⊢
  have HS0 : Hid (w0.rowIs w.heap.size 9 r (fun _ => .string ⟨#[]⟩)) := hS0
  have HB0 : Hid (Below w.heap.size w w0) := hB0
  clear hS0 hB0
  go_loopw [19] (fun x wr => ∃ i : Nat, i ≤ r ∧ x = .int .i64 i ∧ wr.rowIs w.heap.size 9 r (fun q => if q < i then .string (strOf (rowT f val k wd q)) else .string ⟨#[]⟩) ∧ Below w.heap.size w wr) (fun x _ => r - (intOf x).toNat)
  case atStart => exact ⟨0, by omega, rfl, HS0.out.congr (fun q _ => by simp), HB0.out⟩
  case round =>
    obtain ⟨i, hi, rfl, hS, hB⟩ := hrel
    obtain ⟨w3, rfl⟩ : ∃ w3, w3 = wr := ⟨_, rfl⟩
    have HS : Hid (w3.rowIs w.heap.size 9 r (fun q => if q < i then .string (strOf (rowT f val k wd q)) else .string ⟨#[]⟩)) := hS
    have HB : Hid (Below w.heap.size w w3) := hB
    have hgt : w.heap.size < w3.heap.size := hS.lt
    clear hS hB HS0 HB0
    by_cases hil : i < r
    · obtain ⟨b1, o1, c1, hb, hb1, hcM, hdM⟩ := HR.out i hil
      have HD : Hid (∀ j, j < k → w.cell? ⟨b1, o1 + j, none⟩ = some (.int .u8 ((f i j : Nat) : Int))) := hdM
      have q0 : w3.cell? ⟨b, o + i, none⟩ = some (.slice (some ⟨b1, o1, none⟩) k c1) := (HB.out.cell (p := ⟨b, o + i, none⟩) hb).trans hcM
      clear hdM hcM
      go_wp2
      have hmkN : OwnN (w3.alloc (.cells (madeCells #[byteV 0] wd) 5)) w3.heap.size 5 w3.heap.size wd (rowFn wd (fun c => if c < 0 then rsumN f val i c k else 0)) := by
        have := OwnN.made w3 w3.heap.size 5 wd (Nat.le_refl _) (by omega)
        rw [rowFn_congr wd _ (fun c => if c < 0 then rsumN f val i c k else 0) (fun c _ => by rw [if_neg (Nat.not_lt_zero _)])] at this
        exact this
      have hbk : Below w3.heap.size w3 (w3.alloc (.cells (madeCells #[byteV 0] wd) 5)) := (Below.refl _ _).alloc (Nat.le_refl _) _
      generalize w3.alloc (.cells (madeCells #[byteV 0] wd) 5) = w4 at hmkN hbk ⊢
      have HMK : Hid (OwnN w4 w3.heap.size 5 w3.heap.size wd (rowFn wd (fun c => if c < 0 then rsumN f val i c k else 0))) := hmkN
      have HBK : Hid (Below w3.heap.size w3 w4) := hbk
      clear hmkN hbk q0
      go_loopw [28] (fun x wq => ∃ c : Nat, c ≤ wd ∧ x = .int .i64 c ∧ OwnN wq w3.heap.size 5 w3.heap.size wd (rowFn wd (fun d => if d < c then rsumN f val i d k else 0)) ∧ Below w3.heap.size w3 wq) (fun x _ => wd - (intOf x).toNat)
      case atStart => exact ⟨0, by omega, rfl, HMK.out, HBK.out⟩
      case round =>
        obtain ⟨c, hc, rfl, hON, hBq⟩ := hrel
        obtain ⟨w5, rfl⟩ : ∃ w5, w5 = wr := ⟨_, rfl⟩
        have HON : Hid (OwnN w5 w3.heap.size 5 w3.heap.size wd (rowFn wd (fun d => if d < c then rsumN f val i d k else 0))) := hON
        have HBq : Hid (Below w3.heap.size w3 w5) := hBq
        clear hON hBq HMK HBK
        by_cases hcl : c < wd
        · go_wp2
          go_loopw [33] (fun x wq => ∃ j : Nat, j ≤ k ∧ x = .int .i64 j ∧ OwnN wq w3.heap.size 5 w3.heap.size wd (rowFn wd (fun d => if d < c then rsumN f val i d k else if d = c then rsumN f val i c j else 0)) ∧ Below w3.heap.size w3 wq) (fun x _ => k - (intOf x).toNat)
          case atStart =>
            refine ⟨0, by omega, rfl, ?_, HBq.out⟩
            rw [rowFn_congr wd _ (fun d => if d < c then rsumN f val i d k else 0) (fun d _ => by by_cases e : d = c <;> simp [e, rsumN])]
            exact HON.out
          case round =>
            obtain ⟨j, hjk, rfl, hON2, hBq2⟩ := hrel
            obtain ⟨w6, rfl⟩ : ∃ w6, w6 = wr := ⟨_, rfl⟩
            have HON2 : Hid (OwnN w6 w3.heap.size 5 w3.heap.size wd (rowFn wd (fun d => if d < c then rsumN f val i d k else if d = c then rsumN f val i c j else 0))) := hON2
            have HBq2 : Hid (Below w3.heap.size w3 w6) := hBq2
            clear hON2 hBq2 HON HBq
            by_cases hjl : j < k
            · have q2 : w6.cell? ⟨b1, o1 + j, none⟩ = some (.int .u8 ((f i j : Nat) : Int)) := (HBq2.out.cell (p := ⟨b1, o1 + j, none⟩) (by show b1 < _; omega)).trans ((HB.out.cell (p := ⟨b1, o1 + j, none⟩) hb1).trans (HD.out j hjl))
              have q5 : w6.cell? ⟨w3.heap.size, c, none⟩ = some (.int .u8 ((rsumN f val i c j : Nat) : Int)) := by rw [HON2.out.cell c hcl (rowFn_length _ _), nth_rowFn _ _ c hcl, if_neg (Nat.lt_irrefl _), if_pos rfl]
              have q6 : w6.frozen? ⟨w3.heap.size, c, none⟩ = false := HON2.out.free c
              have lx := HF.out i j
              have ly := HV.out j c
              have ls : rsumN f val i c j < 256 := rsumN_lt HF.out i c j
              have lm := Gf.mul_lt lx (val j c)
              have HX : Hid (rsumN f val i c (j + 1) = rsumN f val i c j ^^^ Gf.mul (f i j) (val j c)) := by show _ = _; rfl
              have hcall := HC.out j c hjl hcl (w6.drewN 1) (below_drewN (HB.out.trans (HBq2.out.mono (by omega))) 1)
              have n2 : w3.heap.size ≠ b1 := by omega
              have HON2' : Hid (OwnN w6 w3.heap.size 5 w3.heap.size wd (rowFn wd (fun d => if d < c then rsumN f val i d k else if d = c then rsumN f val i c j else 0))) := HON2.out
              generalize rsumN f val i c j = sacc at q5 ls HX HON2'
              generalize f i j = x at q2 lx lm HX
              generalize val j c = y at ly lm HX hcall
              have HCALL : Hid (Calls Tryz.prog fn (#[.int .i64 (j : Int), .int .i64 (c : Int)] ++ caps) (w6.drewN 1) fun e w2 => e = .returned (.int .u8 ((y : Nat) : Int)) ∧ w2 = w6.drewN 1) := hcall
              clear hcall
              go_wp2
              refine wp_region_still_tail 14 (by kernel_rfl) (by kernel_rfl) ?_
              simp only [List.take_succ_cons, List.take_zero, List.drop_succ_cons, List.drop_zero]
              repeat still_step
              still_call (HCALL.out)
              still_call (mul_any x y _ lx ly)
              still_call (add_any sacc (Gf.mul x y) _ ls lm)
              repeat still_step
              refine wpStill_nil ?_
              have HO7 : Hid (OwnN (w6.drewN 1) w3.heap.size 5 w3.heap.size wd (rowFn wd (fun d => if d < c then rsumN f val i d k else if d = c then sacc else 0))) := HON2'.out.drewN 1
              have HB7 : Hid (Below w3.heap.size w3 (w6.drewN 1)) := below_drewN HBq2.out 1
              have q5' : (w6.drewN 1).cell? ⟨w3.heap.size, c, none⟩ = some (.int .u8 (sacc : Int)) := q5
              have q6' : (w6.drewN 1).frozen? ⟨w3.heap.size, c, none⟩ = false := q6
              change wpList _ _ _ _ _ (w6.drewN 1)
              generalize w6.drewN 1 = w7 at HO7 HB7 q5' q6' ⊢
              clear q2 q5 q6 HON2 HON2' HBq2 HCALL
              go_wp2
              go_roundw
              case rel =>
                refine ⟨j + 1, by omega, by go_num, ?_, HB7.out.setCell (Nat.le_refl _) _⟩
                have := HO7.out.set c (sacc ^^^ Gf.mul x y)
                rw [rowFn_congr wd (fun d => if d < c then rsumN f val i d k else if d = c then rsumN f val i c (j + 1) else 0) (fun d => if d = c then sacc ^^^ Gf.mul x y else if d < c then rsumN f val i d k else if d = c then sacc else 0) (fun d _ => by
                  by_cases e : d = c
                  · subst e; rw [if_neg (Nat.lt_irrefl _), if_pos rfl, if_pos rfl, HX.out]
                  · rw [if_neg e, if_neg e, if_neg e])]
                exact this
              case measure => simp [intOf]; omega
            · have hke : j = k := by omega
              subst hke
              go_wp2
              go_roundw
              case rel =>
                refine ⟨c + 1, by omega, by go_num, ?_, HBq2.out⟩
                rw [rowFn_congr wd _ (fun d => if d < c then rsumN f val i d j else if d = c then rsumN f val i c j else 0) (fun d _ => by
                  by_cases e : d < c
                  · rw [if_pos (by omega), if_pos e]
                  · by_cases e' : d = c
                    · subst e'; rw [if_pos (by omega), if_neg e, if_pos rfl]
                    · rw [if_neg (by omega), if_neg e, if_neg e'])]
                exact HON2.out
              case measure => simp [intOf]; omega
        · have hce : c = wd := by omega
          subst hce
          have hN5 : OwnN w5 w3.heap.size 5 w3.heap.size c (rowT f val k c i) := by
            unfold rowT
            rw [rowFn_congr c _ (fun d => if d < c then rsumN f val i d k else 0) (fun d hd => by rw [if_pos hd])]
            exact HON.out
          have hcv : Sem.run Tryz.prog (convert 80 9 (.slice (some ⟨w3.heap.size, 0, none⟩) c c)) w5 = .ok (.string (strOf (rowT f val k c i))) w5 := by
            have hsg : Seg w5 (some ⟨w3.heap.size, 0, none⟩) (rowT f val k c i) := ⟨rowFn_bytes _ _ (fun d => rsumN_lt HF.out _ _ _), Or.inr ⟨w3.heap.size, 0, rfl, hN5.lt.2, fun d hd => by
              have hd' : d < c := by unfold rowT at hd; rw [rowFn_length] at hd; exact hd
              rw [Nat.zero_add]
              exact hN5.cell d hd' (rowFn_length _ _)⟩⟩
            have := conv_seg hsg c
            rw [show (rowT f val k c i).length = c from rowFn_length _ _] at this
            exact this
          have hS5 := rowIs_below HS.out HBq.out
          have qs : w5.cell? ⟨w.heap.size, i, none⟩ = some (.string ⟨#[]⟩) := by rw [hS5.cell hil, if_neg (Nat.lt_irrefl _)]
          have qf : w5.frozen? ⟨w.heap.size, i, none⟩ = false := hS5.frozen i
          have HS5 : Hid (w5.rowIs w.heap.size 9 r (fun q => if q < i then .string (strOf (rowT f val k c q)) else .string ⟨#[]⟩)) := hS5
          have HB5 : Hid (Below w.heap.size w w5) := HB.out.trans (HBq.out.mono (by omega))
          clear hN5 HON hS5 hmk hmk2
          have HRT : Hid (strOf (rowT f val k c i) = strOf (rowT f val k c i)) := by show _ = _; rfl
          generalize hst : strOf (rowT f val k c i) = st at hcv
          have HST : Hid (strOf (rowT f val k c i) = st) := hst
          clear hst HRT
          go_wp2
          go_roundw
          case rel =>
            refine ⟨i + 1, by omega, by go_num, (HS5.out.set i _).congr (fun q _ => ?_), HB5.out.setCell (Nat.le_refl _) _⟩
            by_cases e : q = i
            · rw [if_pos e, if_pos (by omega), e, HST.out]
            · rw [if_neg e]
              by_cases e' : q < i
              · rw [if_pos e', if_pos (by omega)]
              · rw [if_neg e', if_neg (by omega)]
          case measure => simp [intOf]; omega
    · have hie : i = r := by omega
      subst hie
      go_wp2
      go_ret
      exact ⟨rfl, HS.out.congr (fun q hq => by rw [if_pos hq]), HB.out⟩
theorem rep_zero : ∀ j, 0 < j → Gf.rep 0 j = 0
  | 0, h => absurd h (Nat.lt_irrefl _)
  | j + 1, _ => by
    show Gf.mul _ _ = 0
    first | exact Gf.mul_zero _ | exact Gf.zero_mul _
theorem red_small (j : Nat) (h : j < 255) : red (j : Int) = j := by unfold red; omega
theorem fpow_any (i j : Nat) (w : World) (hi : i < 256) (hj : j < 255) :
    Calls Tryz.prog 97 #[.int .u8 (i : Int), .int .i64 (j : Int)] w fun e w' => e = .returned (.tuple #[.int .u8 ((Gf.rep i j : Nat) : Int), .nilIface]) ∧ w' = w := by
  by_cases h : i = 0 ∧ 0 < j
  · obtain ⟨rfl, hj0⟩ := h
    rw [rep_zero j hj0]
    exact pow_zero_pos (j : Int) w (by omega)
  · have := pow_reg i (j : Int) w hi (fun h0 => by
      by_cases h1 : 0 < j
      · exact absurd ⟨h0, h1⟩ h
      · omega)
    rw [red_small j hj, Gf.power_rep i j hi (by omega)] at this
    exact this
set_option maxRecDepth 10000 in
theorem powers1_any (i j : Nat) (w : World) (hi : i < 256) (hj : j < 255) :
    Calls Tryz.prog 96 #[.int .i64 (i : Int), .int .i64 (j : Int)] w fun e w' => e = .returned (.int .u8 ((Gf.rep i j : Nat) : Int)) ∧ Below w.heap.size w w' := by
  have HP := fpow_any i j w hi hj
  go_enter Tryz.func96, Tryz.ntmps96
  go_wp2_with (go_at_call 97; refine HP.mono ?_; rintro e w' ⟨rfl, rfl⟩)
  go_ret
  exact ⟨rfl, Below.refl _ _⟩
set_option maxRecDepth 10000 in
theorem powers_ok (n k : Nat) (w : World) (hk1 : 1 ≤ k) (hkn : k ≤ n) (hn : n ≤ 12) :
    Calls Tryz.prog 83 #[.int .i64 (n : Int), .int .i64 (k : Int)] w fun e w' => (∃ gm gs, e = .returned (.tuple #[.slice (some ⟨gm, 0, none⟩) n n, .nilIface]) ∧ OwnG w' w.heap.size gm gs n k Gf.rep) ∧ Below w.heap.size w w' := by
  have HB := build_any n k Gf.rep 96 #[] w (by omega) (by omega) (enters_of Tryz.func96 (by kernel_rfl) rfl) (fun i j hi hj w1 _ => powers1_any i j w1 (by omega) (by omega))
  have HF : Hid (Calls Tryz.prog 25 #[.int .i64 (n : Int), .int .i64 (k : Int)] w fun e w' => e = .returned (.bool true) ∧ w' = w) := by
    have h := mfits_any (n : Int) (k : Int) w
    rw [decide_eq_true (show (1 : Int) ≤ (k : Int) ∧ (k : Int) ≤ (n : Int) ∧ (n : Int) ≤ 12 by omega)] at h
    exact h
  go_enter Tryz.func83, Tryz.ntmps83
  go_wp2_with fail
  refine HF.out.mono ?_
  rintro e w0 ⟨rfl, hw0⟩
  rw [hw0]
  clear hw0 w0 HF
  go_wp2_with (go_at_call 61; refine HB.mono ?_; rintro e w1 ⟨⟨gm, gs, rfl, hG⟩, hb⟩)
  go_ret2
  exact ⟨⟨gm, gs, rfl, hG⟩, hb⟩
set_option maxRecDepth 10000 in
theorem powers_bad (n k : Int) (z : Addr) (w : World) (h : ¬ (1 ≤ k ∧ k ≤ n ∧ n ≤ 12)) (hz : w.cell? ⟨1, 0, none⟩ = some (.iface 165 (.pointer (some z)))) :
    Calls Tryz.prog 83 #[.int .i64 n, .int .i64 k] w fun e w' => e = .returned (.tuple #[.slice none 0 0, .iface 165 (.pointer (some z))]) ∧ Below w.heap.size w w' := by
  have HF : Hid (Calls Tryz.prog 25 #[.int .i64 n, .int .i64 k] w fun e w' => e = .returned (.bool false) ∧ w' = w) := by
    have h1 := mfits_any n k w
    rw [decide_eq_false h] at h1
    exact h1
  clear h
  go_enter Tryz.func83, Tryz.ntmps83
  go_wp2_with fail
  refine HF.out.mono ?_
  rintro e w0 ⟨rfl, hw0⟩
  rw [hw0]
  clear hw0 w0 HF
  go_wp2
  go_quiet (fail)
  go_wp2
  go_ret2
  exact ⟨rfl, below_drewN (Below.refl _ _) _⟩
end Go.Proofs.YtpjeibicopgedaaGreatDoor
