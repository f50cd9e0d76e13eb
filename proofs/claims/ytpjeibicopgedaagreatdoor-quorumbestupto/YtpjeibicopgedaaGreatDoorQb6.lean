/- Texts laid together. -/
import Derived.Test.YtpjeibicopgedaaGreatDoorQb5
import Derived.Lib.Join
namespace Go.Proofs.YtpjeibicopgedaaGreatDoor
open Go.RowKit
/-- The first k unlike ones among the first i. -/
def pickN (k : Nat) (l : List (Int × ByteArray)) : Nat → List (Int × ByteArray)
  | 0 => []
  | i + 1 => if decide ((pickN k l i).length < k) && !(pickN k l i).any (fun y => y.1 == (shAt l i).1) then pickN k l i ++ [shAt l i] else pickN k l i
theorem pickN_yes {k : Nat} {l : List (Int × ByteArray)} {i : Nat} (h1 : (pickN k l i).length < k) (h2 : (pickN k l i).any (fun y => y.1 == (shAt l i).1) = false) : pickN k l (i + 1) = pickN k l i ++ [shAt l i] := by
  show (if _ then _ else _) = _
  rw [if_pos (by rw [decide_eq_true h1, h2]; rfl)]
theorem pickN_full {k : Nat} {l : List (Int × ByteArray)} {i : Nat} (h1 : ¬ (pickN k l i).length < k) : pickN k l (i + 1) = pickN k l i := by
  show (if _ then _ else _) = _
  rw [if_neg (by rw [decide_eq_false h1]; simp)]
theorem pickN_twice {k : Nat} {l : List (Int × ByteArray)} {i : Nat} (h2 : (pickN k l i).any (fun y => y.1 == (shAt l i).1) = true) : pickN k l (i + 1) = pickN k l i := by
  show (if _ then _ else _) = _
  rw [if_neg (by rw [h2]; simp)]
theorem pickN_le (k : Nat) (l : List (Int × ByteArray)) : ∀ i, (pickN k l i).length ≤ k
  | 0 => Nat.zero_le _
  | i + 1 => by
    by_cases h1 : (pickN k l i).length < k
    · by_cases h2 : (pickN k l i).any (fun y => y.1 == (shAt l i).1) = true
      · rw [pickN_twice h2]; omega
      · rw [pickN_yes h1 (Bool.eq_false_iff.2 h2), List.length_append, List.length_singleton]; omega
    · rw [pickN_full h1]; exact pickN_le k l i
theorem pickN_sub (k : Nat) (l : List (Int × ByteArray)) : ∀ i, i ≤ l.length → ∀ x ∈ pickN k l i, x ∈ l
  | 0, _, x, h => by cases h
  | i + 1, hi, x, h => by
    by_cases h1 : (pickN k l i).length < k
    · by_cases h2 : (pickN k l i).any (fun y => y.1 == (shAt l i).1) = true
      · rw [pickN_twice h2] at h; exact pickN_sub k l i (by omega) x h
      · rw [pickN_yes h1 (Bool.eq_false_iff.2 h2)] at h
        rcases List.mem_append.1 h with h | h
        · exact pickN_sub k l i (by omega) x h
        · rw [List.mem_singleton.1 h]; exact shAt_mem (by omega)
    · rw [pickN_full h1] at h; exact pickN_sub k l i (by omega) x h
theorem pickN_nodup (k : Nat) (l : List (Int × ByteArray)) : ∀ i, ((pickN k l i).map Prod.fst).Nodup
  | 0 => List.nodup_nil
  | i + 1 => by
    by_cases h1 : (pickN k l i).length < k
    · by_cases h2 : (pickN k l i).any (fun y => y.1 == (shAt l i).1) = true
      · rw [pickN_twice h2]; exact pickN_nodup k l i
      · have h2' : (pickN k l i).any (fun y => y.1 == (shAt l i).1) = false := Bool.eq_false_iff.2 h2
        rw [pickN_yes h1 h2', List.map_append, List.nodup_append]
        refine ⟨pickN_nodup k l i, by simp, fun a ha b hb e => ?_⟩
        obtain ⟨y, hy, rfl⟩ := List.mem_map.1 ha
        have hb' : b = (shAt l i).1 := by simpa using hb
        have := List.any_eq_false.1 h2' y hy
        exact this (by simp [e, hb'])
    · rw [pickN_full h1]; exact pickN_nodup k l i
theorem shVals_snoc (l : List (Int × ByteArray)) (x : Int × ByteArray) : shVals (l ++ [x]) = shVals l ++ [.int .i64 x.1, .string x.2] := by simp [shVals]
set_option maxRecDepth 10000 in
theorem unlike1_any (px : Nat) (x y : Int) (t : ByteArray) (w : World) (hx : w.cell? ⟨px, 0, none⟩ = some (.int .i64 x)) :
    Calls Tryz.prog 59 (#[.agg #[.int .i64 y, .string t]] ++ #[.pointer (some ⟨px, 0, none⟩)]) w fun e w2 => e = .returned (.bool (y == x)) ∧ Below w.heap.size w w2 := by
  have hlt := lt_of_cell hx
  go_enter Tryz.func59, Tryz.ntmps59
  go_wp2
  go_ret
  exact ⟨rfl, (Below.refl _ _).alloc (Nat.le_refl _) _⟩
/-- A shard that does not fit: its number, or its length. -/
def badB (n : Int) (wd : Nat) (x : Int × ByteArray) : Bool := decide (x.1 < 0) || decide (n ≤ x.1) || !decide (x.2.size = wd)
set_option maxRecDepth 10000 in
set_option maxHeartbeats 4000000 in
theorem first_any (k : Nat) (p : Option Addr) (l : List (Int × ByteArray)) (cap : Nat) (w : World) (hk : k ≤ 1000) (hl : l.length ≤ 1000) (hs : Shs w p l) :
    Calls Tryz.prog 34 #[.int .i64 (k : Int), .slice p l.length cap] w fun e w' => (∃ p' c', e = .returned (.slice p' (pickN k l l.length).length c') ∧ Shs w' p' (pickN k l l.length)) ∧ Below w.heap.size w w' := by
  have HS : Hid (Shs w p l) := hs
  obtain ⟨i1, hi1, hy0, hy1, hy2⟩ := info_parts shinfo
  have hmk : ∀ W : World, Sem.run Tryz.prog (Instr.makeSlice 55 (.int .i64 0) (.int .i64 (k : Int))) W = .ok (.slice (some ⟨W.heap.size, 0, none⟩) 0 k) (W.alloc (.cells (madeCells #[.int .i64 0, .string ⟨#[]⟩] (k * 2)) 49)) := fun W => by
    have hr := run_make (P := Tryz.prog) W 55 49 i1 _ Tryz.underlying55 hi1 hy0 .i64 .i64 0 k (by omega) (by omega) (by rw [hy2]; omega) (by omega)
    simp only [Int.toNat_natCast, hy1] at hr
    exact hr
  clear hs
  go_enter Tryz.func34, Tryz.ntmps34
  go_wp2
  have hO0 : (w.alloc (.cells (madeCells #[.int .i64 0, .string ⟨#[]⟩] (k * 2)) 49)).ownsRow w.heap.size 49 2 (.slice (some ⟨w.heap.size, 0, none⟩) 0 k) 0 [] := World.ownsRow_made w _ k (Nat.le_refl _) (by unfold maxLen; omega) (size_madeCells _ _)
  have hB0 : Below w.heap.size w (w.alloc (.cells (madeCells #[.int .i64 0, .string ⟨#[]⟩] (k * 2)) 49)) := (Below.refl _ _).alloc (Nat.le_refl _) _
  generalize w.alloc (.cells (madeCells #[.int .i64 0, .string ⟨#[]⟩] (k * 2)) 49) = w0 at hO0 hB0 ⊢
  have HO0 : Hid (w0.ownsRow w.heap.size 49 2 (.slice (some ⟨w.heap.size, 0, none⟩) 0 k) 0 []) := hO0
  have HB0 : Hid (Below w.heap.size w w0) := hB0
  clear hO0 hB0 hmk
  go_loopw [5, 12] (fun v x wr => ∃ i : Nat, i ≤ l.length ∧ x = .int .i64 i ∧ wr.ownsRow w.heap.size 49 2 v (pickN k l i).length (shVals (pickN k l i)) ∧ Below w.heap.size w wr) (fun _ x _ => l.length - (intOf x).toNat)
  case atStart => exact ⟨0, by omega, rfl, HO0.out, HB0.out⟩
  case round =>
    obtain ⟨i, hi, rfl, hO, hB⟩ := hrel
    obtain ⟨w3, rfl⟩ : ∃ w3, w3 = wr := ⟨_, rfl⟩
    obtain ⟨pv, cv, rfl, hsh⟩ := shs_of_own hO
    have HO : Hid (w3.ownsRow w.heap.size 49 2 (.slice pv (pickN k l i).length cv) (pickN k l i).length (shVals (pickN k l i))) := hO
    have HB : Hid (Below w.heap.size w w3) := hB
    have HSH : Hid (Shs w3 pv (pickN k l i)) := hsh
    have hz3 : w.heap.size ≤ w3.heap.size := hB.size
    clear hO hB hsh HO0 HB0
    by_cases hil : i < l.length
    · rcases (HS.out.below HB.out) with h0 | ⟨b1, o1, rfl, hb1, hc1⟩
      · rw [h0] at hil; simp at hil
      obtain ⟨q1, q2⟩ := hc1 i hil
      clear hc1
      have HF : Hid (pickN k l (i + 1) = pickN k l (i + 1)) := by show _ = _; rfl
      have hle := pickN_le k l i
      by_cases hlt : (pickN k l i).length < k
      · obtain ⟨w4, hw4⟩ : ∃ w4, w4 = w3.alloc (.cells #[.int .i64 (shAt l i).1, .string (shAt l i).2] 49) := ⟨_, rfl⟩
        have hb4 : Below w3.heap.size w3 w4 := by rw [hw4]; exact (Below.refl _ _).alloc (Nat.le_refl _) _
        have hs4 : w4.heap.size = w3.heap.size + 1 := by rw [hw4]; simp
        have hx4 : w4.cell? ⟨w3.heap.size, 0, none⟩ = some (.int .i64 (shAt l i).1) := by rw [hw4, World.cell?_alloc_at _ _ _ _ rfl]; rfl
        have ht4 : w4.cell? ⟨w3.heap.size, 1, none⟩ = some (.string (shAt l i).2) := by rw [hw4, World.cell?_alloc_at _ _ _ _ rfl]; rfl
        have HASK : Asks w4 59 #[.pointer (some ⟨w3.heap.size, 0, none⟩)] (pickN k l i) (fun y => y.1 == (shAt l i).1) := fun j hj w5 h5 =>
          unlike1_any w3.heap.size (shAt l i).1 (shAt (pickN k l i) j).1 (shAt (pickN k l i) j).2 w5 ((h5.cell (p := ⟨w3.heap.size, 0, none⟩) (by show w3.heap.size < _; omega)).trans hx4)
        have HC := contains_any pv (pickN k l i) cv 59 #[.pointer (some ⟨w3.heap.size, 0, none⟩)] (fun y => y.1 == (shAt l i).1) w4 (by omega) (HSH.out.below hb4) (enters_of Tryz.func59 (by kernel_rfl) rfl) HASK
        have HW4 : Hid (w4 = w3.alloc (.cells #[.int .i64 (shAt l i).1, .string (shAt l i).2] 49)) := hw4
        have HB4 : Hid (Below w.heap.size w w4) := HB.out.trans (hb4.mono hz3)
        have HO4 : Hid (w4.ownsRow w.heap.size 49 2 (.slice pv (pickN k l i).length cv) (pickN k l i).length (shVals (pickN k l i))) := World.ownsRow.kept HO.out (below_grown hb4 none) (by cases hv : (Value.slice pv (pickN k l i).length cv).ownBlock <;> simp)
        have hs4' : w3.heap.size < w4.heap.size := by omega
        by_cases hany : (pickN k l i).any (fun y => y.1 == (shAt l i).1) = true
        · have HP : Hid (pickN k l (i + 1) = pickN k l i) := pickN_twice hany
          rw [hany] at HC
          clear hany hw4 hb4 hs4 hx4 ht4 HASK HF
          generalize pickN k l i = so at *
          go_wp2_with fail
          rw [← HW4.out]
          refine HC.mono ?_
          rintro e w6 ⟨rfl, hb6⟩
          have HB6 : Hid (Below w.heap.size w w6) := HB4.out.trans (hb6.mono HB4.out.size)
          have HO6 : Hid (w6.ownsRow w.heap.size 49 2 (.slice pv so.length cv) so.length (shVals so)) := World.ownsRow.kept HO4.out (below_grown hb6 none) (by cases hv : (Value.slice pv so.length cv).ownBlock <;> simp)
          clear HC hb6
          go_wp2
          go_roundw
          case rel => exact ⟨i + 1, by omega, by go_num, by rw [HP.out]; exact HO6.out, HB6.out⟩
          case measure => simp [intOf]; omega
        · have hany' : (pickN k l i).any (fun y => y.1 == (shAt l i).1) = false := Bool.eq_false_iff.2 hany
          have HP : Hid (pickN k l (i + 1) = pickN k l i ++ [shAt l i]) := pickN_yes hlt hany'
          rw [hany'] at HC
          have HX4 : Hid (∀ W, Below w4.heap.size w4 W → W.cell? ⟨w3.heap.size, 0, none⟩ = some (.int .i64 (shAt l i).1) ∧ W.cell? ⟨w3.heap.size, 1, none⟩ = some (.string (shAt l i).2)) := fun W hW => ⟨(hW.cell (p := ⟨w3.heap.size, 0, none⟩) (by show w3.heap.size < _; omega)).trans hx4, (hW.cell (p := ⟨w3.heap.size, 1, none⟩) (by show w3.heap.size < _; omega)).trans ht4⟩
          clear hany hany' hw4 hb4 hs4 hx4 ht4 HASK HF
          generalize pickN k l i = so at *
          go_wp2_with fail
          rw [← HW4.out]
          refine HC.mono ?_
          rintro e w6 ⟨rfl, hb6⟩
          have HB6 : Hid (Below w.heap.size w w6) := HB4.out.trans (hb6.mono HB4.out.size)
          have HO6 : Hid (w6.ownsRow w.heap.size 49 2 (.slice pv so.length cv) so.length (shVals so)) := World.ownsRow.kept HO4.out (below_grown hb6 none) (by cases hv : (Value.slice pv so.length cv).ownBlock <;> simp)
          obtain ⟨r1, r2⟩ := HX4.out w6 hb6
          have hz6 : w.heap.size ≤ w6.heap.size := HB6.out.size
          clear HC hb6 q1 q2 HX4 HW4 HO4 HB4
          generalize shAt l i = xs at *
          obtain ⟨x, t⟩ := xs
          go_wp2_with (first | (at_builtin; refine wpList_append_own _ rfl (.tmp 26) (.tmp 28) 55 rfl w.heap.size 49 i1 (.agg #[.int .i64 0, .string ⟨#[]⟩]) 2 24 Tryz.underlying55 hi1 hy0 hy1 hy2 rfl (by decide) (.slice pv so.length cv) so.length (shVals so) rfl (World.ownsRow.alloc HO6.out _) ⟨w6.heap.size, 0, none⟩ 1 1 [.int .i64 x, .string t] rfl rfl (fun j u hj => by match j, hj with | 0, hj => (simp at hj; subst hj; simp [Addr.add]) | 1, hj => (simp at hj; subst hj; simp [Addr.add])) (fun u hu => by simp at hu; rcases hu with rfl | rfl <;> rfl) (by unfold maxLen; omega) (by omega) (by simp; omega) ?_; intro v' w8 hown' hg' _))
          have hb8 : Below w.heap.size w w8 := (HB6.out.alloc (by omega) _).grown hg' (by simp; omega) (fun g hg => (World.ownsRow.lt HO6.out g hg).1)
          go_roundw
          case rel => exact ⟨i + 1, by omega, by go_num, by rw [HP.out, shVals_snoc, List.length_append, List.length_singleton]; exact hown', hb8⟩
          case measure => simp [intOf]; omega
      · have HP : Hid (pickN k l (i + 1) = pickN k l i) := pickN_full hlt
        have HB4 : Hid (Below w.heap.size w (w3.alloc (.cells #[.int .i64 (shAt l i).1, .string (shAt l i).2] 49))) := HB.out.alloc hz3 _
        have HO4 : Hid ((w3.alloc (.cells #[.int .i64 (shAt l i).1, .string (shAt l i).2] 49)).ownsRow w.heap.size 49 2 (.slice pv (pickN k l i).length cv) (pickN k l i).length (shVals (pickN k l i))) := World.ownsRow.alloc HO.out _
        clear HF
        generalize pickN k l i = so at *
        go_wp2
        go_roundw
        case rel => exact ⟨i + 1, by omega, by go_num, by rw [HP.out]; exact HO4.out, HB4.out⟩
        case measure => simp [intOf]; omega
    · have hie : i = l.length := by omega
      subst hie
      go_wp2
      go_ret
      exact ⟨⟨pv, cv, rfl, HSH.out⟩, HB.out⟩
/-- A row of Spread. -/
def sprRow (k x : Nat) : List Nat := rowFn k fun j => Gf.shareOf (upToL k) j x
theorem spread_rows {w : World} {gm n k : Nat} (h : Mat w (some ⟨gm, 0, none⟩) (spreadM k n)) (hn : 1 ≤ n) (hk : 1 ≤ k) : ∃ rb ro rc : Nat → Nat, gm < w.heap.size ∧ ∀ i, i < n → w.cell? ⟨gm, i, none⟩ = some (.slice (some ⟨rb i, ro i, none⟩) k (rc i)) ∧ Seg w (some ⟨rb i, ro i, none⟩) (sprRow k i) := by
  have hf : spreadM k n = matFn n k (fun i j => Gf.shareOf (upToL k) j i) := rfl
  have h1 : ∀ i, i < n → ∃ b1 o1 c, w.cell? ⟨gm, i, none⟩ = some (.slice (some ⟨b1, o1, none⟩) k c) ∧ Seg w (some ⟨b1, o1, none⟩) (sprRow k i) := fun i hi => by
    rw [hf] at h
    have hr : rowOf (matFn n k fun i j => Gf.shareOf (upToL k) j i) i = sprRow k i := rowOf_matFn n k _ i hi
    obtain ⟨b, o, b1, o1, c, hp, _, hb1, h2, h3⟩ := h.row (i := i) (by rw [matFn_length]; exact hi) (by rw [hr]; unfold sprRow; rw [rowFn_length]; omega)
    injection hp with hp
    injection hp with e1 e2 _
    subst e1 e2
    rw [hr] at h2 h3
    have hl : (sprRow k i).length = k := rowFn_length _ _
    rw [hl, Nat.zero_add] at h2
    exact ⟨b1, o1, c, h2, ⟨rowFn_bytes _ _ (fun j => Gf.shareOf_lt _ _ _), Or.inr ⟨b1, o1, rfl, hb1, h3⟩⟩⟩
  have h2 : ∀ i, ∃ t : Nat × Nat × Nat, i < n → w.cell? ⟨gm, i, none⟩ = some (.slice (some ⟨t.1, t.2.1, none⟩) k t.2.2) ∧ Seg w (some ⟨t.1, t.2.1, none⟩) (sprRow k i) := fun i => by
    by_cases hi : i < n
    · obtain ⟨b1, o1, c, h3⟩ := h1 i hi
      exact ⟨(b1, o1, c), fun _ => h3⟩
    · exact ⟨(0, 0, 0), fun h => absurd h hi⟩
  refine ⟨fun i => (Classical.choose (h2 i)).1, fun i => (Classical.choose (h2 i)).2.1, fun i => (Classical.choose (h2 i)).2.2, ?_, fun i hi => Classical.choose_spec (h2 i) hi⟩
  obtain ⟨_, _, _, h3, _⟩ := h1 0 (by omega)
  exact lt_of_cell h3
/-- The rows that were picked so far: those of X. -/
structure Picked (w : World) (B n k : Nat) (rv : Nat → Value) (v : Value) (X : List Nat) : Prop where
  own : OwnV w B 80 v (X.map rv)
  form : ∃ p c, v = .slice p X.length c
  nd : X.Nodup
  lt : ∀ x ∈ X, x < n
  le : X.length ≤ k
theorem Picked.kept {w w' : World} {B n k : Nat} {rv : Nat → Value} {v : Value} {X : List Nat} {row : Option Nat} (h : Picked w B n k rv v X) (hg : w.grownBy w' row) (hne : ∀ g, row = some g → g < B) : Picked w' B n k rv v X := by
  refine ⟨h.own.kept hg ?_, h.form, h.nd, h.lt, h.le⟩
  cases hv : v.ownBlock with
  | none => exact Or.inl rfl
  | some g =>
    refine Or.inr (fun e => ?_)
    have := h.own.block hv
    have := hne g e.symm
    omega
theorem Picked.snoc {w w' : World} {B n k : Nat} {rv : Nat → Value} {v v' : Value} {X : List Nat} {x : Nat} (h : Picked w B n k rv v X) (hx : x < n) (hnx : x ∉ X) (hlt : X.length < k) (hV : OwnV w' B 80 v' (X.map rv ++ [rv x])) : Picked w' B n k rv v' (X ++ [x]) := by
  have hm : (X ++ [x]).map rv = X.map rv ++ [rv x] := by simp
  refine ⟨by rw [hm]; exact hV, ?_, ?_, ?_, by rw [List.length_append, List.length_singleton]; omega⟩
  · rcases hV.cells with ⟨_, h0⟩ | ⟨g, cap, hv, _⟩
    · exact absurd h0 (by simp)
    · exact ⟨some ⟨g, 0, none⟩, cap, by rw [hv]; simp⟩
  · rw [List.nodup_append]
    refine ⟨h.nd, by simp, ?_⟩
    intro a ha b hb e
    rw [List.mem_singleton.1 hb] at e
    exact hnx (by rw [← e]; exact ha)
  · intro y hy
    rcases List.mem_append.1 hy with hy | hy
    · exact h.lt y hy
    · rw [List.mem_singleton.1 hy]; exact hx
theorem Picked.mat {w : World} {B n k : Nat} {rb ro rc : Nat → Nat} {v : Value} {X : List Nat} (h : Picked w B n k (fun x => .slice (some ⟨rb x, ro x, none⟩) k (rc x)) v X) (hX : 0 < X.length) (hs : ∀ x, x < n → Seg w (some ⟨rb x, ro x, none⟩) (sprRow k x)) : ∃ p c, v = .slice p X.length c ∧ Mat w p (X.map (sprRow k)) := by
  rcases h.own.cells with ⟨_, h0⟩ | ⟨g, cap, hv, _, hg, hc⟩
  · have := congrArg List.length h0
    simp at this
    rw [this] at hX
    exact absurd hX (Nat.lt_irrefl _)
  · refine ⟨some ⟨g, 0, none⟩, cap, by rw [hv]; simp, Or.inr ⟨g, 0, rfl, hg, fun i hi => ?_⟩⟩
    rw [List.length_map] at hi
    have hxi : X[i]? = some X[i] := List.getElem?_eq_getElem hi
    have hr : rowOf (X.map (sprRow k)) i = sprRow k X[i] := by unfold rowOf; rw [List.getD_eq_getElem?_getD, List.getElem?_map, hxi]; rfl
    have hl : (sprRow k X[i]).length = k := rowFn_length _ _
    rw [hr, hl, Nat.zero_add]
    exact ⟨_, _, hc i _ (by rw [List.getElem?_map, hxi]; rfl), hs _ (h.lt _ (List.getElem_mem hi)), fun e => by cases e⟩
theorem picked_isMat {k : Nat} {X : List Nat} (hk1 : 1 ≤ k) (hk : k ≤ 12) (hX : X.length = k) : IsMat (X.map (sprRow k)) := by
  have hl : ∀ i, i < X.length → (rowOf (X.map (sprRow k)) i).length = k := fun i hi => by
    unfold rowOf
    rw [List.getD_eq_getElem?_getD, List.getElem?_map, List.getElem?_eq_getElem hi]
    exact rowFn_length _ _
  refine ⟨by rw [List.length_map]; omega, by rw [List.length_map]; omega, fun i hi => ?_⟩
  rw [List.length_map] at hi
  rw [hl i hi, hl 0 (by omega)]
  exact ⟨hk1, by omega, rfl⟩
theorem picked_bytes (k : Nat) (X : List Nat) : BytesM (X.map (sprRow k)) := fun i => by
  by_cases hi : i < X.length
  · have : rowOf (X.map (sprRow k)) i = sprRow k X[i] := by unfold rowOf; rw [List.getD_eq_getElem?_getD, List.getElem?_map, List.getElem?_eq_getElem hi]; rfl
    rw [this]
    exact rowFn_bytes _ _ (fun j => Gf.shareOf_lt _ _ _)
  · intro j
    have : rowOf (X.map (sprRow k)) i = [] := by unfold rowOf; rw [List.getD_eq_getElem?_getD, List.getElem?_eq_none (by rw [List.length_map]; omega)]; rfl
    rw [this]
    show ([] : List Nat).getD j 0 < 256
    simp
/-- VANDERMONDE: any k rows have full rank. -/
theorem picked_rank {n k : Nat} {X : List Nat} (hn : n ≤ 12) (hX : X.length = k) (hnd : X.Nodup) (hlt : ∀ x ∈ X, x < n) (hk : k ≤ n) : Lin.IsRank k k (vec (X.map (sprRow k))) k := by
  have hb : Gf.Bytes X := fun i => by
    by_cases hi : i < X.length
    · rw [Gf.nth_getElem X i hi]; have := hlt _ (List.getElem_mem hi); omega
    · show X.getD i 0 < 256
      rw [List.getD_eq_getElem?_getD, List.getElem?_eq_none (by omega)]; decide
  have h := shares_indep (upToL k) X (upToL_bytes k (by omega)) (upToL_nodup k) hb hnd (by rw [upToL_length]; exact hX)
  rw [upToL_length, hX] at h
  refine rank_of_indep ?_
  intro c hc
  refine h c (fun j hj => ?_)
  rw [← hc j hj]
  refine Lin.fsum_congr fun r hr => ?_
  have hr' : r < X.length := by omega
  have e1 : rowOf (X.map (sprRow k)) r = sprRow k X[r] := by unfold rowOf; rw [List.getD_eq_getElem?_getD, List.getElem?_map, List.getElem?_eq_getElem hr']; rfl
  show Lin.mu (c r) (toF (Gf.shareOf (upToL k) j (Gf.nth X r))) = Lin.mu (c r) (toF (Gf.nth (rowOf (X.map (sprRow k)) r) j))
  rw [e1, Gf.nth_getElem X r hr']
  unfold sprRow
  rw [nth_rowFn _ _ j hj]
/-- The factors that lead from the places X back. -/
def invN (X : List Nat) : Nat → Nat → Nat := fun i j => Gf.shareOf X j i
theorem invN_lt (X : List Nat) (i j : Nat) : invN X i j < 256 := Gf.shareOf_lt _ _ _
/-- The rows of Spread at the places X. -/
def sprX (k : Nat) (X : List Nat) : Nat → Nat → Lin.F := fun i j => toF (facN k (Gf.nth X i) j)
theorem inv_left {X : List Nat} {k : Nat} (hX : Gf.Bytes X) (hn : X.Nodup) (hl : X.length = k) (hk : k ≤ 256) : ∀ i j, i < k → j < k → Lin.mm k (vecF (invN X)) (sprX k X) i j = Lin.one i j := by
  obtain ⟨y, hy⟩ := Lin.inverse_of_indep (vander_indep k hk)
  have hy' := Lin.right_of_left hy
  have e1 : ∀ i m, i < k → m < k → Lin.mm k (Lin.mm k (vecF (invN X)) (sprX k X)) (vecF Gf.rep) i m = vecF Gf.rep i m := fun i m hi hm => by
    rw [Lin.mm_assoc]
    have e2 : Lin.mm k (vecF (invN X)) (Lin.mm k (sprX k X) (vecF Gf.rep)) i m = Lin.mm k (vecF (invN X)) (fun r m => toF (Gf.rep (Gf.nth X r) m)) i m := Lin.mm_congr k (fun _ _ => rfl) (fun r _ => by
      have := shares_times_powers (upToL k) (upToL_bytes k hk) (upToL_nodup k) (Gf.nth X r) m (hX r) (by rw [upToL_length]; exact hm)
      rw [upToL_length] at this
      rw [← this]
      exact Lin.fsum_congr fun t ht => by rw [nth_upTo k t ht]; rfl)
    rw [e2]
    have := shares_times_powers X hX hn i m (by omega) (by rw [hl]; exact hm)
    rw [hl] at this
    exact this
  intro i j hi hj
  have e3 : Lin.mm k (Lin.mm k (vecF (invN X)) (sprX k X)) Lin.one i j = Lin.mm k (Lin.mm k (vecF (invN X)) (sprX k X)) (Lin.mm k (vecF Gf.rep) y) i j := Lin.mm_congr k (fun _ _ => rfl) (fun m hm => (hy' m j hm hj).symm)
  rw [Lin.mm_one k _ i j hj] at e3
  rw [e3, ← Lin.mm_assoc]
  have e4 : Lin.mm k (Lin.mm k (Lin.mm k (vecF (invN X)) (sprX k X)) (vecF Gf.rep)) y i j = Lin.mm k (vecF Gf.rep) y i j := Lin.mm_congr k (fun m hm => e1 i m hi hm) (fun _ _ => rfl)
  rw [e4]
  exact hy' i j hi hj
/-- There is but one inverse. -/
theorem inv_unique {X : List Nat} {k : Nat} (hX : Gf.Bytes X) (hn : X.Nodup) (hl : X.length = k) (hk : k ≤ 256) {x : Nat → Nat → Nat} (hx : ∀ i j, x i j < 256) (h : ∀ i j, i < k → j < k → Lin.mm k (vecF x) (sprX k X) i j = Lin.one i j) : ∀ i j, i < k → j < k → x i j = invN X i j := by
  have hr := Lin.right_of_left (inv_left hX hn hl hk)
  intro i j hi hj
  refine toF_inj (hx i j) (invN_lt X i j) ?_
  have e1 : Lin.mm k (vecF x) Lin.one i j = Lin.mm k (vecF x) (Lin.mm k (sprX k X) (vecF (invN X))) i j := Lin.mm_congr k (fun _ _ => rfl) (fun m hm => (hr m j hm hj).symm)
  rw [Lin.mm_one k _ i j hj, ← Lin.mm_assoc] at e1
  have e2 : Lin.mm k (Lin.mm k (vecF x) (sprX k X)) (vecF (invN X)) i j = Lin.mm k Lin.one (vecF (invN X)) i j := Lin.mm_congr k (fun m hm => h i m hi hm) (fun _ _ => rfl)
  rw [e2, Lin.one_mm k _ i j hi] at e1
  exact e1
theorem toF_rsum {f val : Nat → Nat → Nat} (hf : ∀ i j, f i j < 256) (hv : ∀ j c, val j c < 256) (i c : Nat) : ∀ m, toF (rsumN f val i c m) = Lin.fsum m (fun j => Lin.mu (toF (f i j)) (toF (val j c)))
  | 0 => rfl
  | m + 1 => by
    show toF (rsumN f val i c m ^^^ Gf.mul (f i m) (val m c)) = Lin.ad (Lin.fsum m _) _
    rw [toF_ad (rsumN_lt hf i c m) (Gf.mul_lt (hf i m) _), toF_rsum hf hv i c m, toF_mu (hf i m) (hv m c)]
/-- What k shards tell. -/
theorem told {X : List Nat} {k : Nat} (hX : Gf.Bytes X) (hn : X.Nodup) (hl : X.length = k) (hk : k ≤ 256) {u v : Nat → Nat → Nat} (hu : ∀ j c, u j c < 256) (hvb : ∀ j c, v j c < 256) (c : Nat) (hv : ∀ i, i < k → v i c = rsumN (facN k) u (Gf.nth X i) c k) (m : Nat) (hm : m < k) :
    rsumN (invN X) v m c k = u m c := by
  refine toF_inj (rsumN_lt (invN_lt X) _ _ _) (hu m c) ?_
  rw [toF_rsum (invN_lt X) hvb]
  have e1 : Lin.fsum k (fun j => Lin.mu (toF (invN X m j)) (toF (v j c))) = Lin.mm k (vecF (invN X)) (Lin.mm k (sprX k X) (fun j _ => toF (u j c))) m 0 := Lin.fsum_congr fun j hj => by
    rw [hv j hj, toF_rsum (facN_lt k) hu]
    rfl
  rw [e1, ← Lin.mm_assoc]
  have e2 : Lin.mm k (Lin.mm k (vecF (invN X)) (sprX k X)) (fun j _ => toF (u j c)) m 0 = Lin.mm k Lin.one (fun j _ => toF (u j c)) m 0 := Lin.mm_congr k (fun t ht => inv_left hX hn hl hk m t hm ht) (fun _ _ => rfl)
  rw [e2, Lin.one_mm k _ m 0 hm]
/-- Two that have the same bytes at k places are the same. -/
theorem told_same {X : List Nat} {k : Nat} (hX : Gf.Bytes X) (hn : X.Nodup) (hl : X.length = k) (hk : k ≤ 256) {u v : Nat → Nat → Nat} (hu : ∀ j c, u j c < 256) (hv : ∀ j c, v j c < 256) (c : Nat) (h : ∀ i, i < k → rsumN (facN k) u (Gf.nth X i) c k = rsumN (facN k) v (Gf.nth X i) c k) (m : Nat) (hm : m < k) : u m c = v m c := by
  have h1 := told hX hn hl hk (u := u) (v := fun i c => rsumN (facN k) u (Gf.nth X i) c k) hu (fun j c => rsumN_lt (facN_lt k) _ _ _) c (fun _ _ => rfl) m hm
  have h2 := told hX hn hl hk (u := v) (v := fun i c => rsumN (facN k) u (Gf.nth X i) c k) hv (fun j c => rsumN_lt (facN_lt k) _ _ _) c (fun i hi => h i hi) m hm
  rw [← h1, h2]
theorem rsumN_congr {f g val : Nat → Nat → Nat} {i c : Nat} : ∀ k, (∀ j, j < k → f i j = g i j) → rsumN f val i c k = rsumN g val i c k
  | 0, _ => rfl
  | k + 1, h => by
    show rsumN f val i c k ^^^ _ = rsumN g val i c k ^^^ _
    rw [rsumN_congr k (fun j hj => h j (by omega)), h k (by omega)]
theorem rsumN_vals {f u v : Nat → Nat → Nat} {i c : Nat} : ∀ k, (∀ j, j < k → u j c = v j c) → rsumN f u i c k = rsumN f v i c k
  | 0, _ => rfl
  | k + 1, h => by
    show rsumN f u i c k ^^^ _ = rsumN f v i c k ^^^ _
    rw [rsumN_vals k (fun j hj => h j (by omega)), h k (by omega)]
/-- Rows one behind the other. -/
def catN (g : Nat → Nat → Nat) (wd m : Nat) : List Nat := (List.range m).flatMap fun i => rowFn wd (g i)
theorem catN_succ (g : Nat → Nat → Nat) (wd m : Nat) : catN g wd (m + 1) = catN g wd m ++ rowFn wd (g m) := by simp [catN, List.range_succ]
theorem catN_length (g : Nat → Nat → Nat) (wd : Nat) : ∀ m, (catN g wd m).length = m * wd
  | 0 => by rw [Nat.zero_mul]; rfl
  | m + 1 => by rw [catN_succ, List.length_append, catN_length g wd m, rowFn_length, Nat.succ_mul]
theorem nth_append_lt {l r : List Nat} {p : Nat} (h : p < l.length) : Gf.nth (l ++ r) p = Gf.nth l p := by
  show (l ++ r).getD p 0 = l.getD p 0
  rw [List.getD_eq_getElem?_getD, List.getD_eq_getElem?_getD, List.getElem?_append_left h]
theorem nth_append_ge {l r : List Nat} {p : Nat} (h : l.length ≤ p) : Gf.nth (l ++ r) p = Gf.nth r (p - l.length) := by
  show (l ++ r).getD p 0 = r.getD (p - l.length) 0
  rw [List.getD_eq_getElem?_getD, List.getD_eq_getElem?_getD, List.getElem?_append_right h]
theorem catN_nth (g : Nat → Nat → Nat) (wd : Nat) : ∀ m p, p < m * wd → Gf.nth (catN g wd m) p = g (p / wd) (p % wd)
  | 0, p, h => by rw [Nat.zero_mul] at h; exact absurd h (Nat.not_lt_zero _)
  | m + 1, p, h => by
    rw [catN_succ]
    by_cases hp : p < m * wd
    · rw [nth_append_lt (by rw [catN_length]; exact hp)]
      exact catN_nth g wd m p hp
    · have hw : 0 < wd := by
        rcases Nat.eq_zero_or_pos wd with e | e
        · rw [e, Nat.mul_zero] at h; exact absurd h (Nat.not_lt_zero _)
        · exact e
      have hlt : p - m * wd < wd := by rw [Nat.succ_mul] at h; omega
      have hd : p = wd * m + (p - m * wd) := by rw [Nat.mul_comm wd m]; omega
      have h1 : p / wd = m := by
        have h0 : (wd * m + (p - m * wd)) / wd = m := by rw [Nat.mul_add_div hw, Nat.div_eq_of_lt hlt, Nat.add_zero]
        rw [← hd] at h0
        exact h0
      have h2 : p % wd = p - m * wd := by
        have := Nat.mod_add_div p wd
        rw [h1, Nat.mul_comm wd m] at this
        omega
      rw [nth_append_ge (by rw [catN_length]; omega), catN_length, nth_rowFn _ _ _ hlt, h1, h2]
theorem catN_take (g : Nat → Nat → Nat) (wd m size : Nat) (h : size ≤ m * wd) : (catN g wd m).take size = rowFn size fun p => g (p / wd) (p % wd) := by
  have hl : ((catN g wd m).take size).length = size := by rw [List.length_take, catN_length]; omega
  refine nth_ext (by rw [hl, rowFn_length]) fun p hp => ?_
  rw [hl] at hp
  rw [nth_rowFn _ _ p hp, ← catN_nth g wd m p (by omega)]
  show ((catN g wd m).take size).getD p 0 = (catN g wd m).getD p 0
  rw [List.getD_eq_getElem?_getD, List.getD_eq_getElem?_getD, List.getElem?_take_of_lt hp]
theorem catN_bytes {g : Nat → Nat → Nat} (hg : ∀ i c, g i c < 256) (wd m : Nat) : Gf.Bytes (catN g wd m) := fun p => by
  by_cases hp : p < m * wd
  · rw [catN_nth g wd m p hp]; exact hg _ _
  · rw [nth_past (by rw [catN_length]; omega)]; decide
def byteL (l : List Nat) : List UInt8 := l.map fun n => UInt8.ofNat n
theorem strOf_data (l : List Nat) : (strOf l).data.toList = byteL l := by
  unfold strOf byteL
  rw [strOfNums_data, List.map_map]
  rfl
theorem strOf_mk (l : List Nat) : strOf l = ⟨(byteL l).toArray⟩ := by
  unfold strOf strOfNums byteL
  rw [List.map_map]
  rfl
theorem join_empty (xs : List (List UInt8)) : Lib.join xs [] = xs.flatten := by
  cases xs with
  | nil => rfl
  | cons x r =>
    rw [Lib.join_cons]
    unfold Lib.joinTail
    simp
theorem join_rows (g : Nat → Nat → Nat) (wd m : Nat) : Lib.join (((List.range m).map fun i => strOf (rowFn wd (g i))).map (·.data.toList)) [] = byteL (catN g wd m) := by
  rw [join_empty, List.map_map]
  unfold catN byteL
  rw [List.map_flatMap, List.flatMap_def]
  congr 1
  exact List.map_congr_left fun i _ => strOf_data _
theorem strOf_take (l : List Nat) (size : Nat) : (⟨(byteL l).toArray⟩ : ByteArray).extract 0 size = strOf (l.take size) := by
  rw [ByteArray.extract_mk, strOf_mk]
  congr 2
  unfold byteL
  rw [List.drop_zero, Nat.sub_zero, List.map_take]
theorem wide_mul {k size : Nat} (hk : 1 ≤ k) : size ≤ k * wideN k size := by
  rcases Nat.lt_or_ge (wideN k size * k) size with h | h
  · exact absurd (wideN_lt hk h) (Nat.lt_irrefl _)
  · rw [Nat.mul_comm]; exact h
/-- The places of shards. -/
def atsN (so : List (Int × ByteArray)) : List Nat := so.map fun x => x.1.toNat
/-- Byte c of text j. -/
def txtN (so : List (Int × ByteArray)) : Nat → Nat → Nat := fun j c => Gf.nth (bytesOf (shAt so j).2) c
theorem txtN_lt (so : List (Int × ByteArray)) (j c : Nat) : txtN so j c < 256 := bytesOf_lt _ _
/-- What k shards tell, as a text. -/
def decT (k size : Nat) (so : List (Int × ByteArray)) : ByteArray := strOf (rowFn size fun p => rsumN (invN (atsN so)) (txtN so) (p / wideN k size) (p % wideN k size) k)
theorem decT_size (k size : Nat) (so : List (Int × ByteArray)) : (decT k size so).size = size := by
  unfold decT
  rw [strOf_size, rowFn_length]
theorem decT_bytes (k size : Nat) (so : List (Int × ByteArray)) : bytesOf (decT k size so) = rowFn size fun p => rsumN (invN (atsN so)) (txtN so) (p / wideN k size) (p % wideN k size) k := bytesOf_strOf (rowFn_bytes _ _ fun _ => rsumN_lt (invN_lt _) _ _ _)
/-- May it be a shard of an object of that size? -/
def fitB (n k : Nat) (size y : Int) (t : ByteArray) : Bool := decide (0 ≤ size ∧ size ≤ 1000 ∧ 0 ≤ y ∧ y < n ∧ t.size = wideN k size.toNat)
set_option maxRecDepth 10000 in
set_option maxHeartbeats 4000000 in
theorem cfits_any (n k : Nat) (size y : Int) (t : ByteArray) (w : World) (hk1 : 1 ≤ k) (hkn : k ≤ n) (hn : n ≤ 12) :
    Calls Tryz.prog 28 #[.int .i64 (n : Int), .int .i64 (k : Int), .int .i64 size, .agg #[.int .i64 y, .string t]] w fun e w' => e = .returned (.bool (fitB n k size y t)) ∧ Below w.heap.size w w' := by
  obtain ⟨w1, hw1⟩ : ∃ w1, w1 = w.alloc (.cells #[.int .i64 y, .string t] 49) := ⟨_, rfl⟩
  have HB1 : Hid (Below w.heap.size w w1) := by rw [hw1]; exact (Below.refl _ _).alloc (Nat.le_refl _) _
  have f0 : w1.cell? ⟨w.heap.size, 0, none⟩ = some (.int .i64 y) := by rw [hw1, World.cell?_alloc_at _ _ _ _ rfl]; rfl
  have f1 : w1.cell? ⟨w.heap.size, 1, none⟩ = some (.string t) := by rw [hw1, World.cell?_alloc_at _ _ _ _ rfl]; rfl
  have HW1 : Hid (w1 = w.alloc (.cells #[.int .i64 y, .string t] 49)) := hw1
  have HM : Hid (∀ W, Calls Tryz.prog 25 #[.int .i64 (n : Int), .int .i64 (k : Int)] W fun e w' => e = .returned (.bool true) ∧ w' = W) := fun W => by
    have h := mfits_any (n : Int) (k : Int) W
    rw [decide_eq_true (show (1 : Int) ≤ (k : Int) ∧ (k : Int) ≤ (n : Int) ∧ (n : Int) ≤ 12 by omega)] at h
    exact h
  clear hw1
  by_cases hs : 0 ≤ size ∧ size ≤ 1000
  · have HS : Hid (∀ W, Calls Tryz.prog 53 #[.int .i64 size] W fun e w' => e = .returned (.bool true) ∧ w' = W) := fun W => szfits_yes _ W hs
    by_cases h1 : 0 ≤ y
    · have d1 : decide (0 ≤ y) = true := decide_eq_true h1
      by_cases h2 : y < (n : Int)
      · have d2 : decide (y < (n : Int)) = true := decide_eq_true h2
        obtain ⟨s, rfl⟩ := Int.eq_ofNat_of_zero_le hs.1
        have HV : Hid (∀ W, Calls Tryz.prog 37 #[.int .i64 (s : Int), .int .i64 (k : Int)] W fun e w' => e = .returned (.int .i64 ((wideN k s : Nat) : Int)) ∧ w' = W) := fun W => width_any s k W hk1 (by omega) (by omega)
        have HR : Hid (fitB n k (s : Int) y t = ((t.size : Int) == ((wideN k s : Nat) : Int))) := by
          show _ = _
          unfold fitB
          rw [Int.toNat_natCast]
          by_cases h3 : t.size = wideN k s
          · rw [decide_eq_true ⟨hs.1, hs.2, h1, h2, h3⟩, h3]; simp
          · rw [decide_eq_false (fun h => h3 h.2.2.2.2)]
            symm
            rw [beq_eq_false_iff_ne]
            omega
        rw [HR.out]
        clear hs
        generalize wideN k s = wd at *
        go_enter Tryz.func28, Tryz.ntmps28
        go_wp2_with (rw [← HW1.out])
        go_quiet (first | (go_at_call 25; exact Calls.quiet_of_same (HM.out _)) | (go_at_call 53; exact Calls.quiet_of_same (HS.out _)) | (go_at_call 37; exact Calls.quiet_of_same (HV.out _)))
        go_wp2
        go_ret
        exact ⟨rfl, below_drewN HB1.out _⟩
      · have d2 : decide (y < (n : Int)) = false := decide_eq_false h2
        have HR : Hid (fitB n k size y t = false) := decide_eq_false fun h => h2 h.2.2.2.1
        rw [HR.out]
        clear hs h2
        go_enter Tryz.func28, Tryz.ntmps28
        go_wp2_with (rw [← HW1.out])
        go_quiet (first | (go_at_call 25; exact Calls.quiet_of_same (HM.out _)) | (go_at_call 53; exact Calls.quiet_of_same (HS.out _)))
        go_wp2
        go_ret
        exact ⟨rfl, below_drewN HB1.out _⟩
    · have d1 : decide (0 ≤ y) = false := decide_eq_false h1
      have HR : Hid (fitB n k size y t = false) := decide_eq_false fun h => h1 h.2.2.1
      rw [HR.out]
      clear hs h1
      go_enter Tryz.func28, Tryz.ntmps28
      go_wp2_with (rw [← HW1.out])
      go_quiet (first | (go_at_call 25; exact Calls.quiet_of_same (HM.out _)) | (go_at_call 53; exact Calls.quiet_of_same (HS.out _)))
      go_wp2
      go_ret
      exact ⟨rfl, below_drewN HB1.out _⟩
  · have HS : Hid (∀ W, Calls Tryz.prog 53 #[.int .i64 size] W fun e w' => e = .returned (.bool false) ∧ w' = W) := fun W => szfits_no _ W hs
    have HR : Hid (fitB n k size y t = false) := decide_eq_false fun h => hs ⟨h.1, h.2.1⟩
    rw [HR.out]
    clear hs
    go_enter Tryz.func28, Tryz.ntmps28
    go_wp2_with (rw [← HW1.out])
    go_quiet (first | (go_at_call 25; exact Calls.quiet_of_same (HM.out _)) | (go_at_call 53; exact Calls.quiet_of_same (HS.out _)))
    go_wp2
    go_ret
    exact ⟨rfl, below_drewN HB1.out _⟩
theorem fit_bad {n k size : Nat} {y : Int} {t : ByteArray} (hs : size ≤ 1000) : (!fitB n k (size : Int) y t) = badB (n : Int) (wideN k size) (y, t) := by
  unfold fitB badB
  rw [Int.toNat_natCast]
  by_cases h1 : y < 0
  · rw [decide_eq_false (fun h => by omega), decide_eq_true h1]; rfl
  · by_cases h2 : (n : Int) ≤ y
    · rw [decide_eq_false (fun h => by omega), decide_eq_true h2]; simp
    · by_cases h3 : t.size = wideN k size
      · rw [decide_eq_true ⟨by omega, by omega, by omega, by omega, h3⟩, decide_eq_false h1, decide_eq_false h2, decide_eq_true h3]; rfl
      · rw [decide_eq_false (fun h => h3 h.2.2.2.2), decide_eq_false h1, decide_eq_false h2, decide_eq_false h3]; rfl
set_option maxRecDepth 10000 in
theorem decode1_any (pn pk ps n k size : Nat) (y : Int) (t : ByteArray) (w : World) (hk1 : 1 ≤ k) (hkn : k ≤ n) (hn : n ≤ 12) (hs : size ≤ 1000) (h1 : w.cell? ⟨pn, 0, none⟩ = some (.int .i64 (n : Int))) (h2 : w.cell? ⟨pk, 0, none⟩ = some (.int .i64 (k : Int))) (h3 : w.cell? ⟨ps, 0, none⟩ = some (.int .i64 (size : Int))) :
    Calls Tryz.prog 33 (#[.agg #[.int .i64 y, .string t]] ++ #[.pointer (some ⟨pn, 0, none⟩), .pointer (some ⟨pk, 0, none⟩), .pointer (some ⟨ps, 0, none⟩)]) w fun e w2 => e = .returned (.bool (badB (n : Int) (wideN k size) (y, t))) ∧ Below w.heap.size w w2 := by
  have hl1 := lt_of_cell h1
  have hl2 := lt_of_cell h2
  have hl3 := lt_of_cell h3
  have HR : Hid ((!fitB n k (size : Int) y t) = badB (n : Int) (wideN k size) (y, t)) := fit_bad hs
  rw [← HR.out]
  obtain ⟨w1, hw1⟩ : ∃ w1, w1 = w.alloc (.cells #[.int .i64 y, .string t] 49) := ⟨_, rfl⟩
  have hb1 : Below w.heap.size w w1 := by rw [hw1]; exact (Below.refl _ _).alloc (Nat.le_refl _) _
  have HB1 : Hid (Below w.heap.size w w1) := hb1
  have f0 : w1.cell? ⟨w.heap.size, 0, none⟩ = some (.int .i64 y) := by rw [hw1, World.cell?_alloc_at _ _ _ _ rfl]; rfl
  have f1 : w1.cell? ⟨w.heap.size, 1, none⟩ = some (.string t) := by rw [hw1, World.cell?_alloc_at _ _ _ _ rfl]; rfl
  have g1 : w1.cell? ⟨pn, 0, none⟩ = some (.int .i64 (n : Int)) := (hb1.cell (p := ⟨pn, 0, none⟩) hl1).trans h1
  have g2 : w1.cell? ⟨pk, 0, none⟩ = some (.int .i64 (k : Int)) := (hb1.cell (p := ⟨pk, 0, none⟩) hl2).trans h2
  have g3 : w1.cell? ⟨ps, 0, none⟩ = some (.int .i64 (size : Int)) := (hb1.cell (p := ⟨ps, 0, none⟩) hl3).trans h3
  have HW1 : Hid (w1 = w.alloc (.cells #[.int .i64 y, .string t] 49)) := hw1
  have HC := cfits_any n k (size : Int) y t w1 hk1 hkn hn
  clear hw1 hb1 h1 h2 h3 HR
  generalize fitB n k (size : Int) y t = fb at *
  go_enter Tryz.func33, Tryz.ntmps33
  go_wp2_with (rw [← HW1.out])
  refine HC.mono ?_
  rintro e w2 ⟨rfl, hb2⟩
  have HB2 : Hid (Below w.heap.size w w2) := HB1.out.trans (hb2.mono HB1.out.size)
  clear HC hb2
  go_wp2
  go_ret
  exact ⟨rfl, HB2.out⟩
end Go.Proofs.YtpjeibicopgedaaGreatDoor
