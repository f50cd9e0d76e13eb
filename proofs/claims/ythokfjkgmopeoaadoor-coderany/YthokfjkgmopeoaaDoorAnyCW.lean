/- The walk of the law CoderAny: whatever the numbers and the text, the call returns true; nothing that was there is written. -/
import Derived.Test.YthokfjkgmopeoaaDoorPickM
import Derived.Test.YthokfjkgmopeoaaDoorSingleW
import Derived.Test.YthokfjkgmopeoaaDoorAnyB
namespace Go.Proofs.YthokfjkgmopeoaaDoor
open Go.RowKit
/-- Shards that were picked so far: those at the places X. -/
structure PickS (w : World) (B n k : Nat) (f : Nat → Int × ByteArray) (v : Value) (X : List Nat) : Prop where
  own : w.ownsRow B 34 2 v X.length (shVals (X.map f))
  nd : X.Nodup
  lt : ∀ x ∈ X, x < n
  le : X.length ≤ k
theorem PickS.shs {w : World} {B n k : Nat} {f : Nat → Int × ByteArray} {v : Value} {X : List Nat} (h : PickS w B n k f v X) : ∃ p c, v = .slice p X.length c ∧ Shs w p (X.map f) := by
  have ho : w.ownsRow B 34 2 v (X.map f).length (shVals (X.map f)) := by rw [List.length_map]; exact h.own
  obtain ⟨p, c, hv, hs⟩ := shs_of_own ho
  rw [List.length_map] at hv
  exact ⟨p, c, hv, hs⟩
theorem PickS.kept {w w' : World} {B n k : Nat} {f : Nat → Int × ByteArray} {v : Value} {X : List Nat} {row : Option Nat} (h : PickS w B n k f v X) (hg : w.grownBy w' row) (hne : ∀ g, row = some g → g < B) : PickS w' B n k f v X := by
  refine ⟨World.ownsRow.kept h.own hg ?_, h.nd, h.lt, h.le⟩
  cases hv : v.ownBlock with
  | none => exact Or.inl rfl
  | some g =>
    refine Or.inr (fun e => ?_)
    have := World.ownsRow.lt h.own g hv
    have := hne g e.symm
    omega
theorem PickS.snoc {w w' : World} {B n k : Nat} {f : Nat → Int × ByteArray} {v v' : Value} {X : List Nat} {x : Nat} (h : PickS w B n k f v X) (hx : x < n) (hnx : x ∉ X) (hlt : X.length < k) (hV : w'.ownsRow B 34 2 v' (X.length + 1) (shVals (X.map f) ++ [.int .i64 (f x).1, .string (f x).2])) : PickS w' B n k f v' (X ++ [x]) := by
  refine ⟨?_, ?_, ?_, by rw [List.length_append, List.length_singleton]; omega⟩
  · rw [List.map_append, List.map_singleton, shVals_snoc, List.length_append, List.length_singleton]
    exact hV
  · rw [List.nodup_append]
    refine ⟨h.nd, by simp, ?_⟩
    intro a ha b hb e
    rw [List.mem_singleton.1 hb] at e
    exact hnx (by rw [← e]; exact ha)
  · intro y hy
    rcases List.mem_append.1 hy with hy | hy
    · exact h.lt y hy
    · rw [List.mem_singleton.1 hy]; exact hx
theorem picked_ats (k : Nat) (s : ByteArray) (Y : List Nat) : atsN (Y.map (encS k s)) = Y := by
  unfold atsN
  rw [List.map_map]
  conv => rhs; rw [← List.map_id Y]
  exact List.map_congr_left fun x _ => rfl
theorem picked_fst (k : Nat) (s : ByteArray) {Y : List Nat} (h : Y.Nodup) : ((Y.map (encS k s)).map Prod.fst).Nodup := by
  rw [List.map_map]
  exact List.Pairwise.map (R := fun a b : Nat => a ≠ b) _ (fun a b hab e => hab (by have h2 : (a : Int) = (b : Int) := e; omega)) h
theorem picked_all {k : Nat} {s : ByteArray} {Y : List Nat} (hY : Y.length = k) (h : Y.Nodup) : pickN k (Y.map (encS k s)) (Y.map (encS k s)).length = Y.map (encS k s) := by
  rw [pickN_unlike (picked_fst k s h), List.take_of_length_le (by rw [List.length_map]; omega)]
theorem picked_fits {n k : Nat} {s : ByteArray} {Y : List Nat} (hY : Y.length = k) (h : Y.Nodup) (hlt : ∀ x ∈ Y, x < n) : Fits n k s.size (Y.map (encS k s)) where
  good := by
    rw [List.any_eq_false]
    intro x hx
    obtain ⟨i, hi, rfl⟩ := List.mem_map.1 hx
    have h1 := hlt i hi
    have h2 := encT_size k s i
    have h3 : (encS k s i).2.size = wideN k s.size := h2
    have h4 : (encS k s i).1 = (i : Int) := rfl
    unfold badB
    simp only [Bool.or_eq_true, decide_eq_true_eq, Bool.not_eq_true', decide_eq_false_iff_not]
    omega
  enough := by rw [picked_all hY h, List.length_map]; exact hY
theorem picked_at {k : Nat} {s : ByteArray} {Y : List Nat} {i : Nat} (h : i < Y.length) : shAt (Y.map (encS k s)) i = encS k s (Y[i]) := by
  rw [shAt_get (by rw [List.length_map]; exact h), List.getElem_map]
theorem picked_told {n k : Nat} {s : ByteArray} {Y : List Nat} (hk1 : 1 ≤ k) (hn : n ≤ 12) (hkn : k ≤ n) (hY : Y.length = k) (h : Y.Nodup) (hlt : ∀ x ∈ Y, x < n) : decT k s.size (Y.map (encS k s)) = s :=
  told_object (n := n) hk1 (by omega) (by rw [List.length_map]; exact hY) (by rw [picked_ats]; exact h) (fun i hi => by
    rw [picked_at (by omega)]
    exact ⟨hlt _ (List.getElem_mem _), rfl⟩) hkn
/-- All shards of an object: they tell it, and agree. -/
theorem all_told {n k : Nat} {s : ByteArray} (hk1 : 1 ≤ k) (hn : n ≤ 12) (hkn : k ≤ n) : decT k s.size (pickN k (encL n k s) (encL n k s).length) = s := by
  rw [encL_range, pickN_unlike (rangeL_nodup n _)]
  have ht : (rangeL n (encT k s)).take k = (List.range k).map (encS k s) := by
    unfold rangeL
    rw [← List.map_take, List.take_range, Nat.min_eq_left hkn]
    rfl
  rw [ht]
  exact picked_told hk1 hn hkn (by simp) List.nodup_range (fun x hx => by have := List.mem_range.1 hx; omega)
theorem all_agree (n k : Nat) (s : ByteArray) : (encL n k s).any (neB k s) = false := by
  rw [List.any_eq_false]
  intro x hx
  obtain ⟨i, _, rfl⟩ := List.mem_map.1 hx
  unfold neB
  simp [encS]
set_option maxRecDepth 10000 in
set_option maxHeartbeats 4000000 in
theorem anyC_pass (n k : Int) (s : ByteArray) (pp : Option Addr) (len cap : Nat) (at_ : Int) (z : Addr) (w : World) (hs : s.size ≤ maxLen) (hl : len ≤ maxLen) (h : ¬ (1 ≤ k ∧ k ≤ n ∧ n ≤ 12 ∧ s.size ≤ 100 ∧ len ≤ 40 ∧ 0 ≤ at_ ∧ at_ < n)) (hz : w.cell? ⟨11, 0, none⟩ = some (.iface 136 (.pointer (some z)))) :
    Calls Tryd.prog 5 #[.int .i64 n, .int .i64 k, .string s, .slice pp len cap, .int .i64 at_] w fun e w' => e = .returned (.bool true) ∧ Below w.heap.size w w' := by
  unfold maxLen at hs hl
  have HU := single_any z w hz
  clear hz
  have HH : Hid (¬ (1 ≤ k ∧ k ≤ n ∧ n ≤ 12 ∧ s.size ≤ 100 ∧ len ≤ 40 ∧ 0 ≤ at_ ∧ at_ < n)) := h
  clear h
  by_cases h98 : k < 1
  · go_enter Tryd.func5, Tryd.ntmps5
    go_wp2_with fail
    refine HU.mono ?_
    rintro e w1 ⟨rfl, hb1⟩
    clear HU
    go_wp2
    go_ret
    exact ⟨rfl, hb1⟩
  by_cases h34 : n < k
  · go_enter Tryd.func5, Tryd.ntmps5
    go_wp2_with fail
    refine HU.mono ?_
    rintro e w1 ⟨rfl, hb1⟩
    clear HU
    go_wp2
    go_ret
    exact ⟨rfl, hb1⟩
  by_cases h10 : n > 12
  · go_enter Tryd.func5, Tryd.ntmps5
    go_wp2_with fail
    refine HU.mono ?_
    rintro e w1 ⟨rfl, hb1⟩
    clear HU
    go_wp2
    go_ret
    exact ⟨rfl, hb1⟩
  by_cases h26 : 100 < s.size
  · go_enter Tryd.func5, Tryd.ntmps5
    go_wp2_with fail
    refine HU.mono ?_
    rintro e w1 ⟨rfl, hb1⟩
    clear HU
    go_wp2
    go_ret
    exact ⟨rfl, hb1⟩
  by_cases h25 : 40 < len
  · go_enter Tryd.func5, Tryd.ntmps5
    go_wp2_with fail
    refine HU.mono ?_
    rintro e w1 ⟨rfl, hb1⟩
    clear HU
    go_wp2
    go_ret
    exact ⟨rfl, hb1⟩
  by_cases h83 : at_ < 0
  · go_enter Tryd.func5, Tryd.ntmps5
    go_wp2_with fail
    refine HU.mono ?_
    rintro e w1 ⟨rfl, hb1⟩
    clear HU
    go_wp2
    go_ret
    exact ⟨rfl, hb1⟩
  have h9 : n ≤ at_ := Classical.byContradiction fun h9 => HH.out ⟨by omega, by omega, by omega, by omega, by omega, by omega, by omega⟩
  go_enter Tryd.func5, Tryd.ntmps5
  go_wp2_with fail
  refine HU.mono ?_
  rintro e w1 ⟨rfl, hb1⟩
  clear HU
  go_wp2
  go_ret
  exact ⟨rfl, hb1⟩
set_option maxRecDepth 10000 in
set_option maxHeartbeats 16000000 in
theorem anyC_in (n k : Nat) (s : ByteArray) (pp : Option Addr) (l : List Int) (cap a : Nat) (z : Addr) (w : World) (hk1 : 1 ≤ k) (hkn : k ≤ n) (hn : n ≤ 12) (hs : s.size ≤ 100) (hl : l.length ≤ 40) (han : a < n) (hp : Ints w pp l) (hlw : ∀ i, -9223372036854775808 ≤ l.getD i 0 ∧ l.getD i 0 < 9223372036854775808)
    (hz : w.cell? ⟨11, 0, none⟩ = some (.iface 136 (.pointer (some z)))) :
    Calls Tryd.prog 5 #[.int .i64 (n : Int), .int .i64 (k : Int), .string s, .slice pp l.length cap, .int .i64 (a : Int)] w fun e w' => e = .returned (.bool true) ∧ Below w.heap.size w w' := by
  obtain ⟨i1, hi1, hy0, hy1, hy2⟩ := info_parts shinfo
  obtain ⟨ib, hib, hb0, hb1', hb2'⟩ := info_parts boolinfo
  have HU := single_any z w hz
  have HZ : Hid (w.cell? ⟨11, 0, none⟩ = some (.iface 136 (.pointer (some z)))) := hz
  have HPI : Hid (Ints w pp l) := hp
  have HLW : Hid (∀ i, -9223372036854775808 ≤ l.getD i 0 ∧ l.getD i 0 < 9223372036854775808) := hlw
  have g1 : decide ((k : Int) < 1) = false := decide_eq_false (by omega)
  have g2 : decide (n < k) = false := decide_eq_false (by omega)
  have g3 : decide (12 < (n : Int)) = false := decide_eq_false (by omega)
  have g4 : decide (100 < (s.size : Int)) = false := decide_eq_false (by omega)
  have g5 : decide (40 < (l.length : Int)) = false := decide_eq_false (by omega)
  have g6 : decide ((a : Int) < 0) = false := decide_eq_false (by omega)
  have g7 : decide (n ≤ a) = false := decide_eq_false (by omega)
  clear hz hp hlw
  go_enter Tryd.func5, Tryd.ntmps5
  go_wp2_with fail
  refine HU.mono ?_
  rintro e w1 ⟨rfl, hb1⟩
  have HB1 : Hid (Below w.heap.size w w1) := hb1
  have HEN := encode_ok n k s z w1 hk1 hkn hn (by omega) ((hb1.cell (p := ⟨11, 0, none⟩) (lt_of_cell HZ.out)).trans HZ.out)
  clear hb1 HU
  go_wp2_with fail
  refine HEN.mono ?_
  rintro e w2 ⟨⟨g, hg, rfl, hr⟩, hb2⟩
  have HB2 : Hid (Below w.heap.size w w2) := HB1.out.trans (hb2.mono HB1.out.size)
  have hs2 : w.heap.size ≤ w2.heap.size := HB2.out.size
  have HR2 : Hid (ShRow w2 g n (encS k s)) := hr
  have hgl : g < w2.heap.size := World.rowIs.lt hr
  have HPI2 : Hid (Ints w2 pp l) := HPI.out.below HB2.out
  have HZ2 : Hid (w2.cell? ⟨11, 0, none⟩ = some (.iface 136 (.pointer (some z)))) := (HB2.out.cell (p := ⟨11, 0, none⟩) (lt_of_cell HZ.out)).trans HZ.out
  clear hb2 hr hg HEN HB1 HPI HZ
  go_wp2_with (first | (at_make; refine wpList_make_row _ rfl (.tmp 73) (.tmp 73) 46 rfl 4 ib (.bool false) Tryd.underlying46 hib hb0 hb1' rfl .i64 .i64 n rfl rfl (by rw [hb2']; omega) (by omega) ?_))
  obtain ⟨w3, hw3⟩ : ∃ w3, w3 = w2.alloc (.cells (madeCells #[.bool false] n) 4) := ⟨_, rfl⟩
  rw [← hw3]
  have HE3 : Hid (OwnE w3 4 w2.heap.size w2.heap.size n (fun _ => .bool false)) := by
    show OwnE _ _ _ _ _ _
    rw [hw3]
    exact OwnE.made w2 4 (.bool false) w2.heap.size n (Nat.le_refl _) (by omega)
  have HB3 : Hid (Below w2.heap.size w2 w3) := by
    show Below _ _ _
    rw [hw3]
    exact (Below.refl _ _).alloc (Nat.le_refl _) _
  have hs3 : w2.heap.size + 1 ≤ w3.heap.size := by rw [hw3]; simp
  clear hw3 hib hb0 hb1' hb2'
  go_loopw [14, 16] (fun v x wr => ∃ (i : Nat) (X : List Nat), i ≤ l.length ∧ x = .int .i64 i ∧ PickS wr (w2.heap.size + 1) n k (encS k s) v X ∧ OwnE wr 4 w2.heap.size w2.heap.size n (fun y => .bool (decide (y ∈ X))) ∧ Below w2.heap.size w2 wr ∧ w2.heap.size + 1 ≤ wr.heap.size) (fun _ x _ => l.length - (intOf x).toNat)
  case atStart => exact ⟨0, [], by omega, rfl, ⟨World.ownsRow_nil _ _ _ _, List.nodup_nil, fun x hx => by simp at hx, Nat.zero_le _⟩, HE3.out.congr (fun i _ => by simp), HB3.out, hs3⟩
  case round =>
    obtain ⟨i, X, hi, rfl, hP, hE, hB, hsz⟩ := hrel
    obtain ⟨w4, rfl⟩ : ∃ w4, w4 = wr := ⟨_, rfl⟩
    obtain ⟨pX, cX, rfl, _⟩ := hP.shs
    have HP : Hid (PickS w4 (w2.heap.size + 1) n k (encS k s) (.slice pX X.length cX) X) := hP
    have HE : Hid (OwnE w4 4 w2.heap.size w2.heap.size n (fun y => .bool (decide (y ∈ X)))) := hE
    have HB : Hid (Below w2.heap.size w2 w4) := hB
    have hXk : X.length ≤ k := hP.le
    clear hP hE hB HE3 HB3
    by_cases hil : i < l.length
    · by_cases hlt : X.length < k
      · rcases HPI2.out with h0 | ⟨bp, op, hpp, hbp, hcp⟩
        · rw [h0] at hil; simp at hil
        subst hpp
        have cp : w4.cell? ⟨bp, op + i, none⟩ = some (.int .i64 (l.getD i 0)) := (HB.out.cell (p := ⟨bp, op + i, none⟩) hbp).trans (hcp i hil)
        have lw := HLW.out i
        clear hcp
        generalize hy : l.getD i 0 = y at cp lw
        clear hy
        by_cases hin : 0 ≤ y ∧ y < n
        · obtain ⟨x, rfl⟩ := Int.eq_ofNat_of_zero_le hin.1
          have hxn : x < n := by omega
          have cu := HE.out.cell x hxn
          have fu : w4.frozen? ⟨w2.heap.size, x, none⟩ = false := HE.out.free x
          clear hin
          by_cases hxX : x ∈ X
          · rw [decide_eq_true hxX] at cu
            clear hxX
            go_wp2
            go_roundw
            case rel => exact ⟨i + 1, X, by omega, by go_num, HP.out, HE.out, HB.out, hsz⟩
            case measure => simp [intOf]; omega
          · rw [decide_eq_false hxX] at cu
            have HX : Hid (x ∉ X) := hxX
            clear hxX
            have gS : w4.grownBy (w4.setCell ⟨w2.heap.size, x, none⟩ (.bool true)) (some w2.heap.size) := grown_set _ _ _ _
            have HPS : Hid (PickS (w4.setCell ⟨w2.heap.size, x, none⟩ (.bool true)) (w2.heap.size + 1) n k (encS k s) (.slice pX X.length cX) X) := HP.out.kept gS (fun g hg => by have := Option.some.inj hg; omega)
            have HES : Hid (OwnE (w4.setCell ⟨w2.heap.size, x, none⟩ (.bool true)) 4 w2.heap.size w2.heap.size n (fun y => .bool (decide (y ∈ X ++ [x])))) := (HE.out.set x (.bool true)).congr (fun y _ => by
              by_cases e : y = x
              · simp [e]
              · simp [e])
            have HBS : Hid (Below w2.heap.size w2 (w4.setCell ⟨w2.heap.size, x, none⟩ (.bool true))) := HB.out.setCell (p := ⟨w2.heap.size, x, none⟩) (Nat.le_refl _) _
            have hszS : w2.heap.size + 1 ≤ (w4.setCell ⟨w2.heap.size, x, none⟩ (.bool true)).heap.size := by have := gS.size; omega
            have cpS : (w4.setCell ⟨w2.heap.size, x, none⟩ (.bool true)).cell? ⟨bp, op + i, none⟩ = some (.int .i64 (x : Int)) := gS.cell cp (by show some bp ≠ _; intro e; have := Option.some.inj e; omega)
            have cm1 : (w4.setCell ⟨w2.heap.size, x, none⟩ (.bool true)).cell? ⟨g, x * 2, none⟩ = some (.int .i64 (x : Int)) := (HR2.out.below HBS.out).at_ hxn
            have cm2 : (w4.setCell ⟨w2.heap.size, x, none⟩ (.bool true)).cell? ⟨g, x * 2 + 1, none⟩ = some (.string (encT k s x)) := (HR2.out.below HBS.out).text hxn
            have hsS : (w4.setCell ⟨w2.heap.size, x, none⟩ (.bool true)).heap.size = w4.heap.size := by simp [World.setCell]
            clear gS
            go_wp2_with (first | (at_builtin; refine wpList_append_own _ rfl (.tmp 116) (.tmp 124) 23 rfl (w2.heap.size + 1) 34 i1 (.agg #[.int .i64 0, .string ⟨#[]⟩]) 2 24 Tryd.underlying23 hi1 hy0 hy1 hy2 rfl (by decide) (.slice pX X.length cX) X.length (shVals (X.map (encS k s))) rfl (World.ownsRow.alloc HPS.out.own _) ⟨w4.heap.size, 0, none⟩ 1 1 [.int .i64 (x : Int), .string (encT k s x)] rfl rfl (fun j u hj => by match j, hj with | 0, hj => (simp at hj; subst hj; rw [Addr.add_lit, World.cell?_alloc_at _ _ _ _ hsS.symm]; rfl) | 1, hj => (simp at hj; subst hj; rw [Addr.add_lit, World.cell?_alloc_at _ _ _ _ hsS.symm]; rfl)) (fun u hu => by simp at hu; rcases hu with rfl | rfl <;> rfl) (by unfold maxLen; omega) (by omega) (by simp; omega) ?_; intro v' w7 hV' hg' _))
            have hP7 := HPS.out.snoc hxn HX.out hlt hV'
            have hE7 := HES.out.kept (w' := w7) (grown_trans (World.grownBy_alloc _ _ _) hg') (fun e => by have := World.ownsRow.lt HPS.out.own _ e; omega)
            have hB7 : Below w2.heap.size w2 w7 := HBS.out.grown (grown_trans (World.grownBy_alloc _ _ _) hg') (by omega) (fun g hg => by have := World.ownsRow.lt HPS.out.own _ hg; omega)
            have hs7 := hg'.size
            go_roundw
            case rel => exact ⟨i + 1, X ++ [x], by omega, by go_num, hP7, hE7, hB7, by simp at hs7; omega⟩
            case measure => simp [intOf]; omega
        · by_cases h0 : 0 ≤ y
          · have h1 : ¬ y < n := fun h1 => hin ⟨h0, h1⟩
            clear hin
            go_wp2
            go_roundw
            case rel => exact ⟨i + 1, X, by omega, by go_num, HP.out, HE.out, HB.out, hsz⟩
            case measure => simp [intOf]; omega
          · clear hin
            go_wp2
            go_roundw
            case rel => exact ⟨i + 1, X, by omega, by go_num, HP.out, HE.out, HB.out, hsz⟩
            case measure => simp [intOf]; omega
      · go_wp2
        go_loopw [14, 17] (fun v x wr => ∃ (j : Nat) (Y : List Nat), j ≤ n ∧ x = .int .i64 j ∧ PickS wr (w2.heap.size + 1) n k (encS k s) v Y ∧ (∀ y, y ∈ X → y ∈ Y) ∧ (∀ y, y ∈ Y → y ∈ X ∨ y < j) ∧ (∀ y, y < j → y ∈ Y) ∧ OwnE wr 4 w2.heap.size w2.heap.size n (fun y => .bool (decide (y ∈ X))) ∧ Below w2.heap.size w2 wr ∧ w2.heap.size + 1 ≤ wr.heap.size) (fun _ x _ => n - (intOf x).toNat)
        case atStart => exact ⟨0, X, by omega, rfl, HP.out, fun _ h => h, fun _ h => Or.inl h, fun y hy => absurd hy (Nat.not_lt_zero _), HE.out, HB.out, hsz⟩
        case round =>
          obtain ⟨j, Y, hj, rfl, hP, hXY, hYX, hall, hE, hB, hsz5⟩ := hrel
          obtain ⟨w5, rfl⟩ : ∃ w5, w5 = wr := ⟨_, rfl⟩
          obtain ⟨pY, cY, rfl, _⟩ := hP.shs
          have HPY : Hid (PickS w5 (w2.heap.size + 1) n k (encS k s) (.slice pY Y.length cY) Y) := hP
          have HXY : Hid (∀ y, y ∈ X → y ∈ Y) := hXY
          have HYX : Hid (∀ y, y ∈ Y → y ∈ X ∨ y < j) := hYX
          have HALL : Hid (∀ y, y < j → y ∈ Y) := hall
          have HEY : Hid (OwnE w5 4 w2.heap.size w2.heap.size n (fun y => .bool (decide (y ∈ X)))) := hE
          have HBY : Hid (Below w2.heap.size w2 w5) := hB
          have hYk : Y.length ≤ k := hP.le
          clear hP hXY hYX hall hE hB HP HE HB
          by_cases hjn : j < n
          · by_cases hlt2 : Y.length < k
            · have cu := HEY.out.cell j hjn
              have cm1 : w5.cell? ⟨g, j * 2, none⟩ = some (.int .i64 (j : Int)) := (HR2.out.below HBY.out).at_ hjn
              have cm2 : w5.cell? ⟨g, j * 2 + 1, none⟩ = some (.string (encT k s j)) := (HR2.out.below HBY.out).text hjn
              by_cases hjX : j ∈ X
              · rw [decide_eq_true hjX] at cu
                have HJ : Hid (j ∈ X) := hjX
                clear hjX
                go_wp2
                go_roundw
                case rel =>
                  refine ⟨j + 1, Y, by omega, by go_num, HPY.out, HXY.out, fun y hy => ?_, fun y hy => ?_, HEY.out, HBY.out, hsz5⟩
                  · rcases HYX.out y hy with h | h
                    · exact Or.inl h
                    · exact Or.inr (by omega)
                  · by_cases e : y = j
                    · rw [e]; exact HXY.out j HJ.out
                    · exact HALL.out y (by omega)
                case measure => simp [intOf]; omega
              · rw [decide_eq_false hjX] at cu
                have HJ : Hid (j ∉ Y) := fun h => by
                  rcases HYX.out j h with h' | h'
                  · exact hjX h'
                  · exact absurd h' (Nat.lt_irrefl _)
                clear hjX
                go_wp2_with (first | (at_builtin; refine wpList_append_own _ rfl (.tmp 142) (.tmp 147) 23 rfl (w2.heap.size + 1) 34 i1 (.agg #[.int .i64 0, .string ⟨#[]⟩]) 2 24 Tryd.underlying23 hi1 hy0 hy1 hy2 rfl (by decide) (.slice pY Y.length cY) Y.length (shVals (Y.map (encS k s))) rfl (World.ownsRow.alloc HPY.out.own _) ⟨w5.heap.size, 0, none⟩ 1 1 [.int .i64 (j : Int), .string (encT k s j)] rfl rfl (fun j u hj => by match j, hj with | 0, hj => (simp at hj; subst hj; simp [Addr.add]) | 1, hj => (simp at hj; subst hj; simp [Addr.add])) (fun u hu => by simp at hu; rcases hu with rfl | rfl <;> rfl) (by unfold maxLen; omega) (by omega) (by simp; omega) ?_; intro v' w7 hV' hg' _))
                have hP7 := HPY.out.snoc hjn HJ.out hlt2 hV'
                have hE7 := HEY.out.kept (w' := w7) (grown_trans (World.grownBy_alloc _ _ _) hg') (fun e => by have := World.ownsRow.lt HPY.out.own _ e; omega)
                have hB7 : Below w2.heap.size w2 w7 := HBY.out.grown (grown_trans (World.grownBy_alloc _ _ _) hg') (by omega) (fun g hg => by have := World.ownsRow.lt HPY.out.own _ hg; omega)
                have hs7 := hg'.size
                go_roundw
                case rel =>
                  refine ⟨j + 1, Y ++ [j], by omega, by go_num, hP7, fun y hy => List.mem_append_left _ (HXY.out y hy), fun y hy => ?_, fun y hy => ?_, hE7, hB7, by simp at hs7; omega⟩
                  · rcases List.mem_append.1 hy with h | h
                    · rcases HYX.out y h with h | h
                      · exact Or.inl h
                      · exact Or.inr (by omega)
                    · exact Or.inr (by rw [List.mem_singleton.1 h]; omega)
                  · by_cases e : y = j
                    · rw [e]; exact List.mem_append_right _ (List.mem_singleton.2 rfl)
                    · exact List.mem_append_left _ (HALL.out y (by omega))
                case measure => simp [intOf]; omega
            · have HYE : Hid (Y.length = k) := by show _ = _; omega
              obtain ⟨p9, c9, hpe, hsh⟩ := HPY.out.shs
              injection hpe with e1 e2 e3
              subst e1 e3
              clear e2
              have hzW : w5.cell? ⟨11, 0, none⟩ = some (.iface 136 (.pointer (some z))) := (HBY.out.cell (p := ⟨11, 0, none⟩) (lt_of_cell HZ2.out)).trans HZ2.out
              have HFIT : Hid (Fits n k s.size (Y.map (encS k s))) := picked_fits HYE.out HPY.out.nd HPY.out.lt
              have HPK : Hid (pickN k (Y.map (encS k s)) (Y.map (encS k s)).length = Y.map (encS k s)) := picked_all HYE.out HPY.out.nd
              have HTO : Hid (decT k s.size (Y.map (encS k s)) = s) := picked_told hk1 hn hkn HYE.out HPY.out.nd HPY.out.lt
              have hyk : Y.length ≤ 12 := by rw [HYE.out]; omega
              have HD := decode_ok n k s.size pY (Y.map (encS k s)) cY z w5 hk1 hkn hn (by omega) (by rw [List.length_map]; omega) HFIT.out hsh hzW
              rw [HPK.out, HTO.out, List.length_map] at HD
              have HSH : Hid (Shs w5 pY (Y.map (encS k s))) := hsh
              have HZW : Hid (w5.cell? ⟨11, 0, none⟩ = some (.iface 136 (.pointer (some z)))) := hzW
              have HBW : Hid (Below w.heap.size w w5) := HB2.out.trans (HBY.out.mono hs2)
              have HRW : Hid (ShRow w5 g n (encS k s)) := HR2.out.below HBY.out
              clear hsh hzW HEY HPY
              go_wp2_with fail
              refine HD.mono ?_
              rintro e w6 ⟨rfl, hb6⟩
              have HRB := rebuild_ok n k s.size a pY (Y.map (encS k s)) cY z w6 hk1 hkn hn (by omega) (by rw [List.length_map]; omega) han HFIT.out (HSH.out.below hb6) ((hb6.cell (p := ⟨11, 0, none⟩) (lt_of_cell HZW.out)).trans HZW.out)
              rw [HPK.out, HTO.out, List.length_map] at HRB
              have HB6 : Hid (Below w.heap.size w w6) := HBW.out.trans (hb6.mono HBW.out.size)
              have HZ6 : Hid (w6.cell? ⟨11, 0, none⟩ = some (.iface 136 (.pointer (some z)))) := (hb6.cell (p := ⟨11, 0, none⟩) (lt_of_cell HZW.out)).trans HZW.out
              have HR6 : Hid (ShRow w6 g n (encS k s)) := HRW.out.below hb6
              clear HD hb6 HZW HBW HRW
              go_wp2_with fail
              refine HRB.mono ?_
              rintro e w7 ⟨rfl, hb7⟩
              obtain ⟨w8, hw8⟩ : ∃ w8, w8 = w7.alloc (.cells #[.int .i64 (a : Int), .string (encT k s a)] 34) := ⟨_, rfl⟩
              have hb8 : Below w7.heap.size w7 w8 := by rw [hw8]; exact (Below.refl _ _).alloc (Nat.le_refl _) _
              have hs8 : w7.heap.size < w8.heap.size := by rw [hw8]; simp
              have x1 : w8.cell? ⟨w7.heap.size, 0, none⟩ = some (.int .i64 (a : Int)) := by rw [hw8, World.cell?_alloc_at _ _ _ _ rfl]; rfl
              have x2 : w8.cell? ⟨w7.heap.size, 1, none⟩ = some (.string (encT k s a)) := by rw [hw8, World.cell?_alloc_at _ _ _ _ rfl]; rfl
              have hb68 : Below w6.heap.size w6 w8 := hb7.trans (hb8.mono hb7.size)
              have HAG := agree_ok n k s.size (some ⟨g, 0, none⟩) (encL n k s) n z w8 hk1 hkn hn (by omega) (by rw [encL_range, rangeL_length]; omega) (by rw [encL_range]; exact rangeL_fits hkn (fun i _ => encT_size k s i)) (HR6.out.below hb68).shs ((hb68.cell (p := ⟨11, 0, none⟩) (lt_of_cell HZ6.out)).trans HZ6.out)
              rw [all_told hk1 hn hkn, all_agree, encL_range, rangeL_length] at HAG
              have HW8 : Hid (w8 = w7.alloc (.cells #[.int .i64 (a : Int), .string (encT k s a)] 34)) := hw8
              have HB8 : Hid (Below w.heap.size w w8) := HB6.out.trans (hb68.mono HB6.out.size)
              have HR8 : Hid (ShRow w8 g n (encS k s)) := HR6.out.below hb68
              have HX8 : Hid (∀ W, Below w8.heap.size w8 W → W.cell? ⟨w7.heap.size, 0, none⟩ = some (.int .i64 (a : Int)) ∧ W.cell? ⟨w7.heap.size, 1, none⟩ = some (.string (encT k s a)) ∧ W.cell? ⟨g, a * 2, none⟩ = some (.int .i64 (a : Int)) ∧ W.cell? ⟨g, a * 2 + 1, none⟩ = some (.string (encT k s a))) := fun W hW => ⟨(hW.cell (p := ⟨w7.heap.size, 0, none⟩) hs8).trans x1, (hW.cell (p := ⟨w7.heap.size, 1, none⟩) hs8).trans x2, (HR8.out.below hW).at_ han, (HR8.out.below hW).text han⟩
              clear HRB hb7 hw8 hb8 x1 x2 hb68
              go_wp2_with fail
              rw [← HW8.out]
              refine HAG.mono ?_
              rintro e w9 ⟨rfl, hb9⟩
              obtain ⟨y1, y2, y3, y4⟩ := HX8.out w9 hb9
              have HB9 : Hid (Below w.heap.size w w9) := HB8.out.trans (hb9.mono HB8.out.size)
              clear HAG hb9 HX8
              generalize encT k s a = ta at y2 y4
              go_wp2
              go_quiet (fail)
              go_wp2
              go_ret
              exact ⟨rfl, below_drewN HB9.out _⟩
          · have HYE : Hid (Y.length = k) := by
              show _ = _
              have hle := length_le_of_subset (List.range n) Y List.nodup_range (fun y hy => HALL.out y (by have := List.mem_range.1 hy; omega))
              rw [List.length_range] at hle
              omega
            obtain ⟨p9, c9, hpe, hsh⟩ := HPY.out.shs
            injection hpe with e1 e2 e3
            subst e1 e3
            clear e2
            have hzW : w5.cell? ⟨11, 0, none⟩ = some (.iface 136 (.pointer (some z))) := (HBY.out.cell (p := ⟨11, 0, none⟩) (lt_of_cell HZ2.out)).trans HZ2.out
            have HFIT : Hid (Fits n k s.size (Y.map (encS k s))) := picked_fits HYE.out HPY.out.nd HPY.out.lt
            have HPK : Hid (pickN k (Y.map (encS k s)) (Y.map (encS k s)).length = Y.map (encS k s)) := picked_all HYE.out HPY.out.nd
            have HTO : Hid (decT k s.size (Y.map (encS k s)) = s) := picked_told hk1 hn hkn HYE.out HPY.out.nd HPY.out.lt
            have hyk : Y.length ≤ 12 := by rw [HYE.out]; omega
            have HD := decode_ok n k s.size pY (Y.map (encS k s)) cY z w5 hk1 hkn hn (by omega) (by rw [List.length_map]; omega) HFIT.out hsh hzW
            rw [HPK.out, HTO.out, List.length_map] at HD
            have HSH : Hid (Shs w5 pY (Y.map (encS k s))) := hsh
            have HZW : Hid (w5.cell? ⟨11, 0, none⟩ = some (.iface 136 (.pointer (some z)))) := hzW
            have HBW : Hid (Below w.heap.size w w5) := HB2.out.trans (HBY.out.mono hs2)
            have HRW : Hid (ShRow w5 g n (encS k s)) := HR2.out.below HBY.out
            clear hsh hzW HEY HPY
            go_wp2_with fail
            refine HD.mono ?_
            rintro e w6 ⟨rfl, hb6⟩
            have HRB := rebuild_ok n k s.size a pY (Y.map (encS k s)) cY z w6 hk1 hkn hn (by omega) (by rw [List.length_map]; omega) han HFIT.out (HSH.out.below hb6) ((hb6.cell (p := ⟨11, 0, none⟩) (lt_of_cell HZW.out)).trans HZW.out)
            rw [HPK.out, HTO.out, List.length_map] at HRB
            have HB6 : Hid (Below w.heap.size w w6) := HBW.out.trans (hb6.mono HBW.out.size)
            have HZ6 : Hid (w6.cell? ⟨11, 0, none⟩ = some (.iface 136 (.pointer (some z)))) := (hb6.cell (p := ⟨11, 0, none⟩) (lt_of_cell HZW.out)).trans HZW.out
            have HR6 : Hid (ShRow w6 g n (encS k s)) := HRW.out.below hb6
            clear HD hb6 HZW HBW HRW
            go_wp2_with fail
            refine HRB.mono ?_
            rintro e w7 ⟨rfl, hb7⟩
            obtain ⟨w8, hw8⟩ : ∃ w8, w8 = w7.alloc (.cells #[.int .i64 (a : Int), .string (encT k s a)] 34) := ⟨_, rfl⟩
            have hb8 : Below w7.heap.size w7 w8 := by rw [hw8]; exact (Below.refl _ _).alloc (Nat.le_refl _) _
            have hs8 : w7.heap.size < w8.heap.size := by rw [hw8]; simp
            have x1 : w8.cell? ⟨w7.heap.size, 0, none⟩ = some (.int .i64 (a : Int)) := by rw [hw8, World.cell?_alloc_at _ _ _ _ rfl]; rfl
            have x2 : w8.cell? ⟨w7.heap.size, 1, none⟩ = some (.string (encT k s a)) := by rw [hw8, World.cell?_alloc_at _ _ _ _ rfl]; rfl
            have hb68 : Below w6.heap.size w6 w8 := hb7.trans (hb8.mono hb7.size)
            have HAG := agree_ok n k s.size (some ⟨g, 0, none⟩) (encL n k s) n z w8 hk1 hkn hn (by omega) (by rw [encL_range, rangeL_length]; omega) (by rw [encL_range]; exact rangeL_fits hkn (fun i _ => encT_size k s i)) (HR6.out.below hb68).shs ((hb68.cell (p := ⟨11, 0, none⟩) (lt_of_cell HZ6.out)).trans HZ6.out)
            rw [all_told hk1 hn hkn, all_agree, encL_range, rangeL_length] at HAG
            have HW8 : Hid (w8 = w7.alloc (.cells #[.int .i64 (a : Int), .string (encT k s a)] 34)) := hw8
            have HB8 : Hid (Below w.heap.size w w8) := HB6.out.trans (hb68.mono HB6.out.size)
            have HR8 : Hid (ShRow w8 g n (encS k s)) := HR6.out.below hb68
            have HX8 : Hid (∀ W, Below w8.heap.size w8 W → W.cell? ⟨w7.heap.size, 0, none⟩ = some (.int .i64 (a : Int)) ∧ W.cell? ⟨w7.heap.size, 1, none⟩ = some (.string (encT k s a)) ∧ W.cell? ⟨g, a * 2, none⟩ = some (.int .i64 (a : Int)) ∧ W.cell? ⟨g, a * 2 + 1, none⟩ = some (.string (encT k s a))) := fun W hW => ⟨(hW.cell (p := ⟨w7.heap.size, 0, none⟩) hs8).trans x1, (hW.cell (p := ⟨w7.heap.size, 1, none⟩) hs8).trans x2, (HR8.out.below hW).at_ han, (HR8.out.below hW).text han⟩
            clear HRB hb7 hw8 hb8 x1 x2 hb68
            go_wp2_with fail
            rw [← HW8.out]
            refine HAG.mono ?_
            rintro e w9 ⟨rfl, hb9⟩
            obtain ⟨y1, y2, y3, y4⟩ := HX8.out w9 hb9
            have HB9 : Hid (Below w.heap.size w w9) := HB8.out.trans (hb9.mono HB8.out.size)
            clear HAG hb9 HX8
            generalize encT k s a = ta at y2 y4
            go_wp2
            go_quiet (fail)
            go_wp2
            go_ret
            exact ⟨rfl, below_drewN HB9.out _⟩
    · go_wp2
      go_loopw [14, 17] (fun v x wr => ∃ (j : Nat) (Y : List Nat), j ≤ n ∧ x = .int .i64 j ∧ PickS wr (w2.heap.size + 1) n k (encS k s) v Y ∧ (∀ y, y ∈ X → y ∈ Y) ∧ (∀ y, y ∈ Y → y ∈ X ∨ y < j) ∧ (∀ y, y < j → y ∈ Y) ∧ OwnE wr 4 w2.heap.size w2.heap.size n (fun y => .bool (decide (y ∈ X))) ∧ Below w2.heap.size w2 wr ∧ w2.heap.size + 1 ≤ wr.heap.size) (fun _ x _ => n - (intOf x).toNat)
      case atStart => exact ⟨0, X, by omega, rfl, HP.out, fun _ h => h, fun _ h => Or.inl h, fun y hy => absurd hy (Nat.not_lt_zero _), HE.out, HB.out, hsz⟩
      case round =>
        obtain ⟨j, Y, hj, rfl, hP, hXY, hYX, hall, hE, hB, hsz5⟩ := hrel
        obtain ⟨w5, rfl⟩ : ∃ w5, w5 = wr := ⟨_, rfl⟩
        obtain ⟨pY, cY, rfl, _⟩ := hP.shs
        have HPY : Hid (PickS w5 (w2.heap.size + 1) n k (encS k s) (.slice pY Y.length cY) Y) := hP
        have HXY : Hid (∀ y, y ∈ X → y ∈ Y) := hXY
        have HYX : Hid (∀ y, y ∈ Y → y ∈ X ∨ y < j) := hYX
        have HALL : Hid (∀ y, y < j → y ∈ Y) := hall
        have HEY : Hid (OwnE w5 4 w2.heap.size w2.heap.size n (fun y => .bool (decide (y ∈ X)))) := hE
        have HBY : Hid (Below w2.heap.size w2 w5) := hB
        have hYk : Y.length ≤ k := hP.le
        clear hP hXY hYX hall hE hB HP HE HB
        by_cases hjn : j < n
        · by_cases hlt2 : Y.length < k
          · have cu := HEY.out.cell j hjn
            have cm1 : w5.cell? ⟨g, j * 2, none⟩ = some (.int .i64 (j : Int)) := (HR2.out.below HBY.out).at_ hjn
            have cm2 : w5.cell? ⟨g, j * 2 + 1, none⟩ = some (.string (encT k s j)) := (HR2.out.below HBY.out).text hjn
            by_cases hjX : j ∈ X
            · rw [decide_eq_true hjX] at cu
              have HJ : Hid (j ∈ X) := hjX
              clear hjX
              go_wp2
              go_roundw
              case rel =>
                refine ⟨j + 1, Y, by omega, by go_num, HPY.out, HXY.out, fun y hy => ?_, fun y hy => ?_, HEY.out, HBY.out, hsz5⟩
                · rcases HYX.out y hy with h | h
                  · exact Or.inl h
                  · exact Or.inr (by omega)
                · by_cases e : y = j
                  · rw [e]; exact HXY.out j HJ.out
                  · exact HALL.out y (by omega)
              case measure => simp [intOf]; omega
            · rw [decide_eq_false hjX] at cu
              have HJ : Hid (j ∉ Y) := fun h => by
                rcases HYX.out j h with h' | h'
                · exact hjX h'
                · exact absurd h' (Nat.lt_irrefl _)
              clear hjX
              go_wp2_with (first | (at_builtin; refine wpList_append_own _ rfl (.tmp 142) (.tmp 147) 23 rfl (w2.heap.size + 1) 34 i1 (.agg #[.int .i64 0, .string ⟨#[]⟩]) 2 24 Tryd.underlying23 hi1 hy0 hy1 hy2 rfl (by decide) (.slice pY Y.length cY) Y.length (shVals (Y.map (encS k s))) rfl (World.ownsRow.alloc HPY.out.own _) ⟨w5.heap.size, 0, none⟩ 1 1 [.int .i64 (j : Int), .string (encT k s j)] rfl rfl (fun j u hj => by match j, hj with | 0, hj => (simp at hj; subst hj; simp [Addr.add]) | 1, hj => (simp at hj; subst hj; simp [Addr.add])) (fun u hu => by simp at hu; rcases hu with rfl | rfl <;> rfl) (by unfold maxLen; omega) (by omega) (by simp; omega) ?_; intro v' w7 hV' hg' _))
              have hP7 := HPY.out.snoc hjn HJ.out hlt2 hV'
              have hE7 := HEY.out.kept (w' := w7) (grown_trans (World.grownBy_alloc _ _ _) hg') (fun e => by have := World.ownsRow.lt HPY.out.own _ e; omega)
              have hB7 : Below w2.heap.size w2 w7 := HBY.out.grown (grown_trans (World.grownBy_alloc _ _ _) hg') (by omega) (fun g hg => by have := World.ownsRow.lt HPY.out.own _ hg; omega)
              have hs7 := hg'.size
              go_roundw
              case rel =>
                refine ⟨j + 1, Y ++ [j], by omega, by go_num, hP7, fun y hy => List.mem_append_left _ (HXY.out y hy), fun y hy => ?_, fun y hy => ?_, hE7, hB7, by simp at hs7; omega⟩
                · rcases List.mem_append.1 hy with h | h
                  · rcases HYX.out y h with h | h
                    · exact Or.inl h
                    · exact Or.inr (by omega)
                  · exact Or.inr (by rw [List.mem_singleton.1 h]; omega)
                · by_cases e : y = j
                  · rw [e]; exact List.mem_append_right _ (List.mem_singleton.2 rfl)
                  · exact List.mem_append_left _ (HALL.out y (by omega))
              case measure => simp [intOf]; omega
          · have HYE : Hid (Y.length = k) := by show _ = _; omega
            obtain ⟨p9, c9, hpe, hsh⟩ := HPY.out.shs
            injection hpe with e1 e2 e3
            subst e1 e3
            clear e2
            have hzW : w5.cell? ⟨11, 0, none⟩ = some (.iface 136 (.pointer (some z))) := (HBY.out.cell (p := ⟨11, 0, none⟩) (lt_of_cell HZ2.out)).trans HZ2.out
            have HFIT : Hid (Fits n k s.size (Y.map (encS k s))) := picked_fits HYE.out HPY.out.nd HPY.out.lt
            have HPK : Hid (pickN k (Y.map (encS k s)) (Y.map (encS k s)).length = Y.map (encS k s)) := picked_all HYE.out HPY.out.nd
            have HTO : Hid (decT k s.size (Y.map (encS k s)) = s) := picked_told hk1 hn hkn HYE.out HPY.out.nd HPY.out.lt
            have hyk : Y.length ≤ 12 := by rw [HYE.out]; omega
            have HD := decode_ok n k s.size pY (Y.map (encS k s)) cY z w5 hk1 hkn hn (by omega) (by rw [List.length_map]; omega) HFIT.out hsh hzW
            rw [HPK.out, HTO.out, List.length_map] at HD
            have HSH : Hid (Shs w5 pY (Y.map (encS k s))) := hsh
            have HZW : Hid (w5.cell? ⟨11, 0, none⟩ = some (.iface 136 (.pointer (some z)))) := hzW
            have HBW : Hid (Below w.heap.size w w5) := HB2.out.trans (HBY.out.mono hs2)
            have HRW : Hid (ShRow w5 g n (encS k s)) := HR2.out.below HBY.out
            clear hsh hzW HEY HPY
            go_wp2_with fail
            refine HD.mono ?_
            rintro e w6 ⟨rfl, hb6⟩
            have HRB := rebuild_ok n k s.size a pY (Y.map (encS k s)) cY z w6 hk1 hkn hn (by omega) (by rw [List.length_map]; omega) han HFIT.out (HSH.out.below hb6) ((hb6.cell (p := ⟨11, 0, none⟩) (lt_of_cell HZW.out)).trans HZW.out)
            rw [HPK.out, HTO.out, List.length_map] at HRB
            have HB6 : Hid (Below w.heap.size w w6) := HBW.out.trans (hb6.mono HBW.out.size)
            have HZ6 : Hid (w6.cell? ⟨11, 0, none⟩ = some (.iface 136 (.pointer (some z)))) := (hb6.cell (p := ⟨11, 0, none⟩) (lt_of_cell HZW.out)).trans HZW.out
            have HR6 : Hid (ShRow w6 g n (encS k s)) := HRW.out.below hb6
            clear HD hb6 HZW HBW HRW
            go_wp2_with fail
            refine HRB.mono ?_
            rintro e w7 ⟨rfl, hb7⟩
            obtain ⟨w8, hw8⟩ : ∃ w8, w8 = w7.alloc (.cells #[.int .i64 (a : Int), .string (encT k s a)] 34) := ⟨_, rfl⟩
            have hb8 : Below w7.heap.size w7 w8 := by rw [hw8]; exact (Below.refl _ _).alloc (Nat.le_refl _) _
            have hs8 : w7.heap.size < w8.heap.size := by rw [hw8]; simp
            have x1 : w8.cell? ⟨w7.heap.size, 0, none⟩ = some (.int .i64 (a : Int)) := by rw [hw8, World.cell?_alloc_at _ _ _ _ rfl]; rfl
            have x2 : w8.cell? ⟨w7.heap.size, 1, none⟩ = some (.string (encT k s a)) := by rw [hw8, World.cell?_alloc_at _ _ _ _ rfl]; rfl
            have hb68 : Below w6.heap.size w6 w8 := hb7.trans (hb8.mono hb7.size)
            have HAG := agree_ok n k s.size (some ⟨g, 0, none⟩) (encL n k s) n z w8 hk1 hkn hn (by omega) (by rw [encL_range, rangeL_length]; omega) (by rw [encL_range]; exact rangeL_fits hkn (fun i _ => encT_size k s i)) (HR6.out.below hb68).shs ((hb68.cell (p := ⟨11, 0, none⟩) (lt_of_cell HZ6.out)).trans HZ6.out)
            rw [all_told hk1 hn hkn, all_agree, encL_range, rangeL_length] at HAG
            have HW8 : Hid (w8 = w7.alloc (.cells #[.int .i64 (a : Int), .string (encT k s a)] 34)) := hw8
            have HB8 : Hid (Below w.heap.size w w8) := HB6.out.trans (hb68.mono HB6.out.size)
            have HR8 : Hid (ShRow w8 g n (encS k s)) := HR6.out.below hb68
            have HX8 : Hid (∀ W, Below w8.heap.size w8 W → W.cell? ⟨w7.heap.size, 0, none⟩ = some (.int .i64 (a : Int)) ∧ W.cell? ⟨w7.heap.size, 1, none⟩ = some (.string (encT k s a)) ∧ W.cell? ⟨g, a * 2, none⟩ = some (.int .i64 (a : Int)) ∧ W.cell? ⟨g, a * 2 + 1, none⟩ = some (.string (encT k s a))) := fun W hW => ⟨(hW.cell (p := ⟨w7.heap.size, 0, none⟩) hs8).trans x1, (hW.cell (p := ⟨w7.heap.size, 1, none⟩) hs8).trans x2, (HR8.out.below hW).at_ han, (HR8.out.below hW).text han⟩
            clear HRB hb7 hw8 hb8 x1 x2 hb68
            go_wp2_with fail
            rw [← HW8.out]
            refine HAG.mono ?_
            rintro e w9 ⟨rfl, hb9⟩
            obtain ⟨y1, y2, y3, y4⟩ := HX8.out w9 hb9
            have HB9 : Hid (Below w.heap.size w w9) := HB8.out.trans (hb9.mono HB8.out.size)
            clear HAG hb9 HX8
            generalize encT k s a = ta at y2 y4
            go_wp2
            go_quiet (fail)
            go_wp2
            go_ret
            exact ⟨rfl, below_drewN HB9.out _⟩
        · have HYE : Hid (Y.length = k) := by
            show _ = _
            have hle := length_le_of_subset (List.range n) Y List.nodup_range (fun y hy => HALL.out y (by have := List.mem_range.1 hy; omega))
            rw [List.length_range] at hle
            omega
          obtain ⟨p9, c9, hpe, hsh⟩ := HPY.out.shs
          injection hpe with e1 e2 e3
          subst e1 e3
          clear e2
          have hzW : w5.cell? ⟨11, 0, none⟩ = some (.iface 136 (.pointer (some z))) := (HBY.out.cell (p := ⟨11, 0, none⟩) (lt_of_cell HZ2.out)).trans HZ2.out
          have HFIT : Hid (Fits n k s.size (Y.map (encS k s))) := picked_fits HYE.out HPY.out.nd HPY.out.lt
          have HPK : Hid (pickN k (Y.map (encS k s)) (Y.map (encS k s)).length = Y.map (encS k s)) := picked_all HYE.out HPY.out.nd
          have HTO : Hid (decT k s.size (Y.map (encS k s)) = s) := picked_told hk1 hn hkn HYE.out HPY.out.nd HPY.out.lt
          have hyk : Y.length ≤ 12 := by rw [HYE.out]; omega
          have HD := decode_ok n k s.size pY (Y.map (encS k s)) cY z w5 hk1 hkn hn (by omega) (by rw [List.length_map]; omega) HFIT.out hsh hzW
          rw [HPK.out, HTO.out, List.length_map] at HD
          have HSH : Hid (Shs w5 pY (Y.map (encS k s))) := hsh
          have HZW : Hid (w5.cell? ⟨11, 0, none⟩ = some (.iface 136 (.pointer (some z)))) := hzW
          have HBW : Hid (Below w.heap.size w w5) := HB2.out.trans (HBY.out.mono hs2)
          have HRW : Hid (ShRow w5 g n (encS k s)) := HR2.out.below HBY.out
          clear hsh hzW HEY HPY
          go_wp2_with fail
          refine HD.mono ?_
          rintro e w6 ⟨rfl, hb6⟩
          have HRB := rebuild_ok n k s.size a pY (Y.map (encS k s)) cY z w6 hk1 hkn hn (by omega) (by rw [List.length_map]; omega) han HFIT.out (HSH.out.below hb6) ((hb6.cell (p := ⟨11, 0, none⟩) (lt_of_cell HZW.out)).trans HZW.out)
          rw [HPK.out, HTO.out, List.length_map] at HRB
          have HB6 : Hid (Below w.heap.size w w6) := HBW.out.trans (hb6.mono HBW.out.size)
          have HZ6 : Hid (w6.cell? ⟨11, 0, none⟩ = some (.iface 136 (.pointer (some z)))) := (hb6.cell (p := ⟨11, 0, none⟩) (lt_of_cell HZW.out)).trans HZW.out
          have HR6 : Hid (ShRow w6 g n (encS k s)) := HRW.out.below hb6
          clear HD hb6 HZW HBW HRW
          go_wp2_with fail
          refine HRB.mono ?_
          rintro e w7 ⟨rfl, hb7⟩
          obtain ⟨w8, hw8⟩ : ∃ w8, w8 = w7.alloc (.cells #[.int .i64 (a : Int), .string (encT k s a)] 34) := ⟨_, rfl⟩
          have hb8 : Below w7.heap.size w7 w8 := by rw [hw8]; exact (Below.refl _ _).alloc (Nat.le_refl _) _
          have hs8 : w7.heap.size < w8.heap.size := by rw [hw8]; simp
          have x1 : w8.cell? ⟨w7.heap.size, 0, none⟩ = some (.int .i64 (a : Int)) := by rw [hw8, World.cell?_alloc_at _ _ _ _ rfl]; rfl
          have x2 : w8.cell? ⟨w7.heap.size, 1, none⟩ = some (.string (encT k s a)) := by rw [hw8, World.cell?_alloc_at _ _ _ _ rfl]; rfl
          have hb68 : Below w6.heap.size w6 w8 := hb7.trans (hb8.mono hb7.size)
          have HAG := agree_ok n k s.size (some ⟨g, 0, none⟩) (encL n k s) n z w8 hk1 hkn hn (by omega) (by rw [encL_range, rangeL_length]; omega) (by rw [encL_range]; exact rangeL_fits hkn (fun i _ => encT_size k s i)) (HR6.out.below hb68).shs ((hb68.cell (p := ⟨11, 0, none⟩) (lt_of_cell HZ6.out)).trans HZ6.out)
          rw [all_told hk1 hn hkn, all_agree, encL_range, rangeL_length] at HAG
          have HW8 : Hid (w8 = w7.alloc (.cells #[.int .i64 (a : Int), .string (encT k s a)] 34)) := hw8
          have HB8 : Hid (Below w.heap.size w w8) := HB6.out.trans (hb68.mono HB6.out.size)
          have HR8 : Hid (ShRow w8 g n (encS k s)) := HR6.out.below hb68
          have HX8 : Hid (∀ W, Below w8.heap.size w8 W → W.cell? ⟨w7.heap.size, 0, none⟩ = some (.int .i64 (a : Int)) ∧ W.cell? ⟨w7.heap.size, 1, none⟩ = some (.string (encT k s a)) ∧ W.cell? ⟨g, a * 2, none⟩ = some (.int .i64 (a : Int)) ∧ W.cell? ⟨g, a * 2 + 1, none⟩ = some (.string (encT k s a))) := fun W hW => ⟨(hW.cell (p := ⟨w7.heap.size, 0, none⟩) hs8).trans x1, (hW.cell (p := ⟨w7.heap.size, 1, none⟩) hs8).trans x2, (HR8.out.below hW).at_ han, (HR8.out.below hW).text han⟩
          clear HRB hb7 hw8 hb8 x1 x2 hb68
          go_wp2_with fail
          rw [← HW8.out]
          refine HAG.mono ?_
          rintro e w9 ⟨rfl, hb9⟩
          obtain ⟨y1, y2, y3, y4⟩ := HX8.out w9 hb9
          have HB9 : Hid (Below w.heap.size w w9) := HB8.out.trans (hb9.mono HB8.out.size)
          clear HAG hb9 HX8
          generalize encT k s a = ta at y2 y4
          go_wp2
          go_quiet (fail)
          go_wp2
          go_ret
          exact ⟨rfl, below_drewN HB9.out _⟩
theorem anyC_any (n k : Int) (s : ByteArray) (pp : Option Addr) (l : List Int) (cap : Nat) (at_ : Int) (z : Addr) (w : World) (hs : s.size ≤ maxLen) (hl : l.length ≤ maxLen) (hp : Ints w pp l) (hlw : ∀ i, -9223372036854775808 ≤ l.getD i 0 ∧ l.getD i 0 < 9223372036854775808)
    (hz : w.cell? ⟨11, 0, none⟩ = some (.iface 136 (.pointer (some z)))) :
    Calls Tryd.prog 5 #[.int .i64 n, .int .i64 k, .string s, .slice pp l.length cap, .int .i64 at_] w fun e w' => e = .returned (.bool true) ∧ Below w.heap.size w w' := by
  by_cases h : 1 ≤ k ∧ k ≤ n ∧ n ≤ 12 ∧ s.size ≤ 100 ∧ l.length ≤ 40 ∧ 0 ≤ at_ ∧ at_ < n
  · obtain ⟨k', rfl⟩ := Int.eq_ofNat_of_zero_le (show 0 ≤ k by omega)
    obtain ⟨n', rfl⟩ := Int.eq_ofNat_of_zero_le (show 0 ≤ n by omega)
    obtain ⟨a', rfl⟩ := Int.eq_ofNat_of_zero_le (show 0 ≤ at_ by omega)
    exact anyC_in n' k' s pp l cap a' z w (by omega) (by omega) (by omega) h.2.2.2.1 h.2.2.2.2.1 (by omega) hp hlw hz
  · exact anyC_pass n k s pp l.length cap at_ z w hs hl h hz
end Go.Proofs.YthokfjkgmopeoaaDoor
