/- The walk of the law MatrixAny: whatever the numbers, the call returns true; nothing that was there is written. -/
import Derived.Test.YtmlcbphcphpihaaDoorAnyB
namespace Go.Proofs.YtmlcbphcphpihaaDoor
open Go.RowKit
theorem picked_row0 {k : Nat} {X : List Nat} (h : 0 < X.length) : (rowOf (X.map (sprRow k)) 0).length = k := by
  unfold rowOf
  rw [List.getD_eq_getElem?_getD, List.getElem?_map, List.getElem?_eq_getElem h]
  exact rowFn_length _ _
theorem any_rank (p : Option Addr) (c n k : Nat) (X : List Nat) (z : Addr) (w : World) (hk1 : 1 ≤ k) (hk : k ≤ n) (hn : n ≤ 12) (hX : X.length = k) (hnd : X.Nodup) (hlt : ∀ x ∈ X, x < n) (h : Mat w p (X.map (sprRow k)))
    (hz : w.cell? ⟨1, 0, none⟩ = some (.iface 106 (.pointer (some z)))) :
    Calls Tryd.prog 17 #[.slice p X.length c] w fun e w' => e = .returned (.tuple #[.int .i64 (k : Int), .nilIface]) ∧ Below w.heap.size w w' := by
  have HR := rank_ok p (X.map (sprRow k)) c z w (picked_isMat hk1 (by omega) hX) (picked_bytes k X) h hz
  rw [List.length_map, picked_row0 (by omega)] at HR
  refine HR.mono ?_
  rintro e w' ⟨⟨d, rfl, hd⟩, hb⟩
  rw [hX] at hd
  rw [Lin.rank_unique hd (picked_rank hn hX hnd hlt hk)]
  exact ⟨rfl, hb⟩
theorem any_invert (p : Option Addr) (c n k : Nat) (X : List Nat) (z : Addr) (w : World) (hk1 : 1 ≤ k) (hk : k ≤ n) (hn : n ≤ 12) (hX : X.length = k) (hnd : X.Nodup) (hlt : ∀ x ∈ X, x < n) (h : Mat w p (X.map (sprRow k)))
    (hz : w.cell? ⟨1, 0, none⟩ = some (.iface 106 (.pointer (some z)))) :
    Calls Tryd.prog 16 #[.slice p X.length c] w fun e w' => (∃ v, e = .returned (.tuple #[v, .nilIface])) ∧ Below w.heap.size w w' := by
  have HR := invert_ok p (X.map (sprRow k)) c z w (picked_isMat hk1 (by omega) hX) (by rw [picked_row0 (by omega), List.length_map]; omega) (picked_bytes k X) h hz
  unfold Inverted at HR
  rw [List.length_map] at HR
  refine HR.mono ?_
  rintro e w' ⟨⟨d, hd, hcase⟩, hb⟩
  rw [hX] at hd hcase
  have hdk := Lin.rank_unique hd (picked_rank hn hX hnd hlt hk)
  rcases hcase with ⟨hl, _⟩ | ⟨_, gm, x, rfl, _⟩
  · omega
  · exact ⟨⟨_, rfl⟩, hb⟩
set_option maxRecDepth 10000 in
set_option maxHeartbeats 2000000 in
theorem anyLaw_out (n k : Int) (pp : Option Addr) (len cap : Nat) (z : Addr) (w : World) (hl : len < 2 ^ 63) (h : ¬ (1 ≤ k ∧ k ≤ n ∧ n ≤ 12 ∧ len ≤ 40))
    (hz : w.cell? ⟨1, 0, none⟩ = some (.iface 106 (.pointer (some z)))) :
    Calls Tryd.prog 6 #[.int .i64 n, .int .i64 k, .slice pp len cap] w fun e w' => e = .returned (.bool true) ∧ Below w.heap.size w w' := by
  have HU := unit_any z w hz
  clear hz
  by_cases h1 : 1 ≤ k
  · by_cases h2 : k ≤ n
    · by_cases h3 : n ≤ 12
      · have h4 : ¬ len ≤ 40 := fun h4 => h ⟨h1, h2, h3, h4⟩
        clear h
        go_enter Tryd.func6, Tryd.ntmps6
        go_wp2_with fail
        refine HU.mono ?_
        rintro e w1 ⟨rfl, hb1⟩
        go_wp2
        go_ret
        exact ⟨rfl, hb1⟩
      · clear h
        go_enter Tryd.func6, Tryd.ntmps6
        go_wp2_with fail
        refine HU.mono ?_
        rintro e w1 ⟨rfl, hb1⟩
        go_wp2
        go_ret
        exact ⟨rfl, hb1⟩
    · clear h
      go_enter Tryd.func6, Tryd.ntmps6
      go_wp2_with fail
      refine HU.mono ?_
      rintro e w1 ⟨rfl, hb1⟩
      go_wp2
      go_ret
      exact ⟨rfl, hb1⟩
  · clear h
    go_enter Tryd.func6, Tryd.ntmps6
    go_wp2_with fail
    refine HU.mono ?_
    rintro e w1 ⟨rfl, hb1⟩
    go_wp2
    go_ret
    exact ⟨rfl, hb1⟩
set_option maxRecDepth 10000 in
set_option maxHeartbeats 16000000 in
theorem anyLaw_in (n k : Nat) (pp : Option Addr) (l : List Int) (cap : Nat) (z : Addr) (w : World) (hk1 : 1 ≤ k) (hkn : k ≤ n) (hn : n ≤ 12) (hl : l.length ≤ 40) (hp : Ints w pp l) (hlw : ∀ i, -9223372036854775808 ≤ l.getD i 0 ∧ l.getD i 0 < 9223372036854775808)
    (hz : w.cell? ⟨1, 0, none⟩ = some (.iface 106 (.pointer (some z)))) :
    Calls Tryd.prog 6 #[.int .i64 (n : Int), .int .i64 (k : Int), .slice pp l.length cap] w fun e w' => e = .returned (.bool true) ∧ Below w.heap.size w w' := by
  obtain ⟨i1, hi1, hy0, hy1, hy2⟩ := info_parts rowinfo
  obtain ⟨ib, hib, hb0, hb1', hb2'⟩ := info_parts boolinfo
  have HU := unit_any z w hz
  have HZ : Hid (w.cell? ⟨1, 0, none⟩ = some (.iface 106 (.pointer (some z)))) := hz
  have HPI : Hid (Ints w pp l) := hp
  have HLW : Hid (∀ i, -9223372036854775808 ≤ l.getD i 0 ∧ l.getD i 0 < 9223372036854775808) := hlw
  clear hz hp hlw
  go_enter Tryd.func6, Tryd.ntmps6
  go_wp2_with fail
  refine HU.mono ?_
  rintro e w1 ⟨rfl, hb1⟩
  have HB1 : Hid (Below w.heap.size w w1) := hb1
  have hz1 : w1.cell? ⟨1, 0, none⟩ = some (.iface 106 (.pointer (some z))) := (hb1.cell (p := ⟨1, 0, none⟩) (lt_of_cell HZ.out)).trans HZ.out
  have HSP := spread_ok n k z w1 hk1 hkn hn hz1
  clear hb1 hz1 HU
  go_wp2_with fail
  refine HSP.mono ?_
  rintro e w2 ⟨⟨gm, rfl, hm2⟩, hb2⟩
  have HB2 : Hid (Below w.heap.size w w2) := HB1.out.trans (hb2.mono HB1.out.size)
  have hs2 : w.heap.size ≤ w2.heap.size := HB2.out.size
  obtain ⟨rb, ro, rc, hgm, hrows⟩ := spread_rows hm2 (by omega) hk1
  have HROWS : Hid (∀ i, i < n → w2.cell? ⟨gm, i, none⟩ = some (.slice (some ⟨rb i, ro i, none⟩) k (rc i)) ∧ Seg w2 (some ⟨rb i, ro i, none⟩) (sprRow k i)) := hrows
  have HPI2 : Hid (Ints w2 pp l) := HPI.out.below HB2.out
  have HZ2 : Hid (w2.cell? ⟨1, 0, none⟩ = some (.iface 106 (.pointer (some z)))) := (HB2.out.cell (p := ⟨1, 0, none⟩) (lt_of_cell HZ.out)).trans HZ.out
  clear hb2 hm2 hrows HSP HB1 HPI HZ
  go_wp2_with (first | (at_make; refine wpList_make_row _ rfl (.tmp 53) (.tmp 53) 46 rfl 4 ib (.bool false) Tryd.underlying46 hib hb0 hb1' rfl .i64 .i64 n rfl rfl (by rw [hb2']; omega) (by omega) ?_))
  obtain ⟨w3, hw3⟩ : ∃ w3, w3 = w2.alloc (.cells (madeCells #[.bool false] n) 4) := ⟨_, rfl⟩
  rw [← hw3]
  have HE3 : Hid (OwnE w3 4 w2.heap.size w2.heap.size n (fun _ => .bool false)) := by
    show OwnE _ _ _ _ _ _
    rw [hw3]
    exact OwnE.made w2 4 (.bool false) w2.heap.size n (Nat.le_refl _) (by omega)
  have HB3 : Hid (Below w2.heap.size w2 w3) := by
    show Below _ _ _
    rw [hw3]
    exact (Below.refl _ _).alloc (Nat.le_refl _) _
  have hs3 : w3.heap.size = w2.heap.size + 1 := by rw [hw3]; simp
  clear hw3 hib hb0 hb1' hb2'
  go_loopw [10, 12] (fun v x wr => ∃ (i : Nat) (X : List Nat), i ≤ l.length ∧ x = .int .i64 i ∧ Picked wr (w2.heap.size + 1) n k (fun x => .slice (some ⟨rb x, ro x, none⟩) k (rc x)) v X ∧ OwnE wr 4 w2.heap.size w2.heap.size n (fun y => .bool (decide (y ∈ X))) ∧ Below w2.heap.size w2 wr ∧ w2.heap.size + 1 ≤ wr.heap.size) (fun _ x _ => l.length - (intOf x).toNat)
  case atStart => exact ⟨0, [], by omega, rfl, ⟨OwnV.nil _ _ _, ⟨none, 0, rfl⟩, List.nodup_nil, fun x hx => by simp at hx, Nat.zero_le _⟩, HE3.out.congr (fun i _ => by simp), HB3.out, by omega⟩
  case round =>
    obtain ⟨i, X, hi, rfl, hP, hE, hB, hsz⟩ := hrel
    obtain ⟨w4, rfl⟩ : ∃ w4, w4 = wr := ⟨_, rfl⟩
    have HP : Hid (Picked w4 (w2.heap.size + 1) n k (fun x => .slice (some ⟨rb x, ro x, none⟩) k (rc x)) u10 X) := hP
    have HE : Hid (OwnE w4 4 w2.heap.size w2.heap.size n (fun y => .bool (decide (y ∈ X)))) := hE
    have HB : Hid (Below w2.heap.size w2 w4) := hB
    obtain ⟨pX, cX, rfl⟩ := hP.form
    have hXk : X.length ≤ k := hP.le
    clear hP hE hB HE3 HB3
    by_cases hil : i < l.length
    · by_cases hlt : X.length < k
      · rcases HPI2.out with h0 | ⟨bp, op, hpp, hbp, hcp⟩
        · rw [h0] at hil; simp at hil
        subst hpp
        have cp : w4.cell? ⟨bp, op + i, none⟩ = some (.int .i64 (l.getD i 0)) := (HB.out.cell (p := ⟨bp, op + i, none⟩) hbp).trans (hcp i hil)
        have lw := HLW.out i
        clear hcp
        generalize hy : l.getD i 0 = y at cp lw
        clear hy
        by_cases hin : 0 ≤ y ∧ y < n
        · obtain ⟨x, rfl⟩ := Int.eq_ofNat_of_zero_le hin.1
          have hxn : x < n := by omega
          have cu := HE.out.cell x hxn
          have fu : w4.frozen? ⟨w2.heap.size, x, none⟩ = false := HE.out.free x
          clear hin
          by_cases hxX : x ∈ X
          · rw [decide_eq_true hxX] at cu
            clear hxX
            go_wp2
            go_roundw
            case rel => exact ⟨i + 1, X, by omega, by go_num, HP.out, HE.out, HB.out, hsz⟩
            case measure => simp [intOf]; omega
          · rw [decide_eq_false hxX] at cu
            have HX : Hid (x ∉ X) := hxX
            clear hxX
            have gS : w4.grownBy (w4.setCell ⟨w2.heap.size, x, none⟩ (.bool true)) (some w2.heap.size) := grown_set _ _ _ _
            have HPS : Hid (Picked (w4.setCell ⟨w2.heap.size, x, none⟩ (.bool true)) (w2.heap.size + 1) n k (fun x => .slice (some ⟨rb x, ro x, none⟩) k (rc x)) (.slice pX X.length cX) X) := HP.out.kept gS (fun g hg => by have := Option.some.inj hg; omega)
            have HES : Hid (OwnE (w4.setCell ⟨w2.heap.size, x, none⟩ (.bool true)) 4 w2.heap.size w2.heap.size n (fun y => .bool (decide (y ∈ X ++ [x])))) := (HE.out.set x (.bool true)).congr (fun y _ => by
              by_cases e : y = x
              · simp [e]
              · simp [e])
            have HBS : Hid (Below w2.heap.size w2 (w4.setCell ⟨w2.heap.size, x, none⟩ (.bool true))) := HB.out.setCell (p := ⟨w2.heap.size, x, none⟩) (Nat.le_refl _) _
            have hszS : w2.heap.size + 1 ≤ (w4.setCell ⟨w2.heap.size, x, none⟩ (.bool true)).heap.size := by have := gS.size; omega
            have cpS : (w4.setCell ⟨w2.heap.size, x, none⟩ (.bool true)).cell? ⟨bp, op + i, none⟩ = some (.int .i64 (x : Int)) := gS.cell cp (by show some bp ≠ _; intro e; have := Option.some.inj e; omega)
            have cmS : (w4.setCell ⟨w2.heap.size, x, none⟩ (.bool true)).cell? ⟨gm, x, none⟩ = some (.slice (some ⟨rb x, ro x, none⟩) k (rc x)) := (HBS.out.cell (p := ⟨gm, x, none⟩) hgm).trans (HROWS.out x hxn).1
            have hsS : (w4.setCell ⟨w2.heap.size, x, none⟩ (.bool true)).heap.size = w4.heap.size := by simp [World.setCell]
            clear gS
            go_wp2_with (first | (at_builtin; refine wpList_append_val rfl (.tmp 96) (.tmp 104) 22 rfl (w2.heap.size + 1) 39 i1 (.slice none 0 0) 24 Tryd.underlying22 hi1 hy0 rfl hy1 hy2 (by decide) (.slice pX X.length cX) (X.map fun x => .slice (some ⟨rb x, ro x, none⟩) k (rc x)) rfl (HPS.out.own.kept (World.grownBy_alloc _ _ none) (by cases hv : (Value.slice pX X.length cX).ownBlock <;> simp)) ⟨w4.heap.size, 0, none⟩ 1 (.slice (some ⟨rb x, ro x, none⟩) k (rc x)) rfl rfl (by rw [World.cell?_alloc_at _ _ _ _ hsS.symm]; rfl) (by rw [List.length_map]; omega) (by simp; omega) ?_; intro v' w7 hV' hg' hw'))
            have hP7 := HPS.out.snoc hxn HX.out hlt hV'
            have hE7 := HES.out.kept (w' := w7) (grown_trans (World.grownBy_alloc _ _ _) hg') (fun e => by have := HPS.out.own.block e; omega)
            have hB7 : Below w2.heap.size w2 w7 := HBS.out.grown (grown_trans (World.grownBy_alloc _ _ _) hg') (by omega) (fun g hg => by have := HPS.out.own.block hg; omega)
            have hs7 := hg'.size
            go_roundw
            case rel => exact ⟨i + 1, X ++ [x], by omega, by go_num, hP7, hE7, hB7, by simp at hs7; omega⟩
            case measure => simp [intOf]; omega
        · by_cases h0 : 0 ≤ y
          · have h1 : ¬ y < n := fun h1 => hin ⟨h0, h1⟩
            clear hin
            go_wp2
            go_roundw
            case rel => exact ⟨i + 1, X, by omega, by go_num, HP.out, HE.out, HB.out, hsz⟩
            case measure => simp [intOf]; omega
          · clear hin
            go_wp2
            go_roundw
            case rel => exact ⟨i + 1, X, by omega, by go_num, HP.out, HE.out, HB.out, hsz⟩
            case measure => simp [intOf]; omega
      · go_wp2
        go_loopw [10, 13] (fun v x wr => ∃ (j : Nat) (Y : List Nat), j ≤ n ∧ x = .int .i64 j ∧ Picked wr (w2.heap.size + 1) n k (fun x => .slice (some ⟨rb x, ro x, none⟩) k (rc x)) v Y ∧ (∀ y, y ∈ X → y ∈ Y) ∧ (∀ y, y ∈ Y → y ∈ X ∨ y < j) ∧ (∀ y, y < j → y ∈ Y) ∧ OwnE wr 4 w2.heap.size w2.heap.size n (fun y => .bool (decide (y ∈ X))) ∧ Below w2.heap.size w2 wr ∧ w2.heap.size + 1 ≤ wr.heap.size) (fun _ x _ => n - (intOf x).toNat)
        case atStart => exact ⟨0, X, by omega, rfl, HP.out, fun _ h => h, fun _ h => Or.inl h, fun y hy => absurd hy (Nat.not_lt_zero _), HE.out, HB.out, hsz⟩
        case round =>
          obtain ⟨j, Y, hj, rfl, hP, hXY, hYX, hall, hE, hB, hsz5⟩ := hrel
          obtain ⟨w5, rfl⟩ : ∃ w5, w5 = wr := ⟨_, rfl⟩
          have HPY : Hid (Picked w5 (w2.heap.size + 1) n k (fun x => .slice (some ⟨rb x, ro x, none⟩) k (rc x)) u10 Y) := hP
          have HXY : Hid (∀ y, y ∈ X → y ∈ Y) := hXY
          have HYX : Hid (∀ y, y ∈ Y → y ∈ X ∨ y < j) := hYX
          have HALL : Hid (∀ y, y < j → y ∈ Y) := hall
          have HEY : Hid (OwnE w5 4 w2.heap.size w2.heap.size n (fun y => .bool (decide (y ∈ X)))) := hE
          have HBY : Hid (Below w2.heap.size w2 w5) := hB
          obtain ⟨pY, cY, rfl⟩ := hP.form
          have hYk : Y.length ≤ k := hP.le
          clear hP hXY hYX hall hE hB HP HE HB
          by_cases hjn : j < n
          · by_cases hlt2 : Y.length < k
            · have cu := HEY.out.cell j hjn
              have cm : w5.cell? ⟨gm, j, none⟩ = some (.slice (some ⟨rb j, ro j, none⟩) k (rc j)) := (HBY.out.cell (p := ⟨gm, j, none⟩) hgm).trans (HROWS.out j hjn).1
              by_cases hjX : j ∈ X
              · rw [decide_eq_true hjX] at cu
                have HJ : Hid (j ∈ X) := hjX
                clear hjX
                go_wp2
                go_roundw
                case rel =>
                  refine ⟨j + 1, Y, by omega, by go_num, HPY.out, HXY.out, fun y hy => ?_, fun y hy => ?_, HEY.out, HBY.out, hsz5⟩
                  · rcases HYX.out y hy with h | h
                    · exact Or.inl h
                    · exact Or.inr (by omega)
                  · by_cases e : y = j
                    · rw [e]; exact HXY.out j HJ.out
                    · exact HALL.out y (by omega)
                case measure => simp [intOf]; omega
              · rw [decide_eq_false hjX] at cu
                have HJ : Hid (j ∉ Y) := fun h => by
                  rcases HYX.out j h with h' | h'
                  · exact hjX h'
                  · exact absurd h' (Nat.lt_irrefl _)
                clear hjX
                go_wp2_with (first | (at_builtin; refine wpList_append_val rfl (.tmp 122) (.tmp 127) 22 rfl (w2.heap.size + 1) 39 i1 (.slice none 0 0) 24 Tryd.underlying22 hi1 hy0 rfl hy1 hy2 (by decide) (.slice pY Y.length cY) (Y.map fun x => .slice (some ⟨rb x, ro x, none⟩) k (rc x)) rfl (HPY.out.own.kept (World.grownBy_alloc _ _ none) (by cases hv : (Value.slice pY Y.length cY).ownBlock <;> simp)) ⟨w5.heap.size, 0, none⟩ 1 (.slice (some ⟨rb j, ro j, none⟩) k (rc j)) rfl rfl (by simp) (by rw [List.length_map]; omega) (by simp; omega) ?_; intro v' w7 hV' hg' hw'))
                have hP7 := HPY.out.snoc hjn HJ.out hlt2 hV'
                have hE7 := HEY.out.kept (w' := w7) (grown_trans (World.grownBy_alloc _ _ _) hg') (fun e => by have := HPY.out.own.block e; omega)
                have hB7 : Below w2.heap.size w2 w7 := HBY.out.grown (grown_trans (World.grownBy_alloc _ _ _) hg') (by omega) (fun g hg => by have := HPY.out.own.block hg; omega)
                have hs7 := hg'.size
                go_roundw
                case rel =>
                  refine ⟨j + 1, Y ++ [j], by omega, by go_num, hP7, fun y hy => List.mem_append_left _ (HXY.out y hy), fun y hy => ?_, fun y hy => ?_, hE7, hB7, by simp at hs7; omega⟩
                  · rcases List.mem_append.1 hy with h | h
                    · rcases HYX.out y h with h | h
                      · exact Or.inl h
                      · exact Or.inr (by omega)
                    · exact Or.inr (by rw [List.mem_singleton.1 h]; omega)
                  · by_cases e : y = j
                    · rw [e]; exact List.mem_append_right _ (List.mem_singleton.2 rfl)
                    · exact List.mem_append_left _ (HALL.out y (by omega))
                case measure => simp [intOf]; omega
            · have hYe : Y.length = k := by omega
              obtain ⟨p5, c5, hpe, hmY⟩ := HPY.out.mat (by omega) (fun x hx => (HROWS.out x hx).2.below HBY.out)
              injection hpe with e1 _ e3
              subst e1 e3
              have hz5 : w5.cell? ⟨1, 0, none⟩ = some (.iface 106 (.pointer (some z))) := (HBY.out.cell (p := ⟨1, 0, none⟩) (lt_of_cell HZ2.out)).trans HZ2.out
              have HR := any_rank pY cY n k Y z w5 hk1 hkn hn hYe HPY.out.nd HPY.out.lt hmY hz5
              have HMY : Hid (Mat w5 pY (Y.map (sprRow k))) := hmY
              have HZ5 : Hid (w5.cell? ⟨1, 0, none⟩ = some (.iface 106 (.pointer (some z)))) := hz5
              have HYE : Hid (Y.length = k) := hYe
              clear hmY hz5 hYe
              go_wp2_with fail
              refine HR.mono ?_
              rintro e w6 ⟨rfl, hb6⟩
              have HI := any_invert pY cY n k Y z w6 hk1 hkn hn HYE.out HPY.out.nd HPY.out.lt (HMY.out.below hb6) ((hb6.cell (p := ⟨1, 0, none⟩) (lt_of_cell HZ5.out)).trans HZ5.out)
              have HB6 : Hid (Below w.heap.size w w6) := HB2.out.trans ((HBY.out.trans (hb6.mono HBY.out.size)).mono hs2)
              clear HR hb6
              go_wp2_with fail
              refine HI.mono ?_
              rintro e w7 ⟨⟨vI, rfl⟩, hb7⟩
              clear HI
              go_wp2
              go_ret
              exact ⟨rfl, HB6.out.trans (hb7.mono HB6.out.size)⟩
          · have hYe : Y.length = k := by
              have hle := length_le_of_subset (List.range n) Y List.nodup_range (fun y hy => HALL.out y (by have := List.mem_range.1 hy; omega))
              rw [List.length_range] at hle
              omega
            obtain ⟨p5, c5, hpe, hmY⟩ := HPY.out.mat (by omega) (fun x hx => (HROWS.out x hx).2.below HBY.out)
            injection hpe with e1 _ e3
            subst e1 e3
            have hz5 : w5.cell? ⟨1, 0, none⟩ = some (.iface 106 (.pointer (some z))) := (HBY.out.cell (p := ⟨1, 0, none⟩) (lt_of_cell HZ2.out)).trans HZ2.out
            have HR := any_rank pY cY n k Y z w5 hk1 hkn hn hYe HPY.out.nd HPY.out.lt hmY hz5
            have HMY : Hid (Mat w5 pY (Y.map (sprRow k))) := hmY
            have HZ5 : Hid (w5.cell? ⟨1, 0, none⟩ = some (.iface 106 (.pointer (some z)))) := hz5
            have HYE : Hid (Y.length = k) := hYe
            clear hmY hz5 hYe
            go_wp2_with fail
            refine HR.mono ?_
            rintro e w6 ⟨rfl, hb6⟩
            have HI := any_invert pY cY n k Y z w6 hk1 hkn hn HYE.out HPY.out.nd HPY.out.lt (HMY.out.below hb6) ((hb6.cell (p := ⟨1, 0, none⟩) (lt_of_cell HZ5.out)).trans HZ5.out)
            have HB6 : Hid (Below w.heap.size w w6) := HB2.out.trans ((HBY.out.trans (hb6.mono HBY.out.size)).mono hs2)
            clear HR hb6
            go_wp2_with fail
            refine HI.mono ?_
            rintro e w7 ⟨⟨vI, rfl⟩, hb7⟩
            clear HI
            go_wp2
            go_ret
            exact ⟨rfl, HB6.out.trans (hb7.mono HB6.out.size)⟩
    · go_wp2
      go_loopw [10, 13] (fun v x wr => ∃ (j : Nat) (Y : List Nat), j ≤ n ∧ x = .int .i64 j ∧ Picked wr (w2.heap.size + 1) n k (fun x => .slice (some ⟨rb x, ro x, none⟩) k (rc x)) v Y ∧ (∀ y, y ∈ X → y ∈ Y) ∧ (∀ y, y ∈ Y → y ∈ X ∨ y < j) ∧ (∀ y, y < j → y ∈ Y) ∧ OwnE wr 4 w2.heap.size w2.heap.size n (fun y => .bool (decide (y ∈ X))) ∧ Below w2.heap.size w2 wr ∧ w2.heap.size + 1 ≤ wr.heap.size) (fun _ x _ => n - (intOf x).toNat)
      case atStart => exact ⟨0, X, by omega, rfl, HP.out, fun _ h => h, fun _ h => Or.inl h, fun y hy => absurd hy (Nat.not_lt_zero _), HE.out, HB.out, hsz⟩
      case round =>
        obtain ⟨j, Y, hj, rfl, hP, hXY, hYX, hall, hE, hB, hsz5⟩ := hrel
        obtain ⟨w5, rfl⟩ : ∃ w5, w5 = wr := ⟨_, rfl⟩
        have HPY : Hid (Picked w5 (w2.heap.size + 1) n k (fun x => .slice (some ⟨rb x, ro x, none⟩) k (rc x)) u10 Y) := hP
        have HXY : Hid (∀ y, y ∈ X → y ∈ Y) := hXY
        have HYX : Hid (∀ y, y ∈ Y → y ∈ X ∨ y < j) := hYX
        have HALL : Hid (∀ y, y < j → y ∈ Y) := hall
        have HEY : Hid (OwnE w5 4 w2.heap.size w2.heap.size n (fun y => .bool (decide (y ∈ X)))) := hE
        have HBY : Hid (Below w2.heap.size w2 w5) := hB
        obtain ⟨pY, cY, rfl⟩ := hP.form
        have hYk : Y.length ≤ k := hP.le
        clear hP hXY hYX hall hE hB HP HE HB
        by_cases hjn : j < n
        · by_cases hlt2 : Y.length < k
          · have cu := HEY.out.cell j hjn
            have cm : w5.cell? ⟨gm, j, none⟩ = some (.slice (some ⟨rb j, ro j, none⟩) k (rc j)) := (HBY.out.cell (p := ⟨gm, j, none⟩) hgm).trans (HROWS.out j hjn).1
            by_cases hjX : j ∈ X
            · rw [decide_eq_true hjX] at cu
              have HJ : Hid (j ∈ X) := hjX
              clear hjX
              go_wp2
              go_roundw
              case rel =>
                refine ⟨j + 1, Y, by omega, by go_num, HPY.out, HXY.out, fun y hy => ?_, fun y hy => ?_, HEY.out, HBY.out, hsz5⟩
                · rcases HYX.out y hy with h | h
                  · exact Or.inl h
                  · exact Or.inr (by omega)
                · by_cases e : y = j
                  · rw [e]; exact HXY.out j HJ.out
                  · exact HALL.out y (by omega)
              case measure => simp [intOf]; omega
            · rw [decide_eq_false hjX] at cu
              have HJ : Hid (j ∉ Y) := fun h => by
                rcases HYX.out j h with h' | h'
                · exact hjX h'
                · exact absurd h' (Nat.lt_irrefl _)
              clear hjX
              go_wp2_with (first | (at_builtin; refine wpList_append_val rfl (.tmp 122) (.tmp 127) 22 rfl (w2.heap.size + 1) 39 i1 (.slice none 0 0) 24 Tryd.underlying22 hi1 hy0 rfl hy1 hy2 (by decide) (.slice pY Y.length cY) (Y.map fun x => .slice (some ⟨rb x, ro x, none⟩) k (rc x)) rfl (HPY.out.own.kept (World.grownBy_alloc _ _ none) (by cases hv : (Value.slice pY Y.length cY).ownBlock <;> simp)) ⟨w5.heap.size, 0, none⟩ 1 (.slice (some ⟨rb j, ro j, none⟩) k (rc j)) rfl rfl (by simp) (by rw [List.length_map]; omega) (by simp; omega) ?_; intro v' w7 hV' hg' hw'))
              have hP7 := HPY.out.snoc hjn HJ.out hlt2 hV'
              have hE7 := HEY.out.kept (w' := w7) (grown_trans (World.grownBy_alloc _ _ _) hg') (fun e => by have := HPY.out.own.block e; omega)
              have hB7 : Below w2.heap.size w2 w7 := HBY.out.grown (grown_trans (World.grownBy_alloc _ _ _) hg') (by omega) (fun g hg => by have := HPY.out.own.block hg; omega)
              have hs7 := hg'.size
              go_roundw
              case rel =>
                refine ⟨j + 1, Y ++ [j], by omega, by go_num, hP7, fun y hy => List.mem_append_left _ (HXY.out y hy), fun y hy => ?_, fun y hy => ?_, hE7, hB7, by simp at hs7; omega⟩
                · rcases List.mem_append.1 hy with h | h
                  · rcases HYX.out y h with h | h
                    · exact Or.inl h
                    · exact Or.inr (by omega)
                  · exact Or.inr (by rw [List.mem_singleton.1 h]; omega)
                · by_cases e : y = j
                  · rw [e]; exact List.mem_append_right _ (List.mem_singleton.2 rfl)
                  · exact List.mem_append_left _ (HALL.out y (by omega))
              case measure => simp [intOf]; omega
          · have hYe : Y.length = k := by omega
            obtain ⟨p5, c5, hpe, hmY⟩ := HPY.out.mat (by omega) (fun x hx => (HROWS.out x hx).2.below HBY.out)
            injection hpe with e1 _ e3
            subst e1 e3
            have hz5 : w5.cell? ⟨1, 0, none⟩ = some (.iface 106 (.pointer (some z))) := (HBY.out.cell (p := ⟨1, 0, none⟩) (lt_of_cell HZ2.out)).trans HZ2.out
            have HR := any_rank pY cY n k Y z w5 hk1 hkn hn hYe HPY.out.nd HPY.out.lt hmY hz5
            have HMY : Hid (Mat w5 pY (Y.map (sprRow k))) := hmY
            have HZ5 : Hid (w5.cell? ⟨1, 0, none⟩ = some (.iface 106 (.pointer (some z)))) := hz5
            have HYE : Hid (Y.length = k) := hYe
            clear hmY hz5 hYe
            go_wp2_with fail
            refine HR.mono ?_
            rintro e w6 ⟨rfl, hb6⟩
            have HI := any_invert pY cY n k Y z w6 hk1 hkn hn HYE.out HPY.out.nd HPY.out.lt (HMY.out.below hb6) ((hb6.cell (p := ⟨1, 0, none⟩) (lt_of_cell HZ5.out)).trans HZ5.out)
            have HB6 : Hid (Below w.heap.size w w6) := HB2.out.trans ((HBY.out.trans (hb6.mono HBY.out.size)).mono hs2)
            clear HR hb6
            go_wp2_with fail
            refine HI.mono ?_
            rintro e w7 ⟨⟨vI, rfl⟩, hb7⟩
            clear HI
            go_wp2
            go_ret
            exact ⟨rfl, HB6.out.trans (hb7.mono HB6.out.size)⟩
        · have hYe : Y.length = k := by
            have hle := length_le_of_subset (List.range n) Y List.nodup_range (fun y hy => HALL.out y (by have := List.mem_range.1 hy; omega))
            rw [List.length_range] at hle
            omega
          obtain ⟨p5, c5, hpe, hmY⟩ := HPY.out.mat (by omega) (fun x hx => (HROWS.out x hx).2.below HBY.out)
          injection hpe with e1 _ e3
          subst e1 e3
          have hz5 : w5.cell? ⟨1, 0, none⟩ = some (.iface 106 (.pointer (some z))) := (HBY.out.cell (p := ⟨1, 0, none⟩) (lt_of_cell HZ2.out)).trans HZ2.out
          have HR := any_rank pY cY n k Y z w5 hk1 hkn hn hYe HPY.out.nd HPY.out.lt hmY hz5
          have HMY : Hid (Mat w5 pY (Y.map (sprRow k))) := hmY
          have HZ5 : Hid (w5.cell? ⟨1, 0, none⟩ = some (.iface 106 (.pointer (some z)))) := hz5
          have HYE : Hid (Y.length = k) := hYe
          clear hmY hz5 hYe
          go_wp2_with fail
          refine HR.mono ?_
          rintro e w6 ⟨rfl, hb6⟩
          have HI := any_invert pY cY n k Y z w6 hk1 hkn hn HYE.out HPY.out.nd HPY.out.lt (HMY.out.below hb6) ((hb6.cell (p := ⟨1, 0, none⟩) (lt_of_cell HZ5.out)).trans HZ5.out)
          have HB6 : Hid (Below w.heap.size w w6) := HB2.out.trans ((HBY.out.trans (hb6.mono HBY.out.size)).mono hs2)
          clear HR hb6
          go_wp2_with fail
          refine HI.mono ?_
          rintro e w7 ⟨⟨vI, rfl⟩, hb7⟩
          clear HI
          go_wp2
          go_ret
          exact ⟨rfl, HB6.out.trans (hb7.mono HB6.out.size)⟩
end Go.Proofs.YtmlcbphcphpihaaDoor
