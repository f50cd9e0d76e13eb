/- The walk of the law MatrixSpread: whatever the numbers, the call returns true; nothing that was there is written. -/
import Derived.Test.YtmlcbphcphpihaaDoorSpreadW
import Derived.Test.YtmlcbphcphpihaaDoorSameMatW
import Derived.Test.YtmlcbphcphpihaaDoorRefW
namespace Go.Proofs.YtmlcbphcphpihaaDoor
open Go.RowKit
theorem coded_bound (ad : Nat → Addr) (w : World) (hS : Sent w ad) :
    Calls Tryd.prog 10 #[.iface 106 (.pointer (some (ad 1))), .int .i64 2] w fun e w' => e = .returned (.bool true) ∧ Below w.heap.size w w' := coded_sent ad 1 (by decide) w hS
theorem isSpread_yes (n k : Int) (w : World) (h1 : 1 ≤ k) (h2 : k ≤ n) (h3 : n ≤ 12) : Calls Tryd.prog 21 #[.int .i64 n, .int .i64 k] w fun e w' => e = .returned (.bool true) ∧ w' = w := by
  go_enter Tryd.func21, Tryd.ntmps21
  go_wp2
  go_ret
  exact ⟨ret_bool (by simp), rfl⟩
theorem isSpread_no (n k : Int) (w : World) (h : ¬ (1 ≤ k ∧ k ≤ n ∧ n ≤ 12)) : Calls Tryd.prog 21 #[.int .i64 n, .int .i64 k] w fun e w' => e = .returned (.bool false) ∧ w' = w := by
  by_cases h1 : 1 ≤ k
  · by_cases h2 : k ≤ n
    · have h3 : ¬ n ≤ 12 := fun h3 => h ⟨h1, h2, h3⟩
      clear h
      go_enter Tryd.func21, Tryd.ntmps21
      go_wp2
      go_ret
      exact ⟨ret_bool (by simp), rfl⟩
    · clear h
      go_enter Tryd.func21, Tryd.ntmps21
      go_wp2
      go_ret
      exact ⟨rfl, rfl⟩
  · clear h
    go_enter Tryd.func21, Tryd.ntmps21
    go_wp2
    go_ret
    exact ⟨rfl, rfl⟩
theorem rpow_rep (i j : Nat) (w : World) (hi : i < 256) (hj : j < 255) :
    Calls Tryd.prog 23 #[.int .u8 (i : Int), .int .i64 (j : Int)] w fun e w' => e = .returned (.tuple #[.int .u8 ((Gf.rep i j : Nat) : Int), .int .i64 0]) ∧ w' = w := by
  by_cases h0 : j = 0
  · subst h0
    exact rpow_zero i w
  · by_cases hi0 : i = 0
    · subst hi0
      rw [rep_zero j (by omega)]
      exact rpow_pos (j : Int) w (by omega)
    · have := rpow_any i (j : Int) w hi hi0 (by omega)
      rw [red_small j hj, Gf.power_rep i j hi (by omega)] at this
      exact this
structure StillS (w0 w : World) (ad : Nat → Addr) : Prop where
  sent : Sent w ad
  below : Below w0.heap.size w0 w
theorem StillS.next {w0 w w' : World} {ad : Nat → Addr} (h : StillS w0 w ad) (hb : Below w.heap.size w w') : StillS w0 w' ad := ⟨h.sent.below hb, h.below.trans (hb.mono h.below.size)⟩
set_option maxRecDepth 10000 in
set_option maxHeartbeats 4000000 in
theorem sprLaw_out (n k : Int) (ad : Nat → Addr) (w : World) (h : ¬ (1 ≤ k ∧ k ≤ n ∧ n ≤ 12)) (hS : Sent w ad) :
    Calls Tryd.prog 5 #[.int .i64 n, .int .i64 k] w fun e w' => e = .returned (.bool true) ∧ Below w.heap.size w w' := by
  have HU := unit_any (ad 11) w hS.c11
  have H0 : Hid (StillS w w ad) := ⟨hS, Below.refl _ _⟩
  have HH : Hid (¬ (1 ≤ k ∧ k ≤ n ∧ n ≤ 12)) := h
  clear h hS
  go_enter Tryd.func5, Tryd.ntmps5
  go_wp2_with fail
  refine HU.mono ?_
  rintro e w1 ⟨rfl, hb1⟩
  have H1 : Hid (StillS w w1 ad) := H0.out.next hb1
  clear hb1 HU
  go_wp2_with fail
  refine (powers_bad n k (ad 1) _ HH.out H1.out.sent.c1).mono ?_
  rintro e w2 ⟨rfl, hb2⟩
  have H2 : Hid (StillS w w2 ad) := H1.out.next hb2
  clear hb2 H1
  go_wp2_with fail
  refine (spread_bad n k (ad 1) _ HH.out H2.out.sent.c1).mono ?_
  rintro e w3 ⟨rfl, hb3⟩
  have H3 : Hid (StillS w w3 ad) := H2.out.next hb3
  clear hb3 H2
  go_wp2_with fail
  refine (isSpread_no n k _ HH.out).mono ?_
  rintro e w' ⟨rfl, hww⟩
  rw [hww]
  clear hww w'
  go_wp2_with fail
  refine (coded_bound ad _ H3.out.sent).mono ?_
  rintro e w4 ⟨rfl, hb4⟩
  have H4 : Hid (StillS w w4 ad) := H3.out.next hb4
  clear hb4 H3
  go_wp2_with fail
  refine (coded_bound ad _ H4.out.sent).mono ?_
  rintro e w5 ⟨rfl, hb5⟩
  have H5 : Hid (StillS w w5 ad) := H4.out.next hb5
  clear hb5 H4
  go_wp2
  go_ret
  exact ⟨rfl, H5.out.below⟩
set_option maxRecDepth 10000 in
set_option maxHeartbeats 8000000 in
theorem sprLaw_in (n k : Nat) (ad : Nat → Addr) (w : World) (hk1 : 1 ≤ k) (hkn : k ≤ n) (hn : n ≤ 12) (hS : Sent w ad) :
    Calls Tryd.prog 5 #[.int .i64 (n : Int), .int .i64 (k : Int)] w fun e w' => e = .returned (.bool true) ∧ Below w.heap.size w w' := by
  have HU := unit_any (ad 11) w hS.c11
  have H0 : Hid (StillS w w ad) := ⟨hS, Below.refl _ _⟩
  clear hS
  go_enter Tryd.func5, Tryd.ntmps5
  go_wp2_with fail
  refine HU.mono ?_
  rintro e w1 ⟨rfl, hb1⟩
  have H1 : Hid (StillS w w1 ad) := H0.out.next hb1
  clear hb1 HU
  go_wp2_with fail
  refine (powers_ok n k _ hk1 hkn hn).mono ?_
  rintro e w2 ⟨⟨gm, gs, rfl, hG2⟩, hb2⟩
  have H2 : Hid (StillS w w2 ad) := H1.out.next hb2
  have HG2 : Hid (OwnG w2 w1.heap.size gm gs n k Gf.rep) := hG2
  clear hb2 H1 hG2
  go_wp2_with fail
  refine (spread_ok n k (ad 11) _ hk1 hkn hn H2.out.sent.c11).mono ?_
  rintro e w3 ⟨⟨g3, rfl, hm3⟩, hb3⟩
  have H3 : Hid (StillS w w3 ad) := H2.out.next hb3
  have HG3 : Hid (OwnG w3 w1.heap.size gm gs n k Gf.rep) := HG2.out.below hb3
  have HM3 : Hid (Mat w3 (some ⟨g3, 0, none⟩) (spreadM k n)) := hm3
  clear hb3 H2 HG2 hm3
  go_wp2_with fail
  refine (isSpread_yes n k _ (by omega) (by omega) (by omega)).mono ?_
  rintro e w' ⟨rfl, hww⟩
  rw [hww]
  clear hww w'
  go_wp2_with fail
  refine (rspread_any n k _ (by omega) hk1 (by omega)).mono ?_
  rintro e w4 ⟨⟨p4, c4, rfl, hm4⟩, hb4⟩
  have H4 : Hid (StillS w w4 ad) := H3.out.next hb4
  have HG4 : Hid (OwnG w4 w1.heap.size gm gs n k Gf.rep) := HG3.out.below hb4
  have HSM := sameMatrix_any (some ⟨g3, 0, none⟩) p4 (spreadM k n) n c4 w4 (by rw [spreadM_length]; omega) (HM3.out.below hb4) hm4
  rw [spreadM_length] at HSM
  clear hb4 H3 HG3 HM3 hm4
  go_wp2_with fail
  refine HSM.mono ?_
  rintro e w5 ⟨rfl, n5, hn5⟩
  have hb5 : Below w4.heap.size w4 w5 := by rw [hn5]; exact below_drewN (Below.refl _ _) n5
  have H5 : Hid (StillS w w5 ad) := H4.out.next hb5
  have HG5 : Hid (OwnG w5 w1.heap.size gm gs n k Gf.rep) := HG4.out.below hb5
  clear hb5 hn5 HSM H4 HG4
  go_wp2
  go_loop [10] (fun u => ∃ i : Nat, i ≤ n ∧ u = .int .i64 i) (fun u => n - (intOf u).toNat)
  case atStart => exact ⟨0, by omega, rfl⟩
  case round =>
    obtain ⟨i, hi, rfl⟩ := hrel
    by_cases hil : i < n
    · have c1 : w5.cell? ⟨gm, i, none⟩ = some (.slice (some ⟨gs i, 0, none⟩) k k) := HG5.out.rows.cell i hil
      go_wp2
      go_loop [11] (fun u => ∃ j : Nat, j ≤ k ∧ u = .int .i64 j) (fun u => k - (intOf u).toNat)
      case atStart => exact ⟨0, by omega, rfl⟩
      case round =>
        obtain ⟨j, hj, rfl⟩ := hrel
        by_cases hjl : j < k
        · have c2 : w5.cell? ⟨gs i, j, none⟩ = some (.int .u8 ((Gf.rep i j : Nat) : Int)) := by rw [(HG5.out.all.row i hil).cell j hjl (rowFn_length _ _), nth_rowFn _ _ j hjl]
          have lr := Gf.rep_lt i j
          have HP := rpow_rep i j w5 (by omega) (by omega)
          go_wp2_with (go_at_call 23; refine HP.mono ?_; rintro e w' ⟨rfl, rfl⟩)
          go_round
          case rel => exact ⟨j + 1, by omega, by go_num⟩
          case measure => simp [intOf]; omega
        · go_wp2
          go_round
          case rel => exact ⟨i + 1, by omega, by go_num⟩
          case measure => simp [intOf]; omega
    · go_wp2
      go_ret
      exact ⟨rfl, H5.out.below⟩
end Go.Proofs.YtmlcbphcphpihaaDoor
