/- Texts laid together. -/
import Derived.Test.YtpjeibicopgedaaGreatDoorQb4
import Derived.Deep.RegionWith
import Derived.Deep.CutRange
namespace Go.Proofs.YtpjeibicopgedaaGreatDoor
open Go.RowKit
/-- A matrix whose slice lies in the variable of block pm. -/
theorem Mat.at {w : World} {p : Option Addr} {M : List (List Nat)} (h : Mat w p M) {i j : Nat} (hi : i < M.length) (hj : j < (rowOf M i).length) :
    ∃ b o b1 o1 c, p = some ⟨b, o, none⟩ ∧ w.cell? ⟨b, o + i, none⟩ = some (.slice (some ⟨b1, o1, none⟩) (rowOf M i).length c) ∧ w.cell? ⟨b1, o1 + j, none⟩ = some (.int .u8 ((Gf.nth (rowOf M i) j : Nat) : Int)) := by
  obtain ⟨b, o, b1, o1, c, h1, _, _, h2, h3⟩ := h.row hi (by omega)
  exact ⟨b, o, b1, o1, c, h1, h2, h3 j hj⟩
theorem diag_any (i j : Nat) (w : World) : Calls Tryz.prog 63 #[.int .i64 (i : Int), .int .i64 (j : Int)] w fun e w' => e = .returned (.int .u8 ((if i = j then 1 else 0 : Nat) : Int)) ∧ w' = w := by
  by_cases e : i = j
  · subst e
    rw [if_pos rfl]
    go_enter Tryz.func63, Tryz.ntmps63
    go_wp2
    go_ret
    exact ⟨rfl, rfl⟩
  · have ht : ((i : Int) == (j : Int)) = false := by simp; omega
    rw [if_neg e]
    clear e
    go_enter Tryz.func63, Tryz.ntmps63
    go_wp2
    go_ret
    exact ⟨rfl, rfl⟩
set_option maxRecDepth 10000 in
theorem invert1_any (ps pm i j side cap : Nat) (p : Option Addr) (M : List (List Nat)) (w : World) (hi : i < M.length) (hj : j < 2 * side) (hs : (rowOf M i).length = side) (hn : side ≤ 1000) (hps : w.cell? ⟨ps, 0, none⟩ = some (.int .i64 (side : Int))) (hp : w.cell? ⟨pm, 0, none⟩ = some (.slice p M.length cap)) (h : Mat w p M) :
    Calls Tryz.prog 62 #[.int .i64 (i : Int), .int .i64 (j : Int), .pointer (some ⟨ps, 0, none⟩), .pointer (some ⟨pm, 0, none⟩)] w fun e w' => e = .returned (.int .u8 (((if j < side then Gf.nth (rowOf M i) j else if i = j - side then 1 else 0 : Nat)) : Int)) ∧ Below w.heap.size w w' := by
  by_cases hlt : j < side
  · obtain ⟨b, o, b1, o1, c, rfl, h1, h2⟩ := h.at hi (by rw [hs]; exact hlt)
    rw [hs] at h1
    rw [if_pos hlt]
    clear hs h
    go_enter Tryz.func62, Tryz.ntmps62
    go_wp2
    go_ret
    exact ⟨rfl, Below.refl _ _⟩
  · rw [if_neg hlt]
    have hsub : ((j : Int) - (side : Int)) = ((j - side : Nat) : Int) := by omega
    clear hs h
    go_enter Tryz.func62, Tryz.ntmps62
    go_wp2_with (go_at_call 63; first | (rw [hsub]; refine (diag_any i (j - side) _).mono ?_; rintro e w' ⟨rfl, rfl⟩) | (refine (diag_any i (j - side) _).mono ?_; rintro e w' ⟨rfl, rfl⟩))
    all_goals (go_ret; exact ⟨rfl, Below.refl _ _⟩)
set_option maxRecDepth 10000 in
theorem invert2_any (pb ps i j side gm r n : Nat) (gs : Nat → Nat) (x : Nat) (w : World) (hi : i < r) (hj : side + j < n) (hn : n ≤ 1000) (hb : w.cell? ⟨pb, 0, none⟩ = some (.slice (some ⟨gm, 0, none⟩) r r)) (hs : w.cell? ⟨ps, 0, none⟩ = some (.int .i64 (side : Int))) (h1 : w.cell? ⟨gm, i, none⟩ = some (.slice (some ⟨gs i, 0, none⟩) n n)) (h2 : w.cell? ⟨gs i, side + j, none⟩ = some (.int .u8 (x : Int))) :
    Calls Tryz.prog 65 #[.int .i64 (i : Int), .int .i64 (j : Int), .pointer (some ⟨pb, 0, none⟩), .pointer (some ⟨ps, 0, none⟩)] w fun e w' => e = .returned (.int .u8 (x : Int)) ∧ Below w.heap.size w w' := by
  go_enter Tryz.func65, Tryz.ntmps65
  go_wp2
  go_quiet (fail)
  go_wp2
  go_ret
  exact ⟨rfl, below_drewN (Below.refl _ _) _⟩
set_option maxRecDepth 10000 in
set_option maxHeartbeats 1000000 in
theorem times11_any (pa pi pb pj i j l ca cb : Nat) (a b : Option Addr) (A B : List (List Nat)) (w : World) (hi : i < A.length) (hl : l < (rowOf A i).length) (hlb : l < B.length) (hj : j < (rowOf B l).length) (hA : w.cell? ⟨pa, 0, none⟩ = some (.slice a A.length ca)) (hB : w.cell? ⟨pb, 0, none⟩ = some (.slice b B.length cb)) (hI : w.cell? ⟨pi, 0, none⟩ = some (.int .i64 (i : Int))) (hJ : w.cell? ⟨pj, 0, none⟩ = some (.int .i64 (j : Int))) (mA : Mat w a A) (mB : Mat w b B) (bA : BytesM A) (bB : BytesM B) :
    Calls Tryz.prog 100 #[.int .i64 (l : Int), .pointer (some ⟨pa, 0, none⟩), .pointer (some ⟨pi, 0, none⟩), .pointer (some ⟨pb, 0, none⟩), .pointer (some ⟨pj, 0, none⟩)] w fun e w' => e = .returned (.int .u8 ((Gf.mul (Gf.nth (rowOf A i) l) (Gf.nth (rowOf B l) j) : Nat) : Int)) ∧ Below w.heap.size w w' := by
  obtain ⟨a1, a2, a3, a4, a5, rfl, a6, a7⟩ := mA.at hi hl
  obtain ⟨b1, b2, b3, b4, b5, rfl, b6, b7⟩ := mB.at hlb hj
  have lx := bA i l
  have ly := bB l j
  clear mA mB
  generalize Gf.nth (rowOf A i) l = x at *
  generalize Gf.nth (rowOf B l) j = y at *
  go_enter Tryz.func100, Tryz.ntmps100
  go_wp2
  go_quiet ((go_at_call 67; exact Calls.quiet_of_same (mul_any x y _ lx ly)))
  go_wp2
  go_ret
  exact ⟨rfl, below_drewN (Below.refl _ _) _⟩
theorem fits_any (n : Nat) (w : World) (hn : n < 2 ^ 62) : Calls Tryz.prog 85 #[.int .i64 (n : Int)] w fun e w' => e = .returned (.bool (decide (1 ≤ n ∧ n ≤ 16))) ∧ w' = w := by
  by_cases h1 : 1 ≤ n
  · by_cases h2 : n ≤ 16
    · have HD : Hid (decide (1 ≤ n ∧ n ≤ 16) = true) := decide_eq_true ⟨h1, h2⟩
      go_enter Tryz.func85, Tryz.ntmps85
      go_wp2
      go_ret
      exact ⟨ret_bool ((decide_eq_true (by omega)).trans HD.out.symm), rfl⟩
    · have HD : Hid (decide (1 ≤ n ∧ n ≤ 16) = false) := decide_eq_false (fun h => h2 h.2)
      go_enter Tryz.func85, Tryz.ntmps85
      go_wp2
      go_ret
      exact ⟨ret_bool ((decide_eq_false (by omega)).trans HD.out.symm), rfl⟩
  · rw [decide_eq_false (fun h => h1 h.1 : ¬ (1 ≤ n ∧ n ≤ 16))]
    go_enter Tryz.func85, Tryz.ntmps85
    go_wp2
    go_ret
    exact ⟨rfl, rfl⟩
theorem fits_yes (n : Nat) (w : World) (h1 : 1 ≤ n) (h2 : n ≤ 16) : Calls Tryz.prog 85 #[.int .i64 (n : Int)] w fun e w' => e = .returned (.bool true) ∧ w' = w := by
  have := fits_any n w (by omega)
  rw [decide_eq_true (⟨h1, h2⟩ : 1 ≤ n ∧ n ≤ 16)] at this
  exact this
theorem fits_no (n : Nat) (w : World) (hn : n < 2 ^ 62) (h : ¬ (1 ≤ n ∧ n ≤ 16)) : Calls Tryz.prog 85 #[.int .i64 (n : Int)] w fun e w' => e = .returned (.bool false) ∧ w' = w := by
  have := fits_any n w hn
  rw [decide_eq_false h] at this
  exact this
set_option maxRecDepth 10000 in
set_option maxHeartbeats 2000000 in
theorem check_ok (p : Option Addr) (M : List (List Nat)) (cap : Nat) (w : World) (hM : IsMat M) (h : Mat w p M) :
    Calls Tryz.prog 60 #[.slice p M.length cap] w fun e w' => e = .returned .nilIface ∧ w' = w := by
  have HM : Hid (IsMat M) := hM
  have l1 : 1 ≤ M.length := hM.1
  have l2 : M.length ≤ 16 := hM.2.1
  have n1 : 1 ≤ (rowOf M 0).length := (hM.2.2 0 (by omega)).1
  have n2 : (rowOf M 0).length ≤ 16 := (hM.2.2 0 (by omega)).2.1
  clear hM
  rcases h with h | ⟨b, o, rfl, hb, hc⟩
  · rw [h] at l1; simp at l1
  obtain ⟨q0, c0, hc0, _⟩ := hc 0 (by omega)
  have hc0' : w.cell? ⟨b, o, none⟩ = some (.slice q0 (rowOf M 0).length c0) := hc0
  have HC : Hid (∀ i, i < M.length → ∃ q c, w.cell? ⟨b, o + i, none⟩ = some (.slice q (rowOf M 0).length c)) := fun i hi => by
    obtain ⟨q, c, h1, _⟩ := hc i hi
    rw [(HM.out.2.2 i hi).2.2] at h1
    exact ⟨q, c, h1⟩
  clear hc hc0
  generalize (rowOf M 0).length = n at *
  go_enter Tryz.func60, Tryz.ntmps60
  go_wp2_with (first | (go_at_call 85; with_reducible refine (fits_yes M.length _ l1 l2).mono ?_; rintro e w' ⟨rfl, rfl⟩) | (go_at_call 85; refine (fits_yes n _ n1 n2).mono ?_; rintro e w' ⟨rfl, rfl⟩))
  go_loop [20] (fun j => ∃ k : Nat, k ≤ M.length ∧ j = .int .i64 k) (fun j => M.length - (intOf j).toNat)
  case atStart => exact ⟨0, by omega, rfl⟩
  case round =>
    obtain ⟨k, hk, rfl⟩ := hrel
    by_cases hlt : k < M.length
    · obtain ⟨q, c, hq⟩ := HC.out k hlt
      go_wp2
      go_round
      case rel => exact ⟨k + 1, by omega, by go_num⟩
      case measure => simp [intOf]; omega
    · go_wp2
      go_ret
      exact ⟨rfl, rfl⟩
set_option maxRecDepth 10000 in
set_option maxHeartbeats 2000000 in
theorem check_bad (p : Option Addr) (M : List (List Nat)) (cap : Nat) (z : Addr) (w : World) (hl : M.length < 2 ^ 62) (hm : ∀ i, (rowOf M i).length < 2 ^ 62) (hM : ¬ IsMat M) (h : Mat w p M)
    (hz : w.cell? ⟨0, 0, none⟩ = some (.iface 165 (.pointer (some z)))) :
    Calls Tryz.prog 60 #[.slice p M.length cap] w fun e w' => e = .returned (.iface 165 (.pointer (some z))) ∧ w' = w := by
  by_cases hf : 1 ≤ M.length ∧ M.length ≤ 16
  · obtain ⟨l1, l2⟩ := hf
    rcases h with h | ⟨b, o, rfl, hb, hc⟩
    · rw [h] at l1; simp at l1
    obtain ⟨q0, c0, hc0, _⟩ := hc 0 (by omega)
    have hc0' : w.cell? ⟨b, o, none⟩ = some (.slice q0 (rowOf M 0).length c0) := hc0
    have hm0 := hm 0
    have HM : Hid (¬ IsMat M) := hM
    have HC : Hid (∀ i, i < M.length → ∃ q c, w.cell? ⟨b, o + i, none⟩ = some (.slice q (rowOf M i).length c)) := fun i hi => by
      obtain ⟨q, c, h1, _⟩ := hc i hi
      exact ⟨q, c, h1⟩
    clear hc hc0 hM
    by_cases hg : 1 ≤ (rowOf M 0).length ∧ (rowOf M 0).length ≤ 16
    · obtain ⟨n1, n2⟩ := hg
      have HR : Hid (∃ i, i < M.length ∧ (rowOf M i).length ≠ (rowOf M 0).length) := by
        refine Classical.byContradiction fun hno => HM.out ⟨l1, l2, fun i hi => ?_⟩
        have : (rowOf M i).length = (rowOf M 0).length := Classical.byContradiction fun hne => hno ⟨i, hi, hne⟩
        rw [this]
        exact ⟨n1, n2, rfl⟩
      clear HM
      go_enter Tryz.func60, Tryz.ntmps60
      go_wp2_with (first | (go_at_call 85; with_reducible refine (fits_yes M.length _ l1 l2).mono ?_; rintro e w' ⟨rfl, rfl⟩) | (go_at_call 85; refine (fits_yes (rowOf M 0).length _ n1 n2).mono ?_; rintro e w' ⟨rfl, rfl⟩))
      go_loop [20] (fun j => ∃ k : Nat, k ≤ M.length ∧ j = .int .i64 k ∧ ∀ i, i < k → (rowOf M i).length = (rowOf M 0).length) (fun j => M.length - (intOf j).toNat)
      case atStart => exact ⟨0, by omega, rfl, fun i hi => absurd hi (Nat.not_lt_zero _)⟩
      case round =>
        obtain ⟨k, hk, rfl, hall⟩ := hrel
        have HA : Hid (∀ i, i < k → (rowOf M i).length = (rowOf M 0).length) := hall
        clear hall
        by_cases hlt : k < M.length
        · obtain ⟨q, c, hq⟩ := HC.out k hlt
          have hmk := hm k
          by_cases he : (rowOf M k).length = (rowOf M 0).length
          · have HE : Hid ((rowOf M k).length = (rowOf M 0).length) := he
            rw [he] at hq
            clear he
            go_wp2
            go_round
            case rel =>
              refine ⟨k + 1, by omega, by go_num, fun i hi => ?_⟩
              by_cases e : i = k
              · rw [e]; exact HE.out
              · exact HA.out i (by omega)
            case measure => simp [intOf]; omega
          · have ht : (((rowOf M k).length : Int) != ((rowOf M 0).length : Int)) = true := by simp; omega
            clear he
            go_wp2
            go_ret
            exact ⟨rfl, rfl⟩
        · obtain ⟨i, hi, hne⟩ := HR.out
          exact absurd (HA.out i (by omega)) hne
    · have HGN : Hid (¬ (1 ≤ (rowOf M 0).length ∧ (rowOf M 0).length ≤ 16)) := hg
      clear hg
      go_enter Tryz.func60, Tryz.ntmps60
      go_wp2_with (first | (go_at_call 85; with_reducible refine (fits_yes M.length _ l1 l2).mono ?_; rintro e w' ⟨rfl, rfl⟩) | (go_at_call 85; refine (fits_no (rowOf M 0).length _ hm0 HGN.out).mono ?_; rintro e w' ⟨rfl, rfl⟩))
      go_ret
      exact ⟨rfl, rfl⟩
  · have HF : Hid (¬ (1 ≤ M.length ∧ M.length ≤ 16)) := hf
    clear hf
    go_enter Tryz.func60, Tryz.ntmps60
    go_wp2_with (first | (go_at_call 85; refine (fits_no M.length _ hl HF.out).mono ?_; rintro e w' ⟨rfl, rfl⟩))
    go_ret
    exact ⟨rfl, rfl⟩
theorem rowlen {M : List (List Nat)} (hM : IsMat M) {i : Nat} (hi : i < M.length) : (rowOf M i).length = (rowOf M 0).length := (hM.2.2 i hi).2.2
set_option maxRecDepth 10000 in
set_option maxHeartbeats 2000000 in
theorem times1_any (pa pb i j ca cb : Nat) (a b : Option Addr) (A B : List (List Nat)) (w : World) (hA : IsMat A) (hB : IsMat B) (hk : (rowOf A 0).length = B.length) (hi : i < A.length) (hj : j < (rowOf B 0).length) (hpa : w.cell? ⟨pa, 0, none⟩ = some (.slice a A.length ca)) (hpb : w.cell? ⟨pb, 0, none⟩ = some (.slice b B.length cb)) (mA : Mat w a A) (mB : Mat w b B) (bA : BytesM A) (bB : BytesM B) :
    Calls Tryz.prog 98 #[.int .i64 (i : Int), .int .i64 (j : Int), .pointer (some ⟨pb, 0, none⟩), .pointer (some ⟨pa, 0, none⟩)] w fun e w' => e = .returned (.int .u8 ((dotN A B i j B.length : Nat) : Int)) ∧ Below w.heap.size w w' := by
  have l2 : B.length ≤ 16 := hB.2.1
  have ha := lt_of_cell hpa
  have hb := lt_of_cell hpb
  obtain ⟨w1, hw1⟩ : ∃ w1, w1 = (w.alloc (.cells #[.int .i64 (i : Int)] 3)).alloc (.cells #[.int .i64 (j : Int)] 3) := ⟨_, rfl⟩
  have hb1 : Below w.heap.size w w1 := by rw [hw1]; exact ((Below.refl _ _).alloc (Nat.le_refl _) _).alloc (by simp) _
  have hs1 : w1.heap.size = w.heap.size + 2 := by rw [hw1]; simp
  have hI1 : w1.cell? ⟨w.heap.size, 0, none⟩ = some (.int .i64 (i : Int)) := by rw [hw1, World.cell?_alloc_past _ _ _ (by simp), World.cell?_alloc_at _ _ _ _ rfl]; rfl
  have hJ1 : w1.cell? ⟨w.heap.size + 1, 0, none⟩ = some (.int .i64 (j : Int)) := by rw [hw1, World.cell?_alloc_at _ _ _ _ (by simp)]; rfl
  have hA1 : w1.cell? ⟨pa, 0, none⟩ = some (.slice a A.length ca) := (hb1.cell (p := ⟨pa, 0, none⟩) ha).trans hpa
  have hB1 : w1.cell? ⟨pb, 0, none⟩ = some (.slice b B.length cb) := (hb1.cell (p := ⟨pb, 0, none⟩) hb).trans hpb
  have hB2 : ((w.alloc (.cells #[.int .i64 (i : Int)] 3)).alloc (.cells #[.int .i64 (j : Int)] 3)).cell? ⟨pb, 0, none⟩ = some (.slice b B.length cb) := by rw [← hw1]; exact hB1
  have HC : Hid (∀ l, l < B.length → ∀ w2, Below w1.heap.size w1 w2 → Calls Tryz.prog 100 (#[.int .i64 (l : Int)] ++ #[.pointer (some ⟨pa, 0, none⟩), .pointer (some ⟨w.heap.size, 0, none⟩), .pointer (some ⟨pb, 0, none⟩), .pointer (some ⟨w.heap.size + 1, 0, none⟩)]) w2 fun e w3 => e = .returned (.int .u8 ((Gf.mul (Gf.nth (rowOf A i) l) (Gf.nth (rowOf B l) j) : Nat) : Int)) ∧ Below w2.heap.size w2 w3) := by
    intro l hl w2 h2
    exact times11_any pa w.heap.size pb (w.heap.size + 1) i j l ca cb a b A B w2 hi (by rw [rowlen hA hi, hk]; exact hl) hl (by rw [rowlen hB hl]; exact hj) ((h2.cell (p := ⟨pa, 0, none⟩) (by show pa < _; omega)).trans hA1) ((h2.cell (p := ⟨pb, 0, none⟩) (by show pb < _; omega)).trans hB1) ((h2.cell (p := ⟨w.heap.size, 0, none⟩) (by show w.heap.size < _; omega)).trans hI1) ((h2.cell (p := ⟨w.heap.size + 1, 0, none⟩) (by show w.heap.size + 1 < _; omega)).trans hJ1) ((mA.below hb1).below h2) ((mB.below hb1).below h2) bA bB
  have HS := sum_any B.length (fun l => Gf.mul (Gf.nth (rowOf A i) l) (Gf.nth (rowOf B l) j)) 100 #[.pointer (some ⟨pa, 0, none⟩), .pointer (some ⟨w.heap.size, 0, none⟩), .pointer (some ⟨pb, 0, none⟩), .pointer (some ⟨w.heap.size + 1, 0, none⟩)] w1 (by omega) (fun l => Gf.mul_lt (bA i l) _) (enters_of Tryz.func100 (by kernel_rfl) rfl) (dotN A B i j) rfl (fun _ => rfl) (dotN_lt A B bA i j) HC.out
  have HW1 : Hid (w1 = (w.alloc (.cells #[.int .i64 (i : Int)] 3)).alloc (.cells #[.int .i64 (j : Int)] 3)) := hw1
  have HB1 : Hid (Below w.heap.size w w1) := hb1
  clear hA hB hk hw1 hb1 hI1 hJ1 hA1 hB1 mA mB hpa hpb bA bB HC
  go_enter Tryz.func98, Tryz.ntmps98
  go_wp2_with (go_at_call 99; rw [← HW1.out]; refine HS.mono ?_; rintro e w2 ⟨rfl, hb2⟩)
  go_ret
  exact ⟨rfl, HB1.out.trans (hb2.mono (by omega))⟩
set_option maxRecDepth 10000 in
set_option maxHeartbeats 4000000 in
theorem mtimes_ok (a b : Option Addr) (A B : List (List Nat)) (ca cb : Nat) (w : World) (hA : IsMat A) (hB : IsMat B) (hk : (rowOf A 0).length = B.length) (bA : BytesM A) (bB : BytesM B) (mA : Mat w a A) (mB : Mat w b B) :
    Calls Tryz.prog 84 #[.slice a A.length ca, .slice b B.length cb] w fun e w' => (∃ gm, e = .returned (.tuple #[.slice (some ⟨gm, 0, none⟩) A.length A.length, .nilIface]) ∧ Mat w' (some ⟨gm, 0, none⟩) (prodM A B A.length)) ∧ Below w.heap.size w w' := by
  have la1 : 1 ≤ A.length := hA.1
  have la2 : A.length ≤ 16 := hA.2.1
  have lb1 : 1 ≤ B.length := hB.1
  have lb2 : B.length ≤ 16 := hB.2.1
  have nb1 : 1 ≤ (rowOf B 0).length := (hB.2.2 0 (by omega)).1
  have nb2 : (rowOf B 0).length ≤ 16 := (hB.2.2 0 (by omega)).2.1
  have HA : Hid (IsMat A) := hA
  have HBm : Hid (IsMat B) := hB
  have BA : Hid (BytesM A) := bA
  have BB : Hid (BytesM B) := bB
  obtain ⟨w1, hw1⟩ : ∃ w1, w1 = (w.alloc (.cells #[.slice a A.length ca] 74)).alloc (.cells #[.slice b B.length cb] 74) := ⟨_, rfl⟩
  have hb1 : Below w.heap.size w w1 := by rw [hw1]; exact ((Below.refl _ _).alloc (Nat.le_refl _) _).alloc (by simp) _
  have hs1 : w1.heap.size = w.heap.size + 2 := by rw [hw1]; simp
  have hA1 : w1.cell? ⟨w.heap.size, 0, none⟩ = some (.slice a A.length ca) := by rw [hw1, World.cell?_alloc_past _ _ _ (by simp), World.cell?_alloc_at _ _ _ _ rfl]; rfl
  have hB1 : w1.cell? ⟨w.heap.size + 1, 0, none⟩ = some (.slice b B.length cb) := by rw [hw1, World.cell?_alloc_at _ _ _ _ (by simp)]; rfl
  have MA1 : Hid (Mat w1 a A) := mA.below hb1
  have MB1 : Hid (Mat w1 b B) := mB.below hb1
  have HK : Hid ((rowOf A 0).length = B.length) := hk
  have HCB : Hid (∀ W : World, Below w1.heap.size w1 W → ∀ i j, i < A.length → j < (rowOf B 0).length → ∀ w2, Below W.heap.size W w2 → Calls Tryz.prog 98 (#[.int .i64 (i : Int), .int .i64 (j : Int)] ++ #[.pointer (some ⟨w.heap.size + 1, 0, none⟩), .pointer (some ⟨w.heap.size, 0, none⟩)]) w2 fun e w3 => e = .returned (.int .u8 ((dotN A B i j B.length : Nat) : Int)) ∧ Below w2.heap.size w2 w3) := by
    intro W hW i j hi hj w2 h2
    have h12 : Below w1.heap.size w1 w2 := hW.trans (h2.mono hW.size)
    exact times1_any w.heap.size (w.heap.size + 1) i j ca cb a b A B w2 HA.out HBm.out HK.out hi hj ((h12.cell (p := ⟨w.heap.size, 0, none⟩) (by show w.heap.size < _; omega)).trans hA1) ((h12.cell (p := ⟨w.heap.size + 1, 0, none⟩) (by show w.heap.size + 1 < _; omega)).trans hB1) (MA1.out.below h12) (MB1.out.below h12) BA.out BB.out
  obtain ⟨a1, a2, a3, a4, a5, rfl, ha1, _, ha6, _⟩ := MA1.out.row (i := 0) (by omega) (by rw [hk]; omega)
  obtain ⟨b1, b2, b3, b4, b5, rfl, hb6, _, hb7, _⟩ := MB1.out.row (i := 0) (by omega) (by omega)
  rw [hk] at ha6
  have cA : w1.cell? ⟨a1, a2, none⟩ = some (.slice (some ⟨a3, a4, none⟩) B.length a5) := ha6
  have cB : w1.cell? ⟨b1, b2, none⟩ = some (.slice (some ⟨b3, b4, none⟩) (rowOf B 0).length b5) := hb7
  have HB1 : Hid (Below w.heap.size w w1) := hb1
  have HW1 : Hid (w1 = (w.alloc (.cells #[.slice (some ⟨a1, a2, none⟩) A.length ca] 74)).alloc (.cells #[.slice (some ⟨b1, b2, none⟩) B.length cb] 74)) := hw1
  have ia : (0 : Int) < (A.length : Int) := by omega
  have ib : (0 : Int) < (B.length : Int) := by omega
  have na : 0 < A.length := by omega
  have nb : 0 < B.length := by omega
  clear hA hB hk bA bB mA mB hb1 hw1 ha6 hb7
  go_enter Tryz.func84, Tryz.ntmps84
  go_wp2_with fail
  rw [← HW1.out]
  refine wp_region_still_lit (by kernel_rfl) (by kernel_rfl) ?_
  repeat still_step
  still_call (check_ok _ A ca _ HA.out (MA1.out.drewN 1))
  repeat still_step
  still_call (check_ok _ B cb _ HBm.out (MB1.out.drewN 1))
  repeat still_step
  refine wpStill_nil ?_
  change Exit.then _ _ _ _ (w1.drewN 1)
  have hbq : Below w1.heap.size w1 (w1.drewN 1) := below_drewN (Below.refl _ _) _
  have qA : (w1.drewN 1).cell? ⟨w.heap.size, 0, none⟩ = some (.slice (some ⟨a1, a2, none⟩) A.length ca) := hA1
  have qB : (w1.drewN 1).cell? ⟨w.heap.size + 1, 0, none⟩ = some (.slice (some ⟨b1, b2, none⟩) B.length cb) := hB1
  have qC : (w1.drewN 1).cell? ⟨b1, b2, none⟩ = some (.slice (some ⟨b3, b4, none⟩) (rowOf B 0).length b5) := cB
  generalize w1.drewN 1 = w2 at hbq qA qB qC ⊢
  have HBQ : Hid (Below w1.heap.size w1 w2) := hbq
  have hs2 : w1.heap.size ≤ w2.heap.size := hbq.size
  clear hbq cA cB
  go_wp2_with fail
  refine wp_region_still_tail 7 (by kernel_rfl) (by kernel_rfl) ?_
  simp only [List.take_succ_cons, List.take_zero, List.drop_succ_cons, List.drop_zero]
  repeat still_step
  refine wpStill_nil ?_
  have hbd : Below w1.heap.size w1 (w2.drewN 1) := below_drewN HBQ.out 1
  change wpList _ _ _ _ _ (w2.drewN 1)
  generalize w2.drewN 1 = w3 at hbd ⊢
  have HBD : Hid (Below w1.heap.size w1 w3) := hbd
  have hs3 : w1.heap.size ≤ w3.heap.size := hbd.size
  clear hbd qA qB qC
  go_wp2_with (go_at_call 61; refine (build_any A.length (rowOf B 0).length (fun i j => dotN A B i j B.length) 98 #[.pointer (some ⟨w.heap.size + 1, 0, none⟩), .pointer (some ⟨w.heap.size, 0, none⟩)] w3 (by omega) (by omega) (enters_of Tryz.func98 (by kernel_rfl) rfl) (HCB.out w3 HBD.out)).mono ?_; rintro e w4 ⟨⟨gm, gs, rfl, hG4⟩, hb4⟩)
  go_ret2
  exact ⟨⟨gm, rfl, hG4.mat (fun i j => dotN_lt A B BA.out i j _) A.length (Nat.le_refl _)⟩, (HB1.out.trans (HBD.out.mono (by omega))).trans (hb4.mono (by omega))⟩
/-- The blocks of a matrix of the call's own. -/
def blocksOf (gm : Nat) (gs : Nat → Nat) (r : Nat) (k : Nat) : Prop := k = gm ∨ ∃ i, i < r ∧ gs i = k
theorem OwnG.blocks {w : World} {B gm : Nat} {gs : Nat → Nat} {r n : Nat} {f : Nat → Nat → Nat} (h : OwnG w B gm gs r n f) : ∀ k, blocksOf gm gs r k → B ≤ k ∧ k < w.heap.size := fun k hk => by
  rcases hk with rfl | ⟨i, hi, rfl⟩
  · exact h.rows.lt
  · exact (h.all.row i hi).lt
theorem rank_congr {n k d : Nat} {v u : Nat → Nat → Lin.F} (h : Lin.IsRank n k v d) (he : ∀ i, i < k → ∀ j, j < n → v i j = u i j) : Lin.IsRank n k u d := by
  obtain ⟨b, h1, h2, h3⟩ := h
  exact ⟨b, h1, fun i hi => Lin.span_congr (h2 i hi) he (fun _ _ => rfl), fun i hi => Lin.span_congr (h3 i hi) (fun _ _ _ _ => rfl) (he i hi)⟩
/-- A matrix, and 1 in the diagonal beside it. -/
def besideF (M : List (List Nat)) (r : Nat) : Nat → Nat → Nat := fun i j => if j < r then Gf.nth (rowOf M i) j else if i = j - r then 1 else 0
theorem besideF_lt {M : List (List Nat)} (h : BytesM M) (r i j : Nat) : besideF M r i j < 256 := by
  unfold besideF
  by_cases e : j < r
  · rw [if_pos e]; exact h i j
  · by_cases e' : i = j - r
    · rw [if_neg e, if_pos e']; decide
    · rw [if_neg e, if_neg e']; decide
theorem beside_left (M : List (List Nat)) (r i j : Nat) (hj : j < r) : vecF (besideF M r) i j = vec M i j := by
  unfold vecF besideF
  rw [if_pos hj]
  rfl
theorem beside_right (M : List (List Nat)) (r i j : Nat) : vecF (besideF M r) i (r + j) = Lin.one i j := by
  unfold vecF besideF Lin.one
  rw [if_neg (by omega), show r + j - r = j by omega]
  by_cases e : i = j
  · rw [if_pos e, if_pos e]; rfl
  · rw [if_neg e, if_neg e]; rfl
/-- What Invert answers. -/
def Inverted (w' : World) (M : List (List Nat)) (z : Addr) (e : Ending) : Prop :=
  ∃ d : Nat, Lin.IsRank M.length M.length (vec M) d ∧ ((d < M.length ∧ e = .returned (.tuple #[.slice none 0 0, .iface 165 (.pointer (some z))])) ∨
    (d = M.length ∧ ∃ (gm : Nat) (x : Nat → Nat → Nat), e = .returned (.tuple #[.slice (some ⟨gm, 0, none⟩) M.length M.length, .nilIface]) ∧ Mat w' (some ⟨gm, 0, none⟩) (matFn M.length M.length x) ∧ (∀ i j, x i j < 256) ∧ ∀ i j, i < M.length → j < M.length → Lin.mm M.length (vecF x) (vec M) i j = Lin.one i j))
set_option maxRecDepth 10000 in
set_option maxHeartbeats 8000000 in
theorem invert_ok (p : Option Addr) (M : List (List Nat)) (cap : Nat) (z : Addr) (w : World) (hM : IsMat M) (hsq : (rowOf M 0).length = M.length) (hb : BytesM M) (h : Mat w p M)
    (hz : w.cell? ⟨11, 0, none⟩ = some (.iface 165 (.pointer (some z)))) :
    Calls Tryz.prog 35 #[.slice p M.length cap] w fun e w' => Inverted w' M z e ∧ Below w.heap.size w w' := by
  have HM : Hid (IsMat M) := hM
  have l1 : 1 ≤ M.length := hM.1
  have l2 : M.length ≤ 16 := hM.2.1
  have hzl : 11 < w.heap.size := lt_of_cell hz
  have HBY : Hid (BytesM M) := hb
  obtain ⟨w1, hw1⟩ : ∃ w1, w1 = w.alloc (.cells #[.slice p M.length cap] 74) := ⟨_, rfl⟩
  have hb1 : Below w.heap.size w w1 := by rw [hw1]; exact (Below.refl _ _).alloc (Nat.le_refl _) _
  have hs1 : w1.heap.size = w.heap.size + 1 := by rw [hw1]; simp
  have HM1 : Hid (Mat w1 p M) := h.below hb1
  have hp1 : w1.cell? ⟨w.heap.size, 0, none⟩ = some (.slice p M.length cap) := by rw [hw1, World.cell?_alloc_at _ _ _ _ rfl]; rfl
  have HZ1 : Hid (w1.cell? ⟨11, 0, none⟩ = some (.iface 165 (.pointer (some z)))) := (hb1.cell (p := ⟨11, 0, none⟩) hzl).trans hz
  have HB1 : Hid (Below w.heap.size w w1) := hb1
  have HROW : Hid (∀ i, i < M.length → (rowOf M i).length = M.length) := fun i hi => (hM.2.2 i hi).2.2.trans hsq
  obtain ⟨b, o, b1, o1, c1, hpe, hbb, _, hc1, _⟩ := HM1.out.row (i := 0) (by omega) (by rw [hsq]; omega)
  rw [hsq] at hc1
  have hc0 : w1.cell? ⟨b, o, none⟩ = some (.slice (some ⟨b1, o1, none⟩) M.length c1) := hc1
  subst hpe
  have HW1 : Hid (w1 = w.alloc (.cells #[.slice (some ⟨b, o, none⟩) M.length cap] 74)) := hw1
  have i0 : 0 < M.length := by omega
  have i1 : (0 : Int) < (M.length : Int) := by omega
  clear hM hb h hz hb1 hw1 hc1 hsq
  go_enter Tryz.func35, Tryz.ntmps35
  go_wp2_with fail
  rw [← HW1.out]
  go_quiet ((go_at_call 60; exact Calls.quiet_of_same (check_ok _ M cap _ HM.out (HM1.out.drewN _))))
  obtain ⟨w2, hw2⟩ : ∃ w2, w2 = w1.drewN nq := ⟨_, rfl⟩
  have hb2 : Below w1.heap.size w1 w2 := by rw [hw2]; exact below_drewN (Below.refl _ _) _
  have hs2 : w2.heap.size = w1.heap.size := by rw [hw2]; rfl
  rw [← hw2]
  have hp2 : w2.cell? ⟨w.heap.size, 0, none⟩ = some (.slice (some ⟨b, o, none⟩) M.length cap) := (hb2.cell (p := ⟨w.heap.size, 0, none⟩) (by show w.heap.size < _; omega)).trans hp1
  obtain ⟨w3, hw3⟩ : ∃ w3, w3 = w2.alloc (.cells #[.int .i64 (M.length : Int)] 3) := ⟨_, rfl⟩
  have hb3 : Below w1.heap.size w1 w3 := by rw [hw3]; exact hb2.alloc (by omega) _
  have hs3 : w3.heap.size = w.heap.size + 2 := by rw [hw3]; simp; omega
  have hS3 : w3.cell? ⟨w.heap.size + 1, 0, none⟩ = some (.int .i64 (M.length : Int)) := by rw [hw3, World.cell?_alloc_at _ _ _ _ (by omega)]; rfl
  have hp3 : w3.cell? ⟨w.heap.size, 0, none⟩ = some (.slice (some ⟨b, o, none⟩) M.length cap) := (hb3.cell (p := ⟨w.heap.size, 0, none⟩) (by show w.heap.size < _; omega)).trans hp1
  have HM3 : Hid (Mat w3 (some ⟨b, o, none⟩) M) := HM1.out.below hb3
  have HZ3 : Hid (w3.cell? ⟨11, 0, none⟩ = some (.iface 165 (.pointer (some z)))) := (hb3.cell (p := ⟨11, 0, none⟩) (by show 11 < _; omega)).trans HZ1.out
  have HB3 : Hid (Below w.heap.size w w3) := HB1.out.trans (hb3.mono (by omega))
  have HCB : Hid (∀ i j, i < M.length → j < 2 * M.length → ∀ w2, Below w3.heap.size w3 w2 → Calls Tryz.prog 62 (#[.int .i64 (i : Int), .int .i64 (j : Int)] ++ #[.pointer (some ⟨w.heap.size + 1, 0, none⟩), .pointer (some ⟨w.heap.size, 0, none⟩)]) w2 fun e w3 => e = .returned (.int .u8 ((besideF M M.length i j : Nat) : Int)) ∧ Below w2.heap.size w2 w3) := by
    intro i j hi hj w4 h4
    exact invert1_any (w.heap.size + 1) w.heap.size i j M.length cap _ M w4 hi hj (HROW.out i hi) (by omega) ((h4.cell (p := ⟨w.heap.size + 1, 0, none⟩) (by show w.heap.size + 1 < _; omega)).trans hS3) ((h4.cell (p := ⟨w.heap.size, 0, none⟩) (by show w.heap.size < _; omega)).trans hp3) (HM3.out.below h4)
  have HW3 : Hid (w3 = w2.alloc (.cells #[.int .i64 (M.length : Int)] 3)) := hw3
  have hsw : w2.heap.size = w.heap.size + 1 := by omega
  clear hw2 hb2 hs2 hw3 hb3 hp1 hc0 hbb
  have HBC := build_any M.length (2 * M.length) (besideF M M.length) 62 #[.pointer (some ⟨w.heap.size + 1, 0, none⟩), .pointer (some ⟨w.heap.size, 0, none⟩)] w3 (by omega) (by omega) (enters_of Tryz.func62 (by kernel_rfl) rfl) HCB.out
  rw [show ((2 * M.length : Nat) : Int) = 2 * (M.length : Int) by omega] at HBC
  go_wp2_with (go_at_call 61; rw [← HW3.out]; refine HBC.mono ?_; rintro e w4 ⟨⟨gm, gs, rfl, hG4⟩, hb4⟩)
  have HG4 : Hid (OwnG w4 w3.heap.size gm gs M.length (2 * M.length) (besideF M M.length)) := hG4
  have hgm4 : gm < w4.heap.size := hG4.rows.lt.2
  have hz34 : w3.heap.size ≤ w4.heap.size := hb4.size
  obtain ⟨w5, hw5⟩ : ∃ w5, w5 = w4.alloc (.cells #[.slice (some ⟨gm, 0, none⟩) M.length M.length] 74) := ⟨_, rfl⟩
  rw [← hw5]
  have hb5 : Below w4.heap.size w4 w5 := by rw [hw5]; exact (Below.refl _ _).alloc (Nat.le_refl _) _
  have hs5 : w5.heap.size = w4.heap.size + 1 := by rw [hw5]; simp
  have hb35 : Below w3.heap.size w3 w5 := hb4.trans (hb5.mono hz34)
  have hS5 : w5.cell? ⟨w.heap.size + 1, 0, none⟩ = some (.int .i64 (M.length : Int)) := (hb35.cell (p := ⟨w.heap.size + 1, 0, none⟩) (by show w.heap.size + 1 < _; omega)).trans hS3
  have hBo5 : w5.cell? ⟨w4.heap.size, 0, none⟩ = some (.slice (some ⟨gm, 0, none⟩) M.length M.length) := by rw [hw5, World.cell?_alloc_at _ _ _ _ rfl]; rfl
  have HZ5 : Hid (w5.cell? ⟨11, 0, none⟩ = some (.iface 165 (.pointer (some z)))) := (hb35.cell (p := ⟨11, 0, none⟩) (by show 11 < _; omega)).trans HZ3.out
  have HG5 : Hid (OwnG w5 w3.heap.size gm gs M.length (2 * M.length) (besideF M M.length)) := hG4.below hb5
  have HB5 : Hid (Below w.heap.size w w5) := HB3.out.trans (hb35.mono (by omega))
  have HBL : Hid (∀ k, blocksOf gm gs M.length k → w3.heap.size ≤ k ∧ k < w4.heap.size) := HG4.out.blocks
  have HRED : Hid (∀ W : World, Below w5.heap.size w5 W → Calls Tryz.prog 64 #[.slice (some ⟨gm, 0, none⟩) M.length M.length, .int .i64 (M.length : Int)] W fun e w' => ∃ (d : Nat) (gs' : Nat → Nat) (g : Nat → Nat → Nat), e = .returned (.int .i64 (d : Int)) ∧ Frame (blocksOf gm gs M.length) w5 w' ∧ OwnG w' w3.heap.size gm gs' M.length (2 * M.length) g ∧ (∀ i j, g i j < 256) ∧ Lin.Red M.length (2 * M.length) M.length (vecF (besideF M M.length)) (vecF g) d) := by
    intro W hW
    refine (reduce_any (blocksOf gm gs M.length) w3.heap.size gm gs M.length (2 * M.length) M.length (besideF M M.length) z W (by omega) (by omega) (by omega) (besideF_lt HBY.out M.length) (HG5.out.below hW) (Or.inl rfl) (fun i hi => Or.inr ⟨i, hi, rfl⟩) (fun k hk => ⟨(HBL.out k hk).1, by have := (HBL.out k hk).2; have := hW.size; omega⟩) (by omega) ((hW.cell (p := ⟨11, 0, none⟩) (by show 11 < _; omega)).trans HZ5.out)).mono ?_
    rintro e w' ⟨hF, d, gs', g, rfl, hG, hl, hR⟩
    exact ⟨d, gs', g, rfl, (frame_below hW).trans hF, hG, hl, hR⟩
  have nS : ¬ blocksOf gm gs M.length (w.heap.size + 1) := fun hk => by have := (HBL.out _ hk).1; omega
  have nB : ¬ blocksOf gm gs M.length w4.heap.size := fun hk => by have := (HBL.out _ hk).2; omega
  have nE : ¬ blocksOf gm gs M.length 11 := fun hk => by have := (HBL.out _ hk).1; omega
  have NS : Hid (¬ blocksOf gm gs M.length (w.heap.size + 1)) := nS
  have NB : Hid (¬ blocksOf gm gs M.length w4.heap.size) := nB
  have NE : Hid (¬ blocksOf gm gs M.length 11) := nE
  clear nS nB nE hw5 hb5 hb35 hb4 hG4 HG4 hS3 hp2 hp3 HBC HCB
  go_cut [30] from 26 to 30 (fun v wc => ∃ (d : Nat) (gs' : Nat → Nat) (g : Nat → Nat → Nat), v = .bool (decide (d < M.length)) ∧ Frame (blocksOf gm gs M.length) w5 wc ∧ OwnG wc w3.heap.size gm gs' M.length (2 * M.length) g ∧ (∀ i j, g i j < 256) ∧ Lin.Red M.length (2 * M.length) M.length (vecF (besideF M M.length)) (vecF g) d)
  case first =>
    go_region_with (go_at_call 64; refine (HRED.out _ (by first | exact (Below.refl _ _).drew | exact Below.refl _ _)).mono ?_; rintro e w6 ⟨d, gs', g, rfl, hF, hG, hl, hR⟩; have hS6 := hF.cell hS5 NS.out)
    all_goals (go_wp2_with fail; go_meet)
    all_goals exact ⟨d, gs', g, rfl, hF, hG, hl, hR⟩
  case rest =>
    obtain ⟨d, gs', g, rfl, hF6, hG6, hl6, hR6⟩ := hcut
    have HF6 : Hid (Frame (blocksOf gm gs M.length) w5 wc) := hF6
    have HG6 : Hid (OwnG wc w3.heap.size gm gs' M.length (2 * M.length) g) := hG6
    have HL6 : Hid (∀ i j, g i j < 256) := hl6
    have HR6 : Hid (Lin.Red M.length (2 * M.length) M.length (vecF (besideF M M.length)) (vecF g) d) := hR6
    have HRK : Hid (Lin.IsRank M.length M.length (vec M) d) := rank_congr (hR6.rank (by omega)) (fun i _ j hj => beside_left M M.length i j hj)
    have hz6 : wc.cell? ⟨11, 0, none⟩ = some (.iface 165 (.pointer (some z))) := hF6.cell HZ5.out NE.out
    have hS6 : wc.cell? ⟨w.heap.size + 1, 0, none⟩ = some (.int .i64 (M.length : Int)) := hF6.cell hS5 NS.out
    have hBo6 : wc.cell? ⟨w4.heap.size, 0, none⟩ = some (.slice (some ⟨gm, 0, none⟩) M.length M.length) := hF6.cell hBo5 NB.out
    have hs56 : w5.heap.size ≤ wc.heap.size := hF6.size
    have HB6 : Hid (Below w.heap.size w wc) := HB5.out.trans ((hF6.below (fun k hk => (HBL.out k hk).1) (by omega)).mono (by omega))
    have hdle : d ≤ M.length := hR6.le
    clear hF6 hG6 hl6 hR6
    by_cases hd : d < M.length
    · have HD : Hid (d < M.length) := hd
      rw [decide_eq_true hd]
      clear hd
      go_wp2
      go_quiet (fail)
      go_wp2
      go_ret2
      exact ⟨⟨d, HRK.out, Or.inl ⟨HD.out, rfl⟩⟩, below_drewN HB6.out _⟩
    · have hde : d = M.length := by omega
      have HD : Hid (d = M.length) := hde
      have HRI : Hid (Lin.Red M.length (2 * M.length) M.length (vecF (besideF M M.length)) (vecF g) M.length) := by have := HR6.out; rw [hde] at this; exact this
      rw [decide_eq_false hd]
      clear hd hde hz6
      have HCB : Hid (∀ i j, i < M.length → j < M.length → ∀ w2, Below wc.heap.size wc w2 → Calls Tryz.prog 65 (#[.int .i64 (i : Int), .int .i64 (j : Int)] ++ #[.pointer (some ⟨w4.heap.size, 0, none⟩), .pointer (some ⟨w.heap.size + 1, 0, none⟩)]) w2 fun e w3 => e = .returned (.int .u8 ((g i (M.length + j) : Nat) : Int)) ∧ Below w2.heap.size w2 w3) := by
        intro i j hi hj w7 h7
        have hG7 := HG6.out.below h7
        refine invert2_any w4.heap.size (w.heap.size + 1) i j M.length gm M.length (2 * M.length) gs' (g i (M.length + j)) w7 hi (by omega) (by omega) ((h7.cell (p := ⟨w4.heap.size, 0, none⟩) (by show w4.heap.size < _; omega)).trans hBo6) ((h7.cell (p := ⟨w.heap.size + 1, 0, none⟩) (by show w.heap.size + 1 < _; omega)).trans hS6) (hG7.rows.cell i hi) ?_
        rw [(hG7.all.row i hi).cell (M.length + j) (by omega) (rowFn_length _ _), nth_rowFn _ _ _ (by omega)]
      go_wp2_with (go_at_call 61; refine (build_any M.length M.length (fun i j => g i (M.length + j)) 65 #[.pointer (some ⟨w4.heap.size, 0, none⟩), .pointer (some ⟨w.heap.size + 1, 0, none⟩)] wc (by omega) (by omega) (enters_of Tryz.func65 (by kernel_rfl) rfl) HCB.out).mono ?_; rintro e w8 ⟨⟨gm', gs8, rfl, hG8⟩, hb8⟩)
      go_ret2
      refine ⟨⟨d, HRK.out, Or.inr ⟨HD.out, gm', fun i j => g i (M.length + j), rfl, hG8.mat (fun i j => HL6.out _ _) M.length (Nat.le_refl _), fun i j => HL6.out _ _, ?_⟩⟩, HB6.out.trans (hb8.mono (by omega))⟩
      exact HRI.out.inverse (fun i j _ hj => beside_left M M.length i j hj) (fun i j _ _ => beside_right M M.length i j)
set_option maxRecDepth 10000 in
set_option maxHeartbeats 2000000 in
theorem invert_none (p : Option Addr) (M : List (List Nat)) (cap : Nat) (z : Addr) (w : World) (hl : M.length < 2 ^ 62) (hm : ∀ i, (rowOf M i).length < 2 ^ 62) (hM : ¬ IsMat M) (h : Mat w p M)
    (hz : w.cell? ⟨0, 0, none⟩ = some (.iface 165 (.pointer (some z)))) :
    Calls Tryz.prog 35 #[.slice p M.length cap] w fun e w' => e = .returned (.tuple #[.slice none 0 0, .iface 165 (.pointer (some z))]) ∧ Below w.heap.size w w' := by
  obtain ⟨w1, hw1⟩ : ∃ w1, w1 = w.alloc (.cells #[.slice p M.length cap] 74) := ⟨_, rfl⟩
  have hb1 : Below w.heap.size w w1 := by rw [hw1]; exact (Below.refl _ _).alloc (Nat.le_refl _) _
  have hp1 : w1.cell? ⟨w.heap.size, 0, none⟩ = some (.slice p M.length cap) := by rw [hw1, World.cell?_alloc_at _ _ _ _ rfl]; rfl
  have hz1 : w1.cell? ⟨0, 0, none⟩ = some (.iface 165 (.pointer (some z))) := (hb1.cell (p := ⟨0, 0, none⟩) (lt_of_cell hz)).trans hz
  have HC : Hid (∀ n, Calls Tryz.prog 60 #[.slice p M.length cap] (w1.drewN n) fun e w' => e = .returned (.iface 165 (.pointer (some z))) ∧ w' = w1.drewN n) := fun n => check_bad p M cap z _ hl hm hM ((h.below hb1).drewN n) hz1
  have HW1 : Hid (w1 = w.alloc (.cells #[.slice p M.length cap] 74)) := hw1
  clear hl hm hM h hz hw1
  go_enter Tryz.func35, Tryz.ntmps35
  go_wp2_with fail
  rw [← HW1.out]
  go_quiet ((go_at_call 60; exact Calls.quiet_of_same (HC.out _)))
  have hz2 : (w1.drewN nq).cell? ⟨0, 0, none⟩ = some (.iface 165 (.pointer (some z))) := hz1
  have hb2 : Below w.heap.size w (w1.drewN nq) := below_drewN hb1 _
  generalize w1.drewN nq = w2 at hz2 hb2 ⊢
  clear hz1 hp1
  go_wp2
  go_quiet (fail)
  go_wp2
  go_ret2
  exact ⟨rfl, below_drewN hb2 _⟩
set_option maxRecDepth 10000 in
set_option maxHeartbeats 2000000 in
theorem invert_wide (p : Option Addr) (M : List (List Nat)) (cap : Nat) (z : Addr) (w : World) (hM : IsMat M) (hsq : (rowOf M 0).length ≠ M.length) (h : Mat w p M)
    (hz : w.cell? ⟨0, 0, none⟩ = some (.iface 165 (.pointer (some z)))) :
    Calls Tryz.prog 35 #[.slice p M.length cap] w fun e w' => e = .returned (.tuple #[.slice none 0 0, .iface 165 (.pointer (some z))]) ∧ Below w.heap.size w w' := by
  have l1 : 1 ≤ M.length := hM.1
  have l2 : M.length ≤ 16 := hM.2.1
  have n1 : 1 ≤ (rowOf M 0).length := (hM.2.2 0 (by omega)).1
  have n2 : (rowOf M 0).length ≤ 16 := (hM.2.2 0 (by omega)).2.1
  obtain ⟨w1, hw1⟩ : ∃ w1, w1 = w.alloc (.cells #[.slice p M.length cap] 74) := ⟨_, rfl⟩
  have hb1 : Below w.heap.size w w1 := by rw [hw1]; exact (Below.refl _ _).alloc (Nat.le_refl _) _
  have hp1 : w1.cell? ⟨w.heap.size, 0, none⟩ = some (.slice p M.length cap) := by rw [hw1, World.cell?_alloc_at _ _ _ _ rfl]; rfl
  have hz1 : w1.cell? ⟨0, 0, none⟩ = some (.iface 165 (.pointer (some z))) := (hb1.cell (p := ⟨0, 0, none⟩) (lt_of_cell hz)).trans hz
  have HC : Hid (∀ n, Calls Tryz.prog 60 #[.slice p M.length cap] (w1.drewN n) fun e w' => e = .returned .nilIface ∧ w' = w1.drewN n) := fun n => check_ok p M cap _ hM ((h.below hb1).drewN n)
  obtain ⟨b, o, b1, o1, c1, hpe, hbb, _, hc1, _⟩ := (h.below hb1).row (i := 0) (by omega) (by omega)
  have hc0 : w1.cell? ⟨b, o, none⟩ = some (.slice (some ⟨b1, o1, none⟩) (rowOf M 0).length c1) := hc1
  subst hpe
  have HW1 : Hid (w1 = w.alloc (.cells #[.slice (some ⟨b, o, none⟩) M.length cap] 74)) := hw1
  have ht : ((M.length : Int) != ((rowOf M 0).length : Int)) = true := by simp; omega
  have i0 : 0 < M.length := by omega
  have i1 : (0 : Int) < (M.length : Int) := by omega
  clear hM h hz hw1 hsq hc1
  generalize (rowOf M 0).length = n at *
  go_enter Tryz.func35, Tryz.ntmps35
  go_wp2_with fail
  rw [← HW1.out]
  go_quiet ((go_at_call 60; exact Calls.quiet_of_same (HC.out _)))
  have hz2 : (w1.drewN nq).cell? ⟨0, 0, none⟩ = some (.iface 165 (.pointer (some z))) := hz1
  have hb2 : Below w.heap.size w (w1.drewN nq) := below_drewN hb1 _
  generalize w1.drewN nq = w2 at hz2 hb2 ⊢
  clear hz1 hp1 hc0
  go_wp2
  go_quiet (fail)
  go_wp2
  go_ret2
  exact ⟨rfl, below_drewN hb2 _⟩
set_option maxRecDepth 10000 in
set_option maxHeartbeats 1000000 in
theorem rmul_any (a b : Nat) (w : World) (ha : a < 256) (_hb : b < 256) :
    Calls Tryz.prog 49 #[.int .u8 (a : Int), .int .u8 (b : Int)] w fun e w' => e = .returned (.int .u8 ((Gf.mul a b : Nat) : Int)) ∧ w' = w := by
  go_enter Tryz.func49, Tryz.ntmps49
  go_wp2
  go_loop [5, 6] (fun p i => ∃ k : Nat, k ≤ 8 ∧ i = .int .i64 k ∧ p = .int .i64 (Gf.rprod a b k : Nat)) (fun _ i => 8 - (intOf i).toNat)
  case atStart => exact ⟨0, by omega, rfl, rfl⟩
  case round =>
    obtain ⟨k, hk, rfl, rfl⟩ := hrel
    have hp := Gf.rprod_lt ha b k hk
    by_cases hlt : k < 8
    · have hbt := tmod_test b k
      have hak : a * 2 ^ k < 2 ^ 15 := by
        have h1 : 2 ^ k ≤ 2 ^ 7 := Nat.pow_le_pow_right (by decide) (by omega)
        have h2 : a * 2 ^ k ≤ 255 * 2 ^ 7 := Nat.mul_le_mul (by omega) h1
        omega
      have hw1 : wrap64 ((a : Int) * 2 ^ k) = ((a * 2 ^ k : Nat) : Int) := by
        have := wrap64_small (a * 2 ^ k) (by omega)
        simpa using this
      have HX : Hid (bits .xor .i64 ((Gf.rprod a b k : Nat) : Int) (wrap64 ((a : Int) * 2 ^ k)) = ((Gf.rprod a b k ^^^ (a * 2 ^ k) : Nat) : Int)) := by show _ = _; rw [hw1]; exact i64_xor_nat _ _ (by omega) (by omega)
      clear hw1
      by_cases hbit : Gf.bitOf b k = 1
      · have HP : Hid (Gf.rprod a b (k + 1) = Gf.rprod a b k ^^^ (a * 2 ^ k)) := by show _ = _; simp [Gf.rprod, hbit]
        rw [decide_eq_true hbit] at hbt
        clear hbit
        go_wp2
        exact ⟨⟨k + 1, by omega, by go_num, by rw [HP.out, HX.out]⟩, by simp [intOf]; omega⟩
      · have HP : Hid (Gf.rprod a b (k + 1) = Gf.rprod a b k) := by show _ = _; simp [Gf.rprod, hbit]
        rw [decide_eq_false hbit] at hbt
        clear hbit
        go_wp2
        exact ⟨⟨k + 1, by omega, by go_num, by rw [HP.out]⟩, by simp [intOf]; omega⟩
    · have hk8 : k = 8 := by omega
      subst hk8
      go_wp2
      have hn : Hid (Gf.rprod a b 8 < 2 ^ 15) := hp
      have HR : Hid (Gf.rmod (Gf.rprod a b 8) = Gf.mul a b) := Gf.rmul_eq a b ha
      generalize Gf.rprod a b 8 = n at hn HR hp ⊢
      go_loop [5, 7] (fun p i => ∃ m : Nat, 7 ≤ m ∧ m ≤ 14 ∧ i = .int .i64 m ∧ p = .int .i64 (Gf.rr n (14 - m) : Nat)) (fun _ i => (intOf i).toNat)
      case atStart => exact ⟨14, by omega, by omega, rfl, rfl⟩
      case round =>
        obtain ⟨m, hm7, hm, rfl, rfl⟩ := hrel
        have hp2 := Gf.rr_lt hn.out (14 - m)
        have HE : Hid (Gf.rr n (14 - (m - 1)) = if 8 ≤ m then Gf.rstep m (Gf.rr n (14 - m)) else Gf.rr n (14 - (m - 1))) := by
          show _ = _
          by_cases h8 : 8 ≤ m
          · rw [if_pos h8, show 14 - (m - 1) = (14 - m) + 1 from by omega]
            show Gf.rstep (14 - (14 - m)) _ = _
            rw [show 14 - (14 - m) = m from by omega]
          · rw [if_neg h8]
        by_cases h8 : 8 ≤ m
        · have hbt := tmod_test (Gf.rr n (14 - m)) m
          have h285 : 285 * 2 ^ (m - 8) < 2 ^ 15 := by
            have h1 : 2 ^ (m - 8) ≤ 2 ^ 6 := Nat.pow_le_pow_right (by decide) (by omega)
            have h2 : 285 * 2 ^ (m - 8) ≤ 285 * 2 ^ 6 := Nat.mul_le_mul (Nat.le_refl _) h1
            omega
          have hw1 : wrap64 ((285 : Int) * 2 ^ (m - 8)) = ((285 * 2 ^ (m - 8) : Nat) : Int) := by
            have := wrap64_small (285 * 2 ^ (m - 8)) (by omega)
            simpa using this
          have HX : Hid (bits .xor .i64 ((Gf.rr n (14 - m) : Nat) : Int) (wrap64 ((285 : Int) * 2 ^ (m - 8))) = ((Gf.rr n (14 - m) ^^^ (285 * 2 ^ (m - 8)) : Nat) : Int)) := by show _ = _; rw [hw1]; exact i64_xor_nat _ _ (by omega) (by omega)
          have HE' : Hid (Gf.rr n (14 - (m - 1)) = Gf.rstep m (Gf.rr n (14 - m))) := by have := HE.out; rw [if_pos h8] at this; exact this
          clear hw1 HE
          by_cases hbit : Gf.bitOf (Gf.rr n (14 - m)) m = 1
          · have HP : Hid (Gf.rstep m (Gf.rr n (14 - m)) = Gf.rr n (14 - m) ^^^ (285 * 2 ^ (m - 8))) := by show _ = _; simp [Gf.rstep, hbit]
            rw [decide_eq_true hbit] at hbt
            clear hbit
            go_wp2
            exact ⟨⟨m - 1, by omega, by omega, by congr 1; omega, by rw [HE'.out, HP.out, HX.out]⟩, by simp [intOf]; omega⟩
          · have HP : Hid (Gf.rstep m (Gf.rr n (14 - m)) = Gf.rr n (14 - m)) := by show _ = _; simp [Gf.rstep, hbit]
            rw [decide_eq_false hbit] at hbt
            clear hbit
            go_wp2
            exact ⟨⟨m - 1, by omega, by omega, by congr 1; omega, by rw [HE'.out, HP.out]⟩, by simp [intOf]; omega⟩
        · have hm' : m = 7 := by omega
          subst hm'
          go_wp2
          go_ret
          refine ⟨ret_int ?_, rfl⟩
          have := HR.out
          rw [← this]
          simp [Gf.rmod]
theorem rmul_as (a b c : Nat) (w : World) (ha : a < 256) (hb : b < 256) (h : Gf.mul a b = c) :
    Calls Tryz.prog 49 #[.int .u8 (a : Int), .int .u8 (b : Int)] w fun e w' => e = .returned (.int .u8 ((c : Nat) : Int)) ∧ w' = w := h ▸ rmul_any a b w ha hb
set_option maxRecDepth 10000 in
set_option maxHeartbeats 1000000 in
theorem rinv_any (a : Nat) (w : World) (ha : a < 256) (h0 : a ≠ 0) :
    Calls Tryz.prog 78 #[.int .u8 (a : Int)] w fun e w' => e = .returned (.int .u8 ((Gf.inv a : Nat) : Int)) ∧ w' = w := by
  have hi := Gf.inv_lt a
  have hip := Gf.inv_pos a ha h0
  have HM : Hid (Gf.mul a (Gf.inv a) = 1) := Gf.mul_inv a ha h0
  have HU : Hid (∀ b, b < 256 → Gf.mul a b = 1 → b = Gf.inv a) := fun b hb h => Gf.inv_unique a b ha hb h0 h
  clear h0
  go_enter Tryz.func78, Tryz.ntmps78
  go_wp2
  go_loop [3] (fun i => ∃ k : Nat, 1 ≤ k ∧ k ≤ Gf.inv a ∧ i = .int .i64 k) (fun i => 256 - (intOf i).toNat)
  case atStart => exact ⟨1, by omega, by omega, rfl⟩
  case round =>
    obtain ⟨k, hk1, hk, rfl⟩ := hrel
    by_cases hki : k = Gf.inv a
    · subst hki
      go_wp2_with fail
      refine (rmul_as a (Gf.inv a) 1 _ ha hi HM.out).mono ?_
      rintro e w' ⟨rfl, rfl⟩
      go_wp2
      go_ret
      exact ⟨rfl, rfl⟩
    · have hn1 : (((Gf.mul a k : Nat) : Int) == 1) = false := by
        simp only [beq_eq_false_iff_ne, ne_eq]
        intro h
        exact hki (HU.out k (by omega) (by omega))
      go_wp2_with fail
      refine (rmul_any a k _ ha (by omega)).mono ?_
      rintro e w' ⟨rfl, rfl⟩
      go_wp2
      exact ⟨⟨k + 1, by omega, by omega, by go_num⟩, by simp [intOf]; omega⟩
set_option maxRecDepth 10000 in
set_option maxHeartbeats 2000000 in
theorem basis_any (p : Option Addr) (l : List Nat) (cap i x : Nat) (w : World) (hx : x < 256) (hl : l.length < 2 ^ 40) (hi : i < l.length) (hn : l.Nodup) (hs : Seg w p l) :
    Calls Tryz.prog 47 #[.slice p l.length cap, .int .i64 (i : Int), .int .u8 (x : Int)] w fun e w' => e = .returned (.int .u8 ((Gf.shareOf l i x : Nat) : Int)) ∧ ∃ n, w' = w.drewN n := by
  obtain ⟨hlt, hs⟩ := hs
  rcases hs with hs | ⟨b, o, rfl, hb, hc⟩
  · rw [hs] at hi; simp at hi
  have hxi := hlt i
  have HE : Hid (Gf.bas l i x l.length = Gf.shareOf l i x) := Gf.bas_share l hlt hn i x hi hx
  have HI : Hid (∀ k, k < l.length → k ≠ i → Gf.nth l i ^^^ Gf.nth l k ≠ 0) := fun k hk e => Gf.xor_ne fun h' => e (Gf.nth_inj l hn hk hi h'.symm)
  clear hn
  go_enter Tryz.func47, Tryz.ntmps47
  go_wp2
  go_loopw [7, 8] (fun s j wr => (∃ n, wr = w.drewN n) ∧ ∃ k : Nat, k ≤ l.length ∧ j = .int .i64 k ∧ s = .int .u8 (Gf.bas l i x k : Nat)) (fun _ j _ => l.length - (intOf j).toNat)
  case atStart => exact ⟨⟨0, rfl⟩, 0, by omega, rfl, rfl⟩
  case round =>
    obtain ⟨hw0, k, hk, rfl, rfl⟩ := hrel
    have HW : Hid (∃ n, wr = w.drewN n) := hw0
    clear hw0
    have hpa := Gf.bas_lt l i x k
    by_cases hlt2 : k < l.length
    · have hc1 : wr.cell? ⟨b, o + k, none⟩ = some (.int .u8 ((Gf.nth l k : Nat) : Int)) := by
        obtain ⟨n, hn⟩ := HW.out
        rw [hn]
        exact hc k hlt2
      have hc2 : wr.cell? ⟨b, o + i, none⟩ = some (.int .u8 ((Gf.nth l i : Nat) : Int)) := by
        obtain ⟨n, hn⟩ := HW.out
        rw [hn]
        exact hc i hi
      have hkl := hlt k
      have HA : Hid (Gf.bas l i x (k + 1) = if k = i then Gf.bas l i x k else Gf.mul (Gf.bas l i x k) (Gf.mul (x ^^^ Gf.nth l k) (Gf.inv (Gf.nth l i ^^^ Gf.nth l k)))) := rfl
      clear hc
      by_cases hki : k = i
      · have HA' := HA.out
        rw [if_pos hki] at HA'
        have HA2 : Hid (Gf.bas l i x (k + 1) = Gf.bas l i x k) := HA'
        have ht : ((k : Int) != (i : Int)) = false := by simp; omega
        clear HA HA' hki
        go_wp2
        go_roundw
        case rel => exact ⟨HW.out, k + 1, by omega, by go_num, by rw [HA2.out]⟩
        case measure => simp [intOf]; omega
      · have HA' := HA.out
        rw [if_neg hki] at HA'
        have HA2 : Hid (Gf.bas l i x (k + 1) = Gf.mul (Gf.bas l i x k) (Gf.mul (x ^^^ Gf.nth l k) (Gf.inv (Gf.nth l i ^^^ Gf.nth l k)))) := HA'
        have HZ : Hid (Gf.nth l i ^^^ Gf.nth l k ≠ 0) := HI.out k hlt2 hki
        have ht : ((k : Int) != (i : Int)) = true := by simp; omega
        clear HA HA' hki HI
        generalize Gf.bas l i x k = pa at hpa HA2 ⊢
        generalize Gf.nth l k = c at hc1 hkl HA2 HZ
        generalize Gf.nth l i = d at hc2 hxi HA2 HZ
        have hxc := Gf.xlt hx hkl
        have hdc := Gf.xlt hxi hkl
        have hb1 := u8_xor_nat x c hx hkl
        have hb2 := u8_xor_nat d c hxi hkl
        have hin := Gf.inv_lt (d ^^^ c)
        have hm := Gf.mul_lt hxc (Gf.inv (d ^^^ c))
        go_wp2
        go_quiet ((first | (go_at_call 78; exact Calls.quiet_of_same (rinv_any (d ^^^ c) _ hdc HZ.out)) | (go_at_call_of 49 (Value.int IntKind.u8 ((x ^^^ c : Nat) : Int)); exact Calls.quiet_of_same (rmul_any (x ^^^ c) (Gf.inv (d ^^^ c)) _ hxc hin)) | (go_at_call_of 49 (Value.int IntKind.u8 ((pa : Nat) : Int)); exact Calls.quiet_of_same (rmul_any pa (Gf.mul (x ^^^ c) (Gf.inv (d ^^^ c))) _ hpa hm))))
        go_wp2
        go_roundw
        case rel =>
          obtain ⟨n, hn⟩ := HW.out
          exact ⟨⟨n + nq, by rw [hn, World.drewN_drewN]⟩, k + 1, by omega, by go_num, by rw [HA2.out]⟩
        case measure => simp [intOf]; omega
    · have hke : k = l.length := by omega
      subst hke
      go_wp2
      go_ret
      exact ⟨by simp [HE.out], HW.out⟩
/-- Row i, column j: what the polynomial that is 1 at j has at i. -/
def spreadM (k n : Nat) : List (List Nat) := (List.range n).map fun i => rowFn k fun j => Gf.shareOf (upToL k) j i
theorem spreadM_succ (k n : Nat) : spreadM k (n + 1) = spreadM k n ++ [rowFn k fun j => Gf.shareOf (upToL k) j n] := by simp [spreadM, List.range_succ]
theorem spreadM_length (k n : Nat) : (spreadM k n).length = n := by simp [spreadM]
theorem upToL_nodup (k : Nat) : (upToL k).Nodup := List.nodup_range
theorem upToL_length (k : Nat) : (upToL k).length = k := by simp [upToL]
theorem upToL_bytes (k : Nat) (h : k ≤ 256) : Gf.Bytes (upToL k) := fun i => by
  by_cases hi : i < k
  · rw [Gf.nth_getElem _ _ (by rw [upToL_length]; exact hi)]; simp [upToL]; omega
  · unfold Gf.nth; rw [List.getD_eq_getElem?_getD, List.getElem?_eq_none (by rw [upToL_length]; omega)]; decide
theorem basis_told (p : Option Addr) (k cap j x : Nat) (w : World) (hx : x < 256) (hk : k ≤ 100) (hj : j < k) (hs : Seg w p (upToL k)) :
    Calls Tryz.prog 47 #[.slice p k cap, .int .i64 (j : Int), .int .u8 (x : Int)] w fun e w' => e = .returned (.int .u8 ((Gf.shareOf (upToL k) j x : Nat) : Int)) ∧ ∃ n, w' = w.drewN n := by
  have h := basis_any p (upToL k) cap j x w hx (by rw [upToL_length]; omega) (by rw [upToL_length]; exact hj) (upToL_nodup k) hs
  rw [upToL_length] at h
  exact h
theorem nth_upTo (k r : Nat) (h : r < k) : Gf.nth (upToL k) r = r := by
  rw [Gf.nth_getElem _ r (by rw [upToL_length]; exact h)]
  simp [upToL]
/-- The first k rows of Powers are independent. -/
theorem vander_indep (k : Nat) (hk : k ≤ 256) : Lin.Indep k k (vecF Gf.rep) := by
  have h := powers_indep (upToL k) (upToL_bytes k hk) (upToL_nodup k)
  rw [upToL_length] at h
  intro c hc
  refine h c (fun j hj => ?_)
  rw [← hc j hj]
  exact Lin.fsum_congr fun r hr => by
    show Lin.mu (c r) (toF (Gf.rep (Gf.nth (upToL k) r) j)) = _
    rw [nth_upTo k r hr]
    rfl
theorem rank_of_indep {n : Nat} {v : Nat → Nat → Lin.F} (h : Lin.Indep n n v) : Lin.IsRank n n v n := ⟨v, h, fun _ hi => Lin.span_self v hi, fun _ hi => Lin.span_self v hi⟩
theorem rep_bytes : ∀ i j, Gf.rep i j < 256 := fun i j => Gf.rep_lt i j
/-- What Powers times the inverse is. -/
theorem spread_values (n k : Nat) (hn : n ≤ 12) (hkn : k ≤ n) (x : Nat → Nat → Nat) (hx : ∀ i j, x i j < 256) (hinv : ∀ i j, i < k → j < k → Lin.mm k (vecF x) (vecF Gf.rep) i j = Lin.one i j) (i j : Nat) (hi : i < n) (hj : j < k) :
    dotN (matFn n k Gf.rep) (matFn k k x) i j k = Gf.shareOf (upToL k) j i := by
  refine toF_inj (dotN_lt _ _ (matFn_bytes rep_bytes) i j k) (Gf.shareOf_lt _ _ _) ?_
  rw [dotN_fsum (matFn_bytes rep_bytes) (matFn_bytes hx)]
  have e1 : Lin.fsum k (fun t => Lin.mu (vec (matFn n k Gf.rep) i t) (vec (matFn k k x) t j)) = Lin.mm k (fun i t => toF (Gf.rep i t)) (vecF x) i j := Lin.fsum_congr fun t ht => by rw [vec_matFn hi ht, vec_matFn ht hj]; rfl
  rw [e1]
  have hr := Lin.right_of_left hinv
  have e2 : ∀ m, m < k → toF (Gf.rep i m) = Lin.mm k (fun i j => toF (Gf.shareOf (upToL k) j i)) (vecF Gf.rep) i m := fun m hm => by
    have := shares_times_powers (upToL k) (upToL_bytes k (by omega)) (upToL_nodup k) i m (by omega) (by rw [upToL_length]; exact hm)
    rw [upToL_length] at this
    rw [← this]
    exact Lin.fsum_congr fun t ht => by rw [nth_upTo k t ht]; rfl
  have e3 : Lin.mm k (fun i t => toF (Gf.rep i t)) (vecF x) i j = Lin.mm k (Lin.mm k (fun i j => toF (Gf.shareOf (upToL k) j i)) (vecF Gf.rep)) (vecF x) i j := Lin.mm_congr k (fun m hm => e2 m hm) (fun _ _ => rfl)
  rw [e3, Lin.mm_assoc]
  have e4 : Lin.mm k (fun i j => toF (Gf.shareOf (upToL k) j i)) (Lin.mm k (vecF Gf.rep) (vecF x)) i j = Lin.mm k (fun i j => toF (Gf.shareOf (upToL k) j i)) Lin.one i j := Lin.mm_congr k (fun _ _ => rfl) (fun m hm => hr m j hm hj)
  rw [e4, Lin.mm_one k _ i j hj]
theorem spread_prod (n k : Nat) (hk1 : 1 ≤ k) (hn : n ≤ 12) (hkn : k ≤ n) (x : Nat → Nat → Nat) (hx : ∀ i j, x i j < 256) (hinv : ∀ i j, i < k → j < k → Lin.mm k (vecF x) (vecF Gf.rep) i j = Lin.one i j) :
    prodM (matFn n k Gf.rep) (matFn k k x) n = spreadM k n := by
  rw [prodM_fn, rowOf_matFn k k x 0 (by omega), rowFn_length, matFn_length]
  unfold matFn spreadM
  refine List.map_congr_left fun i hi => ?_
  exact rowFn_congr k _ _ (fun j hj => spread_values n k hn hkn x hx hinv i j (List.mem_range.1 hi) hj)
set_option maxRecDepth 10000 in
set_option maxHeartbeats 2000000 in
theorem spread_ok (n k : Nat) (z : Addr) (w : World) (hk1 : 1 ≤ k) (hkn : k ≤ n) (hn : n ≤ 12) (hz : w.cell? ⟨11, 0, none⟩ = some (.iface 165 (.pointer (some z)))) :
    Calls Tryz.prog 57 #[.int .i64 (n : Int), .int .i64 (k : Int)] w fun e w' => (∃ gm, e = .returned (.tuple #[.slice (some ⟨gm, 0, none⟩) n n, .nilIface]) ∧ Mat w' (some ⟨gm, 0, none⟩) (spreadM k n)) ∧ Below w.heap.size w w' := by
  have HP := powers_ok n k w hk1 hkn hn
  have HZ : Hid (w.cell? ⟨11, 0, none⟩ = some (.iface 165 (.pointer (some z)))) := hz
  clear hz
  go_enter Tryz.func57, Tryz.ntmps57
  go_wp2_with fail
  refine HP.mono ?_
  rintro e w1 ⟨⟨gm, gs, rfl, hG⟩, hb1⟩
  have HA1 : Hid (Mat w1 (some ⟨gm, 0, none⟩) (matFn n k Gf.rep)) := hG.mat rep_bytes n (Nat.le_refl _)
  have HK1 : Hid (Mat w1 (some ⟨gm, 0, none⟩) (matFn k k Gf.rep)) := hG.mat rep_bytes k hkn
  have HZ1 : Hid (w1.cell? ⟨11, 0, none⟩ = some (.iface 165 (.pointer (some z)))) := (hb1.cell (p := ⟨11, 0, none⟩) (lt_of_cell HZ.out)).trans HZ.out
  have HB1 : Hid (Below w.heap.size w w1) := hb1
  clear hG hb1 HP HZ
  have HI := invert_ok (some ⟨gm, 0, none⟩) (matFn k k Gf.rep) n z w1 (isMat_matFn hk1 (by omega) hk1 (by omega)) (by rw [rowOf_matFn k k Gf.rep 0 (by omega), rowFn_length, matFn_length]) (matFn_bytes rep_bytes) HK1.out HZ1.out
  unfold Inverted at HI
  rw [matFn_length] at HI
  go_wp2_with fail
  refine HI.mono ?_
  rintro e w2 ⟨⟨d, hd, hcase⟩, hb2⟩
  have hdk : d = k := Lin.rank_unique hd (rank_congr (rank_of_indep (vander_indep k (by omega))) (fun i hi j hj => (vec_matFn hi hj).symm))
  rcases hcase with ⟨hlt, _⟩ | ⟨_, g2, x, rfl, hm2, hx, hinv⟩
  · omega
  · have HB2 : Hid (Below w.heap.size w w2) := HB1.out.trans (hb2.mono HB1.out.size)
    have hs2 : w.heap.size ≤ w2.heap.size := HB2.out.size
    have HT := mtimes_ok (some ⟨gm, 0, none⟩) (some ⟨g2, 0, none⟩) (matFn n k Gf.rep) (matFn k k x) n k w2 (isMat_matFn (by omega) (by omega) hk1 (by omega)) (isMat_matFn hk1 (by omega) hk1 (by omega)) (by rw [rowOf_matFn n k Gf.rep 0 (by omega), rowFn_length, matFn_length]) (matFn_bytes rep_bytes) (matFn_bytes hx) (HA1.out.below hb2) hm2
    rw [matFn_length, matFn_length, spread_prod n k hk1 hn hkn x hx (fun i j hi hj => by
      rw [← hinv i j hi hj]
      exact Lin.mm_congr k (fun _ _ => rfl) (fun t ht => (vec_matFn ht hj).symm))] at HT
    clear hd hdk hm2 hinv hb2 HI HK1 HA1 HZ1
    go_wp2_with fail
    refine HT.mono ?_
    rintro e w3 ⟨⟨g3, rfl, hm3⟩, hb3⟩
    clear HT
    go_wp2
    go_ret2
    exact ⟨⟨g3, rfl, hm3⟩, HB2.out.trans (hb3.mono hs2)⟩
set_option maxRecDepth 10000 in
theorem spread_bad (n k : Int) (z : Addr) (w : World) (h : ¬ (1 ≤ k ∧ k ≤ n ∧ n ≤ 12)) (hz : w.cell? ⟨1, 0, none⟩ = some (.iface 165 (.pointer (some z)))) :
    Calls Tryz.prog 57 #[.int .i64 n, .int .i64 k] w fun e w' => e = .returned (.tuple #[.slice none 0 0, .iface 165 (.pointer (some z))]) ∧ Below w.heap.size w w' := by
  have HP := powers_bad n k z w h hz
  clear h hz
  go_enter Tryz.func57, Tryz.ntmps57
  go_wp2_with fail
  refine HP.mono ?_
  rintro e w1 ⟨rfl, hb1⟩
  go_wp2
  go_ret2
  exact ⟨rfl, hb1⟩
theorem spreadM_row (k n i : Nat) (hi : i < n) : rowOf (spreadM k n) i = rowFn k fun j => Gf.shareOf (upToL k) j i := by
  unfold rowOf spreadM
  rw [List.getD_eq_getElem?_getD, List.getElem?_map, List.getElem?_range hi]
  rfl
/-- Byte c of shard i, so far. -/
def encN (s : List Nat) (k wd i c : Nat) : Nat → Nat
  | 0 => 0
  | j + 1 => if j * wd + c < s.length then encN s k wd i c j ^^^ Gf.mul (Gf.shareOf (upToL k) j i) (Gf.nth s (j * wd + c)) else encN s k wd i c j
def encRow (s : List Nat) (k wd i : Nat) : List Nat := rowFn wd fun c => encN s k wd i c k
theorem encN_lt (s : List Nat) (k wd i c : Nat) : ∀ j, encN s k wd i c j < 256
  | 0 => by show 0 < 256; decide
  | j + 1 => by
    show (if j * wd + c < s.length then encN s k wd i c j ^^^ Gf.mul (Gf.shareOf (upToL k) j i) (Gf.nth s (j * wd + c)) else encN s k wd i c j) < 256
    split
    · exact Gf.xlt (encN_lt s k wd i c j) (Gf.mul_lt (Gf.shareOf_lt _ _ _) _)
    · exact encN_lt s k wd i c j
/-- Shards one behind the other. -/
def shCells (l : List (Nat × List Nat)) : List Value := l.flatMap fun x => [.int .i64 (x.1 : Int), .string (strOf x.2)]
def OwnSh (w : World) (B : Nat) (v : Value) (l : List (Nat × List Nat)) : Prop := w.ownsRow B 49 2 v l.length (shCells l)
theorem shinfo : (Tryz.prog.info? 49).map (fun i => (i.zero, i.size, i.bytes)) = some (some (.agg #[.int .i64 0, .string ⟨#[]⟩]), 2, 24) := by kernel_rfl
theorem shCells_snoc (l : List (Nat × List Nat)) (x : Nat × List Nat) : shCells (l ++ [x]) = shCells l ++ [.int .i64 (x.1 : Int), .string (strOf x.2)] := by simp [shCells]
theorem OwnSh.snoc {w : World} {B : Nat} {v : Value} {l : List (Nat × List Nat)} {i : Nat} {row : List Nat} {n : Nat} (h : w.ownsRow B 49 2 v (n + 1) (shCells l ++ [.int .i64 (i : Int), .string (strOf row)])) (hn : n = l.length) : OwnSh w B v (l ++ [(i, row)]) := by
  unfold OwnSh
  rw [shCells_snoc, List.length_append, List.length_singleton, ← hn]
  exact h
def shVals (l : List (Int × ByteArray)) : List Value := l.flatMap fun x => [.int .i64 x.1, .string x.2]
theorem shVals_length (l : List (Int × ByteArray)) : (shVals l).length = l.length * 2 := by
  induction l with
  | nil => rfl
  | cons x t ih =>
    have : shVals (x :: t) = .int .i64 x.1 :: .string x.2 :: shVals t := rfl
    rw [this, List.length_cons, List.length_cons, ih, List.length_cons]
    omega
theorem shVals_at : ∀ (l : List (Int × ByteArray)) (i : Nat), i < l.length → (shVals l)[i * 2]? = some (.int .i64 (shAt l i).1) ∧ (shVals l)[i * 2 + 1]? = some (.string (shAt l i).2)
  | [], i, h => absurd h (Nat.not_lt_zero _)
  | x :: t, 0, _ => ⟨rfl, rfl⟩
  | x :: t, i + 1, h => by
    have h' := shVals_at t i (by simpa using h)
    have e : shVals (x :: t) = .int .i64 x.1 :: .string x.2 :: shVals t := rfl
    have e2 : shAt (x :: t) (i + 1) = shAt t i := rfl
    rw [e, e2, show (i + 1) * 2 = i * 2 + 1 + 1 by omega, show i * 2 + 1 + 1 + 1 = i * 2 + 1 + 1 + 1 from rfl]
    exact ⟨by simpa using h'.1, by simpa using h'.2⟩
theorem Shs.cells {w : World} {b o : Nat} {l : List (Int × ByteArray)} (hc : ∀ i, i < l.length → w.cell? ⟨b, o + i * 2, none⟩ = some (.int .i64 (shAt l i).1) ∧ w.cell? ⟨b, o + i * 2 + 1, none⟩ = some (.string (shAt l i).2)) : ∀ j u, (shVals l)[j]? = some u → w.cell? ((⟨b, o, none⟩ : Addr).add j) = some u := by
  intro j u hj
  have hjl : j < (shVals l).length := (List.getElem?_eq_some_iff.1 hj).1
  rw [shVals_length] at hjl
  have hi : j / 2 < l.length := by omega
  have h1 := shVals_at l (j / 2) hi
  have h2 := hc (j / 2) hi
  rw [Addr.add_lit]
  rcases Nat.mod_two_eq_zero_or_one j with e | e
  · have ej : j = j / 2 * 2 := by omega
    rw [ej] at hj ⊢
    rw [h1.1] at hj
    rw [h2.1, ← hj]
  · have ej : j = j / 2 * 2 + 1 := by omega
    rw [ej] at hj ⊢
    rw [h1.2] at hj
    rw [← Nat.add_assoc, h2.2, ← hj]
theorem shs_of_own {w : World} {B : Nat} {v : Value} {l : List (Int × ByteArray)} {E : TypeId} (h : w.ownsRow B E 2 v l.length (shVals l)) : ∃ p c, v = .slice p l.length c ∧ Shs w p l := by
  rcases h.2 with ⟨rfl, h0⟩ | ⟨g, cap, cur, rfl, hb, hg, hnc, hcm, hcs, htake⟩
  · have : l = [] := List.length_eq_zero_iff.1 h0
    subst this
    exact ⟨none, 0, rfl, Or.inl rfl⟩
  · refine ⟨some ⟨g, 0, none⟩, cap, rfl, Or.inr ⟨g, 0, rfl, (Array.getElem?_eq_some_iff.1 hg).1, fun i hi => ?_⟩⟩
    have hc := World.ownsRow.cells (g := g) h rfl
    have h1 := shVals_at l i hi
    have e1 := hc (i * 2) _ h1.1
    have e2 := hc (i * 2 + 1) _ h1.2
    rw [Addr.add_lit] at e1 e2
    exact ⟨e1, by rw [Nat.add_assoc]; exact e2⟩
/-- Nothing behind nothing: nil. -/
theorem wpList_append_empty {P : Program} {w : World} {ops : Array Oper} {rest : List Oper} {o : Oper} {a : Act} {Q : Exit → Act → World → Prop} (hgd : o.guard = none) (s x : Operand) (t : TypeId)
    (ho : o.op = .call { callee := .builtin .append, args := #[s, x], argTypes := #[t, t] })
    (e : TypeId) (i : TypeInfo) (ht : P.underlying t = some (.slice e)) (hi : P.info? e = some i)
    (hs : a.eval s = .slice none 0 0) (q : Option Addr) (c : Nat) (hx : a.eval x = .slice q 0 c) (hc0 : q = none → c = 0)
    (h : wpList P ops Q rest (a.put o.dst (.slice none 0 0)) w) : wpList P ops Q (o :: rest) a w := by
  refine wpList_plain hgd fun K hK => ?_
  have hr : (Builtin.append_ #[t, t] o.type #[.slice none 0 0, .slice q 0 c]).run P w = .ok (.slice none 0 0) w := by
    cases q with
    | none => obtain rfl := hc0 rfl; simp [Builtin.append_, run_underlying ht, sizeOf, typeInfo, hi, Builtin.lenOf, Builtin.firstCells]
    | some ad => simp [Builtin.append_, run_underlying ht, sizeOf, typeInfo, hi, Builtin.lenOf, Builtin.firstCells, loadCells, loadCellsFrom]
  unfold Oper.wp execOp
  simp only [ho, resolve, invoke, builtin, Sem.run_bind, Sem.run_pure, Result.andThen_ok, List.map_toArray, List.map_cons, List.map_nil, hs, hx, hr]
  exact hK _ _ h
theorem shardinfo : (Tryz.prog.info? 49).map (fun i => (i.zero, i.size, i.bytes)) = some (some (.agg #[.int .i64 0, .string ⟨#[]⟩]), 2, 24) := by kernel_rfl
set_option maxRecDepth 10000 in
theorem width_any (size k : Nat) (w : World) (hk1 : 1 ≤ k) (hk : k ≤ 1000) (hs : size ≤ 100000) :
    Calls Tryz.prog 37 #[.int .i64 (size : Int), .int .i64 (k : Int)] w fun e w' => e = .returned (.int .i64 ((wideN k size : Nat) : Int)) ∧ w' = w := by
  have h1 : (1 : Int) ≤ (k : Int) := by omega
  have HE : Hid (((size : Int) + (k : Int) - 1) / (k : Int) = ((wideN k size : Nat) : Int)) := by
    show _ = _
    unfold wideN
    rw [Int.natCast_ediv]
    congr 1
    omega
  go_enter Tryz.func37, Tryz.ntmps37
  go_wp2
  go_ret
  exact ⟨ret_int HE.out, rfl⟩
set_option maxRecDepth 10000 in
theorem szfits_any (size : Int) (w : World) : Calls Tryz.prog 53 #[.int .i64 size] w fun e w' => e = .returned (.bool (decide (0 ≤ size ∧ size ≤ 1000))) ∧ w' = w := by
  by_cases h1 : 0 ≤ size
  · by_cases h2 : size ≤ 1000
    · have HE : Hid (decide (0 ≤ size ∧ size ≤ 1000) = true) := decide_eq_true ⟨h1, h2⟩
      rw [HE.out]
      go_enter Tryz.func53, Tryz.ntmps53
      go_wp2
      go_ret
      exact ⟨rfl, rfl⟩
    · have HE : Hid (decide (0 ≤ size ∧ size ≤ 1000) = false) := decide_eq_false fun h => h2 h.2
      rw [HE.out]
      go_enter Tryz.func53, Tryz.ntmps53
      go_wp2
      go_ret
      exact ⟨rfl, rfl⟩
  · have HE : Hid (decide (0 ≤ size ∧ size ≤ 1000) = false) := decide_eq_false fun h => h1 h.1
    rw [HE.out]
    go_enter Tryz.func53, Tryz.ntmps53
    go_wp2
    go_ret
    exact ⟨rfl, rfl⟩
theorem szfits_yes (size : Int) (w : World) (h : 0 ≤ size ∧ size ≤ 1000) : Calls Tryz.prog 53 #[.int .i64 size] w fun e w' => e = .returned (.bool true) ∧ w' = w := by
  have h1 := szfits_any size w
  rw [decide_eq_true h] at h1
  exact h1
theorem szfits_no (size : Int) (w : World) (h : ¬ (0 ≤ size ∧ size ≤ 1000)) : Calls Tryz.prog 53 #[.int .i64 size] w fun e w' => e = .returned (.bool false) ∧ w' = w := by
  have h1 := szfits_any size w
  rw [decide_eq_false h] at h1
  exact h1
set_option maxRecDepth 10000 in
theorem spreadOf_ok (n k size : Nat) (z : Addr) (w : World) (hk1 : 1 ≤ k) (hkn : k ≤ n) (hn : n ≤ 12) (hs : size ≤ 1000) (hz : w.cell? ⟨11, 0, none⟩ = some (.iface 165 (.pointer (some z)))) :
    Calls Tryz.prog 31 #[.int .i64 (n : Int), .int .i64 (k : Int), .int .i64 (size : Int)] w fun e w' => (∃ gm, e = .returned (.tuple #[.slice (some ⟨gm, 0, none⟩) n n, .nilIface]) ∧ Mat w' (some ⟨gm, 0, none⟩) (spreadM k n)) ∧ Below w.heap.size w w' := by
  have HS := spread_ok n k z w hk1 hkn hn hz
  have HF : Hid (Calls Tryz.prog 53 #[.int .i64 (size : Int)] w fun e w' => e = .returned (.bool true) ∧ w' = w) := szfits_yes _ w (by omega)
  clear hz
  go_enter Tryz.func31, Tryz.ntmps31
  go_wp2_with fail
  refine HF.out.mono ?_
  rintro e w0 ⟨rfl, hw0⟩
  rw [hw0]
  clear hw0 w0 HF
  go_wp2_with fail
  refine HS.mono ?_
  rintro e w1 ⟨⟨gm, rfl, hm⟩, hb⟩
  clear HS
  go_wp2
  go_ret2
  exact ⟨⟨gm, rfl, hm⟩, hb⟩
set_option maxRecDepth 10000 in
theorem spreadOf_bad (n k size : Int) (z : Addr) (w : World) (h : ¬ (1 ≤ k ∧ k ≤ n ∧ n ≤ 12 ∧ 0 ≤ size ∧ size ≤ 1000)) (hz : w.cell? ⟨1, 0, none⟩ = some (.iface 165 (.pointer (some z)))) :
    Calls Tryz.prog 31 #[.int .i64 n, .int .i64 k, .int .i64 size] w fun e w' => e = .returned (.tuple #[.slice none 0 0, .iface 165 (.pointer (some z))]) ∧ Below w.heap.size w w' := by
  by_cases h1 : 0 ≤ size ∧ size ≤ 1000
  · have HS := spread_bad n k z w (by omega) hz
    have HF : Hid (Calls Tryz.prog 53 #[.int .i64 size] w fun e w' => e = .returned (.bool true) ∧ w' = w) := szfits_yes _ w h1
    clear hz h h1
    go_enter Tryz.func31, Tryz.ntmps31
    go_wp2_with fail
    refine HF.out.mono ?_
    rintro e w0 ⟨rfl, hw0⟩
    rw [hw0]
    clear hw0 w0 HF
    go_wp2_with fail
    refine HS.mono ?_
    rintro e w1 ⟨rfl, hb⟩
    clear HS
    go_wp2
    go_ret2
    exact ⟨rfl, hb⟩
  · have HF : Hid (Calls Tryz.prog 53 #[.int .i64 size] w fun e w' => e = .returned (.bool false) ∧ w' = w) := szfits_no _ w h1
    clear h h1
    go_enter Tryz.func31, Tryz.ntmps31
    go_wp2_with fail
    refine HF.out.mono ?_
    rintro e w0 ⟨rfl, hw0⟩
    rw [hw0]
    clear hw0 w0 HF
    go_wp2
    go_quiet (fail)
    go_wp2
    go_ret2
    exact ⟨rfl, below_drewN (Below.refl _ _) _⟩
/-- Byte c of row j of an object. -/
def objN (s : ByteArray) (wd : Nat) : Nat → Nat → Nat := fun j c => Gf.nth (bytesOf s) (j * wd + c)
theorem objN_lt (s : ByteArray) (wd j c : Nat) : objN s wd j c < 256 := bytesOf_lt s _
theorem objN_past {s : ByteArray} {wd j c : Nat} (h : ¬ j * wd + c < s.size) : objN s wd j c = 0 := by
  show (bytesOf s).getD _ 0 = 0
  rw [List.getD_eq_getElem?_getD, List.getElem?_eq_none (by simp [bytesOf]; omega)]
  rfl
/-- The text of shard i. -/
def encT (k : Nat) (s : ByteArray) (i : Nat) : ByteArray := strOf (rowT (fun i j => Gf.shareOf (upToL k) j i) (objN s (wideN k s.size)) k (wideN k s.size) i)
/-- Shard i. -/
def encS (k : Nat) (s : ByteArray) (i : Nat) : Int × ByteArray := ((i : Int), encT k s i)
def encL (n k : Nat) (s : ByteArray) : List (Int × ByteArray) := (List.range n).map (encS k s)
/-- A row of shards by the index: two cells each. -/
def shF (f : Nat → Int × ByteArray) : Nat → Value := fun q => if q % 2 = 0 then .int .i64 (f (q / 2)).1 else .string (f (q / 2)).2
def ShRow (w : World) (g n : Nat) (f : Nat → Int × ByteArray) : Prop := w.rowIs g 49 (n * 2) (shF f)
theorem shF_even (f : Nat → Int × ByteArray) (i : Nat) : shF f (i * 2) = .int .i64 (f i).1 := by unfold shF; rw [if_pos (by omega), Nat.mul_div_cancel _ (by decide)]
theorem shF_odd (f : Nat → Int × ByteArray) (i : Nat) : shF f (i * 2 + 1) = .string (f i).2 := by unfold shF; rw [if_neg (by omega), show (i * 2 + 1) / 2 = i by omega]
theorem ShRow.at_ {w : World} {g n : Nat} {f : Nat → Int × ByteArray} (h : ShRow w g n f) {i : Nat} (hi : i < n) : w.cell? ⟨g, i * 2, none⟩ = some (.int .i64 (f i).1) := by rw [World.rowIs.cell h (by omega), shF_even]
theorem ShRow.text {w : World} {g n : Nat} {f : Nat → Int × ByteArray} (h : ShRow w g n f) {i : Nat} (hi : i < n) : w.cell? ⟨g, i * 2 + 1, none⟩ = some (.string (f i).2) := by rw [World.rowIs.cell h (by omega), shF_odd]
theorem ShRow.below {w w' : World} {g n : Nat} {f : Nat → Int × ByteArray} (h : ShRow w g n f) (hb : Below w.heap.size w w') : ShRow w' g n f := rowIs_below h hb
theorem ShRow.congr {w : World} {g n : Nat} {f f' : Nat → Int × ByteArray} (h : ShRow w g n f) (he : ∀ i, i < n → f i = f' i) : ShRow w g n f' := World.rowIs.congr h (fun q hq => by unfold shF; rw [he (q / 2) (by omega)])
theorem ShRow.set {w : World} {g n : Nat} {f : Nat → Int × ByteArray} (h : ShRow w g n f) (i : Nat) (x : Int) (t : ByteArray) : ShRow ((w.setCell ⟨g, i * 2, none⟩ (.int .i64 x)).setCell ⟨g, i * 2 + 1, none⟩ (.string t)) g n (fun j => if j = i then (x, t) else f j) := by
  refine World.rowIs.congr ((World.rowIs.set h (i * 2) (.int .i64 x)).set (i * 2 + 1) (.string t)) (fun q _ => ?_)
  rcases Nat.mod_two_eq_zero_or_one q with e | e
  · rw [if_neg (by omega)]
    by_cases e2 : q = i * 2
    · rw [if_pos e2]
      unfold shF
      dsimp only
      rw [if_pos e, if_pos (show q / 2 = i by omega)]
    · rw [if_neg e2]
      unfold shF
      dsimp only
      rw [if_pos e, if_pos e, if_neg (show ¬ q / 2 = i by omega)]
  · by_cases e2 : q = i * 2 + 1
    · rw [if_pos e2]
      unfold shF
      dsimp only
      rw [if_neg (show ¬ q % 2 = 0 by omega), if_pos (show q / 2 = i by omega)]
    · rw [if_neg e2, if_neg (by omega)]
      unfold shF
      dsimp only
      rw [if_neg (show ¬ q % 2 = 0 by omega), if_neg (show ¬ q % 2 = 0 by omega), if_neg (show ¬ q / 2 = i by omega)]
theorem ShRow.shs {w : World} {g n : Nat} {f : Nat → Int × ByteArray} (h : ShRow w g n f) : Shs w (some ⟨g, 0, none⟩) ((List.range n).map f) := by
  refine Or.inr ⟨g, 0, rfl, World.rowIs.lt h, fun i hi => ?_⟩
  have hi' : i < n := by simpa using hi
  have e : shAt ((List.range n).map f) i = f i := by
    unfold shAt
    rw [List.getD_eq_getElem?_getD, List.getElem?_map, List.getElem?_range hi']
    rfl
  rw [e, Nat.zero_add]
  exact ⟨h.at_ hi', h.text hi'⟩
theorem ShRow.made (w : World) (n : Nat) : ShRow (w.alloc (.cells (madeCells #[.int .i64 0, .string ⟨#[]⟩] (n * 2)) 49)) w.heap.size n (fun _ => (0, ⟨#[]⟩)) := by
  have := World.rowIs_alloc w (madeCells #[.int .i64 0, .string ⟨#[]⟩] (n * 2)) 49 (shF fun _ => (0, ⟨#[]⟩)) (fun i hi => by
    rw [size_madeCells] at hi
    simp only [madeCells]
    rw [Array.getElem?_map, Array.getElem?_eq_getElem (by simpa using hi)]
    simp only [Array.getElem_range, Option.map_some]
    unfold shF
    rcases Nat.mod_two_eq_zero_or_one i with e | e
    · rw [if_pos e]; simp [e]
    · rw [if_neg (by omega)]; simp [e])
  rw [size_madeCells] at this
  exact this
theorem run_make_shards (n : Nat) (hn : n ≤ 1000000) (W : World) : Sem.run Tryz.prog (Instr.makeSlice 55 (.int .i64 (n : Int)) (.int .i64 (n : Int))) W = .ok (.slice (some ⟨W.heap.size, 0, none⟩) n n) (W.alloc (.cells (madeCells #[.int .i64 0, .string ⟨#[]⟩] (n * 2)) 49)) := by
  obtain ⟨i1, hi1, hy0, hy1, hy2⟩ := info_parts shinfo
  have hr := run_make (P := Tryz.prog) W 55 49 i1 _ Tryz.underlying55 hi1 hy0 .i64 .i64 n n (by omega) (Int.le_refl _) (by rw [hy2]; omega) (by omega)
  simp only [Int.toNat_natCast, hy1] at hr
  exact hr
/-- The factor of row j in shard i. -/
def facN (k : Nat) : Nat → Nat → Nat := fun i j => Gf.shareOf (upToL k) j i
theorem facN_lt (k i j : Nat) : facN k i j < 256 := Gf.shareOf_lt _ _ _
theorem encT_bytes (k : Nat) (s : ByteArray) (i : Nat) : bytesOf (encT k s i) = rowT (facN k) (objN s (wideN k s.size)) k (wideN k s.size) i :=
  bytesOf_strOf (rowFn_bytes _ _ fun _ => rsumN_lt (fun _ _ => Gf.shareOf_lt _ _ _) _ _ _)
theorem encT_size (k : Nat) (s : ByteArray) (i : Nat) : (encT k s i).size = wideN k s.size := by
  rw [← bytesOf_length, encT_bytes]
  exact rowFn_length _ _
theorem encT_nth (k : Nat) (s : ByteArray) (i c : Nat) (hc : c < wideN k s.size) : Gf.nth (bytesOf (encT k s i)) c = rsumN (facN k) (objN s (wideN k s.size)) i c k := by
  rw [encT_bytes]
  exact nth_rowFn _ _ c hc
theorem rsumN_xor (f u v x : Nat → Nat → Nat) (i c : Nat) : ∀ k, (∀ j, j < k → x j c = u j c ^^^ v j c) → rsumN f x i c k = rsumN f u i c k ^^^ rsumN f v i c k
  | 0, _ => by show 0 = 0 ^^^ 0; rfl
  | k + 1, h => by
    show rsumN f x i c k ^^^ _ = (rsumN f u i c k ^^^ _) ^^^ (rsumN f v i c k ^^^ _)
    rw [rsumN_xor f u v x i c k (fun j hj => h j (by omega)), h k (by omega), Gf.mul_right, Gf.xor_left_comm]
/-- The sum of two texts, byte by byte. -/
def sumT (a b : ByteArray) : List Nat := rowFn a.size fun i => Gf.nth (bytesOf a) i ^^^ Gf.nth (bytesOf b) i
theorem sumT_bytes (a b : ByteArray) : Gf.Bytes (sumT a b) := rowFn_bytes _ _ fun i => Gf.xlt (bytesOf_lt a i) (bytesOf_lt b i)
theorem sumT_size (a b : ByteArray) : (strOf (sumT a b)).size = a.size := by rw [strOf_size]; exact rowFn_length _ _
theorem enc_sum (k : Nat) (a b : ByteArray) (hab : b.size = a.size) (i c : Nat) (hc : c < wideN k a.size) :
    Gf.nth (bytesOf (encT k (strOf (sumT a b)) i)) c = Gf.nth (bytesOf (encT k a i)) c ^^^ Gf.nth (bytesOf (encT k b i)) c := by
  rw [encT_nth k _ i c (by rw [sumT_size]; exact hc), encT_nth k a i c hc, encT_nth k b i c (by rw [hab]; exact hc), sumT_size, hab]
  refine rsumN_xor _ _ _ _ i c k (fun j _ => ?_)
  unfold objN
  rw [bytesOf_strOf (sumT_bytes a b)]
  by_cases h : j * wideN k a.size + c < a.size
  · exact nth_rowFn _ _ _ h
  · rw [nth_past (l := sumT a b) (by unfold sumT; rw [rowFn_length]; omega), nth_past (l := bytesOf a) (by rw [bytesOf_length]; omega), nth_past (l := bytesOf b) (by rw [bytesOf_length]; omega)]
    rfl
theorem isSpread_yes (n k : Int) (w : World) (h1 : 1 ≤ k) (h2 : k ≤ n) (h3 : n ≤ 12) : Calls Tryz.prog 19 #[.int .i64 n, .int .i64 k] w fun e w' => e = .returned (.bool true) ∧ w' = w := by
  go_enter Tryz.func19, Tryz.ntmps19
  go_wp2
  go_ret
  exact ⟨ret_bool (by simp), rfl⟩
theorem isSpread_no (n k : Int) (w : World) (h : ¬ (1 ≤ k ∧ k ≤ n ∧ n ≤ 12)) : Calls Tryz.prog 19 #[.int .i64 n, .int .i64 k] w fun e w' => e = .returned (.bool false) ∧ w' = w := by
  by_cases h1 : 1 ≤ k
  · by_cases h2 : k ≤ n
    · have h3 : ¬ n ≤ 12 := fun h3 => h ⟨h1, h2, h3⟩
      clear h
      go_enter Tryz.func19, Tryz.ntmps19
      go_wp2
      go_ret
      exact ⟨ret_bool (by simp), rfl⟩
    · clear h
      go_enter Tryz.func19, Tryz.ntmps19
      go_wp2
      go_ret
      exact ⟨rfl, rfl⟩
  · clear h
    go_enter Tryz.func19, Tryz.ntmps19
    go_wp2
    go_ret
    exact ⟨rfl, rfl⟩
end Go.Proofs.YtpjeibicopgedaaGreatDoor
