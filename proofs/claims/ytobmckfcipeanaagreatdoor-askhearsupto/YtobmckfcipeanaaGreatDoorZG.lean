import Derived.Test.YtobmckfcipeanaaGreatDoorZC
import Derived.Test.YtobmckfcipeanaaGreatDoorZE
import Derived.Test.YtobmckfcipeanaaGreatDoorZD
import Derived.Deep.QuietTactic
import Derived.BigQuiet
import Derived.WalkSmall
import Derived.Shelf.Abstract
import Derived.StillTailTactics
import Derived.Test.YtobmckfcipeanaaGreatDoorZF
namespace Go.Proofs.YtobmckfcipeanaaGreatDoor
open Go.RowKit
theorem Mat.at {w : World} {p : Option Addr} {M : List (List Nat)} (h : Mat w p M) {i j : Nat} (hi : i < M.length) (hj : j < (rowOf M i).length) :
 ∃ b o b1 o1 c, p = some ⟨b, o, none⟩ /\ w.cell? ⟨b, o + i, none⟩ = some (.slice (some ⟨b1, o1, none⟩) (rowOf M i).length c) /\ w.cell? ⟨b1, o1 + j, none⟩ = some (.int .u8 ((Gf.nth (rowOf M i) j : Nat) : Int)) := by
 obtain ⟨b, o, b1, o1, c, h1, _, _, h2, h3⟩ := h.row hi (by omega)
 exact ⟨b, o, b1, o1, c, h1, h2, h3 j hj⟩
theorem diag_any (i j : Nat) (w : World) : Calls Tryz.prog 122 #[.int .i64 (i : Int), .int .i64 (j : Int)] w fun e w' => e = .returned (.int .u8 ((if i = j then 1 else 0 : Nat) : Int)) /\ w' = w := by
 by_cases e : i = j
 ·subst e
  rw [if_pos rfl]
  go_enter Tryz.func122, Tryz.ntmps122
  go_wp2
  go_ret
  exact ⟨rfl, rfl⟩
 ·have ht : ((i : Int) == (j : Int)) = false := by simp; omega
  rw [if_neg e]
  clear e
  go_enter Tryz.func122, Tryz.ntmps122
  go_wp2
  go_ret
  exact ⟨rfl, rfl⟩
set_option maxRecDepth 10000 in
theorem invert1_any (ps pm i j side cap : Nat) (p : Option Addr) (M : List (List Nat)) (w : World) (hi : i < M.length) (hj : j < 2 * side) (hs : (rowOf M i).length = side) (hn : side <= 1000) (hps : w.cell? ⟨ps, 0, none⟩ = some (.int .i64 (side : Int))) (hp : w.cell? ⟨pm, 0, none⟩ = some (.slice p M.length cap)) (h : Mat w p M) :
 Calls Tryz.prog 121 #[.int .i64 (i : Int), .int .i64 (j : Int), .pointer (some ⟨ps, 0, none⟩), .pointer (some ⟨pm, 0, none⟩)] w fun e w' => e = .returned (.int .u8 (((if j < side then Gf.nth (rowOf M i) j else if i = j - side then 1 else 0 : Nat)) : Int)) /\ Below w.heap.size w w' := by
 by_cases hlt : j < side
 ·obtain ⟨b, o, b1, o1, c, rfl, h1, h2⟩ := h.at hi (by rw [hs]; exact hlt)
  rw [hs] at h1
  rw [if_pos hlt]
  clear hs h
  go_enter Tryz.func121, Tryz.ntmps121
  go_wp2
  go_ret
  exact ⟨rfl, Below.refl _ _⟩
 ·rw [if_neg hlt]
  have hsub : ((j : Int) - (side : Int)) = ((j - side : Nat) : Int) := by omega
  clear hs h
  go_enter Tryz.func121, Tryz.ntmps121
  go_wp2_with (go_at_call 122; first | (rw [hsub]; refine (diag_any i (j - side) _).mono ?_; rintro e w' ⟨rfl, rfl⟩) | (refine (diag_any i (j - side) _).mono ?_; rintro e w' ⟨rfl, rfl⟩))
  all_goals (go_ret; exact ⟨rfl, Below.refl _ _⟩)
set_option maxRecDepth 10000 in
theorem invert2_any (pb ps i j side gm r n : Nat) (gs : Nat -> Nat) (x : Nat) (w : World) (hi : i < r) (hj : side + j < n) (hn : n <= 1000) (hb : w.cell? ⟨pb, 0, none⟩ = some (.slice (some ⟨gm, 0, none⟩) r r)) (hs : w.cell? ⟨ps, 0, none⟩ = some (.int .i64 (side : Int))) (h1 : w.cell? ⟨gm, i, none⟩ = some (.slice (some ⟨gs i, 0, none⟩) n n)) (h2 : w.cell? ⟨gs i, side + j, none⟩ = some (.int .u8 (x : Int))) :
 Calls Tryz.prog 124 #[.int .i64 (i : Int), .int .i64 (j : Int), .pointer (some ⟨pb, 0, none⟩), .pointer (some ⟨ps, 0, none⟩)] w fun e w' => e = .returned (.int .u8 (x : Int)) /\ Below w.heap.size w w' := by
 go_enter Tryz.func124, Tryz.ntmps124
 go_wp2
 go_quiet (fail)
 go_wp2
 go_ret
 exact ⟨rfl, below_drewN (Below.refl _ _) _⟩
set_option maxRecDepth 10000 in
set_option maxHeartbeats 1000000 in
theorem times11_any (pa pi pb pj i j l ca cb : Nat) (a b : Option Addr) (A B : List (List Nat)) (w : World) (hi : i < A.length) (hl : l < (rowOf A i).length) (hlb : l < B.length) (hj : j < (rowOf B l).length) (hA : w.cell? ⟨pa, 0, none⟩ = some (.slice a A.length ca)) (hB : w.cell? ⟨pb, 0, none⟩ = some (.slice b B.length cb)) (hI : w.cell? ⟨pi, 0, none⟩ = some (.int .i64 (i : Int))) (hJ : w.cell? ⟨pj, 0, none⟩ = some (.int .i64 (j : Int))) (mA : Mat w a A) (mB : Mat w b B) (bA : BytesM A) (bB : BytesM B) :
 Calls Tryz.prog 161 #[.int .i64 (l : Int), .pointer (some ⟨pa, 0, none⟩), .pointer (some ⟨pi, 0, none⟩), .pointer (some ⟨pb, 0, none⟩), .pointer (some ⟨pj, 0, none⟩)] w fun e w' => e = .returned (.int .u8 ((Gf.mul (Gf.nth (rowOf A i) l) (Gf.nth (rowOf B l) j) : Nat) : Int)) /\ Below w.heap.size w w' := by
 obtain ⟨a1, a2, a3, a4, a5, rfl, a6, a7⟩ := mA.at hi hl
 obtain ⟨b1, b2, b3, b4, b5, rfl, b6, b7⟩ := mB.at hlb hj
 have lx := bA i l
 have ly := bB l j
 clear mA mB
 generalize Gf.nth (rowOf A i) l = x at *
 generalize Gf.nth (rowOf B l) j = y at *
 go_enter Tryz.func161, Tryz.ntmps161
 go_wp2
 go_quiet ((go_at_call 126; exact Calls.quiet_of_same (mul_any x y _ lx ly)))
 go_wp2
 go_ret
 exact ⟨rfl, below_drewN (Below.refl _ _) _⟩
theorem fits_any (n : Nat) (w : World) (hn : n < 2 ^ 62) : Calls Tryz.prog 144 #[.int .i64 (n : Int)] w fun e w' => e = .returned (.bool (decide (1 <= n /\ n <= 16))) /\ w' = w := by
 by_cases h1 : 1 <= n
 ·by_cases h2 : n <= 16
  ·have HD : Hid (decide (1 <= n /\ n <= 16) = true) := decide_eq_true ⟨h1, h2⟩
   go_enter Tryz.func144, Tryz.ntmps144
   go_wp2
   go_ret
   exact ⟨ret_bool ((decide_eq_true (by omega)).trans HD.out.symm), rfl⟩
  ·have HD : Hid (decide (1 <= n /\ n <= 16) = false) := decide_eq_false (fun h => h2 h.2)
   go_enter Tryz.func144, Tryz.ntmps144
   go_wp2
   go_ret
   exact ⟨ret_bool ((decide_eq_false (by omega)).trans HD.out.symm), rfl⟩
 ·rw [decide_eq_false (fun h => h1 h.1 : ¬ (1 <= n /\ n <= 16))]
  go_enter Tryz.func144, Tryz.ntmps144
  go_wp2
  go_ret
  exact ⟨rfl, rfl⟩
theorem fits_yes (n : Nat) (w : World) (h1 : 1 <= n) (h2 : n <= 16) : Calls Tryz.prog 144 #[.int .i64 (n : Int)] w fun e w' => e = .returned (.bool true) /\ w' = w := by
 have := fits_any n w (by omega)
 rw [decide_eq_true (⟨h1, h2⟩ : 1 <= n /\ n <= 16)] at this
 exact this
set_option maxRecDepth 10000 in
set_option maxHeartbeats 2000000 in
theorem check_ok (p : Option Addr) (M : List (List Nat)) (cap : Nat) (w : World) (hM : IsMat M) (h : Mat w p M) :
 Calls Tryz.prog 119 #[.slice p M.length cap] w fun e w' => e = .returned .nilIface /\ w' = w := by
 have HM : Hid (IsMat M) := hM
 have l1 : 1 <= M.length := hM.1
 have l2 : M.length <= 16 := hM.2.1
 have n1 : 1 <= (rowOf M 0).length := (hM.2.2 0 (by omega)).1
 have n2 : (rowOf M 0).length <= 16 := (hM.2.2 0 (by omega)).2.1
 clear hM
 rcases h with h | ⟨b, o, rfl, hb, hc⟩
 ·rw [h] at l1; simp at l1
 obtain ⟨q0, c0, hc0, _⟩ := hc 0 (by omega)
 have hc0' : w.cell? ⟨b, o, none⟩ = some (.slice q0 (rowOf M 0).length c0) := hc0
 have HC : Hid (∀ i, i < M.length -> ∃ q c, w.cell? ⟨b, o + i, none⟩ = some (.slice q (rowOf M 0).length c)) := fun i hi => by
  obtain ⟨q, c, h1, _⟩ := hc i hi
  rw [(HM.out.2.2 i hi).2.2] at h1
  exact ⟨q, c, h1⟩
 clear hc hc0
 generalize (rowOf M 0).length = n at *
 go_enter Tryz.func119, Tryz.ntmps119
 go_wp2_with (first | (go_at_call 144; with_reducible refine (fits_yes M.length _ l1 l2).mono ?_; rintro e w' ⟨rfl, rfl⟩) | (go_at_call 144; refine (fits_yes n _ n1 n2).mono ?_; rintro e w' ⟨rfl, rfl⟩))
 go_loop [20] (fun j => ∃ k : Nat, k <= M.length /\ j = .int .i64 k) (fun j => M.length - (intOf j).toNat)
 case atStart => exact ⟨0, by omega, rfl⟩
 case round =>
  obtain ⟨k, hk, rfl⟩ := hrel
  by_cases hlt : k < M.length
  ·obtain ⟨q, c, hq⟩ := HC.out k hlt
   go_wp2
   go_round
   case rel => exact ⟨k + 1, by omega, by go_num⟩
   case measure => simp [intOf]; omega
  ·go_wp2
   go_ret
   exact ⟨rfl, rfl⟩
theorem rowlen {M : List (List Nat)} (hM : IsMat M) {i : Nat} (hi : i < M.length) : (rowOf M i).length = (rowOf M 0).length := (hM.2.2 i hi).2.2
set_option maxRecDepth 10000 in
set_option maxHeartbeats 2000000 in
theorem times1_any (pa pb i j ca cb : Nat) (a b : Option Addr) (A B : List (List Nat)) (w : World) (hA : IsMat A) (hB : IsMat B) (hk : (rowOf A 0).length = B.length) (hi : i < A.length) (hj : j < (rowOf B 0).length) (hpa : w.cell? ⟨pa, 0, none⟩ = some (.slice a A.length ca)) (hpb : w.cell? ⟨pb, 0, none⟩ = some (.slice b B.length cb)) (mA : Mat w a A) (mB : Mat w b B) (bA : BytesM A) (bB : BytesM B) :
 Calls Tryz.prog 159 #[.int .i64 (i : Int), .int .i64 (j : Int), .pointer (some ⟨pb, 0, none⟩), .pointer (some ⟨pa, 0, none⟩)] w fun e w' => e = .returned (.int .u8 ((dotN A B i j B.length : Nat) : Int)) /\ Below w.heap.size w w' := by
 have l2 : B.length <= 16 := hB.2.1
 have ha := lt_of_cell hpa
 have hb := lt_of_cell hpb
 obtain ⟨w1, hw1⟩ : ∃ w1, w1 = (w.alloc (.cells #[.int .i64 (i : Int)] 3)).alloc (.cells #[.int .i64 (j : Int)] 3) := ⟨_, rfl⟩
 have hb1 : Below w.heap.size w w1 := by rw [hw1]; exact ((Below.refl _ _).alloc (Nat.le_refl _) _).alloc (by simp) _
 have hs1 : w1.heap.size = w.heap.size + 2 := by rw [hw1]; simp
 have hI1 : w1.cell? ⟨w.heap.size, 0, none⟩ = some (.int .i64 (i : Int)) := by rw [hw1, World.cell?_alloc_past _ _ _ (by simp), World.cell?_alloc_at _ _ _ _ rfl]; rfl
 have hJ1 : w1.cell? ⟨w.heap.size + 1, 0, none⟩ = some (.int .i64 (j : Int)) := by rw [hw1, World.cell?_alloc_at _ _ _ _ (by simp)]; rfl
 have hA1 : w1.cell? ⟨pa, 0, none⟩ = some (.slice a A.length ca) := (hb1.cell (p := ⟨pa, 0, none⟩) ha).trans hpa
 have hB1 : w1.cell? ⟨pb, 0, none⟩ = some (.slice b B.length cb) := (hb1.cell (p := ⟨pb, 0, none⟩) hb).trans hpb
 have hB2 : ((w.alloc (.cells #[.int .i64 (i : Int)] 3)).alloc (.cells #[.int .i64 (j : Int)] 3)).cell? ⟨pb, 0, none⟩ = some (.slice b B.length cb) := by rw [<- hw1]; exact hB1
 have HC : Hid (∀ l, l < B.length -> ∀ w2, Below w1.heap.size w1 w2 -> Calls Tryz.prog 161 (#[.int .i64 (l : Int)] ++ #[.pointer (some ⟨pa, 0, none⟩), .pointer (some ⟨w.heap.size, 0, none⟩), .pointer (some ⟨pb, 0, none⟩), .pointer (some ⟨w.heap.size + 1, 0, none⟩)]) w2 fun e w3 => e = .returned (.int .u8 ((Gf.mul (Gf.nth (rowOf A i) l) (Gf.nth (rowOf B l) j) : Nat) : Int)) /\ Below w2.heap.size w2 w3) := by
  intro l hl w2 h2
  exact times11_any pa w.heap.size pb (w.heap.size + 1) i j l ca cb a b A B w2 hi (by rw [rowlen hA hi, hk]; exact hl) hl (by rw [rowlen hB hl]; exact hj) ((h2.cell (p := ⟨pa, 0, none⟩) (by show pa < _; omega)).trans hA1) ((h2.cell (p := ⟨pb, 0, none⟩) (by show pb < _; omega)).trans hB1) ((h2.cell (p := ⟨w.heap.size, 0, none⟩) (by show w.heap.size < _; omega)).trans hI1) ((h2.cell (p := ⟨w.heap.size + 1, 0, none⟩) (by show w.heap.size + 1 < _; omega)).trans hJ1) ((mA.below hb1).below h2) ((mB.below hb1).below h2) bA bB
 have HS := sum_any B.length (fun l => Gf.mul (Gf.nth (rowOf A i) l) (Gf.nth (rowOf B l) j)) 161 #[.pointer (some ⟨pa, 0, none⟩), .pointer (some ⟨w.heap.size, 0, none⟩), .pointer (some ⟨pb, 0, none⟩), .pointer (some ⟨w.heap.size + 1, 0, none⟩)] w1 (by omega) (fun l => Gf.mul_lt (bA i l) _) (enters_of Tryz.func161 (by kernel_rfl) rfl) (dotN A B i j) rfl (fun _ => rfl) (dotN_lt A B bA i j) HC.out
 have HW1 : Hid (w1 = (w.alloc (.cells #[.int .i64 (i : Int)] 3)).alloc (.cells #[.int .i64 (j : Int)] 3)) := hw1
 have HB1 : Hid (Below w.heap.size w w1) := hb1
 clear hA hB hk hw1 hb1 hI1 hJ1 hA1 hB1 mA mB hpa hpb bA bB HC
 go_enter Tryz.func159, Tryz.ntmps159
 go_wp2_with (go_at_call 160; rw [<- HW1.out]; refine HS.mono ?_; rintro e w2 ⟨rfl, hb2⟩)
 go_ret
 exact ⟨rfl, HB1.out.trans (hb2.mono (by omega))⟩
set_option maxRecDepth 10000 in
set_option maxHeartbeats 4000000 in
theorem mtimes_ok (a b : Option Addr) (A B : List (List Nat)) (ca cb : Nat) (w : World) (hA : IsMat A) (hB : IsMat B) (hk : (rowOf A 0).length = B.length) (bA : BytesM A) (bB : BytesM B) (mA : Mat w a A) (mB : Mat w b B) :
 Calls Tryz.prog 143 #[.slice a A.length ca, .slice b B.length cb] w fun e w' => (∃ gm, e = .returned (.tuple #[.slice (some ⟨gm, 0, none⟩) A.length A.length, .nilIface]) /\ Mat w' (some ⟨gm, 0, none⟩) (prodM A B A.length)) /\ Below w.heap.size w w' := by
 have la1 : 1 <= A.length := hA.1
 have la2 : A.length <= 16 := hA.2.1
 have lb1 : 1 <= B.length := hB.1
 have lb2 : B.length <= 16 := hB.2.1
 have nb1 : 1 <= (rowOf B 0).length := (hB.2.2 0 (by omega)).1
 have nb2 : (rowOf B 0).length <= 16 := (hB.2.2 0 (by omega)).2.1
 have HA : Hid (IsMat A) := hA
 have HBm : Hid (IsMat B) := hB
 have BA : Hid (BytesM A) := bA
 have BB : Hid (BytesM B) := bB
 obtain ⟨w1, hw1⟩ : ∃ w1, w1 = (w.alloc (.cells #[.slice a A.length ca] 139)).alloc (.cells #[.slice b B.length cb] 139) := ⟨_, rfl⟩
 have hb1 : Below w.heap.size w w1 := by rw [hw1]; exact ((Below.refl _ _).alloc (Nat.le_refl _) _).alloc (by simp) _
 have hs1 : w1.heap.size = w.heap.size + 2 := by rw [hw1]; simp
 have hA1 : w1.cell? ⟨w.heap.size, 0, none⟩ = some (.slice a A.length ca) := by rw [hw1, World.cell?_alloc_past _ _ _ (by simp), World.cell?_alloc_at _ _ _ _ rfl]; rfl
 have hB1 : w1.cell? ⟨w.heap.size + 1, 0, none⟩ = some (.slice b B.length cb) := by rw [hw1, World.cell?_alloc_at _ _ _ _ (by simp)]; rfl
 have MA1 : Hid (Mat w1 a A) := mA.below hb1
 have MB1 : Hid (Mat w1 b B) := mB.below hb1
 have HK : Hid ((rowOf A 0).length = B.length) := hk
 have HCB : Hid (∀ W : World, Below w1.heap.size w1 W -> ∀ i j, i < A.length -> j < (rowOf B 0).length -> ∀ w2, Below W.heap.size W w2 -> Calls Tryz.prog 159 (#[.int .i64 (i : Int), .int .i64 (j : Int)] ++ #[.pointer (some ⟨w.heap.size + 1, 0, none⟩), .pointer (some ⟨w.heap.size, 0, none⟩)]) w2 fun e w3 => e = .returned (.int .u8 ((dotN A B i j B.length : Nat) : Int)) /\ Below w2.heap.size w2 w3) := by
  intro W hW i j hi hj w2 h2
  have h12 : Below w1.heap.size w1 w2 := hW.trans (h2.mono hW.size)
  exact times1_any w.heap.size (w.heap.size + 1) i j ca cb a b A B w2 HA.out HBm.out HK.out hi hj ((h12.cell (p := ⟨w.heap.size, 0, none⟩) (by show w.heap.size < _; omega)).trans hA1) ((h12.cell (p := ⟨w.heap.size + 1, 0, none⟩) (by show w.heap.size + 1 < _; omega)).trans hB1) (MA1.out.below h12) (MB1.out.below h12) BA.out BB.out
 obtain ⟨a1, a2, a3, a4, a5, rfl, ha1, _, ha6, _⟩ := MA1.out.row (i := 0) (by omega) (by rw [hk]; omega)
 obtain ⟨b1, b2, b3, b4, b5, rfl, hb6, _, hb7, _⟩ := MB1.out.row (i := 0) (by omega) (by omega)
 rw [hk] at ha6
 have cA : w1.cell? ⟨a1, a2, none⟩ = some (.slice (some ⟨a3, a4, none⟩) B.length a5) := ha6
 have cB : w1.cell? ⟨b1, b2, none⟩ = some (.slice (some ⟨b3, b4, none⟩) (rowOf B 0).length b5) := hb7
 have HB1 : Hid (Below w.heap.size w w1) := hb1
 have HW1 : Hid (w1 = (w.alloc (.cells #[.slice (some ⟨a1, a2, none⟩) A.length ca] 139)).alloc (.cells #[.slice (some ⟨b1, b2, none⟩) B.length cb] 139)) := hw1
 have ia : (0 : Int) < (A.length : Int) := by omega
 have ib : (0 : Int) < (B.length : Int) := by omega
 have na : 0 < A.length := by omega
 have nb : 0 < B.length := by omega
 clear hA hB hk bA bB mA mB hb1 hw1 ha6 hb7
 go_enter Tryz.func143, Tryz.ntmps143
 go_wp2_with fail
 rw [<- HW1.out]
 refine wp_region_still_lit (by kernel_rfl) (by kernel_rfl) ?_
 repeat still_step
 still_call (check_ok _ A ca _ HA.out (MA1.out.drewN 1))
 repeat still_step
 still_call (check_ok _ B cb _ HBm.out (MB1.out.drewN 1))
 repeat still_step
 refine wpStill_nil ?_
 change Exit.then _ _ _ _ (w1.drewN 1)
 have hbq : Below w1.heap.size w1 (w1.drewN 1) := below_drewN (Below.refl _ _) _
 have qA : (w1.drewN 1).cell? ⟨w.heap.size, 0, none⟩ = some (.slice (some ⟨a1, a2, none⟩) A.length ca) := hA1
 have qB : (w1.drewN 1).cell? ⟨w.heap.size + 1, 0, none⟩ = some (.slice (some ⟨b1, b2, none⟩) B.length cb) := hB1
 have qC : (w1.drewN 1).cell? ⟨b1, b2, none⟩ = some (.slice (some ⟨b3, b4, none⟩) (rowOf B 0).length b5) := cB
 generalize w1.drewN 1 = w2 at hbq qA qB qC ⊢
 have HBQ : Hid (Below w1.heap.size w1 w2) := hbq
 have hs2 : w1.heap.size <= w2.heap.size := hbq.size
 clear hbq cA cB
 go_wp2_with fail
 refine wp_region_still_tail 7 (by kernel_rfl) (by kernel_rfl) ?_
 simp only [List.take_succ_cons, List.take_zero, List.drop_succ_cons, List.drop_zero]
 repeat still_step
 refine wpStill_nil ?_
 have hbd : Below w1.heap.size w1 (w2.drewN 1) := below_drewN HBQ.out 1
 change wpList _ _ _ _ _ (w2.drewN 1)
 generalize w2.drewN 1 = w3 at hbd ⊢
 have HBD : Hid (Below w1.heap.size w1 w3) := hbd
 have hs3 : w1.heap.size <= w3.heap.size := hbd.size
 clear hbd qA qB qC
 go_wp2_with (go_at_call 120; refine (build_any A.length (rowOf B 0).length (fun i j => dotN A B i j B.length) 159 #[.pointer (some ⟨w.heap.size + 1, 0, none⟩), .pointer (some ⟨w.heap.size, 0, none⟩)] w3 (by omega) (by omega) (enters_of Tryz.func159 (by kernel_rfl) rfl) (HCB.out w3 HBD.out)).mono ?_; rintro e w4 ⟨⟨gm, gs, rfl, hG4⟩, hb4⟩)
 go_ret2
 exact ⟨⟨gm, rfl, hG4.mat (fun i j => dotN_lt A B BA.out i j _) A.length (Nat.le_refl _)⟩, (HB1.out.trans (HBD.out.mono (by omega))).trans (hb4.mono (by omega))⟩
def blocksOf (gm : Nat) (gs : Nat -> Nat) (r : Nat) (k : Nat) : Prop := k = gm ∨ ∃ i, i < r /\ gs i = k
theorem OwnG.blocks {w : World} {B gm : Nat} {gs : Nat -> Nat} {r n : Nat} {f : Nat -> Nat -> Nat} (h : OwnG w B gm gs r n f) : ∀ k, blocksOf gm gs r k -> B <= k /\ k < w.heap.size := fun k hk => by
 rcases hk with rfl | ⟨i, hi, rfl⟩
 ·exact h.rows.lt
 ·exact (h.all.row i hi).lt
end Go.Proofs.YtobmckfcipeanaaGreatDoor
