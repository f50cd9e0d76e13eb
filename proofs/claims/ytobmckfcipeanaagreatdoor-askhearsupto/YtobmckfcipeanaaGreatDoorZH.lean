import Derived.Test.YtobmckfcipeanaaGreatDoorZA
import Derived.Test.YtobmckfcipeanaaGreatDoorGfAll
import Derived.Deep.RegionWith
import Derived.Deep.QuietTactic
import Derived.BigQuiet
import Derived.Test.YtobmckfcipeanaaGreatDoorZC
import Derived.StillTailTactics
import Derived.Test.YtobmckfcipeanaaGreatDoorYB
import Derived.Test.YtobmckfcipeanaaGreatDoorZG
import Derived.Test.YtobmckfcipeanaaGreatDoorZF
import Derived.Test.YtobmckfcipeanaaGreatDoorInvertW
import Derived.Test.YtobmckfcipeanaaGreatDoorZB
namespace Go.Proofs.YtobmckfcipeanaaGreatDoor
open Go.RowKit
set_option maxRecDepth 10000 in
set_option maxHeartbeats 1000000 in
theorem rmul_any (a b : Nat) (w : World) (ha : a < 256) (_hb : b < 256) :
 Calls Tryz.prog 102 #[.int .u8 (a : Int), .int .u8 (b : Int)] w fun e w' => e = .returned (.int .u8 ((Gf.mul a b : Nat) : Int)) /\ w' = w := by
 go_enter Tryz.func102, Tryz.ntmps102
 go_wp2
 go_loop [5, 6] (fun p i => ∃ k : Nat, k <= 8 /\ i = .int .i64 k /\ p = .int .i64 (Gf.rprod a b k : Nat)) (fun _ i => 8 - (intOf i).toNat)
 case atStart => exact ⟨0, by omega, rfl, rfl⟩
 case round =>
  obtain ⟨k, hk, rfl, rfl⟩ := hrel
  have hp := Gf.rprod_lt ha b k hk
  by_cases hlt : k < 8
  ·have hbt := tmod_test b k
   have hak : a * 2 ^ k < 2 ^ 15 := by
    have h1 : 2 ^ k <= 2 ^ 7 := Nat.pow_le_pow_right (by decide) (by omega)
    have h2 : a * 2 ^ k <= 255 * 2 ^ 7 := Nat.mul_le_mul (by omega) h1
    omega
   have hw1 : wrap64 ((a : Int) * 2 ^ k) = ((a * 2 ^ k : Nat) : Int) := by
    have := wrap64_small (a * 2 ^ k) (by omega)
    simpa using this
   have HX : Hid (bits .xor .i64 ((Gf.rprod a b k : Nat) : Int) (wrap64 ((a : Int) * 2 ^ k)) = ((Gf.rprod a b k ^^^ (a * 2 ^ k) : Nat) : Int)) := by show _ = _; rw [hw1]; exact i64_xor_nat _ _ (by omega) (by omega)
   clear hw1
   by_cases hbit : Gf.bitOf b k = 1
   ·have HP : Hid (Gf.rprod a b (k + 1) = Gf.rprod a b k ^^^ (a * 2 ^ k)) := by show _ = _; simp [Gf.rprod, hbit]
    rw [decide_eq_true hbit] at hbt
    clear hbit
    go_wp2
    exact ⟨⟨k + 1, by omega, by go_num, by rw [HP.out, HX.out]⟩, by simp [intOf]; omega⟩
   ·have HP : Hid (Gf.rprod a b (k + 1) = Gf.rprod a b k) := by show _ = _; simp [Gf.rprod, hbit]
    rw [decide_eq_false hbit] at hbt
    clear hbit
    go_wp2
    exact ⟨⟨k + 1, by omega, by go_num, by rw [HP.out]⟩, by simp [intOf]; omega⟩
  ·have hk8 : k = 8 := by omega
   subst hk8
   go_wp2
   have hn : Hid (Gf.rprod a b 8 < 2 ^ 15) := hp
   have HR : Hid (Gf.rmod (Gf.rprod a b 8) = Gf.mul a b) := Gf.rmul_eq a b ha
   generalize Gf.rprod a b 8 = n at hn HR hp ⊢
   go_loop [5, 7] (fun p i => ∃ m : Nat, 7 <= m /\ m <= 14 /\ i = .int .i64 m /\ p = .int .i64 (Gf.rr n (14 - m) : Nat)) (fun _ i => (intOf i).toNat)
   case atStart => exact ⟨14, by omega, by omega, rfl, rfl⟩
   case round =>
    obtain ⟨m, hm7, hm, rfl, rfl⟩ := hrel
    have hp2 := Gf.rr_lt hn.out (14 - m)
    have HE : Hid (Gf.rr n (14 - (m - 1)) = if 8 <= m then Gf.rstep m (Gf.rr n (14 - m)) else Gf.rr n (14 - (m - 1))) := by
     show _ = _
     by_cases h8 : 8 <= m
     ·rw [if_pos h8, show 14 - (m - 1) = (14 - m) + 1 from by omega]
      show Gf.rstep (14 - (14 - m)) _ = _
      rw [show 14 - (14 - m) = m from by omega]
     ·rw [if_neg h8]
    by_cases h8 : 8 <= m
    ·have hbt := tmod_test (Gf.rr n (14 - m)) m
     have h285 : 285 * 2 ^ (m - 8) < 2 ^ 15 := by
      have h1 : 2 ^ (m - 8) <= 2 ^ 6 := Nat.pow_le_pow_right (by decide) (by omega)
      have h2 : 285 * 2 ^ (m - 8) <= 285 * 2 ^ 6 := Nat.mul_le_mul (Nat.le_refl _) h1
      omega
     have hw1 : wrap64 ((285 : Int) * 2 ^ (m - 8)) = ((285 * 2 ^ (m - 8) : Nat) : Int) := by
      have := wrap64_small (285 * 2 ^ (m - 8)) (by omega)
      simpa using this
     have HX : Hid (bits .xor .i64 ((Gf.rr n (14 - m) : Nat) : Int) (wrap64 ((285 : Int) * 2 ^ (m - 8))) = ((Gf.rr n (14 - m) ^^^ (285 * 2 ^ (m - 8)) : Nat) : Int)) := by show _ = _; rw [hw1]; exact i64_xor_nat _ _ (by omega) (by omega)
     have HE' : Hid (Gf.rr n (14 - (m - 1)) = Gf.rstep m (Gf.rr n (14 - m))) := by have := HE.out; rw [if_pos h8] at this; exact this
     clear hw1 HE
     by_cases hbit : Gf.bitOf (Gf.rr n (14 - m)) m = 1
     ·have HP : Hid (Gf.rstep m (Gf.rr n (14 - m)) = Gf.rr n (14 - m) ^^^ (285 * 2 ^ (m - 8))) := by show _ = _; simp [Gf.rstep, hbit]
      rw [decide_eq_true hbit] at hbt
      clear hbit
      go_wp2
      exact ⟨⟨m - 1, by omega, by omega, by congr 1; omega, by rw [HE'.out, HP.out, HX.out]⟩, by simp [intOf]; omega⟩
     ·have HP : Hid (Gf.rstep m (Gf.rr n (14 - m)) = Gf.rr n (14 - m)) := by show _ = _; simp [Gf.rstep, hbit]
      rw [decide_eq_false hbit] at hbt
      clear hbit
      go_wp2
      exact ⟨⟨m - 1, by omega, by omega, by congr 1; omega, by rw [HE'.out, HP.out]⟩, by simp [intOf]; omega⟩
    ·have hm' : m = 7 := by omega
     subst hm'
     go_wp2
     go_ret
     refine ⟨ret_int ?_, rfl⟩
     have := HR.out
     rw [<- this]
     simp [Gf.rmod]
theorem rmul_as (a b c : Nat) (w : World) (ha : a < 256) (hb : b < 256) (h : Gf.mul a b = c) :
 Calls Tryz.prog 102 #[.int .u8 (a : Int), .int .u8 (b : Int)] w fun e w' => e = .returned (.int .u8 ((c : Nat) : Int)) /\ w' = w := h ▸ rmul_any a b w ha hb
set_option maxRecDepth 10000 in
set_option maxHeartbeats 1000000 in
theorem rinv_any (a : Nat) (w : World) (ha : a < 256) (h0 : a ≠ 0) :
 Calls Tryz.prog 135 #[.int .u8 (a : Int)] w fun e w' => e = .returned (.int .u8 ((Gf.inv a : Nat) : Int)) /\ w' = w := by
 have hi := Gf.inv_lt a
 have hip := Gf.inv_pos a ha h0
 have HM : Hid (Gf.mul a (Gf.inv a) = 1) := Gf.mul_inv a ha h0
 have HU : Hid (∀ b, b < 256 -> Gf.mul a b = 1 -> b = Gf.inv a) := fun b hb h => Gf.inv_unique a b ha hb h0 h
 clear h0
 go_enter Tryz.func135, Tryz.ntmps135
 go_wp2
 go_loop [3] (fun i => ∃ k : Nat, 1 <= k /\ k <= Gf.inv a /\ i = .int .i64 k) (fun i => 256 - (intOf i).toNat)
 case atStart => exact ⟨1, by omega, by omega, rfl⟩
 case round =>
  obtain ⟨k, hk1, hk, rfl⟩ := hrel
  by_cases hki : k = Gf.inv a
  ·subst hki
   go_wp2_with fail
   refine (rmul_as a (Gf.inv a) 1 _ ha hi HM.out).mono ?_
   rintro e w' ⟨rfl, rfl⟩
   go_wp2
   go_ret
   exact ⟨rfl, rfl⟩
  ·have hn1 : (((Gf.mul a k : Nat) : Int) == 1) = false := by
    simp only [beq_eq_false_iff_ne, ne_eq]
    intro h
    exact hki (HU.out k (by omega) (by omega))
   go_wp2_with fail
   refine (rmul_any a k _ ha (by omega)).mono ?_
   rintro e w' ⟨rfl, rfl⟩
   go_wp2
   exact ⟨⟨k + 1, by omega, by omega, by go_num⟩, by simp [intOf]; omega⟩
set_option maxRecDepth 10000 in
set_option maxHeartbeats 2000000 in
theorem basis_any (p : Option Addr) (l : List Nat) (cap i x : Nat) (w : World) (hx : x < 256) (hl : l.length < 2 ^ 40) (hi : i < l.length) (hn : l.Nodup) (hs : Seg w p l) :
 Calls Tryz.prog 109 #[.slice p l.length cap, .int .i64 (i : Int), .int .u8 (x : Int)] w fun e w' => e = .returned (.int .u8 ((Gf.shareOf l i x : Nat) : Int)) /\ ∃ n, w' = w.drewN n := by
 obtain ⟨hlt, hs⟩ := hs
 rcases hs with hs | ⟨b, o, rfl, hb, hc⟩
 ·rw [hs] at hi; simp at hi
 have hxi := hlt i
 have HE : Hid (Gf.bas l i x l.length = Gf.shareOf l i x) := Gf.bas_share l hlt hn i x hi hx
 have HI : Hid (∀ k, k < l.length -> k ≠ i -> Gf.nth l i ^^^ Gf.nth l k ≠ 0) := fun k hk e => Gf.xor_ne fun h' => e (Gf.nth_inj l hn hk hi h'.symm)
 clear hn
 go_enter Tryz.func109, Tryz.ntmps109
 go_wp2
 go_loopw [7, 8] (fun s j wr => (∃ n, wr = w.drewN n) /\ ∃ k : Nat, k <= l.length /\ j = .int .i64 k /\ s = .int .u8 (Gf.bas l i x k : Nat)) (fun _ j _ => l.length - (intOf j).toNat)
 case atStart => exact ⟨⟨0, rfl⟩, 0, by omega, rfl, rfl⟩
 case round =>
  obtain ⟨hw0, k, hk, rfl, rfl⟩ := hrel
  have HW : Hid (∃ n, wr = w.drewN n) := hw0
  clear hw0
  have hpa := Gf.bas_lt l i x k
  by_cases hlt2 : k < l.length
  ·have hc1 : wr.cell? ⟨b, o + k, none⟩ = some (.int .u8 ((Gf.nth l k : Nat) : Int)) := by
    obtain ⟨n, hn⟩ := HW.out
    rw [hn]
    exact hc k hlt2
   have hc2 : wr.cell? ⟨b, o + i, none⟩ = some (.int .u8 ((Gf.nth l i : Nat) : Int)) := by
    obtain ⟨n, hn⟩ := HW.out
    rw [hn]
    exact hc i hi
   have hkl := hlt k
   have HA : Hid (Gf.bas l i x (k + 1) = if k = i then Gf.bas l i x k else Gf.mul (Gf.bas l i x k) (Gf.mul (x ^^^ Gf.nth l k) (Gf.inv (Gf.nth l i ^^^ Gf.nth l k)))) := rfl
   clear hc
   by_cases hki : k = i
   ·have HA' := HA.out
    rw [if_pos hki] at HA'
    have HA2 : Hid (Gf.bas l i x (k + 1) = Gf.bas l i x k) := HA'
    have ht : ((k : Int) != (i : Int)) = false := by simp; omega
    clear HA HA' hki
    go_wp2
    go_roundw
    case rel => exact ⟨HW.out, k + 1, by omega, by go_num, by rw [HA2.out]⟩
    case measure => simp [intOf]; omega
   ·have HA' := HA.out
    rw [if_neg hki] at HA'
    have HA2 : Hid (Gf.bas l i x (k + 1) = Gf.mul (Gf.bas l i x k) (Gf.mul (x ^^^ Gf.nth l k) (Gf.inv (Gf.nth l i ^^^ Gf.nth l k)))) := HA'
    have HZ : Hid (Gf.nth l i ^^^ Gf.nth l k ≠ 0) := HI.out k hlt2 hki
    have ht : ((k : Int) != (i : Int)) = true := by simp; omega
    clear HA HA' hki HI
    generalize Gf.bas l i x k = pa at hpa HA2 ⊢
    generalize Gf.nth l k = c at hc1 hkl HA2 HZ
    generalize Gf.nth l i = d at hc2 hxi HA2 HZ
    have hxc := Gf.xlt hx hkl
    have hdc := Gf.xlt hxi hkl
    have hb1 := u8_xor_nat x c hx hkl
    have hb2 := u8_xor_nat d c hxi hkl
    have hin := Gf.inv_lt (d ^^^ c)
    have hm := Gf.mul_lt hxc (Gf.inv (d ^^^ c))
    go_wp2
    go_quiet ((first | (go_at_call 135; exact Calls.quiet_of_same (rinv_any (d ^^^ c) _ hdc HZ.out)) | (go_at_call_of 102 (Value.int IntKind.u8 ((x ^^^ c : Nat) : Int)); exact Calls.quiet_of_same (rmul_any (x ^^^ c) (Gf.inv (d ^^^ c)) _ hxc hin)) | (go_at_call_of 102 (Value.int IntKind.u8 ((pa : Nat) : Int)); exact Calls.quiet_of_same (rmul_any pa (Gf.mul (x ^^^ c) (Gf.inv (d ^^^ c))) _ hpa hm))))
    go_wp2
    go_roundw
    case rel =>
     obtain ⟨n, hn⟩ := HW.out
     exact ⟨⟨n + nq, by rw [hn, World.drewN_drewN]⟩, k + 1, by omega, by go_num, by rw [HA2.out]⟩
    case measure => simp [intOf]; omega
  ·have hke : k = l.length := by omega
   subst hke
   go_wp2
   go_ret
   exact ⟨by simp [HE.out], HW.out⟩
def spreadM (k n : Nat) : List (List Nat) := (List.range n).map fun i => rowFn k fun j => Gf.shareOf (upToL k) j i
theorem spreadM_succ (k n : Nat) : spreadM k (n + 1) = spreadM k n ++ [rowFn k fun j => Gf.shareOf (upToL k) j n] := by simp [spreadM, List.range_succ]
theorem spreadM_length (k n : Nat) : (spreadM k n).length = n := by simp [spreadM]
theorem upToL_nodup (k : Nat) : (upToL k).Nodup := List.nodup_range
theorem upToL_length (k : Nat) : (upToL k).length = k := by simp [upToL]
theorem upToL_bytes (k : Nat) (h : k <= 256) : Gf.Bytes (upToL k) := fun i => by
 by_cases hi : i < k
 ·rw [Gf.nth_getElem _ _ (by rw [upToL_length]; exact hi)]; simp [upToL]; omega
 ·unfold Gf.nth; rw [List.getD_eq_getElem?_getD, List.getElem?_eq_none (by rw [upToL_length]; omega)]; decide
theorem basis_told (p : Option Addr) (k cap j x : Nat) (w : World) (hx : x < 256) (hk : k <= 100) (hj : j < k) (hs : Seg w p (upToL k)) :
 Calls Tryz.prog 109 #[.slice p k cap, .int .i64 (j : Int), .int .u8 (x : Int)] w fun e w' => e = .returned (.int .u8 ((Gf.shareOf (upToL k) j x : Nat) : Int)) /\ ∃ n, w' = w.drewN n := by
 have h := basis_any p (upToL k) cap j x w hx (by rw [upToL_length]; omega) (by rw [upToL_length]; exact hj) (upToL_nodup k) hs
 rw [upToL_length] at h
 exact h
theorem nth_upTo (k r : Nat) (h : r < k) : Gf.nth (upToL k) r = r := by
 rw [Gf.nth_getElem _ r (by rw [upToL_length]; exact h)]
 simp [upToL]
theorem vander_indep (k : Nat) (hk : k <= 256) : Lin.Indep k k (vecF Gf.rep) := by
 have h := powers_indep (upToL k) (upToL_bytes k hk) (upToL_nodup k)
 rw [upToL_length] at h
 intro c hc
 refine h c (fun j hj => ?_)
 rw [<- hc j hj]
 exact Lin.fsum_congr fun r hr => by
  show Lin.mu (c r) (toF (Gf.rep (Gf.nth (upToL k) r) j)) = _
  rw [nth_upTo k r hr]
  rfl
theorem rank_of_indep {n : Nat} {v : Nat -> Nat -> Lin.F} (h : Lin.Indep n n v) : Lin.IsRank n n v n := ⟨v, h, fun _ hi => Lin.span_self v hi, fun _ hi => Lin.span_self v hi⟩
theorem rep_bytes : ∀ i j, Gf.rep i j < 256 := fun i j => Gf.rep_lt i j
theorem spread_values (n k : Nat) (hn : n <= 12) (hkn : k <= n) (x : Nat -> Nat -> Nat) (hx : ∀ i j, x i j < 256) (hinv : ∀ i j, i < k -> j < k -> Lin.mm k (vecF x) (vecF Gf.rep) i j = Lin.one i j) (i j : Nat) (hi : i < n) (hj : j < k) :
 dotN (matFn n k Gf.rep) (matFn k k x) i j k = Gf.shareOf (upToL k) j i := by
 refine toF_inj (dotN_lt _ _ (matFn_bytes rep_bytes) i j k) (Gf.shareOf_lt _ _ _) ?_
 rw [dotN_fsum (matFn_bytes rep_bytes) (matFn_bytes hx)]
 have e1 : Lin.fsum k (fun t => Lin.mu (vec (matFn n k Gf.rep) i t) (vec (matFn k k x) t j)) = Lin.mm k (fun i t => toF (Gf.rep i t)) (vecF x) i j := Lin.fsum_congr fun t ht => by rw [vec_matFn hi ht, vec_matFn ht hj]; rfl
 rw [e1]
 have hr := Lin.right_of_left hinv
 have e2 : ∀ m, m < k -> toF (Gf.rep i m) = Lin.mm k (fun i j => toF (Gf.shareOf (upToL k) j i)) (vecF Gf.rep) i m := fun m hm => by
  have := shares_times_powers (upToL k) (upToL_bytes k (by omega)) (upToL_nodup k) i m (by omega) (by rw [upToL_length]; exact hm)
  rw [upToL_length] at this
  rw [<- this]
  exact Lin.fsum_congr fun t ht => by rw [nth_upTo k t ht]; rfl
 have e3 : Lin.mm k (fun i t => toF (Gf.rep i t)) (vecF x) i j = Lin.mm k (Lin.mm k (fun i j => toF (Gf.shareOf (upToL k) j i)) (vecF Gf.rep)) (vecF x) i j := Lin.mm_congr k (fun m hm => e2 m hm) (fun _ _ => rfl)
 rw [e3, Lin.mm_assoc]
 have e4 : Lin.mm k (fun i j => toF (Gf.shareOf (upToL k) j i)) (Lin.mm k (vecF Gf.rep) (vecF x)) i j = Lin.mm k (fun i j => toF (Gf.shareOf (upToL k) j i)) Lin.one i j := Lin.mm_congr k (fun _ _ => rfl) (fun m hm => hr m j hm hj)
 rw [e4, Lin.mm_one k _ i j hj]
theorem spread_prod (n k : Nat) (hk1 : 1 <= k) (hn : n <= 12) (hkn : k <= n) (x : Nat -> Nat -> Nat) (hx : ∀ i j, x i j < 256) (hinv : ∀ i j, i < k -> j < k -> Lin.mm k (vecF x) (vecF Gf.rep) i j = Lin.one i j) :
 prodM (matFn n k Gf.rep) (matFn k k x) n = spreadM k n := by
 rw [prodM_fn, rowOf_matFn k k x 0 (by omega), rowFn_length, matFn_length]
 unfold matFn spreadM
 refine List.map_congr_left fun i hi => ?_
 exact rowFn_congr k _ _ (fun j hj => spread_values n k hn hkn x hx hinv i j (List.mem_range.1 hi) hj)
set_option maxRecDepth 10000 in
set_option maxHeartbeats 2000000 in
theorem spread_ok (n k : Nat) (z : Addr) (w : World) (hk1 : 1 <= k) (hkn : k <= n) (hn : n <= 12) (hz : w.cell? ⟨11, 0, none⟩ = some (.iface 234 (.pointer (some z)))) :
 Calls Tryz.prog 116 #[.int .i64 (n : Int), .int .i64 (k : Int)] w fun e w' => (∃ gm, e = .returned (.tuple #[.slice (some ⟨gm, 0, none⟩) n n, .nilIface]) /\ Mat w' (some ⟨gm, 0, none⟩) (spreadM k n)) /\ Below w.heap.size w w' := by
 have HP := powers_ok n k w hk1 hkn hn
 have HZ : Hid (w.cell? ⟨11, 0, none⟩ = some (.iface 234 (.pointer (some z)))) := hz
 clear hz
 go_enter Tryz.func116, Tryz.ntmps116
 go_wp2_with fail
 refine HP.mono ?_
 rintro e w1 ⟨⟨gm, gs, rfl, hG⟩, hb1⟩
 have HA1 : Hid (Mat w1 (some ⟨gm, 0, none⟩) (matFn n k Gf.rep)) := hG.mat rep_bytes n (Nat.le_refl _)
 have HK1 : Hid (Mat w1 (some ⟨gm, 0, none⟩) (matFn k k Gf.rep)) := hG.mat rep_bytes k hkn
 have HZ1 : Hid (w1.cell? ⟨11, 0, none⟩ = some (.iface 234 (.pointer (some z)))) := (hb1.cell (p := ⟨11, 0, none⟩) (lt_of_cell HZ.out)).trans HZ.out
 have HB1 : Hid (Below w.heap.size w w1) := hb1
 clear hG hb1 HP HZ
 have HI := invert_ok (some ⟨gm, 0, none⟩) (matFn k k Gf.rep) n z w1 (isMat_matFn hk1 (by omega) hk1 (by omega)) (by rw [rowOf_matFn k k Gf.rep 0 (by omega), rowFn_length, matFn_length]) (matFn_bytes rep_bytes) HK1.out HZ1.out
 unfold Inverted at HI
 rw [matFn_length] at HI
 go_wp2_with fail
 refine HI.mono ?_
 rintro e w2 ⟨⟨d, hd, hcase⟩, hb2⟩
 have hdk : d = k := Lin.rank_unique hd (rank_congr (rank_of_indep (vander_indep k (by omega))) (fun i hi j hj => (vec_matFn hi hj).symm))
 rcases hcase with ⟨hlt, _⟩ | ⟨_, g2, x, rfl, hm2, hx, hinv⟩
 ·omega
 ·have HB2 : Hid (Below w.heap.size w w2) := HB1.out.trans (hb2.mono HB1.out.size)
  have hs2 : w.heap.size <= w2.heap.size := HB2.out.size
  have HT := mtimes_ok (some ⟨gm, 0, none⟩) (some ⟨g2, 0, none⟩) (matFn n k Gf.rep) (matFn k k x) n k w2 (isMat_matFn (by omega) (by omega) hk1 (by omega)) (isMat_matFn hk1 (by omega) hk1 (by omega)) (by rw [rowOf_matFn n k Gf.rep 0 (by omega), rowFn_length, matFn_length]) (matFn_bytes rep_bytes) (matFn_bytes hx) (HA1.out.below hb2) hm2
  rw [matFn_length, matFn_length, spread_prod n k hk1 hn hkn x hx (fun i j hi hj => by
   rw [<- hinv i j hi hj]
   exact Lin.mm_congr k (fun _ _ => rfl) (fun t ht => (vec_matFn ht hj).symm))] at HT
  clear hd hdk hm2 hinv hb2 HI HK1 HA1 HZ1
  go_wp2_with fail
  refine HT.mono ?_
  rintro e w3 ⟨⟨g3, rfl, hm3⟩, hb3⟩
  clear HT
  go_wp2
  go_ret2
  exact ⟨⟨g3, rfl, hm3⟩, HB2.out.trans (hb3.mono hs2)⟩
theorem spreadM_row (k n i : Nat) (hi : i < n) : rowOf (spreadM k n) i = rowFn k fun j => Gf.shareOf (upToL k) j i := by
 unfold rowOf spreadM
 rw [List.getD_eq_getElem?_getD, List.getElem?_map, List.getElem?_range hi]
 rfl
def encN (s : List Nat) (k wd i c : Nat) : Nat -> Nat
 | 0 => 0
 | j + 1 => if j * wd + c < s.length then encN s k wd i c j ^^^ Gf.mul (Gf.shareOf (upToL k) j i) (Gf.nth s (j * wd + c)) else encN s k wd i c j
def encRow (s : List Nat) (k wd i : Nat) : List Nat := rowFn wd fun c => encN s k wd i c k
theorem encN_lt (s : List Nat) (k wd i c : Nat) : ∀ j, encN s k wd i c j < 256
 | 0 => by show 0 < 256; decide
 | j + 1 => by
  show (if j * wd + c < s.length then encN s k wd i c j ^^^ Gf.mul (Gf.shareOf (upToL k) j i) (Gf.nth s (j * wd + c)) else encN s k wd i c j) < 256
  split
  ·exact Gf.xlt (encN_lt s k wd i c j) (Gf.mul_lt (Gf.shareOf_lt _ _ _) _)
  ·exact encN_lt s k wd i c j
def shCells (l : List (Nat × List Nat)) : List Value := l.flatMap fun x => [.int .i64 (x.1 : Int), .string (strOf x.2)]
def OwnSh (w : World) (B : Nat) (v : Value) (l : List (Nat × List Nat)) : Prop := w.ownsRow B 67 2 v l.length (shCells l)
theorem shinfo : (Tryz.prog.info? 67).map (fun i => (i.zero, i.size, i.bytes)) = some (some (.agg #[.int .i64 0, .string ⟨#[]⟩]), 2, 24) := by kernel_rfl
theorem shCells_snoc (l : List (Nat × List Nat)) (x : Nat × List Nat) : shCells (l ++ [x]) = shCells l ++ [.int .i64 (x.1 : Int), .string (strOf x.2)] := by simp [shCells]
theorem OwnSh.snoc {w : World} {B : Nat} {v : Value} {l : List (Nat × List Nat)} {i : Nat} {row : List Nat} {n : Nat} (h : w.ownsRow B 67 2 v (n + 1) (shCells l ++ [.int .i64 (i : Int), .string (strOf row)])) (hn : n = l.length) : OwnSh w B v (l ++ [(i, row)]) := by
 unfold OwnSh
 rw [shCells_snoc, List.length_append, List.length_singleton, <- hn]
 exact h
def shVals (l : List (Int × ByteArray)) : List Value := l.flatMap fun x => [.int .i64 x.1, .string x.2]
theorem shVals_at : ∀ (l : List (Int × ByteArray)) (i : Nat), i < l.length -> (shVals l)[i * 2]? = some (.int .i64 (shAt l i).1) /\ (shVals l)[i * 2 + 1]? = some (.string (shAt l i).2)
 | [], i, h => absurd h (Nat.not_lt_zero _)
 | x :: t, 0, _ => ⟨rfl, rfl⟩
 | x :: t, i + 1, h => by
  have h' := shVals_at t i (by simpa using h)
  have e : shVals (x :: t) = .int .i64 x.1 :: .string x.2 :: shVals t := rfl
  have e2 : shAt (x :: t) (i + 1) = shAt t i := rfl
  rw [e, e2, show (i + 1) * 2 = i * 2 + 1 + 1 by omega, show i * 2 + 1 + 1 + 1 = i * 2 + 1 + 1 + 1 from rfl]
  exact ⟨by simpa using h'.1, by simpa using h'.2⟩
theorem shs_of_own {w : World} {B : Nat} {v : Value} {l : List (Int × ByteArray)} {E : TypeId} (h : w.ownsRow B E 2 v l.length (shVals l)) : ∃ p c, v = .slice p l.length c /\ Shs w p l := by
 rcases h.2 with ⟨rfl, h0⟩ | ⟨g, cap, cur, rfl, hb, hg, hnc, hcm, hcs, htake⟩
 ·have : l = [] := List.length_eq_zero_iff.1 h0
  subst this
  exact ⟨none, 0, rfl, Or.inl rfl⟩
 ·refine ⟨some ⟨g, 0, none⟩, cap, rfl, Or.inr ⟨g, 0, rfl, (Array.getElem?_eq_some_iff.1 hg).1, fun i hi => ?_⟩⟩
  have hc := World.ownsRow.cells (g := g) h rfl
  have h1 := shVals_at l i hi
  have e1 := hc (i * 2) _ h1.1
  have e2 := hc (i * 2 + 1) _ h1.2
  rw [Addr.add_lit] at e1 e2
  exact ⟨e1, by rw [Nat.add_assoc]; exact e2⟩
end Go.Proofs.YtobmckfcipeanaaGreatDoor
