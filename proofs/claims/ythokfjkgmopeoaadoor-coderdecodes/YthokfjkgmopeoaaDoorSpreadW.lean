/- Package matrix: Spread is Powers times the inverse of its first rows: Lagrange's polynomials; any k of its rows are independent. -/
import Derived.Test.YthokfjkgmopeoaaDoorPowersW
import Derived.Test.YthokfjkgmopeoaaDoorTimesW
import Derived.Test.YthokfjkgmopeoaaDoorMatFnB
import Derived.Test.YthokfjkgmopeoaaDoorInvertW
import Derived.Test.YthokfjkgmopeoaaDoorRefSpreadW
import Derived.Test.YthokfjkgmopeoaaDoorGfAll
namespace Go.Proofs.YthokfjkgmopeoaaDoor
open Go.RowKit
theorem nth_upTo (k r : Nat) (h : r < k) : Gf.nth (upToL k) r = r := by
  rw [Gf.nth_getElem _ r (by rw [upToL_length]; exact h)]
  simp [upToL]
/-- The first k rows of Powers are independent. -/
theorem vander_indep (k : Nat) (hk : k ≤ 256) : Lin.Indep k k (vecF Gf.rep) := by
  have h := powers_indep (upToL k) (upToL_bytes k hk) (upToL_nodup k)
  rw [upToL_length] at h
  intro c hc
  refine h c (fun j hj => ?_)
  rw [← hc j hj]
  exact Lin.fsum_congr fun r hr => by
    show Lin.mu (c r) (toF (Gf.rep (Gf.nth (upToL k) r) j)) = _
    rw [nth_upTo k r hr]
    rfl
theorem rank_of_indep {n : Nat} {v : Nat → Nat → Lin.F} (h : Lin.Indep n n v) : Lin.IsRank n n v n := ⟨v, h, fun _ hi => Lin.span_self v hi, fun _ hi => Lin.span_self v hi⟩
theorem rep_bytes : ∀ i j, Gf.rep i j < 256 := fun i j => Gf.rep_lt i j
/-- What Powers times the inverse is. -/
theorem spread_values (n k : Nat) (hn : n ≤ 12) (hkn : k ≤ n) (x : Nat → Nat → Nat) (hx : ∀ i j, x i j < 256) (hinv : ∀ i j, i < k → j < k → Lin.mm k (vecF x) (vecF Gf.rep) i j = Lin.one i j) (i j : Nat) (hi : i < n) (hj : j < k) :
    dotN (matFn n k Gf.rep) (matFn k k x) i j k = Gf.shareOf (upToL k) j i := by
  refine toF_inj (dotN_lt _ _ (matFn_bytes rep_bytes) i j k) (Gf.shareOf_lt _ _ _) ?_
  rw [dotN_fsum (matFn_bytes rep_bytes) (matFn_bytes hx)]
  have e1 : Lin.fsum k (fun t => Lin.mu (vec (matFn n k Gf.rep) i t) (vec (matFn k k x) t j)) = Lin.mm k (fun i t => toF (Gf.rep i t)) (vecF x) i j := Lin.fsum_congr fun t ht => by rw [vec_matFn hi ht, vec_matFn ht hj]; rfl
  rw [e1]
  have hr := Lin.right_of_left hinv
  have e2 : ∀ m, m < k → toF (Gf.rep i m) = Lin.mm k (fun i j => toF (Gf.shareOf (upToL k) j i)) (vecF Gf.rep) i m := fun m hm => by
    have := shares_times_powers (upToL k) (upToL_bytes k (by omega)) (upToL_nodup k) i m (by omega) (by rw [upToL_length]; exact hm)
    rw [upToL_length] at this
    rw [← this]
    exact Lin.fsum_congr fun t ht => by rw [nth_upTo k t ht]; rfl
  have e3 : Lin.mm k (fun i t => toF (Gf.rep i t)) (vecF x) i j = Lin.mm k (Lin.mm k (fun i j => toF (Gf.shareOf (upToL k) j i)) (vecF Gf.rep)) (vecF x) i j := Lin.mm_congr k (fun m hm => e2 m hm) (fun _ _ => rfl)
  rw [e3, Lin.mm_assoc]
  have e4 : Lin.mm k (fun i j => toF (Gf.shareOf (upToL k) j i)) (Lin.mm k (vecF Gf.rep) (vecF x)) i j = Lin.mm k (fun i j => toF (Gf.shareOf (upToL k) j i)) Lin.one i j := Lin.mm_congr k (fun _ _ => rfl) (fun m hm => hr m j hm hj)
  rw [e4, Lin.mm_one k _ i j hj]
theorem spread_prod (n k : Nat) (hk1 : 1 ≤ k) (hn : n ≤ 12) (hkn : k ≤ n) (x : Nat → Nat → Nat) (hx : ∀ i j, x i j < 256) (hinv : ∀ i j, i < k → j < k → Lin.mm k (vecF x) (vecF Gf.rep) i j = Lin.one i j) :
    prodM (matFn n k Gf.rep) (matFn k k x) n = spreadM k n := by
  rw [prodM_fn, rowOf_matFn k k x 0 (by omega), rowFn_length, matFn_length]
  unfold matFn spreadM
  refine List.map_congr_left fun i hi => ?_
  exact rowFn_congr k _ _ (fun j hj => spread_values n k hn hkn x hx hinv i j (List.mem_range.1 hi) hj)
set_option maxRecDepth 10000 in
set_option maxHeartbeats 2000000 in
theorem spread_ok (n k : Nat) (z : Addr) (w : World) (hk1 : 1 ≤ k) (hkn : k ≤ n) (hn : n ≤ 12) (hz : w.cell? ⟨11, 0, none⟩ = some (.iface 136 (.pointer (some z)))) :
    Calls Tryd.prog 37 #[.int .i64 (n : Int), .int .i64 (k : Int)] w fun e w' => (∃ gm, e = .returned (.tuple #[.slice (some ⟨gm, 0, none⟩) n n, .nilIface]) ∧ Mat w' (some ⟨gm, 0, none⟩) (spreadM k n)) ∧ Below w.heap.size w w' := by
  have HP := powers_ok n k w hk1 hkn hn
  have HZ : Hid (w.cell? ⟨11, 0, none⟩ = some (.iface 136 (.pointer (some z)))) := hz
  clear hz
  go_enter Tryd.func37, Tryd.ntmps37
  go_wp2_with fail
  refine HP.mono ?_
  rintro e w1 ⟨⟨gm, gs, rfl, hG⟩, hb1⟩
  have HA1 : Hid (Mat w1 (some ⟨gm, 0, none⟩) (matFn n k Gf.rep)) := hG.mat rep_bytes n (Nat.le_refl _)
  have HK1 : Hid (Mat w1 (some ⟨gm, 0, none⟩) (matFn k k Gf.rep)) := hG.mat rep_bytes k hkn
  have HZ1 : Hid (w1.cell? ⟨11, 0, none⟩ = some (.iface 136 (.pointer (some z)))) := (hb1.cell (p := ⟨11, 0, none⟩) (lt_of_cell HZ.out)).trans HZ.out
  have HB1 : Hid (Below w.heap.size w w1) := hb1
  clear hG hb1 HP HZ
  have HI := invert_ok (some ⟨gm, 0, none⟩) (matFn k k Gf.rep) n z w1 (isMat_matFn hk1 (by omega) hk1 (by omega)) (by rw [rowOf_matFn k k Gf.rep 0 (by omega), rowFn_length, matFn_length]) (matFn_bytes rep_bytes) HK1.out HZ1.out
  unfold Inverted at HI
  rw [matFn_length] at HI
  go_wp2_with fail
  refine HI.mono ?_
  rintro e w2 ⟨⟨d, hd, hcase⟩, hb2⟩
  have hdk : d = k := Lin.rank_unique hd (rank_congr (rank_of_indep (vander_indep k (by omega))) (fun i hi j hj => (vec_matFn hi hj).symm))
  rcases hcase with ⟨hlt, _⟩ | ⟨_, g2, x, rfl, hm2, hx, hinv⟩
  · omega
  · have HB2 : Hid (Below w.heap.size w w2) := HB1.out.trans (hb2.mono HB1.out.size)
    have hs2 : w.heap.size ≤ w2.heap.size := HB2.out.size
    have HT := mtimes_ok (some ⟨gm, 0, none⟩) (some ⟨g2, 0, none⟩) (matFn n k Gf.rep) (matFn k k x) n k w2 (isMat_matFn (by omega) (by omega) hk1 (by omega)) (isMat_matFn hk1 (by omega) hk1 (by omega)) (by rw [rowOf_matFn n k Gf.rep 0 (by omega), rowFn_length, matFn_length]) (matFn_bytes rep_bytes) (matFn_bytes hx) (HA1.out.below hb2) hm2
    rw [matFn_length, matFn_length, spread_prod n k hk1 hn hkn x hx (fun i j hi hj => by
      rw [← hinv i j hi hj]
      exact Lin.mm_congr k (fun _ _ => rfl) (fun t ht => (vec_matFn ht hj).symm))] at HT
    clear hd hdk hm2 hinv hb2 HI HK1 HA1 HZ1
    go_wp2_with fail
    refine HT.mono ?_
    rintro e w3 ⟨⟨g3, rfl, hm3⟩, hb3⟩
    clear HT
    go_wp2
    go_ret2
    exact ⟨⟨g3, rfl, hm3⟩, HB2.out.trans (hb3.mono hs2)⟩
set_option maxRecDepth 10000 in
theorem spread_bad (n k : Int) (z : Addr) (w : World) (h : ¬ (1 ≤ k ∧ k ≤ n ∧ n ≤ 12)) (hz : w.cell? ⟨2, 0, none⟩ = some (.iface 136 (.pointer (some z)))) :
    Calls Tryd.prog 37 #[.int .i64 n, .int .i64 k] w fun e w' => e = .returned (.tuple #[.slice none 0 0, .iface 136 (.pointer (some z))]) ∧ Below w.heap.size w w' := by
  have HP := powers_bad n k z w h hz
  clear h hz
  go_enter Tryd.func37, Tryd.ntmps37
  go_wp2_with fail
  refine HP.mono ?_
  rintro e w1 ⟨rfl, hb1⟩
  go_wp2
  go_ret2
  exact ⟨rfl, hb1⟩
end Go.Proofs.YthokfjkgmopeoaaDoor
