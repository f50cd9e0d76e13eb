/- The walk of the law FieldEval: whatever the lists of bytes, the call returns true; nothing that was there is written. -/
import Derived.Test.YteloekfalmogjaaDoorFieldErrW
import Derived.Test.YteloekfalmogjaaDoorRefSliceW
namespace Go.Proofs.YteloekfalmogjaaDoor
open Go.RowKit
theorem between_shape (px py : Option Addr) (n m cx cy x : Nat) (z : Addr) (w : World) (hne : n ≠ m) (hz : w.cell? ⟨2, 0, none⟩ = some (.iface 55 (.pointer (some z)))) :
    Calls Tryd.prog 24 #[.slice px n cx, .slice py m cy, .int .u8 (x : Int)] w fun e w' => e = .returned (.tuple #[.int .u8 0, .iface 55 (.pointer (some z))]) ∧ Below w.heap.size w w' := by
  have h1 : ((n : Int) != (m : Int)) = true := by simp; omega
  clear hne
  go_enter Tryd.func24, Tryd.ntmps24
  go_wp2
  go_quiet (fail)
  go_wp2
  go_ret2
  exact ⟨rfl, below_drewN (Below.refl _ _) _⟩
theorem between_twice (px py : Option Addr) (xs : List Nat) (cx cy x : Nat) (ad : Nat → Addr) (w : World) (hl : xs.length < 2 ^ 40) (hn : ¬ xs.Nodup) (hs : Seg w px xs) (hS : Sent w ad) :
    Calls Tryd.prog 24 #[.slice px xs.length cx, .slice py xs.length cy, .int .u8 (x : Int)] w fun e w' => e = .returned (.tuple #[.int .u8 0, .iface 55 (.pointer (some (ad 5)))]) ∧ Below w.heap.size w w' := by
  go_enter Tryd.func24, Tryd.ntmps24
  go_wp2_with fail
  refine (twice_any px xs cx _ hl hs).mono ?_
  rintro e w2 ⟨rfl, hb2⟩
  rw [decide_eq_false hn]
  have hz := (hS.below hb2).c5
  clear hS
  go_wp2
  go_quiet (fail)
  go_wp2
  go_ret2
  exact ⟨rfl, below_drewN hb2 _⟩
theorem coded_shape (ad : Nat → Addr) (w : World) (hS : Sent w ad) :
    Calls Tryd.prog 11 #[.iface 55 (.pointer (some (ad 2))), .int .i64 3] w fun e w' => e = .returned (.bool true) ∧ Below w.heap.size w w' := coded_sent ad 2 (by decide) w hS
theorem coded_exist (ad : Nat → Addr) (w : World) (hS : Sent w ad) :
    Calls Tryd.prog 11 #[.iface 55 (.pointer (some (ad 5))), .int .i64 6] w fun e w' => e = .returned (.bool true) ∧ Below w.heap.size w w' := coded_sent ad 5 (by decide) w hS
set_option maxRecDepth 10000 in
theorem evalLaw_out (pp px py : Option Addr) (n m k cp cx cy x : Nat) (w : World) (h : 40 < n ∨ (n ≤ 40 ∧ 20 < m) ∨ (n ≤ 40 ∧ m ≤ 20 ∧ 20 < k)) (h1 : n < 2 ^ 63) (h2 : m < 2 ^ 63) (h3 : k < 2 ^ 63) :
    Calls Tryd.prog 8 #[.slice pp n cp, .int .u8 (x : Int), .slice px m cx, .slice py k cy] w fun e w' => e = .returned (.bool true) ∧ w' = w := by
  rcases h with h | ⟨h, h'⟩ | ⟨h, h', h''⟩
  all_goals
    go_enter Tryd.func8, Tryd.ntmps8
    go_wp2_with (go_at_call 13; refine (double_any _).mono ?_; rintro e w' ⟨rfl, rfl⟩)
    go_ret
    exact ⟨rfl, rfl⟩
set_option maxRecDepth 10000 in
set_option maxHeartbeats 2000000 in
theorem evalLaw_in (pp px py : Option Addr) (l xs ys : List Nat) (cp cx cy x : Nat) (ad : Nat → Addr) (w : World) (hx : x < 256) (h1 : l.length ≤ 40) (h2 : xs.length ≤ 20) (h3 : ys.length ≤ 20) (hp : Seg w pp l) (hs : Seg w px xs) (ht : Seg w py ys) (hS : Sent w ad) :
    Calls Tryd.prog 8 #[.slice pp l.length cp, .int .u8 (x : Int), .slice px xs.length cx, .slice py ys.length cy] w fun e w' => e = .returned (.bool true) ∧ Below w.heap.size w w' := by
  go_enter Tryd.func8, Tryd.ntmps8
  go_wp2_with (go_at_call 13; refine (double_any _).mono ?_; rintro e w1 ⟨rfl, hw1⟩; rw [hw1]; clear hw1 w1)
  refine (eval_any pp l cp x _ hx (by omega) hp).mono ?_
  rintro e w1 ⟨rfl, hw1⟩
  have hb1 : Below w.heap.size w w1 := by obtain ⟨n, hn⟩ := hw1; rw [hn]; exact below_drewN (Below.refl _ _) n
  clear hw1
  go_wp2_with fail
  refine (reval_any pp l cp x _ hx (by omega) (hp.below hb1)).mono ?_
  rintro e w2 ⟨rfl, hw2⟩
  rw [hw2]; clear hw2 w2
  have hs1 := hs.below hb1
  have ht1 := ht.below hb1
  have hS1 := hS.below hb1
  clear hp hs ht hS
  by_cases hne : xs.length = ys.length
  · have HE : Hid (ys.length = xs.length) := hne.symm
    clear hne
    by_cases hn : xs.Nodup
    · go_wp2_with fail
      refine (between_any px py xs ys cx cy x _ hx (by omega) HE.out hn hs1 ht1).mono ?_
      rintro e w2 ⟨rfl, hb2⟩
      have hs2 := hs1.below hb2
      have ht2 := ht1.below hb2
      have hb12 := hb1.trans (hb2.mono hb1.size)
      clear hb2 hs1 ht1
      go_wp2_with fail
      refine (rbetween_any px py xs ys cx cy x _ hx (by omega) HE.out hn hs2 ht2).mono ?_
      rintro e w3 ⟨rfl, n, hw3⟩
      rw [hw3]; clear hw3 w3
      go_wp2_with fail
      refine (coded_nil _).mono ?_
      rintro e w4 ⟨rfl, hw4⟩
      rw [hw4]; clear hw4 w4
      go_wp2
      go_ret
      exact ⟨rfl, below_drewN hb12 n⟩
    · have HE' : ys.length = xs.length := HE.out
      go_wp2_with fail
      refine (between_twice px py xs cx cy x ad _ (by omega) hn hs1 hS1).mono ?_
      rintro e w2 ⟨rfl, hb2⟩
      have hs2 := hs1.below hb2
      have hS2 := hS1.below hb2
      have hb12 := hb1.trans (hb2.mono hb1.size)
      clear hb2 hs1 ht1 hS1
      go_wp2_with fail
      refine (rbetween_twice px py xs cx cy x _ (by omega) hn hs2).mono ?_
      rintro e w3 ⟨rfl, n, hw3⟩
      have hb3 : Below w2.heap.size w2 w3 := by rw [hw3]; exact below_drewN (Below.refl _ _) n
      have hS3 := hS2.below hb3
      have hb13 := hb12.trans (hb3.mono hb12.size)
      clear hw3 hb3 hS2
      go_wp2_with fail
      refine (coded_exist ad _ hS3).mono ?_
      rintro e w4 ⟨rfl, hb4⟩
      go_wp2
      go_ret
      exact ⟨rfl, hb13.trans (hb4.mono hb13.size)⟩
  · have HE : Hid (xs.length ≠ ys.length) := hne
    clear hne
    go_wp2_with fail
    refine (between_shape px py xs.length ys.length cx cy x (ad 2) _ HE.out hS1.c2).mono ?_
    rintro e w2 ⟨rfl, hb2⟩
    have hS2 := hS1.below hb2
    have hb12 := hb1.trans (hb2.mono hb1.size)
    clear hb2 hs1 ht1 hS1
    go_wp2_with fail
    refine (rbetween_shape px py xs.length ys.length cx cy x _ HE.out).mono ?_
    rintro e w3 ⟨rfl, hw3⟩
    rw [hw3]; clear hw3 w3
    go_wp2_with fail
    refine (coded_shape ad _ hS2).mono ?_
    rintro e w4 ⟨rfl, hb4⟩
    go_wp2
    go_ret
    exact ⟨rfl, hb12.trans (hb4.mono hb12.size)⟩
end Go.Proofs.YteloekfalmogjaaDoor
