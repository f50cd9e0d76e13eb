/- Go's own cmp.Compare at numbers and texts, cmp.Or; which of two points comes first. -/
import Derived.Test.YtakfjkphmfblaaaGreatDoorRingM
import Derived.Test.YtakfjkphmfblaaaGreatDoorG1
import Derived.BigQuiet
import Derived.Deep.RegionHeld3
namespace Go.Proofs.YtakfjkphmfblaaaGreatDoor
open Go.RowKit Ring
/-- -1, 0, 1 by number. -/
def cmpN (a b : Nat) : Int := if a < b then -1 else if b < a then 1 else 0
/-- -1, 0, 1 by text. -/
def cmpT (x y : ByteArray) : Int := if Op.bytesLess x.toList y.toList then -1 else if Op.bytesLess y.toList x.toList then 1 else 0
set_option maxRecDepth 10000 in
theorem nan_u32 (a : Nat) (w : World) : Calls Tryz.prog 64 #[.int .u32 (a : Int)] w fun e w' => e = .returned (.bool false) ∧ w' = w := by
  go_enter Tryz.func64, Tryz.ntmps64
  go_wp2
  go_ret
  exact ⟨rfl, rfl⟩
set_option maxRecDepth 10000 in
theorem nan_int (a : Nat) (w : World) : Calls Tryz.prog 66 #[.int .i64 (a : Int)] w fun e w' => e = .returned (.bool false) ∧ w' = w := by
  go_enter Tryz.func66, Tryz.ntmps66
  go_wp2
  go_ret
  exact ⟨rfl, rfl⟩
set_option maxRecDepth 10000 in
theorem nan_txt (x : ByteArray) (w : World) : Calls Tryz.prog 65 #[.string x] w fun e w' => e = .returned (.bool false) ∧ w' = w := by
  go_enter Tryz.func65, Tryz.ntmps65
  go_wp2
  go_ret
  exact ⟨rfl, rfl⟩
set_option maxRecDepth 10000 in
set_option maxHeartbeats 1000000 in
theorem cmp_u32 (a b : Nat) (w : World) : Calls Tryz.prog 51 #[.int .u32 (a : Int), .int .u32 (b : Int)] w fun e w' => e = .returned (.int .i64 (cmpN a b)) ∧ w' = w := by
  have h1 := fun W => nan_u32 a W
  have h2 := fun W => nan_u32 b W
  rcases Nat.lt_trichotomy a b with h | h | h
  · have HE : Hid (cmpN a b = -1) := if_pos h
    rw [HE.out]
    go_enter Tryz.func51, Tryz.ntmps51
    go_wp2_with fail
    refine (h1 _).mono ?_
    rintro e w1 ⟨rfl, hw1⟩
    rw [hw1]
    clear hw1 w1
    go_wp2_with fail
    refine (h2 _).mono ?_
    rintro e w1 ⟨rfl, hw1⟩
    rw [hw1]
    clear hw1 w1
    go_wp2
    go_ret
    exact ⟨rfl, rfl⟩
  · subst h
    have HE : Hid (cmpN a a = 0) := by show _ = _; unfold cmpN; rw [if_neg (Nat.lt_irrefl _), if_neg (Nat.lt_irrefl _)]
    rw [HE.out]
    go_enter Tryz.func51, Tryz.ntmps51
    go_wp2_with fail
    refine (h1 _).mono ?_
    rintro e w1 ⟨rfl, hw1⟩
    rw [hw1]
    clear hw1 w1
    go_wp2_with fail
    refine (h2 _).mono ?_
    rintro e w1 ⟨rfl, hw1⟩
    rw [hw1]
    clear hw1 w1
    go_wp2
    go_ret
    exact ⟨rfl, rfl⟩
  · have HE : Hid (cmpN a b = 1) := by show _ = _; unfold cmpN; rw [if_neg (by omega), if_pos h]
    have d1 : decide ((a : Int) < (b : Int)) = false := decide_eq_false (by omega)
    rw [HE.out]
    go_enter Tryz.func51, Tryz.ntmps51
    go_wp2_with fail
    refine (h1 _).mono ?_
    rintro e w1 ⟨rfl, hw1⟩
    rw [hw1]
    clear hw1 w1
    go_wp2_with fail
    refine (h2 _).mono ?_
    rintro e w1 ⟨rfl, hw1⟩
    rw [hw1]
    clear hw1 w1
    go_wp2
    go_ret
    exact ⟨rfl, rfl⟩
set_option maxRecDepth 10000 in
set_option maxHeartbeats 1000000 in
theorem cmp_int (a b : Nat) (w : World) : Calls Tryz.prog 53 #[.int .i64 (a : Int), .int .i64 (b : Int)] w fun e w' => e = .returned (.int .i64 (cmpN a b)) ∧ w' = w := by
  have h1 := fun W => nan_int a W
  have h2 := fun W => nan_int b W
  rcases Nat.lt_trichotomy a b with h | h | h
  · have HE : Hid (cmpN a b = -1) := if_pos h
    rw [HE.out]
    go_enter Tryz.func53, Tryz.ntmps53
    go_wp2_with fail
    refine (h1 _).mono ?_
    rintro e w1 ⟨rfl, hw1⟩
    rw [hw1]
    clear hw1 w1
    go_wp2_with fail
    refine (h2 _).mono ?_
    rintro e w1 ⟨rfl, hw1⟩
    rw [hw1]
    clear hw1 w1
    go_wp2
    go_ret
    exact ⟨rfl, rfl⟩
  · subst h
    have HE : Hid (cmpN a a = 0) := by show _ = _; unfold cmpN; rw [if_neg (Nat.lt_irrefl _), if_neg (Nat.lt_irrefl _)]
    rw [HE.out]
    go_enter Tryz.func53, Tryz.ntmps53
    go_wp2_with fail
    refine (h1 _).mono ?_
    rintro e w1 ⟨rfl, hw1⟩
    rw [hw1]
    clear hw1 w1
    go_wp2_with fail
    refine (h2 _).mono ?_
    rintro e w1 ⟨rfl, hw1⟩
    rw [hw1]
    clear hw1 w1
    go_wp2
    go_ret
    exact ⟨rfl, rfl⟩
  · have HE : Hid (cmpN a b = 1) := by show _ = _; unfold cmpN; rw [if_neg (by omega), if_pos h]
    have d1 : decide ((a : Int) < (b : Int)) = false := decide_eq_false (by omega)
    rw [HE.out]
    go_enter Tryz.func53, Tryz.ntmps53
    go_wp2_with fail
    refine (h1 _).mono ?_
    rintro e w1 ⟨rfl, hw1⟩
    rw [hw1]
    clear hw1 w1
    go_wp2_with fail
    refine (h2 _).mono ?_
    rintro e w1 ⟨rfl, hw1⟩
    rw [hw1]
    clear hw1 w1
    go_wp2
    go_ret
    exact ⟨rfl, rfl⟩
set_option maxRecDepth 10000 in
set_option maxHeartbeats 1000000 in
theorem cmp_txt (x y : ByteArray) (w : World) : Calls Tryz.prog 52 #[.string x, .string y] w fun e w' => e = .returned (.int .i64 (cmpT x y)) ∧ w' = w := by
  have h1 := fun W => nan_txt x W
  have h2 := fun W => nan_txt y W
  have HG : Hid (∀ W, Sem.run Tryz.prog (binOp .gtr 9 (.string x) (.string y)) W = .ok (.bool !(Op.bytesLess x.toList y.toList || x.toList == y.toList)) W) := fun W => by simp [binOp, Op.stringOp]
  cases hxy : Op.bytesLess x.toList y.toList with
  | true =>
    have HE : Hid (cmpT x y = -1) := by show _ = _; unfold cmpT; rw [hxy]; rfl
    rw [HE.out]
    go_enter Tryz.func52, Tryz.ntmps52
    go_wp2_with fail
    refine (h1 _).mono ?_
    rintro e w1 ⟨rfl, hw1⟩
    rw [hw1]
    clear hw1 w1
    go_wp2_with fail
    refine (h2 _).mono ?_
    rintro e w1 ⟨rfl, hw1⟩
    rw [hw1]
    clear hw1 w1
    go_wp2
    go_ret
    exact ⟨rfl, rfl⟩
  | false =>
    cases hyx : Op.bytesLess y.toList x.toList with
    | true =>
      have HE : Hid (cmpT x y = 1) := by show _ = _; unfold cmpT; rw [hxy, hyx]; rfl
      have hne : (x.toList == y.toList) = false := by
        rw [beq_eq_false_iff_ne]
        intro e
        rw [e, less_irrefl] at hyx
        cases hyx
      have hg : ∀ W, Sem.run Tryz.prog (binOp .gtr 9 (.string x) (.string y)) W = .ok (.bool true) W := fun W => by rw [HG.out W, hxy, hne]; rfl
      rw [HE.out]
      go_enter Tryz.func52, Tryz.ntmps52
      go_wp2_with fail
      refine (h1 _).mono ?_
      rintro e w1 ⟨rfl, hw1⟩
      rw [hw1]
      clear hw1 w1
      go_wp2_with fail
      refine (h2 _).mono ?_
      rintro e w1 ⟨rfl, hw1⟩
      rw [hw1]
      clear hw1 w1
      go_wp2
      go_ret
      exact ⟨rfl, rfl⟩
    | false =>
      have HE : Hid (cmpT x y = 0) := by show _ = _; unfold cmpT; rw [hxy, hyx]; rfl
      have hne : (x.toList == y.toList) = true := by
        rw [beq_iff_eq]
        refine Classical.byContradiction fun h => ?_
        rcases less_total h with h3 | h3
        · rw [h3] at hxy; cases hxy
        · rw [h3] at hyx; cases hyx
      have hg : ∀ W, Sem.run Tryz.prog (binOp .gtr 9 (.string x) (.string y)) W = .ok (.bool false) W := fun W => by rw [HG.out W, hxy, hne]; rfl
      rw [HE.out]
      go_enter Tryz.func52, Tryz.ntmps52
      go_wp2_with fail
      refine (h1 _).mono ?_
      rintro e w1 ⟨rfl, hw1⟩
      rw [hw1]
      clear hw1 w1
      go_wp2_with fail
      refine (h2 _).mono ?_
      rintro e w1 ⟨rfl, hw1⟩
      rw [hw1]
      clear hw1 w1
      go_wp2
      go_ret
      exact ⟨rfl, rfl⟩
/-- The first that is not 0, of three. -/
def orI (a b c : Int) : Int := if a ≠ 0 then a else if b ≠ 0 then b else c
set_option maxRecDepth 10000 in
set_option maxHeartbeats 1000000 in
theorem or_three (g o : Nat) (a b c : Int) (w : World) (h0 : w.cell? ⟨g, o, none⟩ = some (.int .i64 a)) (h1 : w.cell? ⟨g, o + 1, none⟩ = some (.int .i64 b)) (h2 : w.cell? ⟨g, o + 2, none⟩ = some (.int .i64 c)) :
    Calls Tryz.prog 50 #[.slice (some ⟨g, o, none⟩) 3 3] w fun e w' => e = .returned (.int .i64 (orI a b c)) ∧ w' = w := by
  obtain ⟨f, hf⟩ : ∃ f : Nat → Int, f = fun i => if i = 0 then a else if i = 1 then b else c := ⟨_, rfl⟩
  have HC : Hid (∀ i, i < 3 → w.cell? ⟨g, o + i, none⟩ = some (.int .i64 (f i))) := fun i hi => by
    rw [hf]
    match i, hi with
    | 0, _ => exact h0
    | 1, _ => exact h1
    | 2, _ => exact h2
  obtain ⟨r, hr⟩ : ∃ r, r = orI a b c := ⟨_, rfl⟩
  have HR : Hid (∀ i, i < 3 → (∀ j, j < i → f j = 0) → f i ≠ 0 → r = f i) := fun i hi hall hne => by
    rw [hr, hf]
    unfold orI
    match i, hi with
    | 0, _ => rw [hf] at hne; have hne' : a ≠ 0 := hne; rw [if_pos hne']; rfl
    | 1, _ =>
      have := hall 0 (by omega)
      rw [hf] at this hne
      have ha : a = 0 := this
      have hb : b ≠ 0 := hne
      rw [if_neg (by rw [ha]; decide), if_pos hb]; rfl
    | 2, _ =>
      have t0 := hall 0 (by omega)
      have t1 := hall 1 (by omega)
      rw [hf] at t0 t1
      have ha : a = 0 := t0
      have hb : b = 0 := t1
      rw [if_neg (by rw [ha]; decide), if_neg (by rw [hb]; decide)]; rfl
  have HZ : Hid ((∀ j, j < 3 → f j = 0) → r = 0) := fun hall => by
    have t0 := hall 0 (by omega)
    have t1 := hall 1 (by omega)
    have t2 := hall 2 (by omega)
    rw [hf] at t0 t1 t2
    have ha : a = 0 := t0
    have hb : b = 0 := t1
    have hc : c = 0 := t2
    rw [hr, ha, hb, hc]
    decide
  rw [← hr]
  clear hf hr h0 h1 h2
  go_enter Tryz.func50, Tryz.ntmps50
  go_wp2
  go_loop [8] (fun x => ∃ i : Nat, i ≤ 3 ∧ x = .int .i64 i ∧ ∀ j, j < i → f j = 0) (fun x => 3 - (intOf x).toNat)
  case atStart => exact ⟨0, by omega, rfl, fun j hj => absurd hj (Nat.not_lt_zero _)⟩
  case round =>
    obtain ⟨i, hi, rfl, hall⟩ := hrel
    have HALL : Hid (∀ j, j < i → f j = 0) := hall
    clear hall
    by_cases hil : i < 3
    · have q1 := HC.out i hil
      have HRI : Hid (f i ≠ 0 → r = f i) := HR.out i hil HALL.out
      have HN : Hid (f i = 0 → ∀ j, j < i + 1 → f j = 0) := fun h j hj => by
        rcases Nat.lt_or_ge j i with h' | h'
        · exact HALL.out j h'
        · obtain rfl : j = i := by omega
          exact h
      clear HALL HR HC HZ
      generalize f i = y at *
      by_cases hy : y = 0
      · have HNX := HN.out hy
        subst hy
        have HNX' : Hid (∀ j, j < i + 1 → f j = 0) := HNX
        clear HNX HN HRI
        go_wp2
        go_round
        case rel => exact ⟨i + 1, by omega, by go_num, HNX'.out⟩
        case measure => simp [intOf]; omega
      · have HE : Hid (r = y) := HRI.out hy
        have d1 : (y == 0) = false := by rw [beq_eq_false_iff_ne]; exact hy
        have d2 : (y != 0) = true := by rw [bne_iff_ne]; exact hy
        clear HRI HN
        go_wp2
        go_ret
        exact ⟨by rw [HE.out]; rfl, rfl⟩
    · have HE : Hid (r = 0) := HZ.out (fun j hj => HALL.out j (by omega))
      go_wp2
      go_ret
      exact ⟨by rw [HE.out]; rfl, rfl⟩
end Go.Proofs.YtakfjkphmfblaaaGreatDoor
