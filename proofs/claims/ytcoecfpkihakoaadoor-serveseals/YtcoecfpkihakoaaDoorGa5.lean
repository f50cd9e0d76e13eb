/- Package hold: which of two tags is less. -/
import Derived.Test.YtcoecfpkihakoaaDoorGa3
import Derived.Sort.Grow
import Derived.BigQuiet
import Derived.StillTailTactics
import Derived.Test.YtcoecfpkihakoaaDoorGa4
namespace Go.Proofs.YtcoecfpkihakoaaDoor
open Go.RowKit Go.Sort
/-- -1, 0, 1 by number. -/
def cmpZ (a b : Int) : Int := if a < b then -1 else if b < a then 1 else 0
set_option maxRecDepth 10000 in
theorem nanZ (a : Int) (w : World) : Calls Tryd.prog 43 #[.int .i64 a] w fun e w' => e = .returned (.bool false) ∧ w' = w := by
  go_enter Tryd.func43, Tryd.ntmps43
  go_wp2
  go_ret
  exact ⟨rfl, rfl⟩
set_option maxRecDepth 10000 in
set_option maxHeartbeats 1000000 in
theorem cmpZ_any (a b : Int) (w : World) : Calls Tryd.prog 41 #[.int .i64 a, .int .i64 b] w fun e w' => e = .returned (.int .i64 (cmpZ a b)) ∧ w' = w := by
  have h1 := fun W => nanZ a W
  have h2 := fun W => nanZ b W
  rcases Int.lt_trichotomy a b with h | h | h
  · have HE : Hid (cmpZ a b = -1) := if_pos h
    rw [HE.out]
    go_enter Tryd.func41, Tryd.ntmps41
    go_wp2_with fail
    refine (h1 _).mono ?_
    rintro e w1 ⟨rfl, hw1⟩
    rw [hw1]
    clear hw1 w1
    go_wp2_with fail
    refine (h2 _).mono ?_
    rintro e w1 ⟨rfl, hw1⟩
    rw [hw1]
    clear hw1 w1
    go_wp2
    go_ret
    exact ⟨rfl, rfl⟩
  · subst h
    have HE : Hid (cmpZ a a = 0) := by show _ = _; unfold cmpZ; rw [if_neg (Int.lt_irrefl _), if_neg (Int.lt_irrefl _)]
    rw [HE.out]
    go_enter Tryd.func41, Tryd.ntmps41
    go_wp2_with fail
    refine (h1 _).mono ?_
    rintro e w1 ⟨rfl, hw1⟩
    rw [hw1]
    clear hw1 w1
    go_wp2_with fail
    refine (h2 _).mono ?_
    rintro e w1 ⟨rfl, hw1⟩
    rw [hw1]
    clear hw1 w1
    go_wp2
    go_ret
    exact ⟨rfl, rfl⟩
  · have HE : Hid (cmpZ a b = 1) := by show _ = _; unfold cmpZ; rw [if_neg (by omega), if_pos h]
    have d1 : decide (a < b) = false := decide_eq_false (by omega)
    rw [HE.out]
    go_enter Tryd.func41, Tryd.ntmps41
    go_wp2_with fail
    refine (h1 _).mono ?_
    rintro e w1 ⟨rfl, hw1⟩
    rw [hw1]
    clear hw1 w1
    go_wp2_with fail
    refine (h2 _).mono ?_
    rintro e w1 ⟨rfl, hw1⟩
    rw [hw1]
    clear hw1 w1
    go_wp2
    go_ret
    exact ⟨rfl, rfl⟩
/-- The first that is not 0, of two. -/
def orZ (a b : Int) : Int := if a ≠ 0 then a else b
set_option maxRecDepth 10000 in
set_option maxHeartbeats 1000000 in
theorem or_two (g o : Nat) (a b : Int) (w : World) (h0 : w.cell? ⟨g, o, none⟩ = some (.int .i64 a)) (h1 : w.cell? ⟨g, o + 1, none⟩ = some (.int .i64 b)) :
    Calls Tryd.prog 40 #[.slice (some ⟨g, o, none⟩) 2 2] w fun e w' => e = .returned (.int .i64 (orZ a b)) ∧ w' = w := by
  obtain ⟨f, hf⟩ : ∃ f : Nat → Int, f = fun i => if i = 0 then a else b := ⟨_, rfl⟩
  have HC : Hid (∀ i, i < 2 → w.cell? ⟨g, o + i, none⟩ = some (.int .i64 (f i))) := fun i hi => by
    rw [hf]
    match i, hi with
    | 0, _ => exact h0
    | 1, _ => exact h1
  obtain ⟨r, hr⟩ : ∃ r, r = orZ a b := ⟨_, rfl⟩
  have HR : Hid (∀ i, i < 2 → (∀ j, j < i → f j = 0) → f i ≠ 0 → r = f i) := fun i hi hall hne => by
    rw [hr, hf]
    unfold orZ
    match i, hi with
    | 0, _ => rw [hf] at hne; have hne' : a ≠ 0 := hne; rw [if_pos hne']; rfl
    | 1, _ =>
      have := hall 0 (by omega)
      rw [hf] at this
      have ha : a = 0 := this
      rw [if_neg (by rw [ha]; decide)]; rfl
  have HZ : Hid ((∀ j, j < 2 → f j = 0) → r = 0) := fun hall => by
    have t0 := hall 0 (by omega)
    have t1 := hall 1 (by omega)
    rw [hf] at t0 t1
    have ha : a = 0 := t0
    have hb : b = 0 := t1
    rw [hr, ha, hb]
    decide
  rw [← hr]
  clear hf hr h0 h1
  go_enter Tryd.func40, Tryd.ntmps40
  go_wp2
  go_loop [8] (fun x => ∃ i : Nat, i ≤ 2 ∧ x = .int .i64 i ∧ ∀ j, j < i → f j = 0) (fun x => 2 - (intOf x).toNat)
  case atStart => exact ⟨0, by omega, rfl, fun j hj => absurd hj (Nat.not_lt_zero _)⟩
  case round =>
    obtain ⟨i, hi, rfl, hall⟩ := hrel
    have HALL : Hid (∀ j, j < i → f j = 0) := hall
    clear hall
    by_cases hil : i < 2
    · have q1 := HC.out i hil
      have HRI : Hid (f i ≠ 0 → r = f i) := HR.out i hil HALL.out
      have HN : Hid (f i = 0 → ∀ j, j < i + 1 → f j = 0) := fun h j hj => by
        rcases Nat.lt_or_ge j i with h' | h'
        · exact HALL.out j h'
        · obtain rfl : j = i := by omega
          exact h
      clear HALL HR HC HZ
      generalize f i = y at *
      by_cases hy : y = 0
      · have HNX := HN.out hy
        subst hy
        have HNX' : Hid (∀ j, j < i + 1 → f j = 0) := HNX
        clear HNX HN HRI
        go_wp2
        go_round
        case rel => exact ⟨i + 1, by omega, by go_num, HNX'.out⟩
        case measure => simp [intOf]; omega
      · have HE : Hid (r = y) := HRI.out hy
        have d1 : (y == 0) = false := by rw [beq_eq_false_iff_ne]; exact hy
        have d2 : (y != 0) = true := by rw [bne_iff_ne]; exact hy
        clear HRI HN
        go_wp2
        go_ret
        exact ⟨by rw [HE.out]; rfl, rfl⟩
    · have HE : Hid (r = 0) := HZ.out (fun j hj => HALL.out j (by omega))
      go_wp2
      go_ret
      exact ⟨by rw [HE.out]; rfl, rfl⟩
/-- What two tags compare as. -/
def tagC (a b : Int × Int) : Int := orZ (cmpZ a.1 b.1) (cmpZ a.2 b.2)
theorem tagC_lt {a b : Int × Int} : decide (tagC a b < 0) = lessB a b := by
  unfold tagC orZ cmpZ lessB
  by_cases h1 : a.1 < b.1
  · simp [h1]
  · by_cases h2 : b.1 < a.1
    · have h3 : ¬ a.1 = b.1 := by omega
      simp [h1, h2, h3]
    · have h3 : a.1 = b.1 := by omega
      simp only [h3]
      by_cases h4 : a.2 < b.2
      · simp [h4]
      · by_cases h5 : b.2 < a.2 <;> simp [h4, h5]
theorem tagC_zero {a b : Int × Int} : tagC a b = 0 ↔ a = b := by
  obtain ⟨a1, a2⟩ := a
  obtain ⟨b1, b2⟩ := b
  unfold tagC orZ cmpZ
  simp only [Prod.mk.injEq]
  by_cases h1 : a1 < b1
  · simp [h1]; omega
  · by_cases h2 : b1 < a1
    · simp [h1, h2]; omega
    · have h3 : a1 = b1 := by omega
      subst h3
      by_cases h4 : a2 < b2
      · simp [h4]; omega
      · by_cases h5 : b2 < a2
        · simp [h4, h5]; omega
        · simp [h4, h5]; omega
set_option maxRecDepth 10000 in
set_option maxHeartbeats 1000000 in
theorem compare_any (a b : Int × Int) (W : World) : Calls Tryd.prog 36 #[.agg #[.int .i64 a.1, .int .i64 a.2], .agg #[.int .i64 b.1, .int .i64 b.2]] W fun e w' => e = .returned (.int .i64 (tagC a b)) ∧ ∃ n os, w' = grow (W.drewN n) os := by
  obtain ⟨a1, a2⟩ := a
  obtain ⟨b1, b2⟩ := b
  obtain ⟨W2, hW2⟩ : ∃ W2, W2 = (W.alloc (.cells #[.int .i64 a1, .int .i64 a2] 24)).alloc (.cells #[.int .i64 b1, .int .i64 b2] 24) := ⟨_, rfl⟩
  have HG : Hid (∃ os, W2 = grow W os) := ⟨_, by rw [hW2, alloc_eq_grow, alloc_eq_grow, grow_grow]⟩
  have q1 : W2.cell? ⟨W.heap.size, 0, none⟩ = some (.int .i64 a1) := by rw [hW2]; simp
  have q2 : W2.cell? ⟨W.heap.size, 1, none⟩ = some (.int .i64 a2) := by rw [hW2]; simp
  have q4 : W2.cell? ⟨W.heap.size + 1, 0, none⟩ = some (.int .i64 b1) := by rw [hW2]; simp
  have q5 : W2.cell? ⟨W.heap.size + 1, 1, none⟩ = some (.int .i64 b2) := by rw [hW2]; simp
  have HW2 : Hid (W2 = (W.alloc (.cells #[.int .i64 a1, .int .i64 a2] 24)).alloc (.cells #[.int .i64 b1, .int .i64 b2] 24)) := hW2
  clear hW2
  show Calls Tryd.prog 36 #[.agg #[.int .i64 a1, .int .i64 a2], .agg #[.int .i64 b1, .int .i64 b2]] W fun e w' => e = .returned (.int .i64 (orZ (cmpZ a1 b1) (cmpZ a2 b2))) ∧ ∃ n os, w' = grow (W.drewN n) os
  have c1 := fun W => cmpZ_any a1 b1 W
  have c2 := fun W => cmpZ_any a2 b2 W
  have c4 := fun g W h0 h1 => or_two g 0 (cmpZ a1 b1) (cmpZ a2 b2) W h0 h1
  generalize cmpZ a1 b1 = r1 at *
  generalize cmpZ a2 b2 = r2 at *
  generalize orZ r1 r2 = r at *
  have C1 : Hid (∀ W, Calls Tryd.prog 41 #[.int .i64 a1, .int .i64 b1] W fun e w' => e = .returned (.int .i64 r1) ∧ w' = W) := c1
  have C2 : Hid (∀ W, Calls Tryd.prog 41 #[.int .i64 a2, .int .i64 b2] W fun e w' => e = .returned (.int .i64 r2) ∧ w' = W) := c2
  have C4 : Hid (∀ g W, W.cell? ⟨g, 0, none⟩ = some (.int .i64 r1) → W.cell? ⟨g, 1, none⟩ = some (.int .i64 r2) → Calls Tryd.prog 40 #[.slice (some ⟨g, 0, none⟩) 2 2] W fun e w' => e = .returned (.int .i64 r) ∧ w' = W) := c4
  clear c1 c2 c4
  go_enter Tryd.func36, Tryd.ntmps36
  go_wp2
  rw [← HW2.out]
  clear HW2
  refine wp_region_still_tail 10 (by kernel_rfl) (by kernel_rfl) ?_
  simp only [List.take_succ_cons, List.take_zero, List.drop_succ_cons, List.drop_zero]
  still_step
  still_step
  still_step
  still_step
  still_call (C1.out _)
  still_step
  still_step
  still_step
  still_step
  still_call (C2.out _)
  refine wpStill_nil ?_
  change wpList _ _ _ _ _ (W2.drewN 1)
  have HG3 : Hid (∃ os, W2.drewN 1 = grow (W.drewN 1) os) := by
    obtain ⟨os, h⟩ := HG.out
    exact ⟨os, by rw [h]; rfl⟩
  generalize W2.drewN 1 = W3 at HG3 ⊢
  clear q1 q2 q4 q5
  go_wp2_with (go_at_call 40; refine (C4.out _ _ (by simp) (by simp)).mono ?_; rintro e w' ⟨rfl, rfl⟩)
  go_ret
  obtain ⟨os, h⟩ := HG3.out
  exact ⟨rfl, 1, _, by rw [h, alloc_eq_grow, grow_grow]⟩
theorem grow_drewN (w : World) (os : Array Obj) (n : Nat) : (grow w os).drewN n = grow (w.drewN n) os := rfl
end Go.Proofs.YtcoecfpkihakoaaDoor
/- Package serve: is it of a kind and a form that a member answers? -/
namespace Go.Proofs.YtcoecfpkihakoaaDoor
open Go.RowKit
/-- It is asked for. -/
def AskIs (x : Msg) : Prop := (¬ x.config < 0 ∧ isN x.key = true) ∧ ¬ oddK x
instance (x : Msg) : Decidable (AskIs x) := by unfold AskIs; infer_instance
theorem hear_off {m : MMem} {x : Msg} (h : ¬ (x.to_ = m.name ∧ AskIs x)) : m.hear x = (m, []) := by
  unfold MMem.hear
  rw [if_pos]
  by_cases h1 : x.to_ = m.name
  · by_cases h2 : oddK x
    · exact Or.inr h2
    · refine Or.inl (Or.inr ?_)
      by_cases h3 : x.config < 0
      · exact Or.inl h3
      · refine Or.inr ?_
        cases h4 : isN x.key with
        | false => rfl
        | true => exact absurd ⟨h1, ⟨h3, h4⟩, h2⟩ h
  · exact Or.inl (Or.inl h1)
theorem hear_on {m : MMem} {x : Msg} (h1 : x.to_ = m.name) (h2 : AskIs x) : m.hear x = match m.held x.config with | none => (m, []) | some m1 => m1.does (cfdI m.L x.config) x := by
  unfold MMem.hear
  refine if_neg ?_
  rintro (h | h)
  · rcases h with h | h | h
    · exact h h1
    · exact h2.1.1 h
    · rw [h2.1.2] at h; cases h
  · exact h2.2 h
set_option maxRecDepth 10000 in
set_option maxHeartbeats 8000000 in
theorem isAsk_any (x : Msg × Lv) (hx : x.2.2.1 = x.1.L.length) (hl : x.1.L.length ≤ 2932031007317) (w : World) :
    Calls Tryd.prog 14 #[.agg #[.string x.1.from_, .string x.1.to_, .string x.1.kind, .string x.1.key, .int .i64 x.1.op, .int .i64 x.1.config, .bool x.1.shut, .slice x.2.1 x.2.2.1 x.2.2.2]] w fun e w' => e = .returned (.bool (decide (AskIs x.1))) ∧ Below w.heap.size w w' := by
  obtain ⟨⟨m1, m2, m3, m4, m5, m6, m7, mL⟩, lp, ln, lc⟩ := x
  dsimp only at *
  subst hx
  obtain ⟨w1, hw1⟩ : ∃ w1, w1 = w.alloc (.cells #[.string m1, .string m2, .string m3, .string m4, .int .i64 m5, .int .i64 m6, .bool m7, .slice lp mL.length lc] 38) := ⟨_, rfl⟩
  have hb1 : Below w.heap.size w w1 := by rw [hw1]; exact (Below.refl _ _).alloc (Nat.le_refl _) _
  have hz1 : w.heap.size < w1.heap.size := by rw [hw1]; simp
  have d2 : w1.cell? ⟨w.heap.size, 2, none⟩ = some (.string m3) := by rw [hw1, World.cell?_alloc_at _ _ _ _ rfl]; rfl
  have d3 : w1.cell? ⟨w.heap.size, 3, none⟩ = some (.string m4) := by rw [hw1, World.cell?_alloc_at _ _ _ _ rfl]; rfl
  have d5 : w1.cell? ⟨w.heap.size, 5, none⟩ = some (.int .i64 m6) := by rw [hw1, World.cell?_alloc_at _ _ _ _ rfl]; rfl
  have d7 : w1.cell? ⟨w.heap.size, 7, none⟩ = some (.slice lp mL.length lc) := by rw [hw1, World.cell?_alloc_at _ _ _ _ rfl]; rfl
  have HW1 : Hid (w1 = w.alloc (.cells #[.string m1, .string m2, .string m3, .string m4, .int .i64 m5, .int .i64 m6, .bool m7, .slice lp mL.length lc] 38)) := hw1
  have HB1 : Hid (Below w.heap.size w w1) := hb1
  have HC : Hid (∀ W, Below w1.heap.size w1 W → (W.cell? ⟨w.heap.size, 2, none⟩ = some (.string m3) ∧ W.cell? ⟨w.heap.size, 7, none⟩ = some (.slice lp mL.length lc)) ∧ Below w.heap.size w W) := fun W hW => ⟨⟨(hW.cell (p := ⟨w.heap.size, 2, none⟩) hz1).trans d2, (hW.cell (p := ⟨w.heap.size, 7, none⟩) hz1).trans d7⟩, HB1.out.trans (hW.mono HB1.out.size)⟩
  have HIN := pname_any m4 w1
  have e0 : decide (AskIs ⟨m1, m2, m3, m4, m5, m6, m7, mL⟩) = (decide (¬ m6 < 0) && (isN m4 && !decide (m3 ≠ kLook ∧ m3 ≠ kSeal ∧ (m3 ≠ kKeep ∨ mL.length ≠ 1)))) := by
    rw [Bool.eq_iff_iff]
    unfold AskIs oddK
    simp
    constructor
    · rintro ⟨⟨h1, h2⟩, h3⟩; exact ⟨h1, h2, h3⟩
    · rintro ⟨h1, h2, h3⟩; exact ⟨⟨h1, h2⟩, h3⟩
  generalize decide (AskIs ⟨m1, m2, m3, m4, m5, m6, m7, mL⟩) = R at *
  have HOD : Hid (m3 ≠ kLook ∧ m3 ≠ kSeal ∧ (m3 ≠ kKeep ∨ mL.length ≠ 1) ↔ m3 ≠ ⟨#[108, 111, 111, 107]⟩ ∧ m3 ≠ ⟨#[115, 101, 97, 108]⟩ ∧ (m3 ≠ ⟨#[107, 101, 101, 112]⟩ ∨ mL.length ≠ 1)) := Iff.rfl
  generalize hod : decide (m3 ≠ kLook ∧ m3 ≠ kSeal ∧ (m3 ≠ kKeep ∨ mL.length ≠ 1)) = od at *
  have HOE : Hid (decide (m3 ≠ kLook ∧ m3 ≠ kSeal ∧ (m3 ≠ kKeep ∨ mL.length ≠ 1)) = od) := hod
  generalize isN m4 = bn at *
  have HR : Hid (R = (decide (¬ m6 < 0) && (bn && !od))) := e0
  clear hw1 hb1 hz1 e0 hod
  by_cases g6 : m6 < 0
  · have n6 : decide (m6 < 0) = true := decide_eq_true g6
    have HE : Hid (R = false) := by show _ = _; rw [HR.out, decide_eq_false (fun h => h g6)]; rfl
    clear HR HOD HOE
    clear HIN
    go_enter Tryd.func14, Tryd.ntmps14
    go_wp2_with (first | rw [← HW1.out] | fail)
    go_ret
    exact ⟨by rw [HE.out]; rfl, HB1.out⟩
  · have n6 : decide (m6 < 0) = false := decide_eq_false g6
    have HE : Hid (R = (bn && !od)) := by show _ = _; rw [HR.out, decide_eq_true g6]; rfl
    clear HR
    cases bn with
    | false =>
      have HE1 : Hid (R = false) := HE.out
      clear HE HOD HOE
      go_enter Tryd.func14, Tryd.ntmps14
      go_wp2_with (first | rw [← HW1.out] | fail)
      refine HIN.mono ?_
      rintro e w2 ⟨rfl, hb2⟩
      obtain ⟨⟨q2, q7⟩, hbw⟩ := HC.out w2 hb2
      have HBW : Hid (Below w.heap.size w w2) := hbw
      clear hb2 HIN hbw
      go_wp2
      go_ret
      exact ⟨by rw [HE1.out]; rfl, HBW.out⟩
    | true =>
      have HE2 : Hid (R = !od) := HE.out
      clear HE
      by_cases a1 : m3 = ⟨#[108, 111, 111, 107]⟩
      · have HF0 : od = false := by rw [← HOE.out]; exact decide_eq_false fun h => (HOD.out.1 h).1 a1
        have HF : Hid (R = true) := by show _ = _; rw [HE2.out, HF0]; rfl
        clear HF0 HE2
        subst a1
        go_enter Tryd.func14, Tryd.ntmps14
        go_wp2_with (first | rw [← HW1.out] | fail)
        refine HIN.mono ?_
        rintro e w2 ⟨rfl, hb2⟩
        obtain ⟨⟨q2, q7⟩, hbw⟩ := HC.out w2 hb2
        have HBW : Hid (Below w.heap.size w w2) := hbw
        clear hb2 HIN hbw
        go_wp2
        go_ret
        exact ⟨by rw [HF.out]; rfl, HBW.out⟩
      · have s1 : ¬ m3.toList = [108, 111, 111, 107] := lit_ne a1
        have s2 : (m3.toList == [108, 111, 111, 107]) = false := lit_beq a1
        by_cases a2 : m3 = ⟨#[115, 101, 97, 108]⟩
        · have HF0 : od = false := by rw [← HOE.out]; exact decide_eq_false fun h => (HOD.out.1 h).2.1 a2
          have HF : Hid (R = true) := by show _ = _; rw [HE2.out, HF0]; rfl
          clear HF0 HE2
          subst a2
          clear s1 s2 a1
          go_enter Tryd.func14, Tryd.ntmps14
          go_wp2_with (first | rw [← HW1.out] | fail)
          refine HIN.mono ?_
          rintro e w2 ⟨rfl, hb2⟩
          obtain ⟨⟨q2, q7⟩, hbw⟩ := HC.out w2 hb2
          have HBW : Hid (Below w.heap.size w w2) := hbw
          clear hb2 HIN hbw
          go_wp2
          go_ret
          exact ⟨by rw [HF.out]; rfl, HBW.out⟩
        · have t1 : ¬ m3.toList = [115, 101, 97, 108] := lit_ne a2
          have t2 : (m3.toList == [115, 101, 97, 108]) = false := lit_beq a2
          by_cases a3 : m3 = ⟨#[107, 101, 101, 112]⟩
          · by_cases hL1 : mL.length = 1
            · have HF0 : od = false := by rw [← HOE.out]; exact decide_eq_false fun h => (HOD.out.1 h).2.2.elim (fun h => h a3) (fun h => h hL1)
              have HF : Hid (R = true) := by show _ = _; rw [HE2.out, HF0]; rfl
              clear HF0 HE2
              subst a3
              clear s1 s2 t1 t2 a1 a2 HOD HOE
              rw [hL1] at HC d7 HW1
              rw [hL1]
              go_enter Tryd.func14, Tryd.ntmps14
              go_wp2_with (first | rw [← HW1.out] | fail)
              refine HIN.mono ?_
              rintro e w2 ⟨rfl, hb2⟩
              obtain ⟨⟨q2, q7⟩, hbw⟩ := HC.out w2 hb2
              have HBW : Hid (Below w.heap.size w w2) := hbw
              clear hb2 HIN hbw
              go_wp2
              go_ret
              exact ⟨by rw [HF.out]; rfl, HBW.out⟩
            · have HF0 : od = true := by rw [← HOE.out]; exact decide_eq_true (HOD.out.2 ⟨a1, a2, Or.inr hL1⟩)
              have HF : Hid (R = false) := by show _ = _; rw [HE2.out, HF0]; rfl
              clear HF0 HE2
              have gl : (((mL.length : Nat) : Int) == 1) = false := by simp; omega
              subst a3
              clear s1 s2 t1 t2 a1 a2 HOD HOE hL1
              go_enter Tryd.func14, Tryd.ntmps14
              go_wp2_with (first | rw [← HW1.out] | fail)
              refine HIN.mono ?_
              rintro e w2 ⟨rfl, hb2⟩
              obtain ⟨⟨q2, q7⟩, hbw⟩ := HC.out w2 hb2
              have HBW : Hid (Below w.heap.size w w2) := hbw
              clear hb2 HIN hbw
              go_wp2
              go_ret
              exact ⟨by rw [HF.out]; rfl, HBW.out⟩
          · have HF0 : od = true := by rw [← HOE.out]; exact decide_eq_true (HOD.out.2 ⟨a1, a2, Or.inl a3⟩)
            have HF : Hid (R = false) := by show _ = _; rw [HE2.out, HF0]; rfl
            clear HF0 HE2
            have r1 : ¬ m3.toList = [107, 101, 101, 112] := lit_ne a3
            have r2 : (m3.toList == [107, 101, 101, 112]) = false := lit_beq a3
            clear a1 a2 a3 HOD HOE
            go_enter Tryd.func14, Tryd.ntmps14
            go_wp2_with (first | rw [← HW1.out] | fail)
            refine HIN.mono ?_
            rintro e w2 ⟨rfl, hb2⟩
            obtain ⟨⟨q2, q7⟩, hbw⟩ := HC.out w2 hb2
            have HBW : Hid (Below w.heap.size w w2) := hbw
            clear hb2 HIN hbw
            go_wp2
            go_ret
            exact ⟨by rw [HF.out]; rfl, HBW.out⟩
end Go.Proofs.YtcoecfpkihakoaaDoor
/- A message of the statements' as the program's. -/
namespace Go.Proofs.YtcoecfpkihakoaaDoor
open Go.RowKit
set_option maxRecDepth 10000 in
set_option maxHeartbeats 4000000 in
theorem wireOf_any (m : Msg) (p : Option Addr) (c : Nat) (w : World) (hl : m.L.length ≤ 2932031007317) (hr : Rec verE w p m.L) (hc : p = none → m.L = [] ∧ c = 0) :
    Calls Tryd.prog 7 #[msgA m (.slice p m.L.length c)] w fun e w' => (∃ lv, e = .returned (msgA m lv) ∧ OwnR verE 28 w' w.heap.size lv m.L) ∧ Below w.heap.size w w' := by
  obtain ⟨m1, m2, m3, m4, m5, m6, m7, mL⟩ := m
  unfold msgA
  simp only [] at *
  have hb1 : Below w.heap.size w (((w.alloc (.cells #[.string m1, .string m2, .string m3, .string m4, .int .i64 m5, .int .i64 m6, .bool m7, .slice p mL.length c] 40)).alloc (.cells #[.string ⟨#[]⟩, .string ⟨#[]⟩, .string ⟨#[]⟩, .string ⟨#[]⟩, .int .i64 0, .int .i64 0, .bool false, .slice none 0 0] 38)).alloc (.cells #[.string m1, .string m2, .string m3, .string m4, .int .i64 m5, .int .i64 m6, .bool m7, .slice none 0 0] 38)) := (((Below.refl _ _).alloc (Nat.le_refl _) _).alloc (by simp) _).alloc (by simp; omega) _
  have he1 : (((w.alloc (.cells #[.string m1, .string m2, .string m3, .string m4, .int .i64 m5, .int .i64 m6, .bool m7, .slice p mL.length c] 40)).alloc (.cells #[.string ⟨#[]⟩, .string ⟨#[]⟩, .string ⟨#[]⟩, .string ⟨#[]⟩, .int .i64 0, .int .i64 0, .bool false, .slice none 0 0] 38)).alloc (.cells #[.string m1, .string m2, .string m3, .string m4, .int .i64 m5, .int .i64 m6, .bool m7, .slice none 0 0] 38)).heap[w.heap.size + 1]? = some (.cells #[.string ⟨#[]⟩, .string ⟨#[]⟩, .string ⟨#[]⟩, .string ⟨#[]⟩, .int .i64 0, .int .i64 0, .bool false, .slice none 0 0] 38 (0, 0)) := by
    have e : w.heap.size + 1 = (w.alloc (.cells #[.string m1, .string m2, .string m3, .string m4, .int .i64 m5, .int .i64 m6, .bool m7, .slice p mL.length c] 40)).heap.size := by simp
    rw [heap_alloc_old _ _ (by simp), e]
    exact heap_alloc_new _ _
  have he2 : (((w.alloc (.cells #[.string m1, .string m2, .string m3, .string m4, .int .i64 m5, .int .i64 m6, .bool m7, .slice p mL.length c] 40)).alloc (.cells #[.string ⟨#[]⟩, .string ⟨#[]⟩, .string ⟨#[]⟩, .string ⟨#[]⟩, .int .i64 0, .int .i64 0, .bool false, .slice none 0 0] 38)).alloc (.cells #[.string m1, .string m2, .string m3, .string m4, .int .i64 m5, .int .i64 m6, .bool m7, .slice none 0 0] 38)).heap[w.heap.size + 2]? = some (.cells #[.string m1, .string m2, .string m3, .string m4, .int .i64 m5, .int .i64 m6, .bool m7, .slice none 0 0] 38 (0, 0)) := by
    have e : w.heap.size + 2 = ((w.alloc (.cells #[.string m1, .string m2, .string m3, .string m4, .int .i64 m5, .int .i64 m6, .bool m7, .slice p mL.length c] 40)).alloc (.cells #[.string ⟨#[]⟩, .string ⟨#[]⟩, .string ⟨#[]⟩, .string ⟨#[]⟩, .int .i64 0, .int .i64 0, .bool false, .slice none 0 0] 38)).heap.size := by simp
    rw [e]
    exact heap_alloc_new _ _
  have HBK : Hid ((((w.alloc (.cells #[.string m1, .string m2, .string m3, .string m4, .int .i64 m5, .int .i64 m6, .bool m7, .slice p mL.length c] 40)).alloc (.cells #[.string ⟨#[]⟩, .string ⟨#[]⟩, .string ⟨#[]⟩, .string ⟨#[]⟩, .int .i64 0, .int .i64 0, .bool false, .slice none 0 0] 38)).alloc (.cells #[.string m1, .string m2, .string m3, .string m4, .int .i64 m5, .int .i64 m6, .bool m7, .slice none 0 0] 38)).heap[w.heap.size + 1]? = some (.cells #[.string ⟨#[]⟩, .string ⟨#[]⟩, .string ⟨#[]⟩, .string ⟨#[]⟩, .int .i64 0, .int .i64 0, .bool false, .slice none 0 0] 38 (0, 0)) ∧ (((w.alloc (.cells #[.string m1, .string m2, .string m3, .string m4, .int .i64 m5, .int .i64 m6, .bool m7, .slice p mL.length c] 40)).alloc (.cells #[.string ⟨#[]⟩, .string ⟨#[]⟩, .string ⟨#[]⟩, .string ⟨#[]⟩, .int .i64 0, .int .i64 0, .bool false, .slice none 0 0] 38)).alloc (.cells #[.string m1, .string m2, .string m3, .string m4, .int .i64 m5, .int .i64 m6, .bool m7, .slice none 0 0] 38)).heap[w.heap.size + 2]? = some (.cells #[.string m1, .string m2, .string m3, .string m4, .int .i64 m5, .int .i64 m6, .bool m7, .slice none 0 0] 38 (0, 0)) ∧ Below w.heap.size w (((w.alloc (.cells #[.string m1, .string m2, .string m3, .string m4, .int .i64 m5, .int .i64 m6, .bool m7, .slice p mL.length c] 40)).alloc (.cells #[.string ⟨#[]⟩, .string ⟨#[]⟩, .string ⟨#[]⟩, .string ⟨#[]⟩, .int .i64 0, .int .i64 0, .bool false, .slice none 0 0] 38)).alloc (.cells #[.string m1, .string m2, .string m3, .string m4, .int .i64 m5, .int .i64 m6, .bool m7, .slice none 0 0] 38))) := ⟨he1, he2, hb1⟩
  have HR : Hid (Rec verE (((w.alloc (.cells #[.string m1, .string m2, .string m3, .string m4, .int .i64 m5, .int .i64 m6, .bool m7, .slice p mL.length c] 40)).alloc (.cells #[.string ⟨#[]⟩, .string ⟨#[]⟩, .string ⟨#[]⟩, .string ⟨#[]⟩, .int .i64 0, .int .i64 0, .bool false, .slice none 0 0] 38)).alloc (.cells #[.string m1, .string m2, .string m3, .string m4, .int .i64 m5, .int .i64 m6, .bool m7, .slice none 0 0] 38)) p mL) := hr.below hb1
  have hsz : w.heap.size + 3 ≤ (((w.alloc (.cells #[.string m1, .string m2, .string m3, .string m4, .int .i64 m5, .int .i64 m6, .bool m7, .slice p mL.length c] 40)).alloc (.cells #[.string ⟨#[]⟩, .string ⟨#[]⟩, .string ⟨#[]⟩, .string ⟨#[]⟩, .int .i64 0, .int .i64 0, .bool false, .slice none 0 0] 38)).alloc (.cells #[.string m1, .string m2, .string m3, .string m4, .int .i64 m5, .int .i64 m6, .bool m7, .slice none 0 0] 38)).heap.size := by simp
  have HC : Hid (p = none → mL = [] ∧ c = 0) := hc
  clear hb1 he1 he2 hr hc
  go_enter Tryd.func7, Tryd.ntmps7
  go_wp2_with (first | (at_builtin; refine wpList_append_recs (E := verE) rfl (.tmp 20) (.tmp 22) 36 28 rfl (.agg #[.int .i64 0, .int .i64 0, .int .i64 0, .int .i64 0, .string ⟨#[]⟩]) 48 Tryd.underlying36 verinfo rfl (w.heap.size + 3) (.slice none 0 0) [] rfl (OwnR.nil _ _ _) p mL c rfl HR.out HC.out (by unfold maxLen; simp; omega) (by simp; omega) hsz ?_; intro v3 w3 hO3 hb3; obtain ⟨p3, c3, hv3, _⟩ := hO3.form; rw [List.nil_append] at hv3 hO3; subst hv3; have e1 := (hb3.block (w.heap.size + 1) (by omega)).trans HBK.out.1; have e2 := (hb3.block (w.heap.size + 2) (by omega)).trans HBK.out.2.1; have HB3 : Hid (Below w.heap.size w w3) := (HBK.out.2.2.trans (hb3.mono (by omega))); have HO3 : Hid (OwnR verE 28 w3 (w.heap.size + 3) (.slice p3 mL.length c3) mL) := hO3; have z0 : w3.cell? ⟨w.heap.size + 1, 0, none⟩ = some (.string ⟨#[]⟩) := (by simp [World.cell?, e1]); have z1 : w3.cell? ⟨w.heap.size + 1, 1, none⟩ = some (.string ⟨#[]⟩) := (by simp [World.cell?, e1]); have z2 : w3.cell? ⟨w.heap.size + 1, 2, none⟩ = some (.string ⟨#[]⟩) := (by simp [World.cell?, e1]); have z3 : w3.cell? ⟨w.heap.size + 1, 3, none⟩ = some (.string ⟨#[]⟩) := (by simp [World.cell?, e1]); have z4 : w3.cell? ⟨w.heap.size + 1, 4, none⟩ = some (.int .i64 0) := (by simp [World.cell?, e1]); have z5 : w3.cell? ⟨w.heap.size + 1, 5, none⟩ = some (.int .i64 0) := (by simp [World.cell?, e1]); have z6 : w3.cell? ⟨w.heap.size + 1, 6, none⟩ = some (.bool false) := (by simp [World.cell?, e1]); have z7 : w3.cell? ⟨w.heap.size + 1, 7, none⟩ = some (.slice none 0 0) := (by simp [World.cell?, e1]); have y0 : w3.cell? ⟨w.heap.size + 2, 0, none⟩ = some (.string m1) := (by simp [World.cell?, e2]); have y1 : w3.cell? ⟨w.heap.size + 2, 1, none⟩ = some (.string m2) := (by simp [World.cell?, e2]); have y2 : w3.cell? ⟨w.heap.size + 2, 2, none⟩ = some (.string m3) := (by simp [World.cell?, e2]); have y3 : w3.cell? ⟨w.heap.size + 2, 3, none⟩ = some (.string m4) := (by simp [World.cell?, e2]); have y4 : w3.cell? ⟨w.heap.size + 2, 4, none⟩ = some (.int .i64 m5) := (by simp [World.cell?, e2]); have y5 : w3.cell? ⟨w.heap.size + 2, 5, none⟩ = some (.int .i64 m6) := (by simp [World.cell?, e2]); have y6 : w3.cell? ⟨w.heap.size + 2, 6, none⟩ = some (.bool m7) := (by simp [World.cell?, e2]); have y7 : w3.cell? ⟨w.heap.size + 2, 7, none⟩ = some (.slice none 0 0) := (by simp [World.cell?, e2]); have g1 : ∀ o, w3.frozen? ⟨w.heap.size + 1, o, none⟩ = false := (fun o => by simp [World.frozen?, e1]); have g2 : ∀ o, w3.frozen? ⟨w.heap.size + 2, o, none⟩ = false := (fun o => by simp [World.frozen?, e2]); clear e1 e2 hO3 hb3))
  refine bodyPost_ret (v := .agg #[.string m1, .string m2, .string m3, .string m4, .int .i64 m5, .int .i64 m6, .bool m7, .slice p3 mL.length c3]) (by simp [results, Tryd.results7, go_sem, z0, z1, z2, z3, z4, z5, z6, z7]) rfl ⟨⟨_, rfl, ?_⟩, ?_⟩
  · exact OwnR.base (((((((((HO3.out.setC (b := w.heap.size + 2) (by omega) 7 _).setC (b := w.heap.size + 1) (by omega) 0 _).setC (b := w.heap.size + 1) (by omega) 1 _).setC (b := w.heap.size + 1) (by omega) 2 _).setC (b := w.heap.size + 1) (by omega) 3 _).setC (b := w.heap.size + 1) (by omega) 4 _).setC (b := w.heap.size + 1) (by omega) 5 _).setC (b := w.heap.size + 1) (by omega) 6 _).setC (b := w.heap.size + 1) (by omega) 7 _) (by omega)
  · exact (((((((((HB3.out.setCell (p := ⟨w.heap.size + 2, 7, none⟩) (by show w.heap.size ≤ w.heap.size + 2; omega) _).setCell (p := ⟨w.heap.size + 1, 0, none⟩) (by show w.heap.size ≤ w.heap.size + 1; omega) _).setCell (p := ⟨w.heap.size + 1, 1, none⟩) (by show w.heap.size ≤ w.heap.size + 1; omega) _).setCell (p := ⟨w.heap.size + 1, 2, none⟩) (by show w.heap.size ≤ w.heap.size + 1; omega) _).setCell (p := ⟨w.heap.size + 1, 3, none⟩) (by show w.heap.size ≤ w.heap.size + 1; omega) _).setCell (p := ⟨w.heap.size + 1, 4, none⟩) (by show w.heap.size ≤ w.heap.size + 1; omega) _).setCell (p := ⟨w.heap.size + 1, 5, none⟩) (by show w.heap.size ≤ w.heap.size + 1; omega) _).setCell (p := ⟨w.heap.size + 1, 6, none⟩) (by show w.heap.size ≤ w.heap.size + 1; omega) _).setCell (p := ⟨w.heap.size + 1, 7, none⟩) (by show w.heap.size ≤ w.heap.size + 1; omega) _)
end Go.Proofs.YtcoecfpkihakoaaDoor
