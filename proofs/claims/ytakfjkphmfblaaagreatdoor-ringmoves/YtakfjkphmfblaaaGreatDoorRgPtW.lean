/- Points: how they lie in memory, which of two comes first; points in order are a ring. -/
import Derived.Test.YtakfjkphmfblaaaGreatDoorRgCmpW
import Derived.Test.YtakfjkphmfblaaaGreatDoorRgShW
import Derived.Test.YtakfjkphmfblaaaGreatDoorRecB
import Derived.Test.YtakfjkphmfblaaaGreatDoorRingS
import Derived.StillTailTactics
namespace Go.Proofs.YtakfjkphmfblaaaGreatDoor
open Go.RowKit Ring Go.Sort
/-- A point: its number, its node, which of the node's. -/
abbrev Pt := Nat × ByteArray × Nat
def pEnc (x : Pt) : List Value := [.int .u32 (x.1 : Int), .string x.2.1, .int .i64 (x.2.2 : Int)]
def pE : Enc Pt where
  k := 3
  pos := by decide
  enc := pEnc
  len := fun _ => rfl
  one := fun x u hu => by
    simp [pEnc] at hu
    rcases hu with rfl | rfl | rfl <;> rfl
/-- What two points compare as. -/
def pCf (p q : Pt) : Int := orI (cmpN p.1 q.1) (cmpT p.2.1 q.2.1) (cmpN p.2.2 q.2.2)
def nn (p : Pt) : Nat × ByteArray := (p.1, p.2.1)
/-- p comes ahead of q. -/
def tlt (p q : Pt) : Prop := plt (nn p) (nn q) ∨ nn p = nn q ∧ p.2.2 < q.2.2
theorem cmpN_lt {a b : Nat} : cmpN a b < 0 ↔ a < b := by
  unfold cmpN
  split
  · rename_i h; exact ⟨fun _ => h, fun _ => by decide⟩
  · rename_i h
    split
    · exact ⟨fun h3 => absurd h3 (by decide), fun h3 => absurd h3 h⟩
    · exact ⟨fun h3 => absurd h3 (by decide), fun h3 => absurd h3 h⟩
theorem cmpN_zero {a b : Nat} : cmpN a b = 0 ↔ a = b := by
  unfold cmpN
  split
  · rename_i h; exact ⟨fun h3 => absurd h3 (by decide), fun h3 => by omega⟩
  · split
    · exact ⟨fun h3 => absurd h3 (by decide), fun h3 => by omega⟩
    · exact ⟨fun _ => by omega, fun _ => rfl⟩
theorem cmpT_lt {x y : ByteArray} : cmpT x y < 0 ↔ bl x y := by
  unfold cmpT bl
  split
  · rename_i h; exact ⟨fun _ => h, fun _ => by decide⟩
  · rename_i h
    split
    · exact ⟨fun h3 => absurd h3 (by decide), fun h3 => absurd h3 h⟩
    · exact ⟨fun h3 => absurd h3 (by decide), fun h3 => absurd h3 h⟩
theorem cmpT_zero {x y : ByteArray} : cmpT x y = 0 ↔ x = y := by
  unfold cmpT
  split
  · rename_i h
    exact ⟨fun h3 => absurd h3 (by decide), fun h3 => by rw [h3, less_irrefl] at h; cases h⟩
  · rename_i h
    split
    · rename_i h2
      exact ⟨fun h3 => absurd h3 (by decide), fun h3 => by rw [h3, less_irrefl] at h2; cases h2⟩
    · rename_i h2
      refine ⟨fun _ => Classical.byContradiction fun hne => ?_, fun _ => rfl⟩
      rcases bl_total hne with h4 | h4
      · exact h h4
      · exact h2 h4
theorem pCf_lt {p q : Pt} : pCf p q < 0 ↔ tlt p q := by
  unfold pCf orI tlt plt nn
  by_cases h1 : p.1 = q.1
  · rw [if_neg (fun h => h (cmpN_zero.2 h1))]
    by_cases h2 : p.2.1 = q.2.1
    · rw [if_neg (fun h => h (cmpT_zero.2 h2)), cmpN_lt]
      constructor
      · intro h3
        exact Or.inr ⟨by rw [h1, h2], h3⟩
      · rintro ((h3 | ⟨_, h3⟩) | ⟨_, h3⟩)
        · have h4 : p.1 < q.1 := h3
          omega
        · have h4 : bl p.2.1 q.2.1 := h3
          rw [h2] at h4
          exact absurd h4 (bl_irrefl _)
        · exact h3
    · rw [if_pos (fun h => h2 (cmpT_zero.1 h)), cmpT_lt]
      constructor
      · intro h3
        exact Or.inl (Or.inr ⟨h1, h3⟩)
      · rintro ((h3 | ⟨_, h3⟩) | ⟨h3, _⟩)
        · have h4 : p.1 < q.1 := h3
          omega
        · exact h3
        · exact absurd (congrArg Prod.snd h3) h2
  · rw [if_pos (fun h => h1 (cmpN_zero.1 h)), cmpN_lt]
    constructor
    · intro h3
      exact Or.inl (Or.inl h3)
    · rintro ((h3 | ⟨h3, _⟩) | ⟨h3, _⟩)
      · exact h3
      · exact absurd h3 h1
      · exact absurd (congrArg Prod.fst h3) h1
theorem ltOf_iff {p q : Pt} : ltOf pCf p q = true ↔ tlt p q := by
  unfold ltOf
  rw [decide_eq_true_iff]
  exact pCf_lt
theorem tlt_irrefl (p : Pt) : ¬ tlt p p := by
  rintro (h | ⟨_, h⟩)
  · exact plt_irrefl _ h
  · exact Nat.lt_irrefl _ h
theorem tlt_trans {p q r : Pt} (h1 : tlt p q) (h2 : tlt q r) : tlt p r := by
  rcases h1 with h1 | ⟨e1, h1⟩
  · rcases h2 with h2 | ⟨e2, _⟩
    · exact Or.inl (plt_trans h1 h2)
    · exact Or.inl (by rw [← e2]; exact h1)
  · rcases h2 with h2 | ⟨e2, h2⟩
    · exact Or.inl (by rw [e1]; exact h2)
    · exact Or.inr ⟨e1.trans e2, by omega⟩
theorem tlt_not {p q r : Pt} (h1 : ¬ tlt p q) (h2 : ¬ tlt q r) : ¬ tlt p r := fun h3 => by
  by_cases e : nn p = nn q
  · have hle : q.2.2 ≤ p.2.2 := by
      rcases Nat.lt_or_ge p.2.2 q.2.2 with h4 | h4
      · exact absurd (Or.inr ⟨e, h4⟩) h1
      · exact h4
    rcases h3 with h3 | ⟨e3, h3⟩
    · exact h2 (Or.inl (by rw [← e]; exact h3))
    · exact h2 (Or.inr ⟨e.symm.trans e3, by omega⟩)
  · rcases plt_total e with h4 | h4
    · exact h1 (Or.inl h4)
    · exact h2 (tlt_trans (Or.inl h4) h3)
theorem swoP : SWO (ltOf pCf) where
  irrefl x := Bool.eq_false_iff.2 fun h => tlt_irrefl x (ltOf_iff.1 h)
  trans x y z h1 h2 := ltOf_iff.2 (tlt_trans (ltOf_iff.1 h1) (ltOf_iff.1 h2))
  ntrans x y z h1 h2 := Bool.eq_false_iff.2 fun h => tlt_not (fun h3 => by rw [ltOf_iff.2 h3] at h1; cases h1) (fun h3 => by rw [ltOf_iff.2 h3] at h2; cases h2) (ltOf_iff.1 h)
set_option maxRecDepth 10000 in
set_option maxHeartbeats 2000000 in
theorem pcmp_any (p q : Pt) (W : World) : Calls Tryz.prog 49 #[.agg (pEnc p).toArray, .agg (pEnc q).toArray] W fun e w' => e = .returned (.int .i64 (pCf p q)) ∧ ∃ n os, w' = grow (W.drewN n) os := by
  obtain ⟨a, x, i⟩ := p
  obtain ⟨b, y, j⟩ := q
  obtain ⟨W2, hW2⟩ : ∃ W2, W2 = (W.alloc (.cells #[.int .u32 (a : Int), .string x, .int .i64 (i : Int)] 92)).alloc (.cells #[.int .u32 (b : Int), .string y, .int .i64 (j : Int)] 92) := ⟨_, rfl⟩
  have HG : Hid (∃ os, W2 = grow W os) := ⟨_, by rw [hW2, alloc_eq_grow, alloc_eq_grow, grow_grow]⟩
  have q1 : W2.cell? ⟨W.heap.size, 0, none⟩ = some (.int .u32 (a : Int)) := by rw [hW2]; simp
  have q2 : W2.cell? ⟨W.heap.size, 1, none⟩ = some (.string x) := by rw [hW2]; simp
  have q3 : W2.cell? ⟨W.heap.size, 2, none⟩ = some (.int .i64 (i : Int)) := by rw [hW2]; simp
  have q4 : W2.cell? ⟨W.heap.size + 1, 0, none⟩ = some (.int .u32 (b : Int)) := by rw [hW2]; simp
  have q5 : W2.cell? ⟨W.heap.size + 1, 1, none⟩ = some (.string y) := by rw [hW2]; simp
  have q6 : W2.cell? ⟨W.heap.size + 1, 2, none⟩ = some (.int .i64 (j : Int)) := by rw [hW2]; simp
  have HW2 : Hid (W2 = (W.alloc (.cells #[.int .u32 (a : Int), .string x, .int .i64 (i : Int)] 92)).alloc (.cells #[.int .u32 (b : Int), .string y, .int .i64 (j : Int)] 92)) := hW2
  clear hW2
  show Calls Tryz.prog 49 #[.agg #[.int .u32 (a : Int), .string x, .int .i64 (i : Int)], .agg #[.int .u32 (b : Int), .string y, .int .i64 (j : Int)]] W fun e w' => e = .returned (.int .i64 (orI (cmpN a b) (cmpT x y) (cmpN i j))) ∧ ∃ n os, w' = grow (W.drewN n) os
  have c1 := fun W => cmp_u32 a b W
  have c2 := fun W => cmp_txt x y W
  have c3 := fun W => cmp_int i j W
  have c4 := fun g W h0 h1 h2 => or_three g 0 (cmpN a b) (cmpT x y) (cmpN i j) W h0 h1 h2
  generalize cmpN a b = r1 at *
  generalize cmpT x y = r2 at *
  generalize cmpN i j = r3 at *
  generalize orI r1 r2 r3 = r at *
  have C1 : Hid (∀ W, Calls Tryz.prog 51 #[.int .u32 (a : Int), .int .u32 (b : Int)] W fun e w' => e = .returned (.int .i64 r1) ∧ w' = W) := c1
  have C2 : Hid (∀ W, Calls Tryz.prog 52 #[.string x, .string y] W fun e w' => e = .returned (.int .i64 r2) ∧ w' = W) := c2
  have C3 : Hid (∀ W, Calls Tryz.prog 53 #[.int .i64 (i : Int), .int .i64 (j : Int)] W fun e w' => e = .returned (.int .i64 r3) ∧ w' = W) := c3
  have C4 : Hid (∀ g W, W.cell? ⟨g, 0, none⟩ = some (.int .i64 r1) → W.cell? ⟨g, 1, none⟩ = some (.int .i64 r2) → W.cell? ⟨g, 2, none⟩ = some (.int .i64 r3) → Calls Tryz.prog 50 #[.slice (some ⟨g, 0, none⟩) 3 3] W fun e w' => e = .returned (.int .i64 r) ∧ w' = W) := c4
  clear c1 c2 c3 c4
  go_enter Tryz.func49, Tryz.ntmps49
  go_wp2
  rw [← HW2.out]
  clear HW2
  refine wp_region_still_tail 15 (by kernel_rfl) (by kernel_rfl) ?_
  simp only [List.take_succ_cons, List.take_zero, List.drop_succ_cons, List.drop_zero]
  still_step
  still_step
  still_step
  still_step
  still_call (C1.out _)
  still_step
  still_step
  still_step
  still_step
  still_call (C2.out _)
  still_step
  still_step
  still_step
  still_step
  still_call (C3.out _)
  refine wpStill_nil ?_
  change wpList _ _ _ _ _ (W2.drewN 1)
  have HG3 : Hid (∃ os, W2.drewN 1 = grow (W.drewN 1) os) := by
    obtain ⟨os, h⟩ := HG.out
    exact ⟨os, by rw [h]; rfl⟩
  generalize W2.drewN 1 = W3 at HG3 ⊢
  clear q1 q2 q3 q4 q5 q6
  go_wp2_with (go_at_call 50; refine (C4.out _ _ (by simp) (by simp) (by simp)).mono ?_; rintro e w' ⟨rfl, rfl⟩)
  go_ret
  obtain ⟨os, h⟩ := HG3.out
  exact ⟨rfl, 1, _, by rw [h, alloc_eq_grow, grow_grow]⟩
theorem cmpLays (blk off size : Nat) (w : World) : CmpLays Tryz.prog 49 #[] pEnc 3 pCf blk off size w := fun _ _ _ _ x y => pcmp_any x y _
end Go.Proofs.YtakfjkphmfblaaaGreatDoor
