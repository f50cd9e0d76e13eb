/- Go's own slices.Grow of nothing and Concat of two rows of points. -/
import Derived.Test.YtakfjkphmfblaaaGreatDoorRgPtW
import Derived.Lib.AppendZerosOnto
namespace Go.Proofs.YtakfjkphmfblaaaGreatDoor
open Go.RowKit Go.Sort
theorem ptinfo : (Tryz.prog.info? 92).map (fun i => (i.zero, i.size, i.bytes)) = some (some (.agg #[.int .u32 0, .string ⟨#[]⟩, .int .i64 0]), 3, 32) := by kernel_rfl
set_option maxRecDepth 10000 in
set_option maxHeartbeats 4000000 in
theorem grow_nil (n : Nat) (w : World) (h0 : 0 < n) (hn : n ≤ 1000) :
    Calls Tryz.prog 67 #[.slice none 0 0, .int .i64 (n : Int)] w fun e w' => (∃ v, e = .returned v ∧ OwnR pE 92 w' w.heap.size v []) ∧ Below w.heap.size w w' := by
  obtain ⟨i0, hi0, hz0, hz1, hzb⟩ := info_parts ptinfo
  have hold : (Builtin.firstCells i0.size 0 (.slice none 0 0)).run Tryz.prog w.drew = .ok ([] : List Value).toArray w.drew := run_firstCells_none w.drew i0.size 0 0 0
  have hrz : ∀ ty, (Builtin.append_ #[71, 3] ty #[.slice none 0 0, .int .i64 (n : Int)]).run Tryz.prog w =
      .ok (.slice (some ⟨w.heap.size, 0, none⟩) n (grownCap w n 0 92)) (w.drew.alloc (.cells (([] : List Value).toArray ++ Builtin.zeroCells (Value.agg #[.int .u32 0, .string ⟨#[]⟩, .int .i64 0]).cells n ++ Builtin.zeroCells (Value.agg #[.int .u32 0, .string ⟨#[]⟩, .int .i64 0]).cells (grownCap w n 0 92 - n)) 92)) := fun ty => by
    have h := Lib.run_append_grow_zeros w 71 3 ty 92 i0 _ .i64 .i64 Tryz.underlying71 Tryz.underlying3 hi0 hz0 none 0 0 [] hold n h0 (by rw [hz1]; decide) (by omega) (by omega) (by rw [hzb]; omega) (by rw [hzb]; exact growslice_fits (by omega) (by omega))
    rw [Nat.zero_add] at h
    exact h
  have hGn : n ≤ grownCap w n 0 92 := grownCap_ge w _ _ _
  have hGm : grownCap w n 0 92 ≤ maxLen := grownCap_le_maxLen w n 0 92 (by unfold maxLen; omega)
  generalize hG : grownCap w n 0 92 = G at *
  clear hG
  have hG63 : G ≤ 9223372036854775807 := by unfold maxLen at hGm; omega
  obtain ⟨cs, hcs⟩ : ∃ cs, cs = ([] : List Value).toArray ++ Builtin.zeroCells (Value.agg #[.int .u32 0, .string ⟨#[]⟩, .int .i64 0]).cells n ++ Builtin.zeroCells (Value.agg #[.int .u32 0, .string ⟨#[]⟩, .int .i64 0]).cells (G - n) := ⟨_, rfl⟩
  have hsz : cs.size = G * 3 := by
    have e3 : (Value.agg #[.int .u32 0, .string ⟨#[]⟩, .int .i64 0]).cells.size = 3 := rfl
    rw [hcs]
    simp [Builtin.zeroCells, e3]
    omega
  rw [← hcs] at hrz
  have HOWN : Hid (OwnR pE 92 (w.drew.alloc (.cells cs 92)) w.heap.size (.slice (some ⟨w.heap.size, 0, none⟩) 0 G) []) := by
    refine ⟨rfl, Or.inr ⟨w.heap.size, G, cs, rfl, Nat.le_refl _, ?_, Nat.zero_le _, hGm, hsz, ?_⟩⟩
    · have : w.drew.heap.size = w.heap.size := rfl
      rw [← this, heap_alloc_new]
    · simp [recVals]
  have HB : Hid (Below w.heap.size w (w.drew.alloc (.cells cs 92))) := (Below.refl _ _).drew.alloc (Nat.le_refl _) _
  have d1 : decide ((n : Int) < 0) = false := decide_eq_false (by omega)
  have d2 : decide (0 < (n : Int)) = true := decide_eq_true (by omega)
  clear hold hcs hGm hsz
  go_enter Tryz.func67, Tryz.ntmps67
  go_wp2_with (at_builtin; refine Lib.wpList_append_run _ rfl _ _ _ _ rfl _ _ rfl rfl _ _ (hrz _) ?_)
  go_ret
  exact ⟨⟨_, rfl, HOWN.out⟩, HB.out⟩
set_option maxRecDepth 10000 in
set_option maxHeartbeats 4000000 in
theorem concat_two (g c : Nat) (p1 p2 : Option Addr) (l1 l2 : List Pt) (c1 c2 : Nat) (w : World) (h0 : 0 < l1.length + l2.length) (hn : l1.length + l2.length ≤ 1000)
    (q1 : w.cell? ⟨g, 0, none⟩ = some (.slice p1 l1.length c1)) (q2 : w.cell? ⟨g, 1, none⟩ = some (.slice p2 l2.length c2)) (r1 : Rec pE w p1 l1) (r2 : Rec pE w p2 l2) (n1 : p1 = none → l1 = [] ∧ c1 = 0) (n2 : p2 = none → l2 = [] ∧ c2 = 0) :
    Calls Tryz.prog 56 #[.slice (some ⟨g, 0, none⟩) 2 c] w fun e w' => (∃ v, e = .returned v ∧ OwnR pE 92 w' w.heap.size v (l1 ++ l2)) ∧ Below w.heap.size w w' := by
  have hg : g < w.heap.size := by
    rcases Nat.lt_or_ge g w.heap.size with h' | h'
    · exact h'
    · simp [World.cell?, Array.getElem?_eq_none h'] at q1
  obtain ⟨P, hP⟩ : ∃ P : Nat → Option Addr, P = fun i => if i = 0 then p1 else p2 := ⟨_, rfl⟩
  obtain ⟨L, hL⟩ : ∃ L : Nat → List Pt, L = fun i => if i = 0 then l1 else l2 := ⟨_, rfl⟩
  obtain ⟨C, hC⟩ : ∃ C : Nat → Nat, C = fun i => if i = 0 then c1 else c2 := ⟨_, rfl⟩
  obtain ⟨T, hT⟩ : ∃ T : Nat → List Pt, T = fun i => if i = 0 then [] else if i = 1 then l1 else l1 ++ l2 := ⟨_, rfl⟩
  have HCELL : Hid (∀ W, Below w.heap.size w W → ∀ i, i < 2 → W.cell? ⟨g, i, none⟩ = some (.slice (P i) (L i).length (C i)) ∧ Rec pE W (P i) (L i) ∧ (P i = none → L i = [] ∧ C i = 0)) := fun W hW i hi => by
    subst hP hL hC
    match i, hi with
    | 0, _ => exact ⟨(hW.cell (p := ⟨g, 0, none⟩) hg).trans q1, r1.below hW, n1⟩
    | 1, _ => exact ⟨(hW.cell (p := ⟨g, 1, none⟩) hg).trans q2, r2.below hW, n2⟩
  have HT1 : Hid (∀ i, i < 2 → T (i + 1) = T i ++ L i) := fun i hi => by
    subst hT hL
    match i, hi with
    | 0, _ => rfl
    | 1, _ => rfl
  have HT0 : Hid (T 0 = []) := by show _ = _; rw [hT]; rfl
  have HT2 : Hid (T 2 = l1 ++ l2) := by show _ = _; rw [hT]; rfl
  have HTL : Hid (∀ i, (T i).length ≤ 1000) := fun i => by
    subst hT
    show (if i = 0 then [] else if i = 1 then l1 else l1 ++ l2 : List Pt).length ≤ 1000
    split
    · exact Nat.zero_le _
    · split
      · omega
      · rw [List.length_append]; exact hn
  have HTN : Hid (0 < (T 2).length) := by show _ < _; rw [hT]; show 0 < (l1 ++ l2).length; rw [List.length_append]; exact h0
  rw [← HT2.out]
  clear HT2 hT hP hL hC q1 q2 r1 r2 n1 n2 h0 hn hg
  go_enter Tryz.func56, Tryz.ntmps56
  go_wp2
  go_loop [3, 11] (fun s x => ∃ i : Nat, i ≤ 2 ∧ x = .int .i64 i ∧ s = .int .i64 (((T i).length : Nat) : Int)) (fun _ x => 2 - (intOf x).toNat)
  case atStart => exact ⟨0, by omega, rfl, by rw [HT0.out]; rfl⟩
  case round =>
    obtain ⟨i, hi, rfl, rfl⟩ := hrel
    by_cases hil : i < 2
    · obtain ⟨q1, _, _⟩ := HCELL.out w (Below.refl _ _) i hil
      have HNX : Hid ((T (i + 1)).length = (T i).length + (L i).length) := by show _ = _; rw [HT1.out i hil, List.length_append]
      have hle := HTL.out (i + 1)
      rw [HNX.out] at hle
      generalize (T i).length = a at *
      generalize (L i).length = b at *
      have d1 : decide ((a : Int) + (b : Int) < 0) = false := decide_eq_false (by omega)
      have d2 : wrap64 ((a : Int) + (b : Int)) = (a : Int) + (b : Int) := by unfold wrap64; omega
      have d3 : ¬ ((a : Int) + (b : Int) < 0) := by omega
      go_wp2
      go_round
      case rel => exact ⟨i + 1, by omega, by go_num, by rw [HNX.out]; congr 1⟩
      case measure => simp [intOf]; omega
    · have hie : i = 2 := by omega
      subst hie
      have HGROW : Hid (∀ W, Calls Tryz.prog 67 #[.slice none 0 0, .int .i64 (((T 2).length : Nat) : Int)] W fun e w' => (∃ v, e = .returned v ∧ OwnR pE 92 w' W.heap.size v []) ∧ Below W.heap.size W w') := fun W => grow_nil _ W HTN.out (HTL.out 2)
      generalize (T 2).length = m at *
      go_wp2_with fail
      refine (HGROW.out _).mono ?_
      rintro e w1 ⟨⟨v, rfl, hO1⟩, hb1⟩
      have HO1 : Hid (OwnR pE 92 w1 w.heap.size v (T 0)) := by show OwnR _ _ _ _ _ _; rw [HT0.out]; exact hO1
      have HB1 : Hid (Below w.heap.size w w1) := hb1
      clear hO1 hb1 HGROW
      go_wp2
      go_loopw [6, 27] (fun v x wq => ∃ i : Nat, i ≤ 2 ∧ x = .int .i64 i ∧ OwnR pE 92 wq w.heap.size v (T i) ∧ Below w.heap.size w wq) (fun _ x _ => 2 - (intOf x).toNat)
      case atStart => exact ⟨0, by omega, rfl, HO1.out, HB1.out⟩
      case round =>
        obtain ⟨i, hi, rfl, hO, hB⟩ := hrel
        obtain ⟨w2, rfl⟩ : ∃ w2, w2 = wr := ⟨_, rfl⟩
        obtain ⟨v2, rfl⟩ : ∃ v2, v2 = u6 := ⟨_, rfl⟩
        have HO2 : Hid (OwnR pE 92 w2 w.heap.size v2 (T i)) := hO
        have HB2 : Hid (Below w.heap.size w w2) := hB
        clear hO hB HO1 HB1
        by_cases hil : i < 2
        · obtain ⟨q1, hr1, hn1⟩ := HCELL.out w2 HB2.out i hil
          have HR1 : Hid (Rec pE w2 (P i) (L i)) := hr1
          have HN1 : Hid (P i = none → L i = [] ∧ C i = 0) := hn1
          have HNX : Hid (T (i + 1) = T i ++ L i) := HT1.out i hil
          have HLE : Hid ((T i).length + (L i).length ≤ 1000) := by
            show _ ≤ _
            have := HTL.out (i + 1)
            rw [HNX.out, List.length_append] at this
            exact this
          clear hr1 hn1
          generalize P i = pi at *
          generalize L i = li at *
          generalize C i = ci at *
          generalize T i = ti at *
          go_wp2_with (first | (at_builtin; refine wpList_append_recs (E := pE) rfl (.tmp 31) (.tmp 32) 71 92 rfl (.agg #[.int .u32 0, .string ⟨#[]⟩, .int .i64 0]) 32 Tryz.underlying71 ptinfo rfl w.heap.size v2 ti rfl HO2.out pi li ci rfl HR1.out HN1.out (by have := HLE.out; unfold maxLen; omega) (by have := HLE.out; omega) HB2.out.size ?_; intro v' w3 hO3 hb3))
          have HO3 : Hid (OwnR pE 92 w3 w.heap.size v' (T (i + 1))) := by
            show OwnR _ _ _ _ _ _
            rw [HNX.out]
            exact hO3
          have HB3 : Hid (Below w.heap.size w w3) := HB2.out.trans hb3
          clear hO3 hb3
          go_wp2
          go_roundw
          case rel => exact ⟨i + 1, by omega, by go_num, HO3.out, HB3.out⟩
          case measure => simp [intOf]; omega
        · have hie : i = 2 := by omega
          subst hie
          go_wp2
          go_ret
          exact ⟨⟨_, rfl, HO2.out⟩, HB2.out⟩
end Go.Proofs.YtakfjkphmfblaaaGreatDoor
