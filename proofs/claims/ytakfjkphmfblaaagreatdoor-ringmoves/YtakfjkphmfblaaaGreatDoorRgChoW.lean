/- Package ring: chooser, what it chooses; Prefer. -/
import Derived.Test.YtakfjkphmfblaaaGreatDoorRgFstW
import Derived.Test.YtakfjkphmfblaaaGreatDoorRgChkW
import Derived.Test.YtakfjkphmfblaaaGreatDoorRingCW
namespace Go.Proofs.YtakfjkphmfblaaaGreatDoor
open Go.RowKit Ring Go.Sort
theorem lt_of_cellC {w : World} {b o : Nat} {v : Value} (h : w.cell? ⟨b, o, none⟩ = some v) : b < w.heap.size := by
  rcases Nat.lt_or_ge b w.heap.size with h' | h'
  · exact h'
  · simp [World.cell?, Array.getElem?_eq_none h'] at h
/-- lb are the variables of one that chooses n of these nodes. -/
def Cho (w : World) (nodes : List ByteArray) (n : Nat) (lb : Array Value) : Prop :=
  ∃ (bp bn g cap : Nat) (ps : List Pt), lb = #[.pointer (some ⟨bp, 0, none⟩), .pointer (some ⟨bn, 0, none⟩)] ∧ w.cell? ⟨bp, 0, none⟩ = some (.slice (some ⟨g, 0, none⟩) ps.length cap) ∧ w.cell? ⟨bn, 0, none⟩ = some (.int .i64 (n : Int)) ∧ ps.length ≤ cap ∧ Rec pE w (some ⟨g, 0, none⟩) ps ∧ RingP nodes ps
theorem Cho.below {w w' : World} {nodes : List ByteArray} {n : Nat} {lb : Array Value} (h : Cho w nodes n lb) (hb : Below w.heap.size w w') : Cho w' nodes n lb := by
  obtain ⟨bp, bn, g, cap, ps, h1, h2, h3, h4, h5, h6⟩ := h
  exact ⟨bp, bn, g, cap, ps, h1, (hb.cell (p := ⟨bp, 0, none⟩) (lt_of_cellC h2)).trans h2, (hb.cell (p := ⟨bn, 0, none⟩) (lt_of_cellC h3)).trans h3, h4, h5.below hb, h6⟩
/-- Nodes of a ring. -/
structure Fine (nodes : List ByteArray) (n : Nat) : Prop where
  l1 : 1 ≤ nodes.length
  l2 : nodes.length ≤ 16
  sz : ∀ x ∈ nodes, x.size ≤ 16
  nd : nodes.Nodup
  n : n ≤ nodes.length
theorem fine_of {l : List ByteArray} {n : Int} (h : ¬ 0 < (preferF l n).1) : Fine l n.toNat ∧ ((n.toNat : Nat) : Int) = n := by
  obtain ⟨h1, h2, h3, _⟩ := preferF_fine h
  obtain ⟨h4, h5⟩ := nodesF_fine h1
  obtain ⟨_, h6, h7⟩ := nodesF_zero h1
  exact ⟨⟨h6, h7, fun x hx => (isN_size (h4 x hx)).2, h5, by omega⟩, by omega⟩
theorem scan_ex {h n M : Nat} {nodes : List ByteArray} {R : Nat → Nat × ByteArray} (hr : RingR h nodes R M) : ∀ j, j ≤ M → ∃ out, ScanInv h nodes R n j out
  | 0, _ => ⟨[], ScanInv.start _ _ _ _⟩
  | j + 1, hj => by
    obtain ⟨out, ho⟩ := scan_ex (n := n) hr j (by omega)
    by_cases h1 : out.length < n
    · by_cases h2 : (R j).2 ∈ out
      · exact ⟨out, ho.skip h2⟩
      · exact ⟨_, ho.push hr (by omega) h1 h2⟩
    · exact ⟨out, ho.full h1⟩
/-- Of each number there are such nodes. -/
theorem Cho.ex {w : World} {nodes : List ByteArray} {n : Nat} {lb : Array Value} (hc : Cho w nodes n lb) (hf : Fine nodes n) (h : Nat) : ∃ out, Pref h nodes out ∧ out.length = n := by
  obtain ⟨_, _, _, _, ps, _, _, _, _, _, h6⟩ := hc
  obtain ⟨f, _, _, _, _, _, hRR, _⟩ := first_cases h nodes ps h6 hf.l1
  obtain ⟨out, ho⟩ := scan_ex (n := n) hRR ps.length (Nat.le_refl _)
  exact ⟨out, ho.pref, ho.done hRR hf.n hf.nd⟩
set_option maxRecDepth 10000 in
set_option maxHeartbeats 2000000 in
theorem choose_any (nodes : List ByteArray) (n : Nat) (lb : Array Value) (key : ByteArray) (w : World) (hk : key.size ≤ 1000) (hf : Fine nodes n) (hc : Cho w nodes n lb) :
    Calls Tryz.prog 35 (#[.string key] ++ lb) w fun e w' => (∃ v out, e = .returned v ∧ OwnT w' w.heap.size v out ∧ out.length = n ∧ Pref (hashOf key) nodes out) ∧ Below w.heap.size w w' := by
  obtain ⟨bp, bn, g, cap, ps, rfl, q1, q2, h4, h5, h6⟩ := hc
  have HH : Hid (∀ W, Calls Tryz.prog 37 #[.string key] W fun e w' => e = .returned (.int .u32 ((hashOf key : Nat) : Int)) ∧ w' = W) := fun W => hash_any key W (by omega)
  have HF : Hid (∀ W, Below w.heap.size w W → Calls Tryz.prog 36 #[.slice (some ⟨g, 0, none⟩) ps.length cap, .int .u32 ((hashOf key : Nat) : Int), .int .i64 (n : Int)] W fun e w' => (∃ v out, e = .returned v ∧ OwnT w' W.heap.size v out ∧ out.length = n ∧ Pref (hashOf key) nodes out) ∧ Below W.heap.size W w') := fun W hW => first_any g cap ps nodes (hashOf key) n W h6 hf.l1 hf.l2 hf.n hf.sz hf.nd h4 (h5.below hW)
  clear hf h4 h5 h6
  generalize hashOf key = h at *
  generalize ps.length = m at *
  show Calls Tryz.prog 35 #[.string key, .pointer (some ⟨bp, 0, none⟩), .pointer (some ⟨bn, 0, none⟩)] w _
  go_enter Tryz.func35, Tryz.ntmps35
  go_wp2
  refine wp_region_still_tail 4 (by kernel_rfl) (by kernel_rfl) ?_
  simp only [List.take_succ_cons, List.take_zero, List.drop_succ_cons, List.drop_zero]
  still_step
  still_step
  still_call (HH.out _)
  still_step
  refine wpStill_nil ?_
  change wpList _ _ _ _ _ (w.drewN 1)
  have hs : (w.drewN 1).heap.size = w.heap.size := rfl
  have HF2 : Hid (Calls Tryz.prog 36 #[.slice (some ⟨g, 0, none⟩) m cap, .int .u32 (h : Int), .int .i64 (n : Int)] (w.drewN 1) fun e w' => (∃ v out, e = .returned v ∧ OwnT w' w.heap.size v out ∧ out.length = n ∧ Pref h nodes out) ∧ Below w.heap.size w w') := by
    refine (HF.out (w.drewN 1) (below_drewN (Below.refl _ _) 1)).mono ?_
    rintro e w' ⟨h1, h2⟩
    exact ⟨h1, (below_drewN (Below.refl _ w) 1).trans h2⟩
  generalize w.drewN 1 = w1 at HF2 ⊢
  clear HF HH hs q1 q2
  go_wp2_with fail
  refine HF2.out.mono ?_
  rintro e w2 ⟨⟨v, out, rfl, hO, hl, hp⟩, hb⟩
  have HO : Hid (OwnT w2 w.heap.size v out ∧ out.length = n ∧ Pref h nodes out) := ⟨hO, hl, hp⟩
  clear hO hl hp HF2
  go_wp2
  go_ret
  exact ⟨⟨_, out, rfl, HO.out.1, HO.out.2.1, HO.out.2.2⟩, hb⟩
theorem preferF_nodes {l : List ByteArray} {n : Int} (h : 0 < (nodesF l).1) : preferF l n = nodesF l := if_pos h
theorem preferF_few {l : List ByteArray} {n : Int} (h : ¬ 0 < (nodesF l).1) (h2 : (l.length : Int) < n) : preferF l n = (8, -1) := by unfold preferF; rw [if_neg h, if_pos h2]
theorem preferF_below {l : List ByteArray} {n : Int} (h : ¬ 0 < (nodesF l).1) (h2 : ¬ (l.length : Int) < n) (h3 : n < 0) : preferF l n = (2, -1) := by unfold preferF; rw [if_neg h, if_neg h2, if_pos h3]
theorem ErrIs.none {w : World} {ad : Nat → Addr} {ev : Value} {c at_ : Int} (h : ErrIs w ad ev c at_) (hc : ¬ 0 < c) : ev = .nilIface := by
  rcases h with ⟨h1, _⟩ | ⟨i, _, _, h1, _⟩ | ⟨i, _, _, _, h1, _⟩
  · exact h1
  · exact absurd (by rw [h1]; omega) hc
  · exact absurd (by rw [h1]; omega) hc
set_option maxRecDepth 10000 in
set_option maxHeartbeats 4000000 in
theorem chooser_bad (ad : Nat → Addr) (p : Option Addr) (l : List ByteArray) (c : Nat) (n : Int) (w : World) (hl : l.length ≤ 1000) (hc : l.length ≤ c) (hs : Strs w p l) (hE : Errs w ad) (h : 0 < (preferF l n).1) :
    Calls Tryz.prog 23 #[.slice p l.length c, .int .i64 n] w fun e w' => (∃ ev, e = .returned (.tuple #[.nilFunc, ev]) ∧ ErrIs w' ad ev (preferF l n).1 (preferF l n).2) ∧ Below w.heap.size w w' := by
  obtain ⟨w1, hw1⟩ : ∃ w1, w1 = w.alloc (.cells #[.int .i64 n] 3) := ⟨_, rfl⟩
  have hb1 : Below w.heap.size w w1 := by rw [hw1]; exact (Below.refl _ _).alloc (Nat.le_refl _) _
  have q0 : w1.cell? ⟨w.heap.size, 0, none⟩ = some (.int .i64 n) := by rw [hw1]; simp
  have HC := check_any ad p l c w1 hl hc (hs.below hb1) (hE.below hb1)
  have HE1 : Hid (Errs w1 ad) := hE.below hb1
  have HW1 : Hid (w1 = w.alloc (.cells #[.int .i64 n] 3)) := hw1
  have HB1 : Hid (Below w.heap.size w w1) := hb1
  have HQ0 : Hid (w1.cell? ⟨w.heap.size, 0, none⟩ = some (.int .i64 n)) := q0
  clear hw1 hb1 hs hE q0
  by_cases hN : 0 < (nodesF l).1
  · rw [preferF_nodes hN]
    clear h
    go_enter Tryz.func23, Tryz.ntmps23
    go_wp2_with fail
    rw [← HW1.out]
    refine HC.mono ?_
    rintro e w2 ⟨⟨ev, rfl, hI⟩, hb2⟩
    have HI : Hid (ErrIs w2 ad ev (nodesF l).1 (nodesF l).2) := hI
    obtain ⟨t, v, rfl⟩ := hI.some hN
    have HB2 : Hid (Below w.heap.size w w2) := HB1.out.trans (hb2.mono HB1.out.size)
    clear hb2 HC hI
    go_wp2
    go_ret2
    exact ⟨⟨_, rfl, HI.out⟩, HB2.out⟩
  · by_cases h2 : (l.length : Int) < n
    · rw [preferF_few hN h2]
      clear h
      go_enter Tryz.func23, Tryz.ntmps23
      go_wp2_with fail
      rw [← HW1.out]
      refine HC.mono ?_
      rintro e w2 ⟨⟨ev, rfl, hI⟩, hb2⟩
      obtain rfl := hI.none (by omega)
      have HB2 : Hid (Below w.heap.size w w2) := HB1.out.trans (hb2.mono HB1.out.size)
      have q0 : w2.cell? ⟨w.heap.size, 0, none⟩ = some (.int .i64 n) := (hb2.cell (p := ⟨w.heap.size, 0, none⟩) (lt_of_cellC HQ0.out)).trans HQ0.out
      have q7 := (HE1.out.below hb2).c7
      have HI : Hid (∀ W, ErrIs W ad (.iface 158 (.pointer (some (ad 7)))) 8 (-1)) := fun W => ErrIs.sent 7 (by decide)
      clear hb2 HC hI
      have d1 : decide ((l.length : Int) < n) = true := decide_eq_true h2
      go_wp2
      go_quiet (fail)
      go_wp2
      go_ret2
      exact ⟨⟨_, rfl, HI.out _⟩, below_drewN HB2.out _⟩
    · by_cases h3 : n < 0
      · rw [preferF_below hN h2 h3]
        clear h
        go_enter Tryz.func23, Tryz.ntmps23
        go_wp2_with fail
        rw [← HW1.out]
        refine HC.mono ?_
        rintro e w2 ⟨⟨ev, rfl, hI⟩, hb2⟩
        obtain rfl := hI.none (by omega)
        have HB2 : Hid (Below w.heap.size w w2) := HB1.out.trans (hb2.mono HB1.out.size)
        have q0 : w2.cell? ⟨w.heap.size, 0, none⟩ = some (.int .i64 n) := (hb2.cell (p := ⟨w.heap.size, 0, none⟩) (lt_of_cellC HQ0.out)).trans HQ0.out
        have q7 := (HE1.out.below hb2).c1
        have HI : Hid (∀ W, ErrIs W ad (.iface 158 (.pointer (some (ad 1)))) 2 (-1)) := fun W => ErrIs.sent 1 (by decide)
        clear hb2 HC hI
        have d1 : decide ((l.length : Int) < n) = false := decide_eq_false (by omega)
        have d2 : decide (n < 0) = true := decide_eq_true h3
        go_wp2
        go_quiet (fail)
        go_wp2
        go_ret2
        exact ⟨⟨_, rfl, HI.out _⟩, below_drewN HB2.out _⟩
      · exfalso
        unfold preferF at h
        rw [if_neg hN, if_neg h2, if_neg h3] at h
        exact hN h
set_option maxRecDepth 10000 in
set_option maxHeartbeats 4000000 in
theorem chooser_ok (ad : Nat → Addr) (p : Option Addr) (l : List ByteArray) (c : Nat) (n : Int) (w : World) (hl : l.length ≤ 1000) (hc : l.length ≤ c) (hs : Strs w p l) (hE : Errs w ad) (h : ¬ 0 < (preferF l n).1) :
    Calls Tryz.prog 23 #[.slice p l.length c, .int .i64 n] w fun e w' => (∃ lb, e = .returned (.tuple #[.func (.func 35) #[] lb, .nilIface]) ∧ Cho w' l n.toNat lb) ∧ Below w.heap.size w w' := by
  obtain ⟨hf, hn⟩ := fine_of h
  have hN : ¬ 0 < (nodesF l).1 := by have := (preferF_fine h).1; omega
  obtain ⟨w1, hw1⟩ : ∃ w1, w1 = w.alloc (.cells #[.int .i64 n] 3) := ⟨_, rfl⟩
  have hb1 : Below w.heap.size w w1 := by rw [hw1]; exact (Below.refl _ _).alloc (Nat.le_refl _) _
  have q0 : w1.cell? ⟨w.heap.size, 0, none⟩ = some (.int .i64 n) := by rw [hw1]; simp
  have HC := check_any ad p l c w1 hl hc (hs.below hb1) (hE.below hb1)
  have HP : Hid (∀ W, Below w1.heap.size w1 W → Calls Tryz.prog 34 #[.slice p l.length c] W fun e w' => (∃ g cap ps, e = .returned (.slice (some ⟨g, 0, none⟩) ps.length cap) ∧ ps.length ≤ cap ∧ W.heap.size ≤ g ∧ Rec pE w' (some ⟨g, 0, none⟩) ps ∧ RingP l ps) ∧ Below W.heap.size W w') := fun W hW => points_any p l c W hf.l1 hf.l2 hf.sz ((hs.below hb1).below hW)
  have HW1 : Hid (w1 = w.alloc (.cells #[.int .i64 n] 3)) := hw1
  have HB1 : Hid (Below w.heap.size w w1) := hb1
  have HQ0 : Hid (w1.cell? ⟨w.heap.size, 0, none⟩ = some (.int .i64 n)) := q0
  have HNN : Hid (((n.toNat : Nat) : Int) = n) := hn
  have d1 : decide ((l.length : Int) < n) = false := decide_eq_false (by have := hf.n; omega)
  have d2 : decide (n < 0) = false := decide_eq_false (by omega)
  clear hw1 hb1 hs hE q0 hn hf h
  go_enter Tryz.func23, Tryz.ntmps23
  go_wp2_with fail
  rw [← HW1.out]
  refine HC.mono ?_
  rintro e w2 ⟨⟨ev, rfl, hI⟩, hb2⟩
  obtain rfl := hI.none (by omega)
  have HB12 : Hid (Below w1.heap.size w1 w2) := hb2
  have HB2 : Hid (Below w.heap.size w w2) := HB1.out.trans (hb2.mono HB1.out.size)
  have q0 : w2.cell? ⟨w.heap.size, 0, none⟩ = some (.int .i64 n) := (hb2.cell (p := ⟨w.heap.size, 0, none⟩) (lt_of_cellC HQ0.out)).trans HQ0.out
  have HQ2 : Hid (w2.cell? ⟨w.heap.size, 0, none⟩ = some (.int .i64 n)) := q0
  clear hb2 HC hI
  go_wp2_with fail
  refine (HP.out w2 HB12.out).mono ?_
  rintro e w3 ⟨⟨g, cap, ps, rfl, h4, h5, h6, h7⟩, hb3⟩
  have HB3 : Hid (Below w.heap.size w w3) := HB2.out.trans (hb3.mono HB2.out.size)
  have HCHO : Hid (Cho (w3.alloc (.cells #[.slice (some ⟨g, 0, none⟩) ps.length cap] 71)) l n.toNat #[.pointer (some ⟨w3.heap.size, 0, none⟩), .pointer (some ⟨w.heap.size, 0, none⟩)]) := by
    have hbe : Below w3.heap.size w3 (w3.alloc (.cells #[.slice (some ⟨g, 0, none⟩) ps.length cap] 71)) := (Below.refl _ _).alloc (Nat.le_refl _) _
    have q3 : w3.cell? ⟨w.heap.size, 0, none⟩ = some (.int .i64 n) := (hb3.cell (p := ⟨w.heap.size, 0, none⟩) (lt_of_cellC HQ2.out)).trans HQ2.out
    refine ⟨w3.heap.size, w.heap.size, g, cap, ps, rfl, by simp, ?_, h4, h6.below hbe, h7⟩
    rw [HNN.out]
    exact (hbe.cell (p := ⟨w.heap.size, 0, none⟩) (lt_of_cellC q3)).trans q3
  clear h4 h5 h6 h7 hb3 HP q0
  generalize ps.length = m at *
  go_wp2
  go_ret2
  exact ⟨⟨_, rfl, HCHO.out⟩, HB3.out.alloc HB3.out.size _⟩
end Go.Proofs.YtakfjkphmfblaaaGreatDoor
