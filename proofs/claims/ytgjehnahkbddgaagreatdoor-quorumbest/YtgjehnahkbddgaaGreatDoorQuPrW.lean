/- Package quorum: Check, Enough. -/
import Derived.Test.YtgjehnahkbddgaaGreatDoorZO
import Derived.Test.YtgjehnahkbddgaaGreatDoorFitsW
namespace Go.Proofs.YtgjehnahkbddgaaGreatDoor
open Go.RowKit
/-- A configuration in a block of its own. -/
structure CfgBox (w : World) (b : Nat) (c : Cfg) (lv : Value) : Prop where
  f0 : w.cell? ⟨b, 0, none⟩ = some (.int .i64 c.n)
  f1 : w.cell? ⟨b, 1, none⟩ = some (.int .i64 c.k)
  f2 : w.cell? ⟨b, 2, none⟩ = some lv
theorem CfgBox.below {w w' : World} {b : Nat} {c : Cfg} {lv : Value} (h : CfgBox w b c lv) (hb : Below w.heap.size w w') : CfgBox w' b c lv :=
  ⟨(hb.cell (lt_of_cellE h.f0)).trans h.f0, (hb.cell (lt_of_cellE h.f0)).trans h.f1, (hb.cell (lt_of_cellE h.f0)).trans h.f2⟩
theorem cfgBox_made (w : World) (c : Cfg) (lv : Value) (t : TypeId) : CfgBox (w.alloc (.cells #[.int .i64 c.n, .int .i64 c.k, lv] t)) w.heap.size c lv :=
  ⟨by rw [World.cell?_alloc_at _ _ _ _ rfl]; rfl, by rw [World.cell?_alloc_at _ _ _ _ rfl]; rfl, by rw [World.cell?_alloc_at _ _ _ _ rfl]; rfl⟩
set_option maxRecDepth 10000 in
set_option maxHeartbeats 4000000 in
theorem qcheck_any (ad : Nat → Addr) (c : Cfg) (p : Option Addr) (cap : Nat) (w : World) (hc : CfgAt w c p cap) (hE : ErrsQ w ad) :
    Calls Tryz.prog 15 #[cfgA c (.slice p c.L.length cap)] w fun e w' => (∃ ev, e = .returned ev ∧ ErrIs w' ad ev (cfgF c).1 (cfgF c).2) ∧ Below w.heap.size w w' := by
  obtain ⟨w1, hw1⟩ : ∃ w1, w1 = w.alloc (.cells #[.int .i64 c.n, .int .i64 c.k, .slice p c.L.length cap] 24) := ⟨_, rfl⟩
  have hb1 : Below w.heap.size w w1 := by rw [hw1]; exact (Below.refl _ _).alloc (Nat.le_refl _) _
  have hx1 : CfgBox w1 w.heap.size c (.slice p c.L.length cap) := by rw [hw1]; exact cfgBox_made w c _ _
  have hE1 := hE.below hb1
  have HCK : Hid (Calls Tryz.prog 26 #[.slice p c.L.length cap] w1 fun e w' => (∃ ev, e = .returned ev ∧ ErrIs w' ad ev (nodesF c.L).1 (nodesF c.L).2) ∧ Below w1.heap.size w1 w') := check_any ad p c.L cap w1 hc.len hc.room (hc.strs.below hb1) hE1
  have HW1 : Hid (w1 = w.alloc (.cells #[.int .i64 c.n, .int .i64 c.k, .slice p c.L.length cap] 24)) := hw1
  have HB1 : Hid (Below w.heap.size w w1) := hb1
  have HMF : Hid (∀ W, Calls Tryz.prog 25 #[.int .i64 c.n, .int .i64 c.k] W fun e w' => e = .returned (.bool (decide (1 ≤ c.k ∧ c.k ≤ c.n ∧ c.n ≤ 12))) ∧ w' = W) := fun W => mfits_any c.n c.k W
  have q1 := hE1.c1
  have q2 := hE1.c2
  have f0 := hx1.f0
  have f1 := hx1.f1
  have f2 := hx1.f2
  have HI1 : Hid (∀ W, ErrIs W ad (.iface 165 (.pointer (some (ad 1)))) 2 (-1)) := fun W => ErrIs.sent 1 (by decide)
  have HI2 : Hid (∀ W, ErrIs W ad (.iface 165 (.pointer (some (ad 2)))) 3 (-1)) := fun W => ErrIs.sent 2 (by decide)
  have hl1 := hc.len
  unfold cfgA
  clear hw1 hb1 hx1 hE1 hE hc
  by_cases hf : 1 ≤ c.k ∧ c.k ≤ c.n ∧ c.n ≤ 12
  · have HMF1 : Hid (∀ W, Calls Tryz.prog 25 #[.int .i64 c.n, .int .i64 c.k] W fun e w' => e = .returned (.bool true) ∧ w' = W) := fun W => by have := HMF.out W; rw [decide_eq_true hf] at this; exact this
    by_cases hn : (c.L.length : Int) = c.n
    · have HF : Hid (cfgF c = nodesF c.L) := cfgF_nodes hf hn
      rw [HF.out]
      obtain ⟨n, k, L⟩ := c
      dsimp only at *
      subst hn
      clear HMF HF hf
      generalize nodesF L = R at *
      go_enter Tryz.func15, Tryz.ntmps15
      go_wp2_with fail
      rw [← HW1.out]
      refine (HMF1.out _).mono ?_
      rintro e w2 ⟨rfl, hw2⟩
      rw [hw2]
      clear hw2 w2 HMF1
      go_wp2_with fail
      refine HCK.out.mono ?_
      rintro e w3 ⟨⟨ev, rfl, hev⟩, hb3⟩
      have HB3 : Hid (Below w.heap.size w w3) := HB1.out.trans (hb3.mono HB1.out.size)
      have HEV : Hid (ErrIs w3 ad ev R.1 R.2) := hev
      clear hev hb3 HCK
      go_wp2
      go_ret
      exact ⟨⟨_, rfl, HEV.out⟩, HB3.out⟩
    · have HF : Hid (cfgF c = (3, -1)) := cfgF_shape hf hn
      rw [HF.out]
      obtain ⟨n, k, L⟩ := c
      dsimp only at *
      clear HMF HF hf HCK
      go_enter Tryz.func15, Tryz.ntmps15
      go_wp2_with fail
      rw [← HW1.out]
      refine (HMF1.out _).mono ?_
      rintro e w2 ⟨rfl, hw2⟩
      rw [hw2]
      clear hw2 w2 HMF1
      go_wp2
      go_ret
      exact ⟨⟨_, rfl, HI2.out _⟩, HB1.out⟩
  · have HF : Hid (cfgF c = (2, -1)) := cfgF_bound hf
    have HMF1 : Hid (∀ W, Calls Tryz.prog 25 #[.int .i64 c.n, .int .i64 c.k] W fun e w' => e = .returned (.bool false) ∧ w' = W) := fun W => by have := HMF.out W; rw [decide_eq_false hf] at this; exact this
    rw [HF.out]
    obtain ⟨n, k, L⟩ := c
    dsimp only at *
    clear HMF HF hf HCK
    go_enter Tryz.func15, Tryz.ntmps15
    go_wp2_with fail
    rw [← HW1.out]
    refine (HMF1.out _).mono ?_
    rintro e w2 ⟨rfl, hw2⟩
    rw [hw2]
    clear hw2 w2 HMF1
    go_wp2
    go_ret
    exact ⟨⟨_, rfl, HI1.out _⟩, HB1.out⟩
set_option maxRecDepth 10000 in
set_option maxHeartbeats 4000000 in
theorem qenough_any (ad : Nat → Addr) (c : Cfg) (p : Option Addr) (cap : Nat) (w : World) (hc : CfgAt w c p cap) (hE : ErrsQ w ad) :
    Calls Tryz.prog 14 #[cfgA c (.slice p c.L.length cap)] w fun e w' => (∃ ev, e = .returned (.tuple #[.int .i64 ((if 0 < (cfgF c).1 then 0 else enoughN c : Nat) : Int), ev]) ∧ ErrIs w' ad ev (cfgF c).1 (cfgF c).2) ∧ Below w.heap.size w w' := by
  obtain ⟨w1, hw1⟩ : ∃ w1, w1 = w.alloc (.cells #[.int .i64 c.n, .int .i64 c.k, .slice p c.L.length cap] 24) := ⟨_, rfl⟩
  have hb1 : Below w.heap.size w w1 := by rw [hw1]; exact (Below.refl _ _).alloc (Nat.le_refl _) _
  have hx1 : CfgBox w1 w.heap.size c (.slice p c.L.length cap) := by rw [hw1]; exact cfgBox_made w c _ _
  have HCK := qcheck_any ad c p cap w1 (hc.below hb1) (hE.below hb1)
  have HW1 : Hid (w1 = w.alloc (.cells #[.int .i64 c.n, .int .i64 c.k, .slice p c.L.length cap] 24)) := hw1
  have HB1 : Hid (Below w.heap.size w w1) := hb1
  have HX1 : Hid (CfgBox w1 w.heap.size c (.slice p c.L.length cap)) := hx1
  have f0 := hx1.f0
  have f1 := hx1.f1
  have f2 := hx1.f2
  unfold cfgA at HCK ⊢
  clear hw1 hb1 hx1 hE hc
  by_cases hp : 0 < (cfgF c).1
  · rw [if_pos hp]
    have HP : Hid (0 < (cfgF c).1) := hp
    clear hp
    generalize cfgF c = R at *
    obtain ⟨n, k, L⟩ := c
    dsimp only at *
    go_enter Tryz.func14, Tryz.ntmps14
    go_wp2_with fail
    rw [← HW1.out]
    refine HCK.mono ?_
    rintro e w3 ⟨⟨ev, rfl, hev⟩, hb3⟩
    have HB3 : Hid (Below w.heap.size w w3) := HB1.out.trans (hb3.mono HB1.out.size)
    have HEV : Hid (ErrIs w3 ad ev R.1 R.2) := hev
    obtain ⟨et, eu, rfl⟩ := hev.some HP.out
    clear hev hb3 HCK
    go_wp2
    go_ret2
    exact ⟨⟨_, rfl, HEV.out⟩, HB3.out⟩
  · obtain ⟨hf, hn, h0, _, _⟩ := cfgF_fine hp
    rw [if_neg hp, h0]
    rw [h0] at HCK
    have HEN : Hid ((c.n + c.k + 1) / 2 = ((enoughN c : Nat) : Int)) := by
      show _ = _
      unfold enoughN
      omega
    have hf1 : 1 ≤ c.k := hf.1
    have hf2 : c.k ≤ c.n := hf.2.1
    have hf3 : c.n ≤ 12 := hf.2.2
    clear hp hn h0 hf
    generalize enoughN c = en at *
    obtain ⟨n, k, L⟩ := c
    dsimp only at *
    go_enter Tryz.func14, Tryz.ntmps14
    go_wp2_with fail
    rw [← HW1.out]
    refine HCK.mono ?_
    rintro e w3 ⟨⟨ev, rfl, hev⟩, hb3⟩
    have HB3 : Hid (Below w.heap.size w w3) := HB1.out.trans (hb3.mono HB1.out.size)
    have hx3 := HX1.out.below hb3
    have g0 := hx3.f0
    have g1 := hx3.f1
    dsimp only at g0 g1
    obtain rfl := ErrIs.isNil hev
    clear hev hb3 HCK hx3 f0 f1 f2
    go_wp2
    go_ret2
    exact ⟨⟨_, by rw [HEN.out]; rfl, ErrIs.nil _ _⟩, HB3.out⟩
end Go.Proofs.YtgjehnahkbddgaaGreatDoor
