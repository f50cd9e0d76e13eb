/- The document's own member: a message that it answers by what it holds. -/
import Derived.Test.YtcoecfpkihakoaaGreatDoorGz16
import Derived.Deep.CutRange
import Derived.Deep.RegionWith
import Derived.Deep.RegionHeld3
import Derived.BigQuiet
namespace Go.Proofs.YtcoecfpkihakoaaGreatDoor
open Go.RowKit
set_option maxRecDepth 10000 in
set_option maxHeartbeats 16000000 in
theorem rmhear_full {w : World} {B : Nat} {S : Nat → Prop} {h : Nat} {m : MMem} {up : Bool} {lv : Value} {bs : List Nat} (hm : RMem w B S h m up lv bs) (hlm : m.L.length ≤ 1000) (x : Msg × Lv) (hx : x.2.2.1 = x.1.L.length) (hl : x.1.L.length ≤ 2932031007317) (hto : x.1.to_ = m.name) (hcf : ¬ x.1.config < 0) (hnm : isN x.1.key = true) (hok : ¬ oddK x.1) (hhd : m.held x.1.config = none) :
    Calls Tryz.prog 13 #[.pointer (some ⟨h, 0, none⟩), .agg #[.string x.1.from_, .string x.1.to_, .string x.1.kind, .string x.1.key, .int .i64 x.1.op, .int .i64 x.1.config, .bool x.1.shut, .slice x.2.1 x.2.2.1 x.2.2.2]] w fun e w' => e = .returned (.slice none 0 0) ∧ Below w.heap.size w w' := by
  obtain ⟨⟨m1, m2, m3, m4, m5, m6, m7, mL⟩, lp, ln, lc⟩ := x
  dsimp only at *
  subst hx
  obtain ⟨w1, hw1⟩ : ∃ w1, w1 = w.alloc (.cells #[.string m1, .string m2, .string m3, .string m4, .int .i64 m5, .int .i64 m6, .bool m7, .slice lp mL.length lc] 44) := ⟨_, rfl⟩
  have hb1 : Below w.heap.size w w1 := by rw [hw1]; exact (Below.refl _ _).alloc (Nat.le_refl _) _
  have hz1 : w1.heap.size = w.heap.size + 1 := by rw [hw1]; simp
  have HM1 : Hid (RMem w1 B S h m up lv bs) := hm.below hb1
  have HSW : Hid (∀ k, S k → k < w.heap.size) := fun k hk => (hm.inB k hk).2
  have c0 := HM1.out.name
  have d1 : w1.cell? ⟨w.heap.size, 1, none⟩ = some (.string m2) := by rw [hw1, World.cell?_alloc_at _ _ _ _ rfl]; rfl
  have d2 : w1.cell? ⟨w.heap.size, 2, none⟩ = some (.string m3) := by rw [hw1, World.cell?_alloc_at _ _ _ _ rfl]; rfl
  have d3 : w1.cell? ⟨w.heap.size, 3, none⟩ = some (.string m4) := by rw [hw1, World.cell?_alloc_at _ _ _ _ rfl]; rfl
  have d5 : w1.cell? ⟨w.heap.size, 5, none⟩ = some (.int .i64 m6) := by rw [hw1, World.cell?_alloc_at _ _ _ _ rfl]; rfl
  have d7 : w1.cell? ⟨w.heap.size, 7, none⟩ = some (.slice lp mL.length lc) := by rw [hw1, World.cell?_alloc_at _ _ _ _ rfl]; rfl
  have HMB : Hid (w1.heap[w.heap.size]? = some (.cells #[.string m1, .string m2, .string m3, .string m4, .int .i64 m5, .int .i64 m6, .bool m7, .slice lp mL.length lc] 44 (0, 0))) := by
    show _ = _
    rw [hw1]
    show (w.heap.push _)[w.heap.size]? = _
    simp
  have HW1 : Hid (w1 = w.alloc (.cells #[.string m1, .string m2, .string m3, .string m4, .int .i64 m5, .int .i64 m6, .bool m7, .slice lp mL.length lc] 44)) := hw1
  have HB1 : Hid (Below w.heap.size w w1 ∧ w1.heap.size = w.heap.size + 1) := ⟨hb1, hz1⟩
  have HIN := isNameBig_any m4 w1
  rw [hnm] at HIN
  have n6 : decide (m6 < 0) = false := decide_eq_false hcf
  have HTO : Hid (m2 = m.name) := hto
  have HCF : Hid (¬ m6 < 0) := hcf
  rw [← HTO.out] at c0
  clear hm hw1 hb1 hz1 hcf hto hnm
  have HHD : Hid (m.held m6 = none) := hhd
  have HOK : ¬ (m3 ≠ ⟨#[108, 111, 111, 107]⟩ ∧ m3 ≠ ⟨#[115, 101, 97, 108]⟩ ∧ (m3 ≠ ⟨#[107, 101, 101, 112]⟩ ∨ mL.length ≠ 1)) := hok
  clear hhd hok
  by_cases g1 : m3 = ⟨#[108, 111, 111, 107]⟩
  · subst g1
    clear HOK
    go_enter Tryz.func13, Tryz.ntmps13
    go_wp2_with (first | rw [← HW1.out] | fail)
    refine HIN.mono ?_
    rintro e w2 ⟨rfl, hw2⟩
    rw [hw2]
    clear hw2 w2 HIN
    go_wp2
    go_quiet (fail)
    generalize hwq : World.drewN w1 _ = wq
    have hbq : Below w1.heap.size w1 wq := by rw [← hwq]; exact below_drewN (Below.refl _ _) _
    have HZQ : Hid (wq.heap.size = w1.heap.size) := by show _ = _; rw [← hwq]; rfl
    have d2q : wq.cell? ⟨w.heap.size, 2, none⟩ = some (.string ⟨#[108, 111, 111, 107]⟩) := by rw [← hwq]; exact d2
    have d5q : wq.cell? ⟨w.heap.size, 5, none⟩ = some (.int .i64 m6) := by rw [← hwq]; exact d5
    have d7q : wq.cell? ⟨w.heap.size, 7, none⟩ = some (.slice lp mL.length lc) := by rw [← hwq]; exact d7
    have HMBQ : Hid (wq.heap[w.heap.size]? = some (.cells #[.string m1, .string m2, .string ⟨#[108, 111, 111, 107]⟩, .string m4, .int .i64 m5, .int .i64 m6, .bool m7, .slice lp mL.length lc] 44 (0, 0))) := by show _ = _; rw [← hwq]; exact HMB.out
    have HBQ : Hid (Below w1.heap.size w1 wq) := hbq
    have HHO := rmhold_any (HM1.out.below hbq) m6 hlm
    clear hwq c0 d1 d2 d3 d5 d7 hbq HMB HW1
    go_wp2_with fail
    refine HHO.mono ?_
    intro e w2 hH
    clear HHO
    rcases hH with ⟨_, rfl, hb⟩ | ⟨m9, _, _, _, h9, _⟩
    · have HB2 : Hid (Below w.heap.size w w2) := HB1.out.1.trans ((HBQ.out.trans (hb.mono HBQ.out.size)).mono HB1.out.1.size)
      clear hb
      go_wp2
      go_ret
      exact ⟨rfl, HB2.out⟩
    · rw [HHD.out] at h9
      cases h9
  by_cases g2 : m3 = ⟨#[115, 101, 97, 108]⟩
  · subst g2
    clear HOK g1
    go_enter Tryz.func13, Tryz.ntmps13
    go_wp2_with (first | rw [← HW1.out] | fail)
    refine HIN.mono ?_
    rintro e w2 ⟨rfl, hw2⟩
    rw [hw2]
    clear hw2 w2 HIN
    go_wp2
    go_quiet (fail)
    generalize hwq : World.drewN w1 _ = wq
    have hbq : Below w1.heap.size w1 wq := by rw [← hwq]; exact below_drewN (Below.refl _ _) _
    have HZQ : Hid (wq.heap.size = w1.heap.size) := by show _ = _; rw [← hwq]; rfl
    have d2q : wq.cell? ⟨w.heap.size, 2, none⟩ = some (.string ⟨#[115, 101, 97, 108]⟩) := by rw [← hwq]; exact d2
    have d5q : wq.cell? ⟨w.heap.size, 5, none⟩ = some (.int .i64 m6) := by rw [← hwq]; exact d5
    have d7q : wq.cell? ⟨w.heap.size, 7, none⟩ = some (.slice lp mL.length lc) := by rw [← hwq]; exact d7
    have HMBQ : Hid (wq.heap[w.heap.size]? = some (.cells #[.string m1, .string m2, .string ⟨#[115, 101, 97, 108]⟩, .string m4, .int .i64 m5, .int .i64 m6, .bool m7, .slice lp mL.length lc] 44 (0, 0))) := by show _ = _; rw [← hwq]; exact HMB.out
    have HBQ : Hid (Below w1.heap.size w1 wq) := hbq
    have HHO := rmhold_any (HM1.out.below hbq) m6 hlm
    clear hwq c0 d1 d2 d3 d5 d7 hbq HMB HW1
    go_wp2_with fail
    refine HHO.mono ?_
    intro e w2 hH
    clear HHO
    rcases hH with ⟨_, rfl, hb⟩ | ⟨m9, _, _, _, h9, _⟩
    · have HB2 : Hid (Below w.heap.size w w2) := HB1.out.1.trans ((HBQ.out.trans (hb.mono HBQ.out.size)).mono HB1.out.1.size)
      clear hb
      go_wp2
      go_ret
      exact ⟨rfl, HB2.out⟩
    · rw [HHD.out] at h9
      cases h9
  by_cases g3 : m3 = ⟨#[107, 101, 101, 112]⟩
  · by_cases g4 : mL.length = 1
    · subst g3
      have HONE : Hid (mL.length = 1) := g4
      clear HOK g1 g2 g4
      go_enter Tryz.func13, Tryz.ntmps13
      go_wp2_with (first | rw [← HW1.out] | fail)
      refine HIN.mono ?_
      rintro e w2 ⟨rfl, hw2⟩
      rw [hw2]
      clear hw2 w2 HIN
      go_wp2
      go_quiet (fail)
      generalize hwq : World.drewN w1 _ = wq
      have hbq : Below w1.heap.size w1 wq := by rw [← hwq]; exact below_drewN (Below.refl _ _) _
      have HZQ : Hid (wq.heap.size = w1.heap.size) := by show _ = _; rw [← hwq]; rfl
      have d2q : wq.cell? ⟨w.heap.size, 2, none⟩ = some (.string ⟨#[107, 101, 101, 112]⟩) := by rw [← hwq]; exact d2
      have d5q : wq.cell? ⟨w.heap.size, 5, none⟩ = some (.int .i64 m6) := by rw [← hwq]; exact d5
      have d7q : wq.cell? ⟨w.heap.size, 7, none⟩ = some (.slice lp mL.length lc) := by rw [← hwq]; exact d7
      rw [HONE.out] at d7q
      have HMBQ : Hid (wq.heap[w.heap.size]? = some (.cells #[.string m1, .string m2, .string ⟨#[107, 101, 101, 112]⟩, .string m4, .int .i64 m5, .int .i64 m6, .bool m7, .slice lp mL.length lc] 44 (0, 0))) := by show _ = _; rw [← hwq]; exact HMB.out
      have HBQ : Hid (Below w1.heap.size w1 wq) := hbq
      have HHO := rmhold_any (HM1.out.below hbq) m6 hlm
      clear hwq c0 d1 d2 d3 d5 d7 hbq HMB HW1
      go_wp2_with fail
      refine HHO.mono ?_
      intro e w2 hH
      clear HHO
      rcases hH with ⟨_, rfl, hb⟩ | ⟨m9, _, _, _, h9, _⟩
      · have HB2 : Hid (Below w.heap.size w w2) := HB1.out.1.trans ((HBQ.out.trans (hb.mono HBQ.out.size)).mono HB1.out.1.size)
        clear hb
        go_wp2
        go_ret
        exact ⟨rfl, HB2.out⟩
      · rw [HHD.out] at h9
        cases h9
    · exact absurd ⟨g1, g2, Or.inr g4⟩ HOK
  · exact absurd ⟨g1, g2, Or.inl g3⟩ HOK
set_option maxRecDepth 10000 in
set_option maxHeartbeats 16000000 in
theorem rmhear_look {w : World} {B : Nat} {S : Nat → Prop} {h : Nat} {m : MMem} {up : Bool} {lv : Value} {bs : List Nat} (hm : RMem w B S h m up lv bs) (hlm : m.L.length ≤ 1000) (x : Msg × Lv) (hx : x.2.2.1 = x.1.L.length) (hl : x.1.L.length ≤ 2932031007317) (hto : x.1.to_ = m.name) (hcf : ¬ x.1.config < 0) (hnm : isN x.1.key = true) (hk : x.1.kind = kLook) {my : MMem} (hhd : m.held x.1.config = some my) (hLl : (cfdAt my.L (cfdI m.L x.1.config)).2.1.length ≤ 900000) :
    Calls Tryz.prog 13 #[.pointer (some ⟨h, 0, none⟩), .agg #[.string x.1.from_, .string x.1.to_, .string x.1.kind, .string x.1.key, .int .i64 x.1.op, .int .i64 x.1.config, .bool x.1.shut, .slice x.2.1 x.2.2.1 x.2.2.2]] w fun e w' => (∃ p c, e = .returned (.slice p 1 c) ∧ MsgsAt w' p [my.out x.1 kTold (cfdAt my.L (cfdI m.L x.1.config)).2.2 (getL (cfdAt my.L (cfdI m.L x.1.config)).2.1 x.1.key)]) ∧ ∃ S' lv' bs', RMem w' B S' h my up lv' bs' ∧ Upd S S' w w' := by
  obtain ⟨⟨m1, m2, m3, m4, m5, m6, m7, mL⟩, lp, ln, lc⟩ := x
  dsimp only at *
  subst hx
  obtain ⟨w1, hw1⟩ : ∃ w1, w1 = w.alloc (.cells #[.string m1, .string m2, .string m3, .string m4, .int .i64 m5, .int .i64 m6, .bool m7, .slice lp mL.length lc] 44) := ⟨_, rfl⟩
  have hb1 : Below w.heap.size w w1 := by rw [hw1]; exact (Below.refl _ _).alloc (Nat.le_refl _) _
  have hz1 : w1.heap.size = w.heap.size + 1 := by rw [hw1]; simp
  have HM1 : Hid (RMem w1 B S h m up lv bs) := hm.below hb1
  have HSW : Hid (∀ k, S k → k < w.heap.size) := fun k hk => (hm.inB k hk).2
  have c0 := HM1.out.name
  have d1 : w1.cell? ⟨w.heap.size, 1, none⟩ = some (.string m2) := by rw [hw1, World.cell?_alloc_at _ _ _ _ rfl]; rfl
  have d2 : w1.cell? ⟨w.heap.size, 2, none⟩ = some (.string m3) := by rw [hw1, World.cell?_alloc_at _ _ _ _ rfl]; rfl
  have d3 : w1.cell? ⟨w.heap.size, 3, none⟩ = some (.string m4) := by rw [hw1, World.cell?_alloc_at _ _ _ _ rfl]; rfl
  have d5 : w1.cell? ⟨w.heap.size, 5, none⟩ = some (.int .i64 m6) := by rw [hw1, World.cell?_alloc_at _ _ _ _ rfl]; rfl
  have d7 : w1.cell? ⟨w.heap.size, 7, none⟩ = some (.slice lp mL.length lc) := by rw [hw1, World.cell?_alloc_at _ _ _ _ rfl]; rfl
  have HMB : Hid (w1.heap[w.heap.size]? = some (.cells #[.string m1, .string m2, .string m3, .string m4, .int .i64 m5, .int .i64 m6, .bool m7, .slice lp mL.length lc] 44 (0, 0))) := by
    show _ = _
    rw [hw1]
    show (w.heap.push _)[w.heap.size]? = _
    simp
  have HW1 : Hid (w1 = w.alloc (.cells #[.string m1, .string m2, .string m3, .string m4, .int .i64 m5, .int .i64 m6, .bool m7, .slice lp mL.length lc] 44)) := hw1
  have HB1 : Hid (Below w.heap.size w w1 ∧ w1.heap.size = w.heap.size + 1) := ⟨hb1, hz1⟩
  have HIN := isNameBig_any m4 w1
  rw [hnm] at HIN
  have n6 : decide (m6 < 0) = false := decide_eq_false hcf
  have HTO : Hid (m2 = m.name) := hto
  have HCF : Hid (¬ m6 < 0) := hcf
  rw [← HTO.out] at c0
  clear hm hw1 hb1 hz1 hcf hto hnm
  have HHD : Hid (m.held m6 = some my) := hhd
  have HNM : Hid (my.name = m.name) := held_name hhd
  have HLL : Hid ((cfdAt my.L (cfdI m.L m6)).2.1.length ≤ 900000) := hLl
  obtain rfl : m3 = ⟨#[108, 111, 111, 107]⟩ := hk
  clear hhd hLl
  go_enter Tryz.func13, Tryz.ntmps13
  go_wp2_with (first | rw [← HW1.out] | fail)
  refine HIN.mono ?_
  rintro e w2 ⟨rfl, hw2⟩
  rw [hw2]
  clear hw2 w2 HIN
  go_wp2
  go_quiet (fail)
  generalize hwq : World.drewN w1 _ = wq
  have hbq : Below w1.heap.size w1 wq := by rw [← hwq]; exact below_drewN (Below.refl _ _) _
  have HZQ : Hid (wq.heap.size = w1.heap.size) := by show _ = _; rw [← hwq]; rfl
  have d2q : wq.cell? ⟨w.heap.size, 2, none⟩ = some (.string ⟨#[108, 111, 111, 107]⟩) := by rw [← hwq]; exact d2
  have d5q : wq.cell? ⟨w.heap.size, 5, none⟩ = some (.int .i64 m6) := by rw [← hwq]; exact d5
  have d7q : wq.cell? ⟨w.heap.size, 7, none⟩ = some (.slice lp mL.length lc) := by rw [← hwq]; exact d7
  have HMBQ : Hid (wq.heap[w.heap.size]? = some (.cells #[.string m1, .string m2, .string ⟨#[108, 111, 111, 107]⟩, .string m4, .int .i64 m5, .int .i64 m6, .bool m7, .slice lp mL.length lc] 44 (0, 0))) := by show _ = _; rw [← hwq]; exact HMB.out
  have HBQ : Hid (Below w1.heap.size w1 wq) := hbq
  have HHO := rmhold_any (HM1.out.below hbq) m6 hlm
  clear hwq c0 d1 d2 d3 d5 d7 hbq HMB HW1
  go_wp2_with fail
  refine HHO.mono ?_
  intro e w2 hH
  clear HHO
  rcases hH with ⟨h9, _⟩ | ⟨m9, S2, lv2, bs2, h9, rfl, hI2, hM2, hU2⟩
  · rw [HHD.out] at h9
    cases h9
  obtain rfl : my = m9 := by rw [HHD.out] at h9; exact Option.some.inj h9
  clear h9
  have hnS : ¬ S w.heap.size := fun hs => by have := HSW.out _ hs; omega
  have hzq : w.heap.size < wq.heap.size := by have := HZQ.out; have := HB1.out.2; omega
  have hmb2 : w2.heap[w.heap.size]? = some (.cells #[.string m1, .string m2, .string ⟨#[108, 111, 111, 107]⟩, .string m4, .int .i64 m5, .int .i64 m6, .bool m7, .slice lp mL.length lc] 44 (0, 0)) := (hU2.block _ hzq hnS).trans HMBQ.out
  have hz2 : w.heap.size < w2.heap.size := Nat.lt_of_lt_of_le hzq hU2.size
  have c0 := hM2.name
  rw [HNM.out, ← HTO.out] at c0
  have d0 : w2.cell? ⟨w.heap.size, 0, none⟩ = some (.string m1) := by simp [World.cell?, hmb2]
  have d2 : w2.cell? ⟨w.heap.size, 2, none⟩ = some (.string ⟨#[108, 111, 111, 107]⟩) := by simp [World.cell?, hmb2]
  have d3 : w2.cell? ⟨w.heap.size, 3, none⟩ = some (.string m4) := by simp [World.cell?, hmb2]
  have d4 : w2.cell? ⟨w.heap.size, 4, none⟩ = some (.int .i64 m5) := by simp [World.cell?, hmb2]
  have d5 : w2.cell? ⟨w.heap.size, 5, none⟩ = some (.int .i64 m6) := by simp [World.cell?, hmb2]
  have HM2 : Hid (RMem w2 B S2 h my up lv2 bs2) := hM2
  have HU2 : Hid (Upd S S2 w w2) := (Upd.of_below (HB1.out.1.trans (HBQ.out.mono HB1.out.1.size))).trans hU2
  have HMB2 : Hid (w2.heap[w.heap.size]? = some (.cells #[.string m1, .string m2, .string ⟨#[108, 111, 111, 107]⟩, .string m4, .int .i64 m5, .int .i64 m6, .bool m7, .slice lp mL.length lc] 44 (0, 0))) := hmb2
  have HI2 : Hid (cfdI m.L m6 < my.L.length) := hI2
  have HMH : Hid (MHold w2 (blkAt bs2 (cfdI m.L m6)) (cfdAt my.L (cfdI m.L m6)).2.1 (cfdAt my.L (cfdI m.L m6)).2.2) := hM2.hold _ hI2
  have HNB : Hid (¬ S2 w.heap.size) := fun hs => (hU2.new _ hs).elim hnS (by omega)
  have HIB : Hid (cfdI m.L m6 < bs2.length) := by show _ < _; rw [hM2.len]; exact hI2
  have HBK : Hid (S2 (blkAt bs2 (cfdI m.L m6))) := (hM2.sB _ HIB.out).1
  have hbl2 : blkAt bs2 (cfdI m.L m6) < w2.heap.size := (hM2.inB _ HBK.out).2
  have HZ2 : Hid (w.heap.size < w2.heap.size) := hz2
  have HLT : Hid (blkAt bs2 (cfdI m.L m6) < w2.heap.size) := hbl2
  clear hM2 hU2 hmb2 hI2 HMBQ HBQ hnS hzq HM1 HZQ d2q d5q d7q
  generalize hii : cfdI m.L m6 = ii at *
  generalize hbb : blkAt bs2 ii = hb at *
  obtain ⟨Lh, hLh⟩ : ∃ Lh, Lh = (cfdAt my.L ii).2.1 := ⟨_, rfl⟩
  obtain ⟨sh, hsh⟩ : ∃ sh, sh = (cfdAt my.L ii).2.2 := ⟨_, rfl⟩
  rw [← hLh, ← hsh] at HMH
  have HLH : Hid (Lh = (cfdAt my.L ii).2.1) := hLh
  have HSH : Hid (sh = (cfdAt my.L ii).2.2) := hsh
  have HBB : Hid (blkAt bs2 ii = hb) := hbb
  have HII : Hid (cfdI m.L m6 = ii) := hii
  clear hLh hsh hbb hii
  go_wp2
  have hh2 : h < w2.heap.size := (HM2.out.inB h HM2.out.self).2
  have HSS : Hid (∀ W, Below w2.heap.size w2 W → (W.cell? ⟨h, 0, none⟩ = some (.string m2) ∧ W.cell? ⟨w.heap.size, 0, none⟩ = some (.string m1) ∧ W.cell? ⟨w.heap.size, 3, none⟩ = some (.string m4) ∧ W.cell? ⟨w.heap.size, 4, none⟩ = some (.int .i64 m5) ∧ W.cell? ⟨w.heap.size, 5, none⟩ = some (.int .i64 m6) ∧ Below w2.heap.size w2 W)) := fun W hW => ⟨(hW.cell (p := ⟨h, 0, none⟩) hh2).trans c0, (hW.cell (p := ⟨w.heap.size, 0, none⟩) hz2).trans d0, (hW.cell (p := ⟨w.heap.size, 3, none⟩) hz2).trans d3, (hW.cell (p := ⟨w.heap.size, 4, none⟩) hz2).trans d4, (hW.cell (p := ⟨w.heap.size, 5, none⟩) hz2).trans d5, hW⟩
  clear c0 d0 d2 d3 d4 d5 hh2 hz2
  go_cut [7] from 53 to 112 (fun v W => v = .pointer (some ⟨w2.heap.size, 0, none⟩) ∧ W = (w2.alloc (.cells #[.string m2, .string m1, .string ⟨#[]⟩, .string m4, .int .i64 m5, .int .i64 m6, .bool false, .slice none 0 0] 44)).drew)
  case first =>
    go_region_held3 (fun W => (W.cell? ⟨h, 0, none⟩ = some (.string m2) ∧ W.cell? ⟨w.heap.size, 0, none⟩ = some (.string m1) ∧ W.cell? ⟨w.heap.size, 3, none⟩ = some (.string m4) ∧ W.cell? ⟨w.heap.size, 4, none⟩ = some (.int .i64 m5) ∧ W.cell? ⟨w.heap.size, 5, none⟩ = some (.int .i64 m6) ∧ Below w2.heap.size w2 W)) (first | assumption | exact HSS.out _ (Below.refl _ _).drew | exact HSS.out _ ((Below.refl _ _).alloc (Nat.le_refl _) _).drew) (fail)
    all_goals (go_wp2_with fail; go_meet)
    all_goals exact ⟨rfl, rfl⟩
  case rest =>
    clear HSS
    obtain ⟨rfl, hwc⟩ := hcut
    obtain ⟨w4, rfl⟩ : ∃ w4, w4 = wc := ⟨_, rfl⟩
    have hbl4 : w4.heap[w2.heap.size]? = some (.cells #[.string m2, .string m1, .string ⟨#[]⟩, .string m4, .int .i64 m5, .int .i64 m6, .bool false, .slice none 0 0] 44 (0, 0)) := by
      rw [hwc]
      show (w2.heap.push _)[w2.heap.size]? = _
      simp
    have hb4 : Below w2.heap.size w2 w4 := by rw [hwc]; exact ((Below.refl _ _).alloc (Nat.le_refl _) _).drew
    have hz4 : w4.heap.size = w2.heap.size + 1 := by rw [hwc]; show (w2.alloc _).heap.size = _; simp
    clear hwc
    generalize hob : w2.heap.size = ob at *
    have HOB : Hid (w2.heap.size = ob) := hob
    have HB4 : Hid (Below ob w2 w4) := hb4
    have HZ4 : Hid (w4.heap.size = ob + 1) := hz4
    have HNW : Hid (ob ≠ w.heap.size ∧ ob ≠ hb ∧ w.heap.size ≠ hb) := by have := HZ2.out; have := HLT.out; exact ⟨by omega, by omega, fun e => HNB.out (by rw [e]; exact HBK.out)⟩
    have HMH4 : Hid (MHold w4 hb Lh sh) := HMH.out.below (by rw [HOB.out]; exact hb4)
    have hmb4 : w4.heap[w.heap.size]? = some (.cells #[.string m1, .string m2, .string ⟨#[108, 111, 111, 107]⟩, .string m4, .int .i64 m5, .int .i64 m6, .bool m7, .slice lp mL.length lc] 44 (0, 0)) := (hb4.block _ HZ2.out).trans HMB2.out
    have HMB4 : Hid (w4.heap[w.heap.size]? = some (.cells #[.string m1, .string m2, .string ⟨#[108, 111, 111, 107]⟩, .string m4, .int .i64 m5, .int .i64 m6, .bool m7, .slice lp mL.length lc] 44 (0, 0))) := hmb4
    have HBL4 : Hid (w4.heap[ob]? = some (.cells #[.string m2, .string m1, .string ⟨#[]⟩, .string m4, .int .i64 m5, .int .i64 m6, .bool false, .slice none 0 0] 44 (0, 0))) := hbl4
    have HROW : Hid (Lh ≠ [] → ∀ b o n c, w2.cell? ⟨hb, 0, none⟩ = some (.slice (some ⟨b, o, none⟩) n c) → b < ob) := fun hL b o n c e => by
      obtain ⟨p, c', q0, hr, _⟩ := HMH.out.row
      rcases hr with hr | ⟨b1, o1, hp, hl1, _⟩
      · exact absurd hr hL
      · rw [e, hp] at q0
        injection q0 with q0
        injection q0 with q0
        injection q0 with q0
        injection q0 with q0
        rw [q0, ← HOB.out]
        exact hl1
    clear hob hb4 hz4
    have k2 : w4.cell? ⟨w.heap.size, 2, none⟩ = some (.string ⟨#[108, 111, 111, 107]⟩) := by simp [World.cell?, hmb4]
    have o2 : w4.cell? ⟨ob, 2, none⟩ = some (.string ⟨#[]⟩) := by simp [World.cell?, hbl4]
    have f2 : w4.frozen? ⟨ob, 2, none⟩ = false := by simp [World.frozen?, hbl4]
    obtain ⟨w5, hw5⟩ : ∃ w5, w5 = w4.setCell ⟨ob, 2, none⟩ (.string ⟨#[116, 111, 108, 100]⟩) := ⟨_, rfl⟩
    have hbl5 : w5.heap[ob]? = some (.cells #[.string m2, .string m1, .string ⟨#[116, 111, 108, 100]⟩, .string m4, .int .i64 m5, .int .i64 m6, .bool false, .slice none 0 0] 44 (0, 0)) := by rw [hw5]; exact blk_setG hbl4 2 _
    have ht5 : ∀ k, k ≠ ob → w5.heap[k]? = w4.heap[k]? := fun k hk => by rw [hw5]; exact Below.heap_setCell _ _ _ _ hk
    have s1 : w5.cell? ⟨hb, 1, none⟩ = some (.bool sh) := (World.cell?_of_block (a := ⟨hb, 1, none⟩) (ht5 hb (fun e => HNW.out.2.1 e.symm))).trans HMH4.out.sealed_
    have o6 : w5.cell? ⟨ob, 6, none⟩ = some (.bool false) := by simp [World.cell?, hbl5]
    have f6 : w5.frozen? ⟨ob, 6, none⟩ = false := by simp [World.frozen?, hbl5]
    obtain ⟨w6, hw6⟩ : ∃ w6, w6 = w5.setCell ⟨ob, 6, none⟩ (.bool sh) := ⟨_, rfl⟩
    have hbl6 : w6.heap[ob]? = some (.cells #[.string m2, .string m1, .string ⟨#[116, 111, 108, 100]⟩, .string m4, .int .i64 m5, .int .i64 m6, .bool sh, .slice none 0 0] 44 (0, 0)) := by rw [hw6]; exact blk_setG hbl5 6 _
    have ht6 : ∀ k, k ≠ ob → w6.heap[k]? = w4.heap[k]? := fun k hk => by rw [hw6]; exact (Below.heap_setCell _ _ _ _ hk).trans (ht5 k hk)
    have hz6 : w6.heap.size = w4.heap.size := by rw [hw6, hw5]; simp [World.setCell]
    have hmb6 : w6.heap[w.heap.size]? = some (.cells #[.string m1, .string m2, .string ⟨#[108, 111, 111, 107]⟩, .string m4, .int .i64 m5, .int .i64 m6, .bool m7, .slice lp mL.length lc] 44 (0, 0)) := (ht6 _ (fun e => HNW.out.1 e.symm)).trans HMB4.out
    have ht46 : Below ob w4 w6 := ⟨by rw [hw6, hw5]; rfl, by rw [hw6, hw5]; rfl, by rw [hw6, hw5]; rfl, by omega, fun k hk => ht6 k (by omega)⟩
    have hm6 : MHold w6 hb Lh sh := HMH.out.below (by rw [HOB.out]; exact HB4.out.trans ht46)
    have HGE := rget_any hb Lh sh m4 w6 (by rw [HLH.out]; have := HLL.out; omega) hm6
    have k3 : w6.cell? ⟨w.heap.size, 3, none⟩ = some (.string m4) := by simp [World.cell?, hmb6]
    have HBL6 : Hid (w6.heap[ob]? = some (.cells #[.string m2, .string m1, .string ⟨#[116, 111, 108, 100]⟩, .string m4, .int .i64 m5, .int .i64 m6, .bool sh, .slice none 0 0] 44 (0, 0))) := hbl6
    have HT6 : Hid (Below ob w4 w6) := ht46
    have HZ6 : Hid (w6.heap.size = w4.heap.size) := hz6
    have HW5 : Hid (w5 = w4.setCell ⟨ob, 2, none⟩ (.string ⟨#[116, 111, 108, 100]⟩)) := hw5
    have HW6 : Hid (w6 = w5.setCell ⟨ob, 6, none⟩ (.bool sh)) := hw6
    clear hw5 hw6 hbl4 hbl5 hbl6 hmb4 hmb6 ht5 ht6 hz6 hm6 ht46
    go_wp2_with (first | rw [← HW5.out] | rw [← HW6.out])
    refine HGE.mono ?_
    rintro e w7 ⟨⟨v, rfl, hO7⟩, hb7⟩
    obtain ⟨pv, cv, rfl, hr7, hc7, hn7, hv7⟩ := hO7.form
    have hobz : ob < w6.heap.size := by have := HZ6.out; have := HZ4.out; omega
    have hbl7 : w7.heap[ob]? = some (.cells #[.string m2, .string m1, .string ⟨#[116, 111, 108, 100]⟩, .string m4, .int .i64 m5, .int .i64 m6, .bool sh, .slice none 0 0] 44 (0, 0)) := (hb7.block ob hobz).trans HBL6.out
    have o7 : w7.cell? ⟨ob, 7, none⟩ = some (.slice none 0 0) := by simp [World.cell?, hbl7]
    have f7 : w7.frozen? ⟨ob, 7, none⟩ = false := by simp [World.frozen?, hbl7]
    obtain ⟨w8, hw8⟩ : ∃ w8, w8 = w7.setCell ⟨ob, 7, none⟩ (.slice pv (getL Lh m4).length cv) := ⟨_, rfl⟩
    have hbl8 : w8.heap[ob]? = some (.cells #[.string m2, .string m1, .string ⟨#[116, 111, 108, 100]⟩, .string m4, .int .i64 m5, .int .i64 m6, .bool sh, .slice pv (getL Lh m4).length cv] 44 (0, 0)) := by rw [hw8]; exact blk_setG hbl7 7 _
    have HW8 : Hid (w8 = w7.setCell ⟨ob, 7, none⟩ (.slice pv (getL Lh m4).length cv)) := hw8
    have q0 : w8.cell? ⟨ob, 0, none⟩ = some (.string m2) := by simp [World.cell?, hbl8]
    have q1 : w8.cell? ⟨ob, 1, none⟩ = some (.string m1) := by simp [World.cell?, hbl8]
    have q2 : w8.cell? ⟨ob, 2, none⟩ = some (.string ⟨#[116, 111, 108, 100]⟩) := by simp [World.cell?, hbl8]
    have q3 : w8.cell? ⟨ob, 3, none⟩ = some (.string m4) := by simp [World.cell?, hbl8]
    have q4 : w8.cell? ⟨ob, 4, none⟩ = some (.int .i64 m5) := by simp [World.cell?, hbl8]
    have q5 : w8.cell? ⟨ob, 5, none⟩ = some (.int .i64 m6) := by simp [World.cell?, hbl8]
    have q6 : w8.cell? ⟨ob, 6, none⟩ = some (.bool sh) := by simp [World.cell?, hbl8]
    have q7 : w8.cell? ⟨ob, 7, none⟩ = some (.slice pv (getL Lh m4).length cv) := by simp [World.cell?, hbl8]
    have HFIN : Hid (∀ w9, w9 = w8.alloc (.cells #[.string m2, .string m1, .string ⟨#[116, 111, 108, 100]⟩, .string m4, .int .i64 m5, .int .i64 m6, .bool sh, .slice pv (getL Lh m4).length cv] 44) → MsgsAt w9 (some ⟨w8.heap.size, 0, none⟩) [⟨m2, m1, kTold, m4, m5, m6, sh, getL Lh m4⟩] ∧ RMem w9 B S2 h my up lv2 bs2 ∧ Upd S S2 w w9) := fun w9 hw9 => by
      have h78 : Below ob w7 w8 := by rw [hw8]; exact (Below.refl ob w7).setCell (p := ⟨ob, 7, none⟩) (Nat.le_refl ob) _
      have h28 : Below ob w2 w8 := HB4.out.trans (HT6.out.trans ((hb7.mono (by omega)).trans h78))
      have h89 : Below w8.heap.size w8 w9 := by rw [hw9]; exact (Below.refl _ _).alloc (Nat.le_refl _) _
      have ho8 : ob ≤ w8.heap.size := by have := h28.size; have := HOB.out; omega
      have h29 : Below w2.heap.size w2 w9 := by rw [HOB.out]; exact h28.trans (h89.mono ho8)
      have hO8 : OwnR verE 59 w8 w6.heap.size (.slice pv (getL Lh m4).length cv) (getL Lh m4) := hO7.sameE fun k hk => by rw [hw8]; exact Below.heap_setCell _ _ _ _ (by have := (hO7.block hk).1; show k ≠ ob; omega)
      refine ⟨one_msg (x := (⟨m2, m1, kTold, m4, m5, m6, sh, getL Lh m4⟩, (pv, (getL Lh m4).length, cv))) (t := 44) ?_ (hasL_own (hO8.kept h89)), HM2.out.below h29, HU2.out.trans (Upd.of_below h29)⟩
      rw [hw9]
      show (w8.heap.push _)[w8.heap.size]? = _
      simp
      rfl
    clear hO7 hb7 hr7 hc7 hn7 hv7 hbl7 hbl8 hw8 hobz
    go_wp2_with (first | rw [← HW8.out])
    go_ret
    obtain ⟨a1, a2, a3⟩ := HFIN.out _ rfl
    refine ⟨⟨_, 1, rfl, ?_⟩, S2, lv2, bs2, a2, a3⟩
    show MsgsAt _ _ [⟨my.name, m1, kTold, m4, m5, m6, _, _⟩]
    rw [HNM.out, ← HTO.out, HII.out, ← HSH.out, ← HLH.out]
    exact a1
set_option maxRecDepth 10000 in
set_option maxHeartbeats 16000000 in
theorem rmhear_seal {w : World} {B : Nat} {S : Nat → Prop} {h : Nat} {m : MMem} {up : Bool} {lv : Value} {bs : List Nat} (hm : RMem w B S h m up lv bs) (hlm : m.L.length ≤ 1000) (x : Msg × Lv) (hx : x.2.2.1 = x.1.L.length) (hl : x.1.L.length ≤ 2932031007317) (hto : x.1.to_ = m.name) (hcf : ¬ x.1.config < 0) (hnm : isN x.1.key = true) (hk : x.1.kind = kSeal) {my : MMem} (hhd : m.held x.1.config = some my) (hLl : (cfdAt my.L (cfdI m.L x.1.config)).2.1.length ≤ 900000) :
    Calls Tryz.prog 13 #[.pointer (some ⟨h, 0, none⟩), .agg #[.string x.1.from_, .string x.1.to_, .string x.1.kind, .string x.1.key, .int .i64 x.1.op, .int .i64 x.1.config, .bool x.1.shut, .slice x.2.1 x.2.2.1 x.2.2.2]] w fun e w' => (∃ p c, e = .returned (.slice p 1 c) ∧ MsgsAt w' p [my.out x.1 kShut false (getL (cfdAt my.L (cfdI m.L x.1.config)).2.1 x.1.key)]) ∧ ∃ S' lv' bs', RMem w' B S' h (my.put (cfdI m.L x.1.config) ((cfdAt my.L (cfdI m.L x.1.config)).2.1, true)) up lv' bs' ∧ Upd S S' w w' := by
  obtain ⟨⟨m1, m2, m3, m4, m5, m6, m7, mL⟩, lp, ln, lc⟩ := x
  dsimp only at *
  subst hx
  obtain ⟨w1, hw1⟩ : ∃ w1, w1 = w.alloc (.cells #[.string m1, .string m2, .string m3, .string m4, .int .i64 m5, .int .i64 m6, .bool m7, .slice lp mL.length lc] 44) := ⟨_, rfl⟩
  have hb1 : Below w.heap.size w w1 := by rw [hw1]; exact (Below.refl _ _).alloc (Nat.le_refl _) _
  have hz1 : w1.heap.size = w.heap.size + 1 := by rw [hw1]; simp
  have HM1 : Hid (RMem w1 B S h m up lv bs) := hm.below hb1
  have HSW : Hid (∀ k, S k → k < w.heap.size) := fun k hk => (hm.inB k hk).2
  have c0 := HM1.out.name
  have d1 : w1.cell? ⟨w.heap.size, 1, none⟩ = some (.string m2) := by rw [hw1, World.cell?_alloc_at _ _ _ _ rfl]; rfl
  have d2 : w1.cell? ⟨w.heap.size, 2, none⟩ = some (.string m3) := by rw [hw1, World.cell?_alloc_at _ _ _ _ rfl]; rfl
  have d3 : w1.cell? ⟨w.heap.size, 3, none⟩ = some (.string m4) := by rw [hw1, World.cell?_alloc_at _ _ _ _ rfl]; rfl
  have d5 : w1.cell? ⟨w.heap.size, 5, none⟩ = some (.int .i64 m6) := by rw [hw1, World.cell?_alloc_at _ _ _ _ rfl]; rfl
  have d7 : w1.cell? ⟨w.heap.size, 7, none⟩ = some (.slice lp mL.length lc) := by rw [hw1, World.cell?_alloc_at _ _ _ _ rfl]; rfl
  have HMB : Hid (w1.heap[w.heap.size]? = some (.cells #[.string m1, .string m2, .string m3, .string m4, .int .i64 m5, .int .i64 m6, .bool m7, .slice lp mL.length lc] 44 (0, 0))) := by
    show _ = _
    rw [hw1]
    show (w.heap.push _)[w.heap.size]? = _
    simp
  have HW1 : Hid (w1 = w.alloc (.cells #[.string m1, .string m2, .string m3, .string m4, .int .i64 m5, .int .i64 m6, .bool m7, .slice lp mL.length lc] 44)) := hw1
  have HB1 : Hid (Below w.heap.size w w1 ∧ w1.heap.size = w.heap.size + 1) := ⟨hb1, hz1⟩
  have HIN := isNameBig_any m4 w1
  rw [hnm] at HIN
  have n6 : decide (m6 < 0) = false := decide_eq_false hcf
  have HTO : Hid (m2 = m.name) := hto
  have HCF : Hid (¬ m6 < 0) := hcf
  rw [← HTO.out] at c0
  clear hm hw1 hb1 hz1 hcf hto hnm
  have HHD : Hid (m.held m6 = some my) := hhd
  have HNM : Hid (my.name = m.name) := held_name hhd
  have HLL : Hid ((cfdAt my.L (cfdI m.L m6)).2.1.length ≤ 900000) := hLl
  obtain rfl : m3 = ⟨#[115, 101, 97, 108]⟩ := hk
  clear hhd hLl
  go_enter Tryz.func13, Tryz.ntmps13
  go_wp2_with (first | rw [← HW1.out] | fail)
  refine HIN.mono ?_
  rintro e w2 ⟨rfl, hw2⟩
  rw [hw2]
  clear hw2 w2 HIN
  go_wp2
  go_quiet (fail)
  generalize hwq : World.drewN w1 _ = wq
  have hbq : Below w1.heap.size w1 wq := by rw [← hwq]; exact below_drewN (Below.refl _ _) _
  have HZQ : Hid (wq.heap.size = w1.heap.size) := by show _ = _; rw [← hwq]; rfl
  have d2q : wq.cell? ⟨w.heap.size, 2, none⟩ = some (.string ⟨#[115, 101, 97, 108]⟩) := by rw [← hwq]; exact d2
  have d5q : wq.cell? ⟨w.heap.size, 5, none⟩ = some (.int .i64 m6) := by rw [← hwq]; exact d5
  have d7q : wq.cell? ⟨w.heap.size, 7, none⟩ = some (.slice lp mL.length lc) := by rw [← hwq]; exact d7
  have HMBQ : Hid (wq.heap[w.heap.size]? = some (.cells #[.string m1, .string m2, .string ⟨#[115, 101, 97, 108]⟩, .string m4, .int .i64 m5, .int .i64 m6, .bool m7, .slice lp mL.length lc] 44 (0, 0))) := by show _ = _; rw [← hwq]; exact HMB.out
  have HBQ : Hid (Below w1.heap.size w1 wq) := hbq
  have HHO := rmhold_any (HM1.out.below hbq) m6 hlm
  clear hwq c0 d1 d2 d3 d5 d7 hbq HMB HW1
  go_wp2_with fail
  refine HHO.mono ?_
  intro e w2 hH
  clear HHO
  rcases hH with ⟨h9, _⟩ | ⟨m9, S2, lv2, bs2, h9, rfl, hI2, hM2, hU2⟩
  · rw [HHD.out] at h9
    cases h9
  obtain rfl : my = m9 := by rw [HHD.out] at h9; exact Option.some.inj h9
  clear h9
  have hnS : ¬ S w.heap.size := fun hs => by have := HSW.out _ hs; omega
  have hzq : w.heap.size < wq.heap.size := by have := HZQ.out; have := HB1.out.2; omega
  have hmb2 : w2.heap[w.heap.size]? = some (.cells #[.string m1, .string m2, .string ⟨#[115, 101, 97, 108]⟩, .string m4, .int .i64 m5, .int .i64 m6, .bool m7, .slice lp mL.length lc] 44 (0, 0)) := (hU2.block _ hzq hnS).trans HMBQ.out
  have hz2 : w.heap.size < w2.heap.size := Nat.lt_of_lt_of_le hzq hU2.size
  have c0 := hM2.name
  rw [HNM.out, ← HTO.out] at c0
  have d0 : w2.cell? ⟨w.heap.size, 0, none⟩ = some (.string m1) := by simp [World.cell?, hmb2]
  have d2 : w2.cell? ⟨w.heap.size, 2, none⟩ = some (.string ⟨#[115, 101, 97, 108]⟩) := by simp [World.cell?, hmb2]
  have d3 : w2.cell? ⟨w.heap.size, 3, none⟩ = some (.string m4) := by simp [World.cell?, hmb2]
  have d4 : w2.cell? ⟨w.heap.size, 4, none⟩ = some (.int .i64 m5) := by simp [World.cell?, hmb2]
  have d5 : w2.cell? ⟨w.heap.size, 5, none⟩ = some (.int .i64 m6) := by simp [World.cell?, hmb2]
  have HM2 : Hid (RMem w2 B S2 h my up lv2 bs2) := hM2
  have HU2 : Hid (Upd S S2 w w2) := (Upd.of_below (HB1.out.1.trans (HBQ.out.mono HB1.out.1.size))).trans hU2
  have HMB2 : Hid (w2.heap[w.heap.size]? = some (.cells #[.string m1, .string m2, .string ⟨#[115, 101, 97, 108]⟩, .string m4, .int .i64 m5, .int .i64 m6, .bool m7, .slice lp mL.length lc] 44 (0, 0))) := hmb2
  have HI2 : Hid (cfdI m.L m6 < my.L.length) := hI2
  have HMH : Hid (MHold w2 (blkAt bs2 (cfdI m.L m6)) (cfdAt my.L (cfdI m.L m6)).2.1 (cfdAt my.L (cfdI m.L m6)).2.2) := hM2.hold _ hI2
  have HNB : Hid (¬ S2 w.heap.size) := fun hs => (hU2.new _ hs).elim hnS (by omega)
  have HIB : Hid (cfdI m.L m6 < bs2.length) := by show _ < _; rw [hM2.len]; exact hI2
  have HBK : Hid (S2 (blkAt bs2 (cfdI m.L m6))) := (hM2.sB _ HIB.out).1
  have hbl2 : blkAt bs2 (cfdI m.L m6) < w2.heap.size := (hM2.inB _ HBK.out).2
  have HZ2 : Hid (w.heap.size < w2.heap.size) := hz2
  have HLT : Hid (blkAt bs2 (cfdI m.L m6) < w2.heap.size) := hbl2
  clear hM2 hU2 hmb2 hI2 HMBQ HBQ hnS hzq HM1 HZQ d2q d5q d7q
  generalize hii : cfdI m.L m6 = ii at *
  generalize hbb : blkAt bs2 ii = hb at *
  obtain ⟨Lh, hLh⟩ : ∃ Lh, Lh = (cfdAt my.L ii).2.1 := ⟨_, rfl⟩
  obtain ⟨sh, hsh⟩ : ∃ sh, sh = (cfdAt my.L ii).2.2 := ⟨_, rfl⟩
  rw [← hLh, ← hsh] at HMH
  have HLH : Hid (Lh = (cfdAt my.L ii).2.1) := hLh
  have HSH : Hid (sh = (cfdAt my.L ii).2.2) := hsh
  have HBB : Hid (blkAt bs2 ii = hb) := hbb
  have HII : Hid (cfdI m.L m6 = ii) := hii
  clear hLh hsh hbb hii
  go_wp2
  have hh2 : h < w2.heap.size := (HM2.out.inB h HM2.out.self).2
  have HSS : Hid (∀ W, Below w2.heap.size w2 W → (W.cell? ⟨h, 0, none⟩ = some (.string m2) ∧ W.cell? ⟨w.heap.size, 0, none⟩ = some (.string m1) ∧ W.cell? ⟨w.heap.size, 3, none⟩ = some (.string m4) ∧ W.cell? ⟨w.heap.size, 4, none⟩ = some (.int .i64 m5) ∧ W.cell? ⟨w.heap.size, 5, none⟩ = some (.int .i64 m6) ∧ Below w2.heap.size w2 W)) := fun W hW => ⟨(hW.cell (p := ⟨h, 0, none⟩) hh2).trans c0, (hW.cell (p := ⟨w.heap.size, 0, none⟩) hz2).trans d0, (hW.cell (p := ⟨w.heap.size, 3, none⟩) hz2).trans d3, (hW.cell (p := ⟨w.heap.size, 4, none⟩) hz2).trans d4, (hW.cell (p := ⟨w.heap.size, 5, none⟩) hz2).trans d5, hW⟩
  clear c0 d0 d2 d3 d4 d5 hh2 hz2
  go_cut [7] from 53 to 112 (fun v W => v = .pointer (some ⟨w2.heap.size, 0, none⟩) ∧ W = (w2.alloc (.cells #[.string m2, .string m1, .string ⟨#[]⟩, .string m4, .int .i64 m5, .int .i64 m6, .bool false, .slice none 0 0] 44)).drew)
  case first =>
    go_region_held3 (fun W => (W.cell? ⟨h, 0, none⟩ = some (.string m2) ∧ W.cell? ⟨w.heap.size, 0, none⟩ = some (.string m1) ∧ W.cell? ⟨w.heap.size, 3, none⟩ = some (.string m4) ∧ W.cell? ⟨w.heap.size, 4, none⟩ = some (.int .i64 m5) ∧ W.cell? ⟨w.heap.size, 5, none⟩ = some (.int .i64 m6) ∧ Below w2.heap.size w2 W)) (first | assumption | exact HSS.out _ (Below.refl _ _).drew | exact HSS.out _ ((Below.refl _ _).alloc (Nat.le_refl _) _).drew) (fail)
    all_goals (go_wp2_with fail; go_meet)
    all_goals exact ⟨rfl, rfl⟩
  case rest =>
    clear HSS
    obtain ⟨rfl, hwc⟩ := hcut
    obtain ⟨w4, rfl⟩ : ∃ w4, w4 = wc := ⟨_, rfl⟩
    have hbl4 : w4.heap[w2.heap.size]? = some (.cells #[.string m2, .string m1, .string ⟨#[]⟩, .string m4, .int .i64 m5, .int .i64 m6, .bool false, .slice none 0 0] 44 (0, 0)) := by
      rw [hwc]
      show (w2.heap.push _)[w2.heap.size]? = _
      simp
    have hb4 : Below w2.heap.size w2 w4 := by rw [hwc]; exact ((Below.refl _ _).alloc (Nat.le_refl _) _).drew
    have hz4 : w4.heap.size = w2.heap.size + 1 := by rw [hwc]; show (w2.alloc _).heap.size = _; simp
    clear hwc
    generalize hob : w2.heap.size = ob at *
    have HOB : Hid (w2.heap.size = ob) := hob
    have HB4 : Hid (Below ob w2 w4) := hb4
    have HZ4 : Hid (w4.heap.size = ob + 1) := hz4
    have HNW : Hid (ob ≠ w.heap.size ∧ ob ≠ hb ∧ w.heap.size ≠ hb) := by have := HZ2.out; have := HLT.out; exact ⟨by omega, by omega, fun e => HNB.out (by rw [e]; exact HBK.out)⟩
    have HMH4 : Hid (MHold w4 hb Lh sh) := HMH.out.below (by rw [HOB.out]; exact hb4)
    have hmb4 : w4.heap[w.heap.size]? = some (.cells #[.string m1, .string m2, .string ⟨#[115, 101, 97, 108]⟩, .string m4, .int .i64 m5, .int .i64 m6, .bool m7, .slice lp mL.length lc] 44 (0, 0)) := (hb4.block _ HZ2.out).trans HMB2.out
    have HMB4 : Hid (w4.heap[w.heap.size]? = some (.cells #[.string m1, .string m2, .string ⟨#[115, 101, 97, 108]⟩, .string m4, .int .i64 m5, .int .i64 m6, .bool m7, .slice lp mL.length lc] 44 (0, 0))) := hmb4
    have HBL4 : Hid (w4.heap[ob]? = some (.cells #[.string m2, .string m1, .string ⟨#[]⟩, .string m4, .int .i64 m5, .int .i64 m6, .bool false, .slice none 0 0] 44 (0, 0))) := hbl4
    have HROW : Hid (Lh ≠ [] → ∀ b o n c, w2.cell? ⟨hb, 0, none⟩ = some (.slice (some ⟨b, o, none⟩) n c) → b < ob) := fun hL b o n c e => by
      obtain ⟨p, c', q0, hr, _⟩ := HMH.out.row
      rcases hr with hr | ⟨b1, o1, hp, hl1, _⟩
      · exact absurd hr hL
      · rw [e, hp] at q0
        injection q0 with q0
        injection q0 with q0
        injection q0 with q0
        injection q0 with q0
        rw [q0, ← HOB.out]
        exact hl1
    clear hob hb4 hz4
    have k2 : w4.cell? ⟨w.heap.size, 2, none⟩ = some (.string ⟨#[115, 101, 97, 108]⟩) := by simp [World.cell?, hmb4]
    have s1 := HMH4.out.sealed_
    have sf1 := HMH4.out.free1
    obtain ⟨w5, hw5⟩ : ∃ w5, w5 = w4.setCell ⟨hb, 1, none⟩ (.bool true) := ⟨_, rfl⟩
    obtain ⟨hm5, hT5⟩ := HMH4.out.shut
    rw [← hw5] at hm5 hT5
    have hbl5 : w5.heap[ob]? = w4.heap[ob]? := by rw [hw5]; exact Below.heap_setCell _ _ _ _ HNW.out.2.1
    rw [hbl4] at hbl5
    have o2 : w5.cell? ⟨ob, 2, none⟩ = some (.string ⟨#[]⟩) := by simp [World.cell?, hbl5]
    have f2 : w5.frozen? ⟨ob, 2, none⟩ = false := by simp [World.frozen?, hbl5]
    obtain ⟨w6, hw6⟩ : ∃ w6, w6 = w5.setCell ⟨ob, 2, none⟩ (.string ⟨#[115, 101, 97, 108, 101, 100]⟩) := ⟨_, rfl⟩
    have hbl6 : w6.heap[ob]? = some (.cells #[.string m2, .string m1, .string ⟨#[115, 101, 97, 108, 101, 100]⟩, .string m4, .int .i64 m5, .int .i64 m6, .bool false, .slice none 0 0] 44 (0, 0)) := by rw [hw6]; exact blk_setG hbl5 2 _
    have ht6 : ∀ k, k ≠ ob → w6.heap[k]? = w5.heap[k]? := fun k hk => by rw [hw6]; exact Below.heap_setCell _ _ _ _ hk
    have hz5 : w5.heap.size = w4.heap.size := by rw [hw5]; simp [World.setCell]
    have hz6 : w6.heap.size = w4.heap.size := by rw [hw6, hw5]; simp [World.setCell]
    have hmb6 : w6.heap[w.heap.size]? = some (.cells #[.string m1, .string m2, .string ⟨#[115, 101, 97, 108]⟩, .string m4, .int .i64 m5, .int .i64 m6, .bool m7, .slice lp mL.length lc] 44 (0, 0)) := (ht6 _ (fun e => HNW.out.1 e.symm)).trans ((hT5.block _ (by have := HZ2.out; have := HZ4.out; omega) HNW.out.2.2).trans HMB4.out)
    have ht56 : Below ob w5 w6 := ⟨by rw [hw6]; rfl, by rw [hw6]; rfl, by rw [hw6]; rfl, by omega, fun k hk => ht6 k (by omega)⟩
    have hm6 : MHold w6 hb Lh true := hm5.same (by omega) (ht6 hb (fun e => HNW.out.2.1 e.symm)) (fun hL b o n c e => ht6 b (by
      have e' : w4.cell? ⟨hb, 0, none⟩ = some (.slice (some ⟨b, o, none⟩) n c) := by
        rw [← e, hw5]
        exact (World.cell?_setCell_other _ _ _ _ (fun e => by cases e)).symm
      have e2 := (HB4.out.cell (p := ⟨hb, 0, none⟩) (by have := HLT.out; show hb < ob; omega)).symm.trans e'
      have := HROW.out hL b o n c e2
      omega))
    have HGE := rget_any hb Lh true m4 w6 (by rw [HLH.out]; have := HLL.out; omega) hm6
    have k3 : w6.cell? ⟨w.heap.size, 3, none⟩ = some (.string m4) := by simp [World.cell?, hmb6]
    have HBL6 : Hid (w6.heap[ob]? = some (.cells #[.string m2, .string m1, .string ⟨#[115, 101, 97, 108, 101, 100]⟩, .string m4, .int .i64 m5, .int .i64 m6, .bool false, .slice none 0 0] 44 (0, 0))) := hbl6
    have HT6 : Hid (Below ob w5 w6) := ht56
    have HT5 : Hid (Turn hb w4 w5) := hT5
    have HM5 : Hid (MHold w5 hb Lh true) := hm5
    have HZ6 : Hid (w6.heap.size = w4.heap.size ∧ w5.heap.size = w4.heap.size) := ⟨hz6, hz5⟩
    have HW5 : Hid (w5 = w4.setCell ⟨hb, 1, none⟩ (.bool true)) := hw5
    have HW6 : Hid (w6 = w5.setCell ⟨ob, 2, none⟩ (.string ⟨#[115, 101, 97, 108, 101, 100]⟩)) := hw6
    clear hw5 hw6 hbl4 hbl5 hbl6 hmb4 hmb6 ht6 hz6 hm6 ht56 hT5 hm5 hz5
    go_wp2_with (first | rw [← HW5.out] | rw [← HW6.out])
    refine HGE.mono ?_
    rintro e w7 ⟨⟨v, rfl, hO7⟩, hb7⟩
    obtain ⟨pv, cv, rfl, hr7, hc7, hn7, hv7⟩ := hO7.form
    have hobz : ob < w6.heap.size := by have := HZ6.out.1; have := HZ4.out; omega
    have hbl7 : w7.heap[ob]? = some (.cells #[.string m2, .string m1, .string ⟨#[115, 101, 97, 108, 101, 100]⟩, .string m4, .int .i64 m5, .int .i64 m6, .bool false, .slice none 0 0] 44 (0, 0)) := (hb7.block ob hobz).trans HBL6.out
    have o7 : w7.cell? ⟨ob, 7, none⟩ = some (.slice none 0 0) := by simp [World.cell?, hbl7]
    have f7 : w7.frozen? ⟨ob, 7, none⟩ = false := by simp [World.frozen?, hbl7]
    obtain ⟨w8, hw8⟩ : ∃ w8, w8 = w7.setCell ⟨ob, 7, none⟩ (.slice pv (getL Lh m4).length cv) := ⟨_, rfl⟩
    have hbl8 : w8.heap[ob]? = some (.cells #[.string m2, .string m1, .string ⟨#[115, 101, 97, 108, 101, 100]⟩, .string m4, .int .i64 m5, .int .i64 m6, .bool false, .slice pv (getL Lh m4).length cv] 44 (0, 0)) := by rw [hw8]; exact blk_setG hbl7 7 _
    have HW8 : Hid (w8 = w7.setCell ⟨ob, 7, none⟩ (.slice pv (getL Lh m4).length cv)) := hw8
    have q0 : w8.cell? ⟨ob, 0, none⟩ = some (.string m2) := by simp [World.cell?, hbl8]
    have q1 : w8.cell? ⟨ob, 1, none⟩ = some (.string m1) := by simp [World.cell?, hbl8]
    have q2 : w8.cell? ⟨ob, 2, none⟩ = some (.string ⟨#[115, 101, 97, 108, 101, 100]⟩) := by simp [World.cell?, hbl8]
    have q3 : w8.cell? ⟨ob, 3, none⟩ = some (.string m4) := by simp [World.cell?, hbl8]
    have q4 : w8.cell? ⟨ob, 4, none⟩ = some (.int .i64 m5) := by simp [World.cell?, hbl8]
    have q5 : w8.cell? ⟨ob, 5, none⟩ = some (.int .i64 m6) := by simp [World.cell?, hbl8]
    have q6 : w8.cell? ⟨ob, 6, none⟩ = some (.bool false) := by simp [World.cell?, hbl8]
    have q7 : w8.cell? ⟨ob, 7, none⟩ = some (.slice pv (getL Lh m4).length cv) := by simp [World.cell?, hbl8]
    have HFIN : Hid (∀ w9, w9 = w8.alloc (.cells #[.string m2, .string m1, .string ⟨#[115, 101, 97, 108, 101, 100]⟩, .string m4, .int .i64 m5, .int .i64 m6, .bool false, .slice pv (getL Lh m4).length cv] 44) → MsgsAt w9 (some ⟨w8.heap.size, 0, none⟩) [⟨m2, m1, kShut, m4, m5, m6, false, getL Lh m4⟩] ∧ ∃ S', RMem w9 B S' h (my.put ii (Lh, true)) up lv2 bs2 ∧ Upd S S' w w9) := fun w9 hw9 => by
      have h78 : Below ob w7 w8 := by rw [hw8]; exact (Below.refl ob w7).setCell (p := ⟨ob, 7, none⟩) (Nat.le_refl ob) _
      have h58 : Below ob w5 w8 := HT6.out.trans ((hb7.mono (by omega)).trans h78)
      have h89 : Below w8.heap.size w8 w9 := by rw [hw9]; exact (Below.refl _ _).alloc (Nat.le_refl _) _
      have ho8 : ob ≤ w8.heap.size := by have := h58.size; have := HZ6.out.2; have := HZ4.out; omega
      have h59 : Below w2.heap.size w5 w9 := by rw [HOB.out]; exact h58.trans (h89.mono ho8)
      have hO8 : OwnR verE 59 w8 w6.heap.size (.slice pv (getL Lh m4).length cv) (getL Lh m4) := hO7.sameE fun k hk => by rw [hw8]; exact Below.heap_setCell _ _ _ _ (by have := (hO7.block hk).1; show k ≠ ob; omega)
      refine ⟨one_msg (x := (⟨m2, m1, kShut, m4, m5, m6, false, getL Lh m4⟩, (pv, (getL Lh m4).length, cv))) (t := 44) ?_ (hasL_own (hO8.kept h89)), HM2.out.turned HU2.out (by rw [HOB.out]; exact HB4.out) HI2.out (by rw [HBB.out]; exact HT5.out) (by rw [HBB.out]; exact HM5.out) (fun e _ => by rw [HLH.out]; exact e) h59 (fun k h1 h2 => by have := HZ6.out.2; omega)⟩
      rw [hw9]
      show (w8.heap.push _)[w8.heap.size]? = _
      simp
      rfl
    clear hO7 hb7 hr7 hc7 hn7 hv7 hbl7 hbl8 hw8 hobz
    go_wp2_with (first | rw [← HW8.out])
    go_ret
    obtain ⟨a1, S3, a2, a3⟩ := HFIN.out _ rfl
    refine ⟨⟨_, 1, rfl, ?_⟩, S3, lv2, bs2, ?_, a3⟩
    · show MsgsAt _ _ [⟨my.name, m1, kShut, m4, m5, m6, _, _⟩]
      rw [HNM.out, ← HTO.out, HII.out, ← HLH.out]
      exact a1
    · rw [HII.out, ← HLH.out]
      exact a2
end Go.Proofs.YtcoecfpkihakoaaGreatDoor
