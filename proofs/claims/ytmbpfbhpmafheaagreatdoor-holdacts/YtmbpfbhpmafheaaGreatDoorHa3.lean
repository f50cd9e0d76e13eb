/- Texts laid together. -/
import Derived.Test.YtmbpfbhpmafheaaGreatDoorHa2
import Derived.Deep.RegionHeld3
import Derived.Shelf.SlSortCmp.QuietGrown
import Derived.Deep.CutRange
namespace Go.Proofs.YtmbpfbhpmafheaaGreatDoor
open Go.RowKit
set_option maxRecDepth 10000 in
set_option maxHeartbeats 8000000 in
theorem putScan_walk (h : Nat) (L : List Kep) (key : ByteArray) (v : Ver) (w : World) (hl : L.length ≤ 1000000) (hm : MHold w h L false) (hN : isN key = true) (hV : verOk v = true) :
    Calls Tryz.prog 56 #[.pointer (some ⟨h, 0, none⟩), .string key, .agg #[.int .i64 v.n, .int .i64 v.who, .int .i64 v.size, .int .i64 v.at_, .string v.text]] w fun e w' => e = .returned (.int .i64 (putScan L key v 0 L.length)) ∧ Below w.heap.size w w' := by
  obtain ⟨p, c, q0, hrec, hc, hn, hne⟩ := hm.row
  have qs := hm.sealed_
  have hlt := lt_of_cellH q0
  have hksz := (isN_size hN).2
  have HNM : Hid (∀ W, Calls Tryz.prog 84 #[.string key] W fun e w' => e = .returned (.bool (isN key)) ∧ w' = W) := fun W => isNameBig_any key W
  rw [hN] at HNM
  unfold verOk at hV
  rw [Bool.and_eq_true] at hV
  obtain ⟨hT, hV⟩ := hV
  have HTG : Hid (∀ W, Calls Tryz.prog 85 #[.agg #[.int .i64 v.n, .int .i64 v.who]] W fun e w' => e = .returned (.bool (tagB v.n v.who)) ∧ Below W.heap.size W w') := fun W => isTag_any v.n v.who W
  rw [hT] at HTG
  obtain ⟨v1, v2, v3, v4, v5⟩ := of_decide_eq_true hV
  clear hT hV hN
  obtain ⟨R, hR⟩ : ∃ R, R = putScan L key v 0 L.length := ⟨_, rfl⟩
  rw [← hR]
  have HR : Hid (R = putScan L key v 0 L.length) := hR
  clear hR
  have HREC : Hid (Rec kepE w p L) := hrec
  obtain ⟨w0, hw0⟩ : ∃ w0, w0 = w.alloc (.cells #[.int .i64 v.n, .int .i64 v.who, .int .i64 v.size, .int .i64 v.at_, .string v.text] 49) := ⟨_, rfl⟩
  have hb0 : Below w.heap.size w w0 := by rw [hw0]; exact (Below.refl _ _).alloc (Nat.le_refl _) _
  have b0 : w0.cell? ⟨w.heap.size, 0, none⟩ = some (.int .i64 v.n) := by rw [hw0, World.cell?_alloc_at _ _ _ _ rfl]; rfl
  have b1 : w0.cell? ⟨w.heap.size, 1, none⟩ = some (.int .i64 v.who) := by rw [hw0, World.cell?_alloc_at _ _ _ _ rfl]; rfl
  have b2 : w0.cell? ⟨w.heap.size, 2, none⟩ = some (.int .i64 v.size) := by rw [hw0, World.cell?_alloc_at _ _ _ _ rfl]; rfl
  have b3 : w0.cell? ⟨w.heap.size, 3, none⟩ = some (.int .i64 v.at_) := by rw [hw0, World.cell?_alloc_at _ _ _ _ rfl]; rfl
  have b4 : w0.cell? ⟨w.heap.size, 4, none⟩ = some (.string v.text) := by rw [hw0, World.cell?_alloc_at _ _ _ _ rfl]; rfl
  have qs0 : w0.cell? ⟨h, 1, none⟩ = some (.bool false) := (hb0.cell (p := ⟨h, 1, none⟩) hlt).trans qs
  have HALL : Hid (∀ W, Below w0.heap.size w0 W → (W.cell? ⟨h, 0, none⟩ = some (.slice p L.length c) ∧ W.cell? ⟨w.heap.size, 0, none⟩ = some (.int .i64 v.n) ∧ W.cell? ⟨w.heap.size, 1, none⟩ = some (.int .i64 v.who) ∧ W.cell? ⟨w.heap.size, 2, none⟩ = some (.int .i64 v.size) ∧ W.cell? ⟨w.heap.size, 3, none⟩ = some (.int .i64 v.at_) ∧ W.cell? ⟨w.heap.size, 4, none⟩ = some (.string v.text)) ∧ Rec kepE W p L ∧ Below w.heap.size w W) := fun W hW => by
    have hx : w.heap.size < w0.heap.size := lt_of_cellH b0
    have hy : h < w0.heap.size := Nat.lt_of_lt_of_le hlt hb0.size
    exact ⟨⟨(hW.cell (p := ⟨h, 0, none⟩) hy).trans ((hb0.cell (p := ⟨h, 0, none⟩) hlt).trans q0), (hW.cell (p := ⟨w.heap.size, 0, none⟩) hx).trans b0, (hW.cell (p := ⟨w.heap.size, 1, none⟩) hx).trans b1, (hW.cell (p := ⟨w.heap.size, 2, none⟩) hx).trans b2, (hW.cell (p := ⟨w.heap.size, 3, none⟩) hx).trans b3, (hW.cell (p := ⟨w.heap.size, 4, none⟩) hx).trans b4⟩, (HREC.out.below hb0).below hW, hb0.trans (hW.mono hb0.size)⟩
  have HW0 : Hid (w0 = w.alloc (.cells #[.int .i64 v.n, .int .i64 v.who, .int .i64 v.size, .int .i64 v.at_, .string v.text] 49)) := hw0
  have HV : Hid (∀ x : Ver, x = v ↔ (x.n = v.n ∧ x.who = v.who ∧ x.size = v.size ∧ x.at_ = v.at_ ∧ x.text = v.text)) := fun x => by
    obtain ⟨a1, a2, a3, a4, a5⟩ := x
    obtain ⟨b1, b2, b3, b4, b5⟩ := v
    simp
  have HSCAN : Hid (∀ i, i < L.length → putScan L key v i (L.length - i) = if sameTag (kepAt L i) key v then (if (kepAt L i).2 = v then -1 else 6) else putScan L key v (i + 1) (L.length - (i + 1))) := fun i hi => putScan_at hi
  have HLAST : Hid (putScan L key v L.length 0 = if 60 ≤ L.length then 7 else 0) := by show _ = _; rfl
  have HST : Hid (∀ x : Kep, sameTag x key v = (decide (x.1 = key) && decide (x.2.n = v.n) && decide (x.2.who = v.who))) := fun x => rfl
  clear hrec hm q0 qs hne hn b0 b1 b2 b3 b4 hw0 hb0
  have g1 : decide (v.size < 0) = false := decide_eq_false (by omega)
  have g2 : decide (1000 < v.size) = false := decide_eq_false (by omega)
  have g3 : decide (v.at_ < 0) = false := decide_eq_false (by omega)
  have g4 : decide (12 ≤ v.at_) = false := decide_eq_false (by omega)
  have g5 : decide (1000 < (v.text.size : Int)) = false := decide_eq_false (by omega)
  go_enter Tryz.func56, Tryz.ntmps56
  go_wp2_with (rw [← HW0.out])
  refine (HNM.out _).mono ?_
  rintro e w1 ⟨rfl, hw1⟩
  rw [hw1]
  clear hw1 w1 HNM
  obtain ⟨⟨k0, k1, k2, k3, k4, k5⟩, _, _⟩ := HALL.out w0 (Below.refl _ _)
  go_wp2_with fail
  refine (HTG.out _).mono ?_
  rintro e w1 ⟨rfl, hb1⟩
  obtain ⟨⟨m0, m1, m2, m3, m4, m5⟩, _, _⟩ := HALL.out w1 hb1
  have HB1 : Hid (Below w0.heap.size w0 w1) := hb1
  clear HTG hb1 k0 k1 k2 k3 k4 k5 qs0
  go_wp2
  clear m0 m1 m2 m3 m4 m5
  go_loopw [9] (fun x wq => ∃ i : Nat, i ≤ L.length ∧ x = .int .i64 i ∧ putScan L key v i (L.length - i) = R ∧ Below w0.heap.size w0 wq) (fun x _ => L.length - (intOf x).toNat)
  case atStart => exact ⟨0, Nat.zero_le _, rfl, HR.out.symm, HB1.out⟩
  case round =>
    obtain ⟨i, hi, rfl, hsc, hb2⟩ := hrel
    obtain ⟨w2, rfl⟩ : ∃ w2, w2 = wr := ⟨_, rfl⟩
    have HB2 : Hid (Below w0.heap.size w0 w2) := hb2
    have HSC : Hid (putScan L key v i (L.length - i) = R) := hsc
    obtain ⟨⟨k0, k1, k2, k3, k4, k5⟩, hrc, hbw⟩ := HALL.out w2 hb2
    have HBW : Hid (Below w.heap.size w w2) := hbw
    have HRC : Hid (Rec kepE w2 p L) := hrc
    clear hsc hb2 hrc hbw
    by_cases hil : i < L.length
    · obtain ⟨b, o, hpp, hblt, c0, c1, c2, c3, c4, c5⟩ := kep_cells HRC.out hil
      subst hpp
      have hs := HSCAN.out i hil
      rw [HSC.out] at hs
      have hst := HST.out (kepAt L i)
      have hvv := HV.out (kepAt L i).2
      generalize kepAt L i = x at *
      obtain ⟨xk, xv⟩ := x
      by_cases hk : xk = key
      · by_cases hn : xv.n = v.n
        · by_cases hwho : xv.who = v.who
          · have hst' : sameTag (xk, xv) key v = true := by rw [hst]; simp [hk, hn, hwho]
            rw [if_pos hst'] at hs
            by_cases hveq : xv = v
            · have HE : Hid (R = -1) := by show _ = _; rw [hs]; exact if_pos hveq
              subst hveq hk
              clear hs hst hvv hst' hn hwho HSCAN HV HST
              go_wp2
              go_quiet (fail)
              go_wp2
              go_quiet (fail)
              go_wp2
              go_ret
              exact ⟨by rw [HE.out]; rfl, below_drewN (below_drewN HBW.out _) _⟩
            · have HE : Hid (R = 6) := by show _ = _; rw [hs]; exact if_neg hveq
              have hne3 : ((xv.size == v.size) = false) ∨ xv.size = v.size ∧ (((xv.at_ == v.at_) = false) ∨ xv.at_ = v.at_ ∧ xv.text ≠ v.text) := by
                by_cases e3 : xv.size = v.size
                · by_cases e4 : xv.at_ = v.at_
                  · exact Or.inr ⟨e3, Or.inr ⟨e4, fun e5 => hveq (hvv.2 ⟨hn, hwho, e3, e4, e5⟩)⟩⟩
                  · exact Or.inr ⟨e3, Or.inl (beq_eq_false_iff_ne.2 e4)⟩
                · exact Or.inl (beq_eq_false_iff_ne.2 e3)
              subst hk
              have c1' : w2.cell? ⟨b, o + i * 6 + 1, none⟩ = some (.int .i64 v.n) := c1.trans (by rw [hn])
              have c2' : w2.cell? ⟨b, o + i * 6 + 2, none⟩ = some (.int .i64 v.who) := c2.trans (by rw [hwho])
              clear hs hst hvv hst' hn hwho hveq c1 c2 HSCAN HV HST
              rcases hne3 with g | ⟨ge, g | ⟨gf, g⟩⟩
              · go_wp2
                go_quiet (fail)
                go_wp2
                go_quiet (fail)
                go_wp2
                go_ret
                exact ⟨by rw [HE.out]; rfl, below_drewN (below_drewN HBW.out _) _⟩
              · have c3' : w2.cell? ⟨b, o + i * 6 + 3, none⟩ = some (.int .i64 v.size) := c3.trans (by rw [← ge])
                clear c3 ge
                go_wp2
                go_quiet (fail)
                go_wp2
                go_quiet (fail)
                go_wp2
                go_ret
                exact ⟨by rw [HE.out]; rfl, below_drewN (below_drewN HBW.out _) _⟩
              · have c3' : w2.cell? ⟨b, o + i * 6 + 3, none⟩ = some (.int .i64 v.size) := c3.trans (by rw [← ge])
                have c4' : w2.cell? ⟨b, o + i * 6 + 4, none⟩ = some (.int .i64 v.at_) := c4.trans (by rw [← gf])
                have d1 := toList_ne g
                have d2 := toList_beq g
                have d3 := bytes_beq g
                clear c3 ge c4 gf g
                go_wp2
                go_quiet (fail)
                go_wp2
                go_quiet (fail)
                go_wp2
                go_ret
                exact ⟨by rw [HE.out]; rfl, below_drewN (below_drewN HBW.out _) _⟩
          · have hst' : sameTag (xk, xv) key v = false := by rw [hst]; simp [hwho]
            have HE : Hid (putScan L key v (i + 1) (L.length - (i + 1)) = R) := by show _ = _; rw [hs, if_neg (by rw [hst']; decide)]
            have c1' : w2.cell? ⟨b, o + i * 6 + 1, none⟩ = some (.int .i64 v.n) := c1.trans (by rw [hn])
            have gw : (xv.who == v.who) = false := beq_eq_false_iff_ne.2 hwho
            subst hk
            clear hs hst hvv hst' hn hwho c1 HSCAN HV HST
            go_wp2
            go_quiet (fail)
            go_wp2
            go_roundw
            case rel => exact ⟨i + 1, by omega, by go_num, HE.out, below_drewN HB2.out _⟩
            case measure => simp [intOf]; omega
        · have hst' : sameTag (xk, xv) key v = false := by rw [hst]; simp [hn]
          have HE : Hid (putScan L key v (i + 1) (L.length - (i + 1)) = R) := by show _ = _; rw [hs, if_neg (by rw [hst']; decide)]
          have gw : (xv.n == v.n) = false := beq_eq_false_iff_ne.2 hn
          subst hk
          clear hs hst hvv hst' hn HSCAN HV HST
          go_wp2
          go_quiet (fail)
          go_wp2
          go_roundw
          case rel => exact ⟨i + 1, by omega, by go_num, HE.out, below_drewN HB2.out _⟩
          case measure => simp [intOf]; omega
      · have hst' : sameTag (xk, xv) key v = false := by rw [hst]; simp [hk]
        have HE : Hid (putScan L key v (i + 1) (L.length - (i + 1)) = R) := by show _ = _; rw [hs, if_neg (by rw [hst']; decide)]
        have d1 := toList_ne hk
        have d2 := toList_beq hk
        have d3 := bytes_beq hk
        clear hs hst hvv hst' hk HSCAN HV HST
        go_wp2
        go_quiet (fail)
        go_wp2
        go_roundw
        case rel => exact ⟨i + 1, by omega, by go_num, HE.out, below_drewN HB2.out _⟩
        case measure => simp [intOf]; omega
    · have hie : i = L.length := by omega
      subst hie
      have hlast := HSC.out
      rw [Nat.sub_self, HLAST.out] at hlast
      by_cases h60 : 60 ≤ L.length
      · have HE : Hid (R = 7) := by show _ = _; rw [← hlast]; exact if_pos h60
        clear hlast
        go_wp2
        go_ret
        exact ⟨by rw [HE.out]; rfl, HBW.out⟩
      · have HE : Hid (R = 0) := by show _ = _; rw [← hlast]; exact if_neg h60
        clear hlast
        go_wp2
        go_ret
        exact ⟨by rw [HE.out]; rfl, HBW.out⟩
set_option maxRecDepth 10000 in
set_option maxHeartbeats 8000000 in
theorem putErr_any (h : Nat) (L : List Kep) (s : Bool) (key : ByteArray) (v : Ver) (w : World) (hl : L.length ≤ 1000000) (htx : v.text.size ≤ maxLen) (hm : MHold w h L s) :
    Calls Tryz.prog 56 #[.pointer (some ⟨h, 0, none⟩), .string key, .agg #[.int .i64 v.n, .int .i64 v.who, .int .i64 v.size, .int .i64 v.at_, .string v.text]] w fun e w' => e = .returned (.int .i64 (putErr L s key v)) ∧ Below w.heap.size w w' := by
  obtain ⟨p, c, q0, hrec, hc, hn, hne⟩ := hm.row
  have qs := hm.sealed_
  have hlt := lt_of_cellH q0
  obtain ⟨w0, hw0⟩ : ∃ w0, w0 = w.alloc (.cells #[.int .i64 v.n, .int .i64 v.who, .int .i64 v.size, .int .i64 v.at_, .string v.text] 49) := ⟨_, rfl⟩
  have hb0 : Below w.heap.size w w0 := by rw [hw0]; exact (Below.refl _ _).alloc (Nat.le_refl _) _
  have qs0 : w0.cell? ⟨h, 1, none⟩ = some (.bool s) := (hb0.cell (p := ⟨h, 1, none⟩) hlt).trans qs
  have HB0 : Hid (Below w.heap.size w w0) := hb0
  have HW0 : Hid (w0 = w.alloc (.cells #[.int .i64 v.n, .int .i64 v.who, .int .i64 v.size, .int .i64 v.at_, .string v.text] 49)) := hw0
  cases s with
  | true =>
    have HE : Hid (putErr L true key v = 10) := by show _ = _; rfl
    rw [HE.out]
    clear hm q0 hrec hn hne hw0 hb0 qs
    go_enter Tryz.func56, Tryz.ntmps56
    go_wp2_with (rw [← HW0.out])
    go_ret
    exact ⟨rfl, HB0.out⟩
  | false =>
    have HNM : Hid (∀ W, Calls Tryz.prog 84 #[.string key] W fun e w' => e = .returned (.bool (isN key)) ∧ w' = W) := fun W => isNameBig_any key W
    by_cases hN : isN key = true
    · by_cases hV : verOk v = true
      · have HE : putErr L false key v = putScan L key v 0 L.length := by unfold putErr; rw [if_neg (by decide), if_pos hN, if_pos hV]
        rw [HE]
        exact putScan_walk h L key v w hl hm hN hV
      · have HE : Hid (putErr L false key v = 2) := by show _ = _; unfold putErr; rw [if_neg (by decide), if_pos hN, if_neg hV]
        rw [HE.out]
        rw [hN] at HNM
        have HTG : Hid (∀ W, Calls Tryz.prog 85 #[.agg #[.int .i64 v.n, .int .i64 v.who]] W fun e w' => e = .returned (.bool (tagB v.n v.who)) ∧ Below W.heap.size W w') := fun W => isTag_any v.n v.who W
        have b0 : w0.cell? ⟨w.heap.size, 0, none⟩ = some (.int .i64 v.n) := by rw [hw0, World.cell?_alloc_at _ _ _ _ rfl]; rfl
        have b1 : w0.cell? ⟨w.heap.size, 1, none⟩ = some (.int .i64 v.who) := by rw [hw0, World.cell?_alloc_at _ _ _ _ rfl]; rfl
        have b2 : w0.cell? ⟨w.heap.size, 2, none⟩ = some (.int .i64 v.size) := by rw [hw0, World.cell?_alloc_at _ _ _ _ rfl]; rfl
        have b3 : w0.cell? ⟨w.heap.size, 3, none⟩ = some (.int .i64 v.at_) := by rw [hw0, World.cell?_alloc_at _ _ _ _ rfl]; rfl
        have b4 : w0.cell? ⟨w.heap.size, 4, none⟩ = some (.string v.text) := by rw [hw0, World.cell?_alloc_at _ _ _ _ rfl]; rfl
        have HALL : Hid (∀ W, Below w0.heap.size w0 W → W.cell? ⟨w.heap.size, 2, none⟩ = some (.int .i64 v.size) ∧ W.cell? ⟨w.heap.size, 3, none⟩ = some (.int .i64 v.at_) ∧ W.cell? ⟨w.heap.size, 4, none⟩ = some (.string v.text)) := fun W hW => by
          have hx : w.heap.size < w0.heap.size := lt_of_cellH b0
          exact ⟨(hW.cell (p := ⟨w.heap.size, 2, none⟩) hx).trans b2, (hW.cell (p := ⟨w.heap.size, 3, none⟩) hx).trans b3, (hW.cell (p := ⟨w.heap.size, 4, none⟩) hx).trans b4⟩
        unfold maxLen at htx
        have HW : Hid (tagB v.n v.who = false ∨ tagB v.n v.who = true ∧ (v.size < 0 ∨ ¬ v.size < 0 ∧ (1000 < v.size ∨ ¬ 1000 < v.size ∧ (v.at_ < 0 ∨ ¬ v.at_ < 0 ∧ (12 ≤ v.at_ ∨ ¬ 12 ≤ v.at_ ∧ 1000 < v.text.size))))) := by
          show _ ∨ _
          cases hT : tagB v.n v.who with
          | false => exact Or.inl rfl
          | true =>
            refine Or.inr ⟨rfl, ?_⟩
            have h2 : ¬ (0 ≤ v.size ∧ v.size ≤ 1000 ∧ 0 ≤ v.at_ ∧ v.at_ < 12 ∧ v.text.size ≤ 1000) := fun h3 => hV (by unfold verOk; rw [hT, decide_eq_true h3]; rfl)
            omega
        clear hm q0 hrec hn hne hw0 hb0 qs hN hV b2 b3 b4
        generalize tagB v.n v.who = tb at *
        rcases HW.out with rfl | ⟨rfl, g | ⟨g1, g | ⟨g2, g | ⟨g3, g | ⟨g4, g⟩⟩⟩⟩⟩
        all_goals
          go_enter Tryz.func56, Tryz.ntmps56
          go_wp2_with (rw [← HW0.out])
          refine (HNM.out _).mono ?_
          rintro e w1 ⟨rfl, hw1⟩
          rw [hw1]
          clear hw1 w1 HNM
          go_wp2_with fail
          refine (HTG.out _).mono ?_
          rintro e w1 ⟨rfl, hb1⟩
          obtain ⟨m3, m4, m5⟩ := HALL.out w1 hb1
          have HB1 : Hid (Below w.heap.size w w1) := HB0.out.trans (hb1.mono HB0.out.size)
          clear HTG hb1 b0 b1 qs0
          go_wp2
          go_ret
          exact ⟨rfl, HB1.out⟩
    · have HE : Hid (putErr L false key v = 4) := by show _ = _; unfold putErr; rw [if_neg (by decide), if_neg hN]
      rw [HE.out]
      rw [Bool.eq_false_iff.2 hN] at HNM
      clear hm q0 hrec hn hne hw0 hb0 qs hN
      go_enter Tryz.func56, Tryz.ntmps56
      go_wp2_with (rw [← HW0.out])
      refine (HNM.out _).mono ?_
      rintro e w1 ⟨rfl, hw1⟩
      rw [hw1]
      clear hw1 w1 HNM
      go_wp2
      go_ret
      exact ⟨rfl, HB0.out⟩
theorem run_keps_from (p : Option Addr) (l : List Kep) (c k : Nat) (hk : k ≤ l.length) (W : World) : Sem.run Tryz.prog (Instr.slice 41 (.slice p l.length c) (some (.int .i64 (k : Int))) none none) W = .ok (.slice (if c = k then p else p.map (·.add (k * 6))) (l.drop k).length (c - k)) W := by
  have hsz : (sizeOf (Tryz.prog.elem 41)).run Tryz.prog W = .ok 6 W := by kernel_rfl
  have hel : Tryz.prog.elem 41 = 51 := by kernel_rfl
  have hun : Tryz.prog.underlying 41 = some (.slice (Tryz.prog.elem 41)) := by rw [hel]; exact Tryz.underlying41
  rw [run_slice_l W 41 p l.length c hun .i64 (k : Int) (by omega) (by omega), hsz]
  simp [Result.andThen, sliced]
theorem run_keps_to (p : Option Addr) (l : List Kep) (c k : Nat) (hk : k ≤ l.length) (hc : l.length ≤ c) (W : World) : Sem.run Tryz.prog (Instr.slice 41 (.slice p l.length c) none (some (.int .i64 (k : Int))) none) W = .ok (.slice p (l.take k).length c) W := by
  have hsz : (sizeOf (Tryz.prog.elem 41)).run Tryz.prog W = .ok 6 W := by kernel_rfl
  have hel : Tryz.prog.elem 41 = 51 := by kernel_rfl
  have hun : Tryz.prog.underlying 41 = some (.slice (Tryz.prog.elem 41)) := by rw [hel]; exact Tryz.underlying41
  have hl : (l.take k).length = k := by rw [List.length_take]; omega
  rw [run_slice_h W 41 p l.length c hun .i64 (k : Int) (by omega) (by omega), hsz, hl]
  simp [Result.andThen, sliced, Addr.add]
theorem kep_new (key : ByteArray) (v : Ver) (z1 : World) : ∀ j u, (kepE.enc (key, v))[j]? = some u → (z1.alloc (.cells #[.string key, .int .i64 v.n, .int .i64 v.who, .int .i64 v.size, .int .i64 v.at_, .string v.text] 51)).cell? ⟨z1.heap.size, 0 + j, none⟩ = some u := fun j u hj => by
  rw [Nat.zero_add, World.cell?_alloc_at _ _ _ _ rfl]
  match j, hj with
  | 0, hj => exact hj
  | 1, hj => exact hj
  | 2, hj => exact hj
  | 3, hj => exact hj
  | 4, hj => exact hj
  | 5, hj => exact hj
section
open Go.Sort
theorem below_grow (w : World) (n : Nat) (os : Array Obj) : RowKit.Below w.heap.size w (grow (w.drewN n) os) := ⟨rfl, rfl, rfl, by show w.heap.size ≤ (w.heap ++ os).size; rw [Array.size_append]; omega, fun _ hj => heap_grow_old (w.drewN n) os hj⟩
end
section
open Go.Sort
set_option maxRecDepth 10000 in
theorem rless_grow (a b : Int × Int) (w : World) :
    Calls Tryz.prog 57 #[.agg #[.int .i64 a.1, .int .i64 a.2], .agg #[.int .i64 b.1, .int .i64 b.2]] w fun e w' => e = .returned (.bool (lessB a b)) ∧ ∃ q os, w' = grow (w.drewN q) os := by
  obtain ⟨a1, a2⟩ := a
  obtain ⟨b1, b2⟩ := b
  by_cases h1 : a1 < b1
  · have HE : Hid (lessB (a1, a2) (b1, b2) = true) := by show _ = _; unfold lessB; simp [h1]
    rw [HE.out]
    go_enter Tryz.func57, Tryz.ntmps57
    go_wp2
    go_ret
    exact ⟨rfl, 0, _, by rw [alloc_eq_grow, alloc_eq_grow, grow_grow]; rfl⟩
  have d1 : decide (a1 < b1) = false := decide_eq_false h1
  by_cases h2 : a1 = b1
  · subst h2
    have HE : Hid (lessB (a1, a2) (a1, b2) = decide (a2 < b2)) := by show _ = _; unfold lessB; simp
    rw [HE.out]
    go_enter Tryz.func57, Tryz.ntmps57
    go_wp2
    go_ret
    exact ⟨rfl, 0, _, by rw [alloc_eq_grow, alloc_eq_grow, grow_grow]; rfl⟩
  · have HE : Hid (lessB (a1, a2) (b1, b2) = false) := by show _ = _; unfold lessB; simp [h1, h2]
    rw [HE.out]
    have d2 : (a1 == b1) = false := by
      rw [beq_eq_false_iff_ne]
      exact h2
    go_enter Tryz.func57, Tryz.ntmps57
    go_wp2
    go_ret
    exact ⟨rfl, 0, _, by rw [alloc_eq_grow, alloc_eq_grow, grow_grow]; rfl⟩
end
section
open Go.Sort
set_option maxRecDepth 10000 in
set_option maxHeartbeats 8000000 in
/-- Where nothing is wrong it goes in at its place. -/
theorem rput_in (h : Nat) (L : List Kep) (s : Bool) (key : ByteArray) (v : Ver) (w : World) (hl : L.length ≤ 900000) (htx : v.text.size ≤ maxLen) (hm : MHold w h L s) (h0 : putErr L s key v = 0) :
    Calls Tryz.prog 26 #[.pointer (some ⟨h, 0, none⟩), .string key, .agg #[.int .i64 v.n, .int .i64 v.who, .int .i64 v.size, .int .i64 v.at_, .string v.text]] w fun e w' => e = .returned (.int .i64 0) ∧ MHold w' h (putL L key v) s ∧ Turn h w w' := by
  have HM : Hid (MHold w h L s) := hm
  obtain ⟨p, c, q0, hrec, hc, hn, hne⟩ := hm.row
  have hlt := lt_of_cellH q0
  have HREC : Hid (Rec kepE w p L) := hrec
  have HN : Hid (p = none → L = [] ∧ c = 0) := hn
  obtain ⟨w0, hw0⟩ : ∃ w0, w0 = w.alloc (.cells #[.int .i64 v.n, .int .i64 v.who, .int .i64 v.size, .int .i64 v.at_, .string v.text] 49) := ⟨_, rfl⟩
  have hb0 : RowKit.Below w.heap.size w w0 := by rw [hw0]; exact (RowKit.Below.refl _ _).alloc (Nat.le_refl _) _
  have b0 : w0.cell? ⟨w.heap.size, 0, none⟩ = some (.int .i64 v.n) := by rw [hw0, World.cell?_alloc_at _ _ _ _ rfl]; rfl
  have b1 : w0.cell? ⟨w.heap.size, 1, none⟩ = some (.int .i64 v.who) := by rw [hw0, World.cell?_alloc_at _ _ _ _ rfl]; rfl
  have b2 : w0.cell? ⟨w.heap.size, 2, none⟩ = some (.int .i64 v.size) := by rw [hw0, World.cell?_alloc_at _ _ _ _ rfl]; rfl
  have b3 : w0.cell? ⟨w.heap.size, 3, none⟩ = some (.int .i64 v.at_) := by rw [hw0, World.cell?_alloc_at _ _ _ _ rfl]; rfl
  have b4 : w0.cell? ⟨w.heap.size, 4, none⟩ = some (.string v.text) := by rw [hw0, World.cell?_alloc_at _ _ _ _ rfl]; rfl
  have HPE := putErr_any h L s key v w0 (by omega) htx (hm.below hb0)
  rw [h0] at HPE
  have HALL : Hid (∀ W, RowKit.Below w0.heap.size w0 W → (W.cell? ⟨h, 0, none⟩ = some (.slice p L.length c) ∧ W.cell? ⟨w.heap.size, 0, none⟩ = some (.int .i64 v.n) ∧ W.cell? ⟨w.heap.size, 1, none⟩ = some (.int .i64 v.who) ∧ W.cell? ⟨w.heap.size, 2, none⟩ = some (.int .i64 v.size) ∧ W.cell? ⟨w.heap.size, 3, none⟩ = some (.int .i64 v.at_) ∧ W.cell? ⟨w.heap.size, 4, none⟩ = some (.string v.text)) ∧ Rec kepE W p L ∧ RowKit.Below w.heap.size w W) := fun W hW => by
    have hx : w.heap.size < w0.heap.size := lt_of_cellH b0
    have hy : h < w0.heap.size := Nat.lt_of_lt_of_le hlt hb0.size
    exact ⟨⟨(hW.cell (p := ⟨h, 0, none⟩) hy).trans ((hb0.cell (p := ⟨h, 0, none⟩) hlt).trans q0), (hW.cell (p := ⟨w.heap.size, 0, none⟩) hx).trans b0, (hW.cell (p := ⟨w.heap.size, 1, none⟩) hx).trans b1, (hW.cell (p := ⟨w.heap.size, 2, none⟩) hx).trans b2, (hW.cell (p := ⟨w.heap.size, 3, none⟩) hx).trans b3, (hW.cell (p := ⟨w.heap.size, 4, none⟩) hx).trans b4⟩, (HREC.out.below hb0).below hW, hb0.trans (hW.mono hb0.size)⟩
  have HW0 : Hid (w0 = w.alloc (.cells #[.int .i64 v.n, .int .i64 v.who, .int .i64 v.size, .int .i64 v.at_, .string v.text] 49)) := hw0
  obtain ⟨K, hK⟩ : ∃ K, K = placeN L key v := ⟨_, rfl⟩
  have HKL : Hid (K ≤ L.length) := by show _ ≤ _; rw [hK]; exact placeN_le L key v
  have HPL : Hid (L.take K ++ [(key, v)] ++ L.drop K = putL L key v) := by show _ = _; rw [hK]; rfl
  have HBEF : Hid (∀ x : Kep, beforeB x key v = (Op.bytesLess x.1.toList key.toList || (decide (x.1 = key) && lessB (x.2.n, x.2.who) (v.n, v.who)))) := fun _ => rfl
  have HLO : Hid (∀ j, j < K → beforeB (kepAt L j) key v = true) := fun j hj => placeN_before (by rw [← hK]; exact hj)
  have HHI : Hid (K < L.length → beforeB (kepAt L K) key v = false) := fun hj => by rw [hK] at hj ⊢; exact placeN_here hj
  generalize putL L key v = PL at *
  clear hrec hm q0 hne hn b0 b1 b2 b3 b4 hw0 hb0 h0 hK
  go_enter Tryz.func26, Tryz.ntmps26
  obtain ⟨⟨k0, k1, k2, k3, k4, k5⟩, _, _⟩ := HALL.out w0 (RowKit.Below.refl _ _)
  go_wp2_with (rw [← HW0.out])
  refine HPE.mono ?_
  rintro e w1 ⟨rfl, hb1⟩
  have HB1 : Hid (RowKit.Below w0.heap.size w0 w1) := hb1
  clear HPE hb1 k0 k1 k2 k3 k4 k5
  go_wp2
  go_loopw [8] (fun x wq => ∃ k : Nat, k ≤ K ∧ x = .int .i64 k ∧ RowKit.Below w0.heap.size w0 wq) (fun x _ => K - (intOf x).toNat)
  case atStart => exact ⟨0, Nat.zero_le _, rfl, HB1.out⟩
  case round =>
    obtain ⟨k, hk, rfl, hb2⟩ := hrel
    obtain ⟨w2, rfl⟩ : ∃ w2, w2 = wr := ⟨_, rfl⟩
    have HB2 : Hid (RowKit.Below w0.heap.size w0 w2) := hb2
    obtain ⟨⟨k0, k1, k2, k3, k4, k5⟩, hrc, hbw⟩ := HALL.out w2 hb2
    have HRC : Hid (Rec kepE w2 p L) := hrc
    have hkL := HKL.out
    clear hb2 hrc hbw
    go_upto_region 7 with fail
    go_cut [63] from 19 to 65 (fun b wc => b = .bool (decide (k < K)) ∧ RowKit.Below w0.heap.size w0 wc)
    case first =>
      by_cases hkl : k < L.length
      · obtain ⟨b, o, hpp, hblt, c0, c1, c2, c3, c4, c5⟩ := kep_cells HRC.out hkl
        have HC : Hid (decide (k < K) = beforeB (kepAt L k) key v) := by
          show _ = _
          by_cases hkK : k < K
          · rw [HLO.out k hkK, decide_eq_true hkK]
          · obtain rfl : k = K := by omega
            rw [HHI.out hkl, decide_eq_false hkK]
        have hbf := HBEF.out (kepAt L k)
        rw [hbf] at HC
        subst hpp
        clear hbf
        generalize kepAt L k = y at *
        obtain ⟨yk, y⟩ := y
        cases hbl : Op.bytesLess yk.toList key.toList with
        | true =>
          have HC' : Hid (decide (k < K) = true) := by show _ = _; rw [HC.out, hbl]; rfl
          clear HC
          go_wp2
          go_quiet (fail)
          go_wp2
          go_meet
          exact ⟨by rw [HC'.out], below_drewN HB2.out _⟩
        | false =>
          by_cases hye : yk = key
          · subst hye
            have HC' : Hid (decide (k < K) = lessB (y.n, y.who) (v.n, v.who)) := by show _ = _; rw [HC.out, hbl]; simp
            have HLS : Hid (∀ W, Calls Tryz.prog 57 #[.agg #[.int .i64 y.n, .int .i64 y.who], .agg #[.int .i64 v.n, .int .i64 v.who]] W fun e w' => e = .returned (.bool (lessB (y.n, y.who) (v.n, v.who))) ∧ ∃ q os, w' = grow (W.drewN q) os) := fun W => rless_grow (y.n, y.who) (v.n, v.who) W
            have mixed : Tryz.prog.follows .mixedOrders = true := by kernel_rfl
            have j0 := cell_grown (lt_of_cellH k0) k0
            have j1 := cell_grown (lt_of_cellH k1) k1
            have j2 := cell_grown (lt_of_cellH k2) k2
            have i0 := cell_grown (lt_of_cellH c0) c0
            have i1 := cell_grown (lt_of_cellH c1) c1
            have i2 := cell_grown (lt_of_cellH c2) c2
            generalize lessB (y.n, y.who) (v.n, v.who) = r at *
            clear HC
            go_wp2
            go_quiet_grown ((go_at_call 57; exact Calls.grown_of (HLS.out _)))
            go_wp2
            go_meet
            exact ⟨by rw [HC'.out], HB2.out.trans ((below_grow w2 _ _).mono HB2.out.size)⟩
          · have HC' : Hid (decide (k < K) = false) := by show _ = _; rw [HC.out, hbl]; simp [hye]
            have d1 := toList_ne hye
            have d2 := toList_beq hye
            have d3 := bytes_beq hye
            clear HC hye
            go_wp2
            go_quiet (fail)
            go_wp2
            go_meet
            exact ⟨by rw [HC'.out], below_drewN HB2.out _⟩
      · have HC' : Hid (decide (k < K) = false) := by show _ = _; exact decide_eq_false (by omega)
        go_wp2
        go_quiet (fail)
        go_wp2
        go_meet
        exact ⟨by rw [HC'.out], below_drewN HB2.out _⟩
    case rest =>
      obtain ⟨rfl, hbc⟩ := hcut
      have HBC : Hid (RowKit.Below w0.heap.size w0 wc) := hbc
      obtain ⟨⟨x0, x1, x2, x3, x4, x5⟩, hrx, hbx⟩ := HALL.out wc hbc
      have HRX : Hid (Rec kepE wc p L) := hrx
      have HBX : Hid (RowKit.Below w.heap.size w wc) := hbx
      clear hbc hrx hbx k0 k1 k2 k3 k4 k5 HRC
      by_cases hkK : k < K
      · rw [decide_eq_true hkK]
        clear x0 x1 x2 x3 x4 x5
        go_wp2
        go_roundw
        case rel => exact ⟨k + 1, by omega, by go_num, HBC.out⟩
        case measure => simp [intOf]; omega
      · rw [decide_eq_false hkK]
        have hke : k = K := by omega
        subst hke
        have HTL : Hid ((L.take k).length = k) := by show _ = _; rw [List.length_take]; omega
        have HDL : Hid ((L.drop k).length = L.length - k) := List.length_drop
        have HTK : Hid (p = none → L.take k = [] ∧ c = 0) := fun e => ⟨by rw [(HN.out e).1, List.take_nil], (HN.out e).2⟩
        have HTR : Hid (Rec kepE wc p (L.take k)) := HRX.out.take k
        have HDR : Hid (Rec kepE wc (if c = k then p else p.map (·.add (k * 6))) (L.drop k) ∧ ((if c = k then p else p.map (·.add (k * 6))) = none → L.drop k = [] ∧ c - k = 0)) := HRX.out.drop (c := c) hkL hc HN.out
        have hlt1 : (L.take k).length ≤ 900000 := by rw [List.length_take]; omega
        have hld1 : (L.drop k).length ≤ 900000 := by rw [List.length_drop]; omega
        clear hkK HRX HLO HHI HBEF
        have HQQ : Hid (∀ W, RowKit.Below wc.heap.size wc W → W.cell? ⟨h, 0, none⟩ = some (.slice p L.length c) ∧ W.cell? ⟨w.heap.size, 0, none⟩ = some (.int .i64 v.n) ∧ W.cell? ⟨w.heap.size, 1, none⟩ = some (.int .i64 v.who) ∧ W.cell? ⟨w.heap.size, 2, none⟩ = some (.int .i64 v.size) ∧ W.cell? ⟨w.heap.size, 3, none⟩ = some (.int .i64 v.at_) ∧ W.cell? ⟨w.heap.size, 4, none⟩ = some (.string v.text)) := fun W hW => (HALL.out W (HBC.out.trans (hW.mono HBC.out.size))).1
        have HDR1 : Hid (∀ W, RowKit.Below wc.heap.size wc W → Rec kepE W (if c = k then p else p.map (·.add (k * 6))) (L.drop k)) := fun W hW => HDR.out.1.below hW
        have HKN : Hid (∀ z1 : World, ∀ j u, (kepE.enc (key, v))[j]? = some u → (z1.alloc (.cells #[.string key, .int .i64 v.n, .int .i64 v.who, .int .i64 v.size, .int .i64 v.at_, .string v.text] 51)).cell? ⟨z1.heap.size, 0 + j, none⟩ = some u) := fun z1 => kep_new key v z1
        go_wp2_with (first | (at_builtin; refine wpList_append_recs (E := kepE) rfl (.tmp 66) (.tmp 72) 41 51 rfl (.agg #[.string ⟨#[]⟩, .int .i64 0, .int .i64 0, .int .i64 0, .int .i64 0, .string ⟨#[]⟩]) 64 Tryz.underlying41 kepinfo rfl wc.heap.size (.slice none 0 0) [] rfl (OwnR.nil _ _ _) p (L.take k) c (by rw [HTL.out]; rfl) HTR.out HTK.out (by show 0 + (L.take k).length ≤ maxLen; unfold maxLen; omega) (by show (0 + (L.take k).length) * 64 ≤ _; omega) (Nat.le_refl _) ?_; intro y1 z1 hy1 hd1; rw [List.nil_append] at hy1; obtain ⟨n0, n1, n2, n3, n4, n5⟩ := HQQ.out z1 hd1; have HZ1 : Hid (RowKit.Below wc.heap.size wc z1) := hd1; have HY1 : Hid (OwnR kepE 51 (z1.alloc (.cells #[.string key, .int .i64 v.n, .int .i64 v.who, .int .i64 v.size, .int .i64 v.at_, .string v.text] 51)) wc.heap.size y1 (L.take k)) := hy1.kept ((RowKit.Below.refl _ _).alloc (Nat.le_refl _) _); have HZA : Hid (RowKit.Below wc.heap.size wc (z1.alloc (.cells #[.string key, .int .i64 v.n, .int .i64 v.who, .int .i64 v.size, .int .i64 v.at_, .string v.text] 51))) := hd1.alloc hd1.size _; clear hy1 hd1 x0 x1 x2 x3 x4 x5) | (at_builtin; refine wpList_append_rec (E := kepE) rfl (.tmp 74) (.tmp 78) 41 51 rfl (.agg #[.string ⟨#[]⟩, .int .i64 0, .int .i64 0, .int .i64 0, .int .i64 0, .string ⟨#[]⟩]) 64 Tryz.underlying41 kepinfo rfl wc.heap.size y1 (L.take k) rfl HY1.out z1.heap.size 0 1 (key, v) rfl (HKN.out z1) (by unfold maxLen; omega) (by omega) HZA.out.size (by simp) ?_; intro y2 z2 hy2 hd2; have HZ2 : Hid (RowKit.Below wc.heap.size wc z2) := HZA.out.trans hd2; obtain ⟨m0, m1, m2, m3, m4, m5⟩ := HQQ.out z2 HZ2.out; have HY2 : Hid (OwnR kepE 51 z2 wc.heap.size y2 (L.take k ++ [(key, v)])) := hy2; clear hy2 hd2 n0 n1 n2 n3 n4 n5) | (at_builtin; refine wpList_append_recs (E := kepE) rfl (.tmp 81) (.tmp 87) 41 51 rfl (.agg #[.string ⟨#[]⟩, .int .i64 0, .int .i64 0, .int .i64 0, .int .i64 0, .string ⟨#[]⟩]) 64 Tryz.underlying41 kepinfo rfl wc.heap.size y2 (L.take k ++ [(key, v)]) rfl HY2.out (if c = k then p else p.map (·.add (k * 6))) (L.drop k) (c - k) (by rw [HDL.out]; rfl) (HDR1.out z2 HZ2.out) HDR.out.2 (by rw [List.length_append]; show (L.take k).length + 1 + (L.drop k).length ≤ maxLen; unfold maxLen; omega) (by rw [List.length_append]; show ((L.take k).length + 1 + (L.drop k).length) * 64 ≤ _; omega) HZ2.out.size ?_; intro y3 z3 hy3 hd3; obtain ⟨l0, l1, l2, l3, l4, l5⟩ := HQQ.out z3 (HZ2.out.trans hd3); have hb3 : RowKit.Below w.heap.size w z3 := HBX.out.trans ((HZ2.out.trans hd3).mono HBX.out.size); have hfr : z3.frozen? ⟨h, 0, none⟩ = false := (HM.out.below hb3).free0; have HST : Hid (MHold (z3.setCell ⟨h, 0, none⟩ y3) h PL s ∧ Turn h w (z3.setCell ⟨h, 0, none⟩ y3)) := HM.out.store hb3 (by have h9 := hy3.base HBX.out.size; rw [HPL.out] at h9; exact h9); obtain ⟨p3, c3, hy3v, _⟩ := hy3.form; obtain ⟨m3, hm3⟩ : ∃ m3, m3 = (L.take k ++ [(key, v)] ++ L.drop k).length := ⟨_, rfl⟩; rw [← hm3] at hy3v; subst hy3v; clear hm3 hy3 hd3 hb3))
        all_goals (go_ret; exact ⟨rfl, HST.out⟩)
set_option maxRecDepth 10000 in
set_option maxHeartbeats 2000000 in
theorem rput_not (h : Nat) (L : List Kep) (s : Bool) (key : ByteArray) (v : Ver) (w : World) (hl : L.length ≤ 900000) (htx : v.text.size ≤ maxLen) (hm : MHold w h L s) (h0 : putErr L s key v ≠ 0) :
    Calls Tryz.prog 26 #[.pointer (some ⟨h, 0, none⟩), .string key, .agg #[.int .i64 v.n, .int .i64 v.who, .int .i64 v.size, .int .i64 v.at_, .string v.text]] w fun e w' => e = .returned (.int .i64 (putR L s key v).1) ∧ RowKit.Below w.heap.size w w' := by
  obtain ⟨w0, hw0⟩ : ∃ w0, w0 = w.alloc (.cells #[.int .i64 v.n, .int .i64 v.who, .int .i64 v.size, .int .i64 v.at_, .string v.text] 49) := ⟨_, rfl⟩
  have hb0 : RowKit.Below w.heap.size w w0 := by rw [hw0]; exact (RowKit.Below.refl _ _).alloc (Nat.le_refl _) _
  have b0 : w0.cell? ⟨w.heap.size, 0, none⟩ = some (.int .i64 v.n) := by rw [hw0, World.cell?_alloc_at _ _ _ _ rfl]; rfl
  have b1 : w0.cell? ⟨w.heap.size, 1, none⟩ = some (.int .i64 v.who) := by rw [hw0, World.cell?_alloc_at _ _ _ _ rfl]; rfl
  have b2 : w0.cell? ⟨w.heap.size, 2, none⟩ = some (.int .i64 v.size) := by rw [hw0, World.cell?_alloc_at _ _ _ _ rfl]; rfl
  have b3 : w0.cell? ⟨w.heap.size, 3, none⟩ = some (.int .i64 v.at_) := by rw [hw0, World.cell?_alloc_at _ _ _ _ rfl]; rfl
  have b4 : w0.cell? ⟨w.heap.size, 4, none⟩ = some (.string v.text) := by rw [hw0, World.cell?_alloc_at _ _ _ _ rfl]; rfl
  have HPE := putErr_any h L s key v w0 (by omega) htx (hm.below hb0)
  have HW0 : Hid (w0 = w.alloc (.cells #[.int .i64 v.n, .int .i64 v.who, .int .i64 v.size, .int .i64 v.at_, .string v.text] 49)) := hw0
  have HB0 : Hid (RowKit.Below w.heap.size w w0) := hb0
  by_cases hneg : putErr L s key v < 0
  · have HR : Hid ((putR L s key v).1 = 0) := by show _ = _; unfold putR; rw [if_neg h0, if_pos hneg]
    rw [HR.out]
    generalize putErr L s key v = e0 at *
    have d1 : decide (e0 < 0) = true := decide_eq_true hneg
    clear hm hw0 hb0
    go_enter Tryz.func26, Tryz.ntmps26
    go_wp2_with (rw [← HW0.out])
    refine HPE.mono ?_
    rintro e w1 ⟨rfl, hb1⟩
    clear HPE
    go_wp2
    go_ret
    exact ⟨rfl, HB0.out.trans (hb1.mono HB0.out.size)⟩
  · have HR : Hid ((putR L s key v).1 = putErr L s key v) := by show _ = _; unfold putR; rw [if_neg h0, if_neg hneg]
    rw [HR.out]
    clear HR
    generalize putErr L s key v = e0 at *
    have d1 : decide (e0 < 0) = false := decide_eq_false hneg
    have d2 : decide (0 < e0) = true := decide_eq_true (by omega)
    clear hm hw0 hb0
    go_enter Tryz.func26, Tryz.ntmps26
    go_wp2_with (rw [← HW0.out])
    refine HPE.mono ?_
    rintro e w1 ⟨rfl, hb1⟩
    clear HPE
    go_wp2
    go_ret
    exact ⟨rfl, HB0.out.trans (hb1.mono HB0.out.size)⟩
theorem rput_any (h : Nat) (L : List Kep) (s : Bool) (key : ByteArray) (v : Ver) (w : World) (hl : L.length ≤ 900000) (htx : v.text.size ≤ maxLen) (hm : MHold w h L s) :
    Calls Tryz.prog 26 #[.pointer (some ⟨h, 0, none⟩), .string key, .agg #[.int .i64 v.n, .int .i64 v.who, .int .i64 v.size, .int .i64 v.at_, .string v.text]] w fun e w' => e = .returned (.int .i64 (putR L s key v).1) ∧ MHold w' h (putR L s key v).2 s ∧ Turn h w w' := by
  by_cases h0 : putErr L s key v = 0
  · have e1 : putR L s key v = (0, putL L key v) := if_pos h0
    rw [e1]
    exact rput_in h L s key v w hl htx hm h0
  · refine (rput_not h L s key v w hl htx hm h0).mono ?_
    rintro e w' ⟨rfl, hb⟩
    have e2 : (putR L s key v).2 = L := by unfold putR; rw [if_neg h0]; split <;> rfl
    rw [e2]
    obtain ⟨p, c, q0, _⟩ := hm.row
    exact ⟨rfl, hm.below hb, Turn.of_below (lt_of_cellH q0) hb⟩
end
/-- In the world w the bytes l lie from p on. -/
structure Seg (w : World) (p : Option Addr) (l : List Nat) : Prop where
  lt : Gf.Bytes l
  cells : l = [] ∨ ∃ b o, p = some ⟨b, o, none⟩ ∧ b < w.heap.size ∧ ∀ i, i < l.length → w.cell? ⟨b, o + i, none⟩ = some (.int .u8 ((Gf.nth l i : Nat) : Int))
theorem Seg.drewN {w : World} {p : Option Addr} {l : List Nat} (h : Seg w p l) (n : Nat) : Seg (w.drewN n) p l := ⟨h.lt, h.cells⟩
theorem Seg.below {w w' : World} {p : Option Addr} {l : List Nat} (h : Seg w p l) (hb : Below w.heap.size w w') : Seg w' p l := by
  refine ⟨h.lt, ?_⟩
  rcases h.cells with h | ⟨b, o, hp, hlt, hc⟩
  · exact Or.inl h
  · exact Or.inr ⟨b, o, hp, Nat.lt_of_lt_of_le hlt hb.size, fun i hi => (hb.cell (p := ⟨b, o + i, none⟩) hlt).trans (hc i hi)⟩
section
def byteV (n : Nat) : Value := .int .u8 (n : Int)
/-- v owns the bytes l in a row from block B on. -/
def Own (w : World) (B : Nat) (e : TypeId) (v : Value) (l : List Nat) : Prop := w.ownsRow B e 1 v l.length (l.map byteV)
theorem Own.nil (w : World) (B : Nat) (e : TypeId) : Own w B e (.slice none 0 0) [] := World.ownsRow_nil w B e 1
theorem Own.kept {w w' : World} {B : Nat} {e : TypeId} {v : Value} {l : List Nat} {row : Option Nat} (h : Own w B e v l) (hg : w.grownBy w' row) (hne : v.ownBlock = none ∨ v.ownBlock ≠ row) : Own w' B e v l := World.ownsRow.kept h hg hne
theorem Own.block {w : World} {B : Nat} {e : TypeId} {v : Value} {l : List Nat} (h : Own w B e v l) {k : Nat} (hk : v.ownBlock = some k) : B ≤ k ∧ k < w.heap.size := World.ownsRow.lt h k hk
theorem grownBy_drewN (w : World) (n : Nat) (row : Option Nat) : w.grownBy (w.drewN n) row := ⟨rfl, rfl, rfl, Nat.le_refl _, fun _ _ _ => rfl⟩
theorem Own.seg {w : World} {B : Nat} {e : TypeId} {v : Value} {l : List Nat} (h : Own w B e v l) (hl : Gf.Bytes l) : ∃ p cap, v = .slice p l.length cap ∧ Seg w p l := by
  rcases h.2 with ⟨rfl, h0⟩ | ⟨g, cap, cur, rfl, hb, hg, hnc, hcm, hcs, htake⟩
  · have : l = [] := List.length_eq_zero_iff.1 h0
    subst this
    exact ⟨none, 0, rfl, hl, Or.inl rfl⟩
  · refine ⟨some ⟨g, 0, none⟩, cap, rfl, hl, Or.inr ⟨g, 0, rfl, (Array.getElem?_eq_some_iff.1 hg).1, fun i hi => ?_⟩⟩
    have hc := World.ownsRow.cells (g := g) h rfl i (byteV (Gf.nth l i)) (by rw [List.getElem?_map, List.getElem?_eq_getElem hi, Gf.nth_getElem l i hi]; rfl)
    rw [Addr.add_lit] at hc
    exact hc
section
variable {P : Program} {w : World}
theorem append_where (B : Nat) (t ty e : TypeId) (i : TypeInfo) (z : Value) (ht : P.underlying t = some (.slice e)) (hi : P.info? e = some i) (hz : i.zero = some z) (hsize : i.size = 1) (hby : i.bytes = 1)
    (v : Value) (l : List Nat) (hown : Own w B e v l) (ad : Addr) (c b : Nat) (hb : w.cell? ad = some (byteV b)) (hl : l.length + 1 ≤ 1000000) {v' : Value} {w' : World}
    (hr : (Builtin.append_ #[t, t] ty #[v, .slice (some ad) 1 c]).run P w = .ok v' w') : v'.ownBlock = v.ownBlock ∨ v'.ownBlock = some w.heap.size := by
  have hnews : ∀ j u, [byteV b][j]? = some u → w.cell? (ad.add j) = some u := by
    intro j u hj
    match j, hj with
    | 0, hj =>
      obtain rfl : byteV b = u := by simpa using hj
      simpa [Addr.add] using hb
  rcases hown.2 with ⟨rfl, h0⟩ | ⟨g, cap, cur, rfl, hbg, hg, hnc, hcm, hcs, htake⟩
  · have := run_append_nil (P := P) w t ty e i z ht hi hz ad 1 c [byteV b] (by rw [hsize]; rfl) hnews (by decide) (by decide) (by rw [hby]; decide)
    rw [this] at hr
    injection hr with h1 h2
    subst h1
    exact Or.inr rfl
  · by_cases hroom : l.length + 1 ≤ cap
    · have := run_append_room (P := P) w t ty e i ht hi g l.length cap cur hg ad 1 c [byteV b] (by rw [hsize]; rfl) hnews (fun u hu => by rw [List.mem_singleton.1 hu]; rfl) hroom (by rw [hsize, hcs]; simpa using hroom)
      rw [this] at hr
      injection hr with h1 h2
      subst h1
      exact Or.inl rfl
    · have := run_append_grow (P := P) w t ty e i z ht hi hz ⟨g, 0, none⟩ l.length cap (l.map byteV) (by rw [hsize]; exact hown.1) (World.ownsRow.cells (g := g) hown rfl) ad 1 c [byteV b] (by rw [hsize]; rfl) hnews (by omega) (by omega) (growslice_fits (by omega) (by rw [hby]; omega))
      rw [this] at hr
      injection hr with h1 h2
      subst h1
      exact Or.inr rfl
theorem wp_append_byte {o : Oper} {a : Act} {K : Act → World → Prop} {Q : Exit → Act → World → Prop} (s x : Operand) (t : TypeId)
    (ho : o.op = .call { callee := .builtin .append, args := #[s, x], argTypes := #[t, t] })
    (B : Nat) (e : TypeId) (i : TypeInfo) (ht : P.underlying t = some (.slice e)) (hi : P.info? e = some i) (hz : i.zero = some (byteV 0)) (hsize : i.size = 1) (hby : i.bytes = 1)
    (v : Value) (l : List Nat) (hs : a.eval s = v) (hown : Own w B e v l) (ad : Addr) (c b : Nat) (hx : a.eval x = .slice (some ad) 1 c) (hb : w.cell? ad = some (byteV b)) (hl : l.length + 1 ≤ 1000000) (hbase : B ≤ w.heap.size)
    (h : ∀ v' w', Own w' B e v' (l ++ [b]) → w.grownBy w' v.ownBlock → (v'.ownBlock = v.ownBlock ∨ v'.ownBlock = some w.heap.size) → K (a.put o.dst v') w') : o.wp P a w K Q := by
  have hnews : ∀ j u, [byteV b][j]? = some u → w.cell? (ad.add j) = some u := by
    intro j u hj
    match j, hj with
    | 0, hj =>
      obtain rfl : byteV b = u := by simpa using hj
      simpa [Addr.add] using hb
  obtain ⟨v', w', hr, h2, h3, _⟩ := run_append_own (P := P) w B t o.type e i (byteV 0) 1 1 ht hi hz hsize hby rfl (by decide) v l.length (l.map byteV) hown ad 1 c [byteV b] rfl hnews (fun u hu => by rw [List.mem_singleton.1 hu]; rfl) (by unfold maxLen; omega) (by omega) hbase
  have h4 := append_where B t o.type e i (byteV 0) ht hi hz hsize hby v l hown ad c b hb hl hr
  have h5 : Own w' B e v' (l ++ [b]) := by
    unfold Own
    rw [List.length_append, List.map_append]
    exact h2
  unfold Oper.wp execOp
  simp only [ho, resolve, invoke, builtin, Sem.run_bind, Sem.run_pure, Result.andThen_ok, List.map_toArray, List.map_cons, List.map_nil, hs, hx, hr]
  exact h v' w' h5 h3 h4
theorem wpList_append_byte {ops : Array Oper} {rest : List Oper} {o : Oper} {a : Act} {Q : Exit → Act → World → Prop} (hgd : o.guard = none) (s x : Operand) (t : TypeId)
    (ho : o.op = .call { callee := .builtin .append, args := #[s, x], argTypes := #[t, t] })
    (B : Nat) (e : TypeId) (i : TypeInfo) (ht : P.underlying t = some (.slice e)) (hi : P.info? e = some i) (hz : i.zero = some (byteV 0)) (hsize : i.size = 1) (hby : i.bytes = 1)
    (v : Value) (l : List Nat) (hs : a.eval s = v) (hown : Own w B e v l) (ad : Addr) (c b : Nat) (hx : a.eval x = .slice (some ad) 1 c) (hb : w.cell? ad = some (byteV b)) (hl : l.length + 1 ≤ 1000000) (hbase : B ≤ w.heap.size)
    (h : ∀ v' w', Own w' B e v' (l ++ [b]) → w.grownBy w' v.ownBlock → (v'.ownBlock = v.ownBlock ∨ v'.ownBlock = some w.heap.size) → wpList P ops Q rest (a.put o.dst v') w') : wpList P ops Q (o :: rest) a w :=
  wpList_plain hgd fun _ hK => wp_append_byte s x t ho B e i ht hi hz hsize hby v l hs hown ad c b hx hb hl hbase fun v' w' h2 h3 h4 => hK _ _ (h v' w' h2 h3 h4)
end
end
section
/-- v owns the values vs in a row from block B on. -/
def OwnV (w : World) (B : Nat) (e : TypeId) (v : Value) (vs : List Value) : Prop := w.ownsRow B e 1 v vs.length vs
theorem OwnV.nil (w : World) (B : Nat) (e : TypeId) : OwnV w B e (.slice none 0 0) [] := World.ownsRow_nil w B e 1
theorem OwnV.kept {w w' : World} {B : Nat} {e : TypeId} {v : Value} {l : List Value} {row : Option Nat} (h : OwnV w B e v l) (hg : w.grownBy w' row) (hne : v.ownBlock = none ∨ v.ownBlock ≠ row) : OwnV w' B e v l := World.ownsRow.kept h hg hne
theorem OwnV.block {w : World} {B : Nat} {e : TypeId} {v : Value} {l : List Value} (h : OwnV w B e v l) {k : Nat} (hk : v.ownBlock = some k) : B ≤ k ∧ k < w.heap.size := World.ownsRow.lt h k hk
theorem OwnV.cells {w : World} {B : Nat} {e : TypeId} {v : Value} {l : List Value} (h : OwnV w B e v l) : v = .slice none 0 0 ∧ l = [] ∨ ∃ g cap, v = .slice (some ⟨g, 0, none⟩) l.length cap ∧ B ≤ g ∧ g < w.heap.size ∧ ∀ i u, l[i]? = some u → w.cell? ⟨g, i, none⟩ = some u := by
  rcases h.2 with ⟨rfl, h0⟩ | ⟨g, cap, cur, rfl, hb, hg, hnc, hcm, hcs, htake⟩
  · exact Or.inl ⟨rfl, List.length_eq_zero_iff.1 h0⟩
  · refine Or.inr ⟨g, cap, rfl, hb, (Array.getElem?_eq_some_iff.1 hg).1, fun i u hu => ?_⟩
    have hc := World.ownsRow.cells (g := g) h rfl i u hu
    rw [Addr.add_lit, Nat.zero_add] at hc
    exact hc
section
variable {P : Program} {w : World}
theorem append_where_val (B : Nat) (t ty e : TypeId) (i : TypeInfo) (z : Value) (bytes : Nat) (ht : P.underlying t = some (.slice e)) (hi : P.info? e = some i) (hz : i.zero = some z) (hsize : i.size = 1) (hby : i.bytes = bytes) (h24 : bytes ≤ 64)
    (v : Value) (l : List Value) (hown : OwnV w B e v l) (ad : Addr) (c : Nat) (u : Value) (hu : u.oneCell' = true) (hb : w.cell? ad = some u) (hl : l.length + 1 ≤ 1000000) {v' : Value} {w' : World}
    (hr : (Builtin.append_ #[t, t] ty #[v, .slice (some ad) 1 c]).run P w = .ok v' w') : v'.ownBlock = v.ownBlock ∨ v'.ownBlock = some w.heap.size := by
  have hnews : ∀ j x, [u][j]? = some x → w.cell? (ad.add j) = some x := by
    intro j x hj
    match j, hj with
    | 0, hj =>
      obtain rfl : u = x := by simpa using hj
      simpa [Addr.add] using hb
  rcases hown.2 with ⟨rfl, h0⟩ | ⟨g, cap, cur, rfl, hbg, hg, hnc, hcm, hcs, htake⟩
  · have := run_append_nil (P := P) w t ty e i z ht hi hz ad 1 c [u] (by rw [hsize]; rfl) hnews (by decide) (by decide) (by rw [hby]; omega)
    rw [this] at hr
    injection hr with h1 h2
    subst h1
    exact Or.inr rfl
  · by_cases hroom : l.length + 1 ≤ cap
    · have := run_append_room (P := P) w t ty e i ht hi g l.length cap cur hg ad 1 c [u] (by rw [hsize]; rfl) hnews (fun x hx => by rw [List.mem_singleton.1 hx]; exact hu) hroom (by rw [hsize, hcs]; simpa using hroom)
      rw [this] at hr
      injection hr with h1 h2
      subst h1
      exact Or.inl rfl
    · have hbd : (l.length + 1) * bytes ≤ 1000000 * 64 := Nat.mul_le_mul hl h24
      have := run_append_grow (P := P) w t ty e i z ht hi hz ⟨g, 0, none⟩ l.length cap l (by rw [hsize]; exact hown.1) (World.ownsRow.cells (g := g) hown rfl) ad 1 c [u] (by rw [hsize]; rfl) hnews (by omega) (by omega) (growslice_fits (by omega) (by rw [hby]; omega))
      rw [this] at hr
      injection hr with h1 h2
      subst h1
      exact Or.inr rfl
theorem wpList_append_val {ops : Array Oper} {rest : List Oper} {o : Oper} {a : Act} {Q : Exit → Act → World → Prop} (hgd : o.guard = none) (s x : Operand) (t : TypeId)
    (ho : o.op = .call { callee := .builtin .append, args := #[s, x], argTypes := #[t, t] })
    (B : Nat) (e : TypeId) (i : TypeInfo) (z : Value) (bytes : Nat) (ht : P.underlying t = some (.slice e)) (hi : P.info? e = some i) (hz : i.zero = some z) (hzs : z.cells.size = 1) (hsize : i.size = 1) (hby : i.bytes = bytes) (h24 : bytes ≤ 64)
    (v : Value) (l : List Value) (hs : a.eval s = v) (hown : OwnV w B e v l) (ad : Addr) (c : Nat) (u : Value) (hu : u.oneCell' = true) (hx : a.eval x = .slice (some ad) 1 c) (hb : w.cell? ad = some u) (hl : l.length + 1 ≤ 1000000) (hbase : B ≤ w.heap.size)
    (h : ∀ v' w', OwnV w' B e v' (l ++ [u]) → w.grownBy w' v.ownBlock → (v'.ownBlock = v.ownBlock ∨ v'.ownBlock = some w.heap.size) → wpList P ops Q rest (a.put o.dst v') w') : wpList P ops Q (o :: rest) a w := by
  have hnews : ∀ j x, [u][j]? = some x → w.cell? (ad.add j) = some x := by
    intro j x hj
    match j, hj with
    | 0, hj =>
      obtain rfl : u = x := by simpa using hj
      simpa [Addr.add] using hb
  have hbd : (l.length + 1) * bytes ≤ 1000000 * 64 := Nat.mul_le_mul hl h24
  refine wpList_plain hgd fun K hK => ?_
  obtain ⟨v', w', hr, h2, h3, _⟩ := run_append_own (P := P) w B t o.type e i z 1 bytes ht hi hz hsize hby hzs (by decide) v l.length l hown ad 1 c [u] rfl hnews (fun x hx => by rw [List.mem_singleton.1 hx]; exact hu) (by unfold maxLen; omega) (by omega) hbase
  have h4 := append_where_val B t o.type e i z bytes ht hi hz hsize hby h24 v l hown ad c u hu hb hl hr
  have h5 : OwnV w' B e v' (l ++ [u]) := by
    unfold OwnV
    rw [List.length_append]
    exact h2
  unfold Oper.wp execOp
  simp only [ho, resolve, invoke, builtin, Sem.run_bind, Sem.run_pure, Result.andThen_ok, List.map_toArray, List.map_cons, List.map_nil, hs, hx, hr]
  exact hK _ _ (h v' w' h5 h3 h4)
/-- A row copied behind nil: nil again, or a new row. -/
theorem wpList_copy_row {ops : Array Oper} {rest : List Oper} {o : Oper} {a : Act} {Q : Exit → Act → World → Prop} (hgd : o.guard = none) (s x : Operand) (t : TypeId)
    (ho : o.op = .call { callee := .builtin .append, args := #[s, x], argTypes := #[t, t] })
    (e : TypeId) (i : TypeInfo) (ht : P.underlying t = some (.slice e)) (hi : P.info? e = some i) (hz : i.zero = some (byteV 0)) (hsize : i.size = 1) (hby : i.bytes = 1)
    (hs : a.eval s = .slice none 0 0) (q : Option Addr) (r : List Nat) (c : Nat) (hx : a.eval x = .slice q r.length c) (hq : Seg w q r) (hl : r.length ≤ 1000000) (hc0 : q = none → c = 0)
    (h : ∀ v' w', Own w' w.heap.size e v' r → Below w.heap.size w w' → wpList P ops Q rest (a.put o.dst v') w') : wpList P ops Q (o :: rest) a w := by
  rcases hq.cells with hr | ⟨b, o', rfl, hb, hcell⟩
  · subst hr
    refine wpList_plain hgd fun K hK => ?_
    have hr : (Builtin.append_ #[t, t] o.type #[.slice none 0 0, .slice q 0 c]).run P w = .ok (.slice none 0 0) w := by
      cases q with
      | none => obtain rfl := hc0 rfl; simp [Builtin.append_, run_underlying ht, sizeOf, typeInfo, hi, Builtin.lenOf, Builtin.firstCells]
      | some ad => simp [Builtin.append_, run_underlying ht, sizeOf, typeInfo, hi, Builtin.lenOf, Builtin.firstCells, loadCells, loadCellsFrom]
    unfold Oper.wp execOp
    simp only [List.length_nil] at hx
    simp only [ho, resolve, invoke, builtin, Sem.run_bind, Sem.run_pure, Result.andThen_ok, List.map_toArray, List.map_cons, List.map_nil, hs, hx, hr]
    exact hK _ _ (h _ _ (Own.nil w _ e) (Below.refl _ _))
  · refine wpList_append_own w hgd s x t ho w.heap.size e i (byteV 0) 1 1 ht hi hz hsize hby rfl (by decide) (.slice none 0 0) 0 [] hs (World.ownsRow_nil w _ e 1) ⟨b, o', none⟩ r.length c (r.map byteV) hx (by simp) ?_ ?_ (by unfold maxLen; omega) (by omega) (Nat.le_refl _) ?_
    · intro j u hj
      rw [List.getElem?_map] at hj
      obtain ⟨y, hy1, hy2⟩ := Option.map_eq_some_iff.1 hj
      have hjl : j < r.length := (List.getElem?_eq_some_iff.1 hy1).1
      rw [Addr.add_lit, hcell j hjl, Gf.nth_getElem r j hjl, ← hy2]
      have : r[j] = y := (List.getElem?_eq_some_iff.1 hy1).2
      rw [this]
      rfl
    · intro u hu
      obtain ⟨y, _, rfl⟩ := List.mem_map.1 hu
      rfl
    · intro v' w' hown hg _
      refine h v' w' ?_ ((Below.refl _ _).grown hg (Nat.le_refl _) (fun k hk => by simp [Value.ownBlock] at hk))
      simpa [Own] using hown
end
end
section
/-- v owns the texts l in a row from block B on. -/
def OwnT (w : World) (B : Nat) (v : Value) (l : List ByteArray) : Prop := OwnV w B 9 v (l.map Value.string)
theorem OwnT.nil (w : World) (B : Nat) : OwnT w B (.slice none 0 0) [] := OwnV.nil w B _
theorem OwnT.block {w : World} {B : Nat} {v : Value} {l : List ByteArray} (h : OwnT w B v l) {k : Nat} (hk : v.ownBlock = some k) : B ≤ k ∧ k < w.heap.size := OwnV.block h hk
theorem OwnT.form {w : World} {B : Nat} {v : Value} {l : List ByteArray} (h : OwnT w B v l) : ∃ p c, v = .slice p l.length c ∧ Strs w p l ∧ l.length ≤ c ∧ (p = none → c = 0) ∧ ∀ b o, p = some ⟨b, o, none⟩ → B ≤ b ∧ b < w.heap.size := by
  have hcell := OwnV.cells h
  have h0 : w.ownsRow B 9 1 v (l.map Value.string).length (l.map Value.string) := h
  rcases h0.2 with ⟨rfl, hz⟩ | ⟨g, cap, cur, rfl, hb, hg, hnc, hcm, hcs, htake⟩
  · have e : l = [] := by simpa using hz
    subst e
    exact ⟨none, 0, rfl, Or.inl rfl, Nat.le_refl _, fun _ => rfl, fun _ _ h => by cases h⟩
  · rw [List.length_map] at hnc ⊢
    have hlt : g < w.heap.size := (Array.getElem?_eq_some_iff.1 hg).1
    refine ⟨some ⟨g, 0, none⟩, cap, rfl, Or.inr ⟨g, 0, rfl, hlt, fun i hi => ?_⟩, hnc, fun h => (by cases h), fun b o h => ?_⟩
    · rcases hcell with ⟨h1, _⟩ | ⟨g', cap', hv, _, _, hc⟩
      · cases h1
      · have hgg : g = g' := by
          have := congrArg Value.ownBlock hv
          simpa [Value.ownBlock] using this
        subst hgg
        rw [Nat.zero_add, hc i (.string (txt l i)) (by rw [List.getElem?_map, List.getElem?_eq_getElem hi, txt_getElem l i hi]; rfl)]
    · obtain ⟨rfl, rfl⟩ : g = b ∧ 0 = o := by simpa using h
      exact ⟨hb, hlt⟩
theorem OwnT.base {w : World} {B B' : Nat} {v : Value} {l : List ByteArray} (h : OwnT w B v l) (hb : B' ≤ B) : OwnT w B' v l := by
  obtain ⟨h1, h2⟩ := h
  refine ⟨h1, ?_⟩
  rcases h2 with h2 | ⟨g, cap, cur, hv, hbg, hrest⟩
  · exact Or.inl h2
  · exact Or.inr ⟨g, cap, cur, hv, Nat.le_trans hb hbg, hrest⟩
theorem OwnT.kept {w w' : World} {B : Nat} {v : Value} {l : List ByteArray} (h : OwnT w B v l) (hb : Below w.heap.size w w') : OwnT w' B v l :=
  OwnV.kept (row := none) h ⟨hb.os, hb.tape, hb.output, hb.size, fun k hk _ => hb.block k hk⟩ (by cases v.ownBlock <;> simp)
section
variable {w : World}
theorem wpList_append_strs {ops : Array Oper} {rest : List Oper} {o : Oper} {a : Act} {Q : Exit → Act → World → Prop} (hgd : o.guard = none) (s x : Operand)
    (ho : o.op = .call { callee := .builtin .append, args := #[s, x], argTypes := #[77, 77] })
    (B : Nat) (v : Value) (l : List ByteArray) (hs : a.eval s = v) (hown : OwnT w B v l) (q : Option Addr) (r : List ByteArray) (c : Nat) (hx : a.eval x = .slice q r.length c) (hq : Strs w q r) (hc0 : q = none → r = [] ∧ c = 0) (hl : l.length + r.length ≤ 8796093022208) (hbase : B ≤ w.heap.size)
    (h : ∀ v' w', OwnT w' B v' (l ++ r) → Below B w w' → wpList Tryz.prog ops Q rest (a.put o.dst v') w') : wpList Tryz.prog ops Q (o :: rest) a w := by
  obtain ⟨i0, hi0, hz0, hz1, hzb⟩ := info_parts (P := Tryz.prog) (e := 9) (z := .string ⟨#[]⟩) (size := 1) (bytes := 16) (by kernel_rfl)
  have hfin : ∀ v' w', w'.ownsRow B 9 1 v' ((l.map Value.string).length + r.length) (l.map Value.string ++ r.map Value.string) → w.grownBy w' v.ownBlock → wpList Tryz.prog ops Q rest (a.put o.dst v') w' := fun v' w' h1 h2 => by
    refine h v' w' ?_ ((Below.refl _ _).grown h2 hbase (fun k hk => (hown.block hk).1))
    unfold OwnT OwnV
    have e : (l.map Value.string ++ r.map Value.string).length = (l.map Value.string).length + r.length := by simp
    rw [List.map_append, e]
    exact h1
  cases q with
  | none =>
    obtain ⟨hr, hc⟩ := hc0 rfl
    subst hr hc
    refine wpList_append_own_none hgd s x _ ho B 9 i0 1 Tryz.underlying77 hi0 v (l.map Value.string).length (l.map Value.string) hs hown hx ?_
    have := h v w (by rw [List.append_nil]; exact hown) (Below.refl _ _)
    exact this
  | some ad =>
    refine wpList_append_own w hgd s x _ ho B 9 i0 (.string ⟨#[]⟩) 1 16 Tryz.underlying77 hi0 hz0 hz1 hzb rfl (by decide) v (l.map Value.string).length (l.map Value.string) hs hown ad r.length c (r.map Value.string) hx (by simp) ?_ ?_ (by rw [List.length_map]; unfold maxLen; omega) (by rw [List.length_map]; omega) hbase (fun v' w' h1 h2 _ => hfin v' w' h1 h2)
    · intro j u hj
      rw [List.getElem?_map] at hj
      obtain ⟨y, hy1, hy2⟩ := Option.map_eq_some_iff.1 hj
      have hjl : j < r.length := (List.getElem?_eq_some_iff.1 hy1).1
      rcases hq with h0 | ⟨b, o', hp, _, hcell⟩
      · rw [h0] at hjl; exact absurd hjl (Nat.not_lt_zero _)
      · obtain rfl : ad = ⟨b, o', none⟩ := by simpa using hp
        rw [Addr.add_lit, hcell j hjl, txt_getElem r j hjl, ← hy2, (List.getElem?_eq_some_iff.1 hy1).2]
    · intro u hu
      obtain ⟨y, _, rfl⟩ := List.mem_map.1 hu
      rfl
/-- One text more, out of a row of one. -/
theorem wpList_append_str {ops : Array Oper} {rest : List Oper} {o : Oper} {a : Act} {Q : Exit → Act → World → Prop} (hgd : o.guard = none) (s x : Operand)
    (ho : o.op = .call { callee := .builtin .append, args := #[s, x], argTypes := #[77, 77] })
    (B : Nat) (v : Value) (l : List ByteArray) (hs : a.eval s = v) (hown : OwnT w B v l) (ad : Addr) (t : ByteArray) (c : Nat) (hx : a.eval x = .slice (some ad) 1 c) (hq : w.cell? ad = some (.string t)) (hl : l.length + 1 ≤ 1000000) (hbase : B ≤ w.heap.size)
    (h : ∀ v' w', OwnT w' B v' (l ++ [t]) → Below B w w' → wpList Tryz.prog ops Q rest (a.put o.dst v') w') : wpList Tryz.prog ops Q (o :: rest) a w := by
  obtain ⟨i0, hi0, hz0, hz1, hzb⟩ := info_parts (P := Tryz.prog) (e := 9) (z := .string ⟨#[]⟩) (size := 1) (bytes := 16) (by kernel_rfl)
  refine wpList_append_val hgd s x _ ho B 9 i0 (.string ⟨#[]⟩) 16 Tryz.underlying77 hi0 hz0 rfl hz1 hzb (by decide) v (l.map Value.string) hs hown ad c (.string t) rfl hx hq (by rw [List.length_map]; exact hl) hbase fun v' w' h1 h2 _ => h v' w' ?_ ((Below.refl _ _).grown h2 hbase (fun k hk => (hown.block hk).1))
  unfold OwnT
  rw [List.map_append]
  exact h1
end
end
set_option maxRecDepth 10000 in
set_option maxHeartbeats 8000000 in
theorem rkeys_any (h : Nat) (L : List Kep) (s : Bool) (w : World) (hl : L.length ≤ 900000) (hm : MHold w h L s) :
    Calls Tryz.prog 35 #[.pointer (some ⟨h, 0, none⟩)] w fun e w' => (∃ v, e = .returned v ∧ OwnT w' w.heap.size v (keysTo L L.length)) ∧ Below w.heap.size w w' := by
  obtain ⟨p, c, q0, hrec, hc, hn, hne⟩ := hm.row
  have HREC : Hid (Rec kepE w p L) := hrec
  have hlt := lt_of_cellH q0
  have HQ0 : Hid (w.cell? ⟨h, 0, none⟩ = some (.slice p L.length c)) := q0
  clear hrec hm q0 hne hn
  go_enter Tryz.func35, Tryz.ntmps35
  go_wp2
  go_loopw [3, 4] (fun v x wq => ∃ i : Nat, i ≤ L.length ∧ x = .int .i64 i ∧ OwnT wq w.heap.size v (keysTo L i) ∧ Below w.heap.size w wq) (fun _ x _ => L.length - (intOf x).toNat)
  case atStart => exact ⟨0, Nat.zero_le _, rfl, OwnT.nil _ _, Below.refl _ _⟩
  case round =>
    obtain ⟨i, hi, rfl, hO, hB⟩ := hrel
    obtain ⟨w1, rfl⟩ : ∃ w1, w1 = wr := ⟨_, rfl⟩
    obtain ⟨po, co, hvf, hSo, _, _, _⟩ := hO.form
    subst hvf
    have HO : Hid (OwnT w1 w.heap.size (.slice po (keysTo L i).length co) (keysTo L i)) := hO
    have HB : Hid (Below w.heap.size w w1) := hB
    have q0 : w1.cell? ⟨h, 0, none⟩ = some (.slice p L.length c) := (hB.cell (p := ⟨h, 0, none⟩) hlt).trans HQ0.out
    have hz1 : w.heap.size ≤ w1.heap.size := hB.size
    have hkl := keysTo_le L i
    clear hO hB
    by_cases hil : i < L.length
    · obtain ⟨b, o, hpp, hblt, c0, c1, c2, c3, c4, c5⟩ := kep_cells (HREC.out.below HB.out) hil
      subst hpp
      clear c1 c2 c3 c4 c5
      have HNEW := @keysTo_new L i
      have HOLD := @keysTo_old L i
      by_cases h0 : (keysTo L i).length = 0
      · have HNX : Hid (keysTo L (i + 1) = keysTo L i ++ [(kepAt L i).1]) := HNEW (Or.inl h0)
        have hks : keysTo L i = [] := List.length_eq_zero_iff.1 h0
        have HKS : Hid (keysTo L i = []) := hks
        rw [h0] at *
        clear HNEW HOLD hks hSo
        generalize (kepAt L i).1 = t at *
        go_wp2
        go_quiet (fail)
        have HB2 : Hid (Below w.heap.size w (w1.drewN nq)) := below_drewN HB.out nq
        have HO2 : Hid (OwnT (w1.drewN nq) w.heap.size (.slice po 0 co) []) := by
          have := HO.out
          rw [HKS.out] at this
          exact this.kept (below_drewN (Below.refl _ _) nq)
        have q0' : (w1.drewN nq).cell? ⟨h, 0, none⟩ = some (.slice (some ⟨b, o, none⟩) L.length c) := q0
        have c0' : (w1.drewN nq).cell? ⟨b, o + i * 6, none⟩ = some (.string t) := c0
        have hz2 : w.heap.size ≤ (w1.drewN nq).heap.size := hz1
        clear q0 c0 HO HB hz1
        generalize w1.drewN nq = w2 at HB2 HO2 q0' c0' hz2 ⊢
        go_wp2_with (first | (at_builtin; refine wpList_append_str rfl (.tmp 34) (.tmp 43) rfl w.heap.size (.slice po 0 co) [] rfl (HO2.out.kept ((Below.refl _ _).alloc (Nat.le_refl _) _)) ⟨w2.heap.size, 0, none⟩ t 1 rfl (by rw [World.cell?_alloc_at _ _ _ _ rfl]; rfl) (by decide) (by simp; omega) ?_; intro v3 w3 hO3 hb3))
        have HO3 : Hid (OwnT w3 w.heap.size v3 ([] ++ [t])) := hO3
        have HB3 : Hid (Below w.heap.size w w3) := (HB2.out.alloc hz2 _).trans hb3
        clear hO3 hb3
        go_wp2
        go_roundw
        case rel => exact ⟨i + 1, by omega, by go_num, by rw [HNX.out, HKS.out]; exact HO3.out, HB3.out⟩
        case measure => simp [intOf]; omega
      · by_cases he : txt (keysTo L i) ((keysTo L i).length - 1) = (kepAt L i).1
        · have HNX : Hid (keysTo L (i + 1) = keysTo L i) := HOLD (by
            rintro (h1 | h1)
            · exact h0 h1
            · exact h1 he)
          rcases hSo with hz | ⟨bo, oo, hpo, holt, hoc⟩
          · rw [hz] at h0; exact absurd rfl h0
          subst hpo
          have q1 := hoc ((keysTo L i).length - 1) (by omega)
          rw [he] at q1
          clear hoc HNEW HOLD he
          generalize (kepAt L i).1 = t at *
          generalize keysTo L i = ks at *
          have f1 : decide (ks.length = 0) = false := decide_eq_false h0
          have f2 : ((ks.length : Int) == 0) = false := by
            rw [beq_eq_false_iff_ne]
            omega
          have l3 : IntKind.i64.wrap ((ks.length : Int) - 1) = ((ks.length - 1 : Nat) : Int) := by rw [IntKind.wrap_i64]; omega
          have l5 : (ks.length : Int) - 1 < (ks.length : Int) := by omega
          have l6 : (0 : Int) ≤ (ks.length : Int) - 1 := by omega
          have l7 : ((ks.length : Int) - 1).toNat = ks.length - 1 := by omega
          go_wp2
          go_quiet (fail)
          go_wp2
          go_roundw
          case rel => exact ⟨i + 1, by omega, by go_num, by rw [HNX.out]; exact HO.out.kept (below_drewN (Below.refl _ _) _), below_drewN HB.out _⟩
          case measure => simp [intOf]; omega
        · have HNX : Hid (keysTo L (i + 1) = keysTo L i ++ [(kepAt L i).1]) := HNEW (Or.inr he)
          rcases hSo with hz | ⟨bo, oo, hpo, holt, hoc⟩
          · rw [hz] at h0; exact absurd rfl h0
          subst hpo
          have q1 := hoc ((keysTo L i).length - 1) (by omega)
          have d1 := toList_ne he
          have d2 := toList_beq he
          have d3 := bytes_beq he
          clear hoc HNEW HOLD he
          generalize txt (keysTo L i) ((keysTo L i).length - 1) = u at *
          generalize (kepAt L i).1 = t at *
          generalize keysTo L i = ks at *
          have f2 : ((ks.length : Int) == 0) = false := by
            rw [beq_eq_false_iff_ne]
            omega
          have l3 : IntKind.i64.wrap ((ks.length : Int) - 1) = ((ks.length - 1 : Nat) : Int) := by rw [IntKind.wrap_i64]; omega
          have l5 : (ks.length : Int) - 1 < (ks.length : Int) := by omega
          have l6 : (0 : Int) ≤ (ks.length : Int) - 1 := by omega
          have l7 : ((ks.length : Int) - 1).toNat = ks.length - 1 := by omega
          go_wp2
          go_quiet (fail)
          have HB2 : Hid (Below w.heap.size w (w1.drewN nq)) := below_drewN HB.out nq
          have HO2 : Hid (OwnT (w1.drewN nq) w.heap.size (.slice (some ⟨bo, oo, none⟩) ks.length co) ks) := HO.out.kept (below_drewN (Below.refl _ _) nq)
          have q0' : (w1.drewN nq).cell? ⟨h, 0, none⟩ = some (.slice (some ⟨b, o, none⟩) L.length c) := q0
          have c0' : (w1.drewN nq).cell? ⟨b, o + i * 6, none⟩ = some (.string t) := c0
          have hz2 : w.heap.size ≤ (w1.drewN nq).heap.size := hz1
          clear q0 c0 HO HB hz1 q1 d1 d2 d3
          generalize w1.drewN nq = w2 at HB2 HO2 q0' c0' hz2 ⊢
          go_wp2_with (first | (at_builtin; refine wpList_append_str rfl (.tmp 34) (.tmp 43) rfl w.heap.size (.slice (some ⟨bo, oo, none⟩) ks.length co) ks rfl (HO2.out.kept ((Below.refl _ _).alloc (Nat.le_refl _) _)) ⟨w2.heap.size, 0, none⟩ t 1 rfl (by rw [World.cell?_alloc_at _ _ _ _ rfl]; rfl) (by omega) (by simp; omega) ?_; intro v3 w3 hO3 hb3))
          have HO3 : Hid (OwnT w3 w.heap.size v3 (ks ++ [t])) := hO3
          have HB3 : Hid (Below w.heap.size w w3) := (HB2.out.alloc hz2 _).trans hb3
          clear hO3 hb3
          go_wp2
          go_roundw
          case rel => exact ⟨i + 1, by omega, by go_num, by rw [HNX.out]; exact HO3.out, HB3.out⟩
          case measure => simp [intOf]; omega
    · have hie : i = L.length := by omega
      subst hie
      go_wp2
      go_ret
      exact ⟨⟨_, rfl, HO.out⟩, HB.out⟩
set_option maxRecDepth 10000 in
set_option maxHeartbeats 2000000 in
theorem sameVers_any (pa pb : Option Addr) (l m : List Ver) (ca cb : Nat) (w : World) (hl : l.length ≤ 1000000) (ha : Rec verE w pa l) (hb : Rec verE w pb m) :
    Calls Tryz.prog 32 #[.slice pa l.length ca, .slice pb m.length cb] w fun e w' => e = .returned (.bool (decide (l = m))) ∧ Below w.heap.size w w' := by
  by_cases hlen : l.length = m.length
  · have HT : Hid ((∀ i, i < l.length → verAt l i = verAt m i) → decide (l = m) = true) := fun h => decide_eq_true (ver_ext hlen h)
    have HF : Hid (∀ i, i < l.length → verAt l i ≠ verAt m i → decide (l = m) = false) := fun i _ h => decide_eq_false (fun e => h (by rw [e]))
    generalize decide (l = m) = r at *
    have HM : Hid (m.length = l.length) := hlen.symm
    rw [← hlen]
    clear hlen
    go_enter Tryz.func32, Tryz.ntmps32
    go_wp2
    go_loopw [5] (fun x wq => ∃ i : Nat, i ≤ l.length ∧ x = .int .i64 i ∧ (∀ j, j < i → verAt l j = verAt m j) ∧ ∃ n, wq = w.drewN n) (fun x _ => l.length - (intOf x).toNat)
    case atStart => exact ⟨0, Nat.zero_le _, rfl, fun j hj => absurd hj (Nat.not_lt_zero _), 0, rfl⟩
    case round =>
      obtain ⟨i, hi, rfl, hall, n, hw⟩ := hrel
      obtain ⟨w1, rfl⟩ : ∃ w1, w1 = wr := ⟨_, rfl⟩
      have HALL : Hid (∀ j, j < i → verAt l j = verAt m j) := hall
      have HW : Hid (∃ n, w1 = w.drewN n) := ⟨n, hw⟩
      have HA : Hid (Rec verE w1 pa l) := by show Rec verE w1 pa l; rw [hw]; exact ha.drewN n
      have HB : Hid (Rec verE w1 pb m) := by show Rec verE w1 pb m; rw [hw]; exact hb.drewN n
      clear hw hall
      by_cases hil : i < l.length
      · obtain ⟨b1, o1, hp1, _, a0, a1, a2, a3, a4⟩ := ver_cells HA.out hil
        obtain ⟨b2, o2, hp2, _, e0, e1, e2, e3, e4⟩ := ver_cells HB.out (show i < m.length by have := HM.out; omega)
        subst hp1 hp2
        by_cases he : verAt l i = verAt m i
        · have HNX : Hid (∀ j, j < i + 1 → verAt l j = verAt m j) := fun j hj => by
            rcases Nat.lt_or_ge j i with h | h
            · exact HALL.out j h
            · obtain rfl : j = i := by omega
              exact he
          rw [← he] at e0 e1 e2 e3 e4
          clear he HALL
          generalize verAt l i = x at *
          obtain ⟨xn, xw, xs, xa, xt⟩ := x
          go_wp2
          go_quiet (fail)
          go_wp2
          go_roundw
          case rel => exact ⟨i + 1, by omega, by go_num, HNX.out, by obtain ⟨n, hn⟩ := HW.out; exact ⟨_, by rw [hn, World.drewN_drewN]⟩⟩
          case measure => simp [intOf]; omega
        · have HR : Hid (r = false) := HF.out i hil he
          have HNE : Hid (verAt l i ≠ verAt m i) := he
          clear he HF HT HALL
          generalize verAt l i = x at *
          generalize verAt m i = y at *
          obtain ⟨xn, xw, xs, xa, xt⟩ := x
          obtain ⟨yn, yw, ys, ya, yt⟩ := y
          have walk : ((xn == yn) = false) ∨ xn = yn ∧ (((xw == yw) = false) ∨ xw = yw ∧ (((xs == ys) = false) ∨ xs = ys ∧ (((xa == ya) = false) ∨ xa = ya ∧ xt ≠ yt))) := by
            by_cases h1 : xn = yn
            · refine Or.inr ⟨h1, ?_⟩
              by_cases h2 : xw = yw
              · refine Or.inr ⟨h2, ?_⟩
                by_cases h3 : xs = ys
                · refine Or.inr ⟨h3, ?_⟩
                  by_cases h4 : xa = ya
                  · refine Or.inr ⟨h4, fun h5 => HNE.out (by rw [h1, h2, h3, h4, h5])⟩
                  · exact Or.inl (beq_eq_false_iff_ne.2 h4)
                · exact Or.inl (beq_eq_false_iff_ne.2 h3)
              · exact Or.inl (beq_eq_false_iff_ne.2 h2)
            · exact Or.inl (beq_eq_false_iff_ne.2 h1)
          clear HNE
          rcases walk with g | ⟨rfl, g | ⟨rfl, g | ⟨rfl, g | ⟨rfl, g⟩⟩⟩⟩
          rotate_right
          · have d1 := toList_ne g
            have d2 := toList_beq g
            have d3 := bytes_beq g
            clear g
            go_wp2
            go_quiet (fail)
            go_wp2
            go_ret
            exact ⟨by rw [HR.out]; rfl, by obtain ⟨n, hn⟩ := HW.out; rw [hn]; exact below_drewN (below_drewN (Below.refl _ _) n) _⟩
          all_goals
            go_wp2
            go_quiet (fail)
            go_wp2
            go_ret
            exact ⟨by rw [HR.out]; rfl, by obtain ⟨n, hn⟩ := HW.out; rw [hn]; exact below_drewN (below_drewN (Below.refl _ _) n) _⟩
      · have HR : Hid (r = true) := HT.out (fun j hj => HALL.out j (by omega))
        go_wp2
        go_ret
        exact ⟨by rw [HR.out]; rfl, by obtain ⟨n, hn⟩ := HW.out; rw [hn]; exact below_drewN (Below.refl _ _) n⟩
  · have HR : Hid (decide (l = m) = false) := decide_eq_false (fun e => hlen (by rw [e]))
    rw [HR.out]
    have h6 : ((l.length : Int) != (m.length : Int)) = true := by rw [bne_iff_ne]; omega
    clear hlen
    go_enter Tryz.func32, Tryz.ntmps32
    go_wp2
    go_ret
    exact ⟨rfl, Below.refl _ _⟩
section
open Go.Extern.Stop Go.Stop Go.Extern
theorem coded2_nil (w : World) : Calls Tryz.prog 9 #[.nilIface, .int .i64 0] w fun e w' => e = .returned (.bool true) ∧ w' = w := by
  go_enter Tryz.func9, Tryz.ntmps9
  go_wp2_with (go_at_call 24; refine (code_nil _).mono ?_; rintro e w' ⟨rfl, rfl⟩)
  go_ret
  exact ⟨rfl, rfl⟩
/-- 'coded' of a sentinel and its own number. -/
theorem coded2_sent (ad : Nat → Addr) (i : Nat) (hi : i < 12) (w : World) (hS : Sent w ad) :
    Calls Tryz.prog 9 #[.iface 206 (.pointer (some (ad i))), .int .i64 ((i + 1 : Nat) : Int)] w fun e w' => e = .returned (.bool true) ∧ Below w.heap.size w w' := by
  go_enter Tryz.func9, Tryz.ntmps9
  go_wp2_with fail
  refine (code_sent ad i hi _ hS).mono ?_
  rintro e w2 ⟨rfl, hb2⟩
  go_wp2
  go_ret
  exact ⟨rfl, hb2⟩
theorem coded2_any {ad : Nat → Addr} {ev : Value} {c : Int} (h : BareIs ad ev c) (w : World) (hS : Sent w ad) :
    Calls Tryz.prog 9 #[ev, .int .i64 c] w fun e w' => e = .returned (.bool true) ∧ Below w.heap.size w w' := by
  rcases h with ⟨rfl, rfl⟩ | ⟨i, hi, rfl, rfl⟩
  · exact (coded2_nil w).mono fun e w' ⟨h1, h2⟩ => ⟨h1, by rw [h2]; exact Below.refl _ _⟩
  · exact coded2_sent ad i hi w hS
end
/-- Package hold answers as it is asked to (what a first look needs); Hd: in the world w the hold at block h, in the blocks of S, holds L, and is sealed or not; X: what is asked of the world where something is put. -/
structure HoldOk0 (ad : Nat → Addr) (X : World → Prop) (Hd : World → Nat → (Nat → Prop) → List Kep → Bool → Prop) : Prop where
  lt : ∀ {w h S L s}, Hd w h S L s → ∀ k, S k → k < w.heap.size
  keep : ∀ {w w' h S L s}, Hd w h S L s → w.heap.size ≤ w'.heap.size → (∀ k, S k → w'.heap[k]? = w.heap[k]?) → Hd w' h S L s
  zero : ∀ w : World, Hd (w.alloc (.cells #[.map none, .bool false] 39)) w.heap.size (fun k => k = w.heap.size) [] false
  less : ∀ (a b : Int × Int) (w : World), Calls Tryz.prog 19 #[.agg #[.int .i64 a.1, .int .i64 a.2], .agg #[.int .i64 b.1, .int .i64 b.2]] w fun e w' => e = .returned (.bool (lessB a b)) ∧ ∃ q os, w' = Sort.grow (w.drewN q) os
  count : ∀ {w h S L s}, Hd w h S L s → Calls Tryz.prog 11 #[.pointer (some ⟨h, 0, none⟩)] w fun e w' => e = .returned (.int .i64 (L.length : Int)) ∧ Below w.heap.size w w'
  get : ∀ {w h S L s} (key : ByteArray), key.size ≤ maxLen → Hd w h S L s → Calls Tryz.prog 17 #[.pointer (some ⟨h, 0, none⟩), .string key] w fun e w' => (∃ p c, e = .returned (.slice p (getL L key).length c) ∧ Rec verE w' p (getL L key)) ∧ Below w.heap.size w w'
  last : ∀ {w h S L s} (key : ByteArray), key.size ≤ maxLen → Hd w h S L s → Calls Tryz.prog 18 #[.pointer (some ⟨h, 0, none⟩), .string key] w fun e w' => e = .returned (.tuple #[.agg #[.int .i64 (lastT (getL L key)).1, .int .i64 (lastT (getL L key)).2], .bool (decide (0 < (getL L key).length))]) ∧ Below w.heap.size w w'
  put : ∀ {w h S L s} (key : ByteArray) (v : Ver), key.size ≤ maxLen → v.text.size ≤ maxLen → Hd w h S L s → X w → Calls Tryz.prog 16 #[.pointer (some ⟨h, 0, none⟩), .string key, verA v] w fun e w' => (∃ ev, e = .returned ev ∧ BareIs ad ev (putR L s key v).1) ∧ ∃ S', Hd w' h S' (putR L s key v).2 s ∧ Upd S S' w w'
/-- What of a hold is to be seen, as package hold answers it; Hd: in the world w the hold at block h, in the blocks of S, holds L, and is sealed or not. -/
structure HoldSee (Hd : World → Nat → (Nat → Prop) → List Kep → Bool → Prop) : Prop where
  lt : ∀ {w h S L s}, Hd w h S L s → ∀ k, S k → k < w.heap.size
  keep : ∀ {w w' h S L s}, Hd w h S L s → w.heap.size ≤ w'.heap.size → (∀ k, S k → w'.heap[k]? = w.heap[k]?) → Hd w' h S L s
  count : ∀ {w h S L s}, Hd w h S L s → Calls Tryz.prog 11 #[.pointer (some ⟨h, 0, none⟩)] w fun e w' => e = .returned (.int .i64 (L.length : Int)) ∧ Below w.heap.size w w'
  get : ∀ {w h S L s} (key : ByteArray), key.size ≤ maxLen → Hd w h S L s → Calls Tryz.prog 17 #[.pointer (some ⟨h, 0, none⟩), .string key] w fun e w' => (∃ p c, e = .returned (.slice p (getL L key).length c) ∧ Rec verE w' p (getL L key)) ∧ Below w.heap.size w w'
  last : ∀ {w h S L s} (key : ByteArray), key.size ≤ maxLen → Hd w h S L s → Calls Tryz.prog 18 #[.pointer (some ⟨h, 0, none⟩), .string key] w fun e w' => e = .returned (.tuple #[.agg #[.int .i64 (lastT (getL L key)).1, .int .i64 (lastT (getL L key)).2], .bool (decide (0 < (getL L key).length))]) ∧ Below w.heap.size w w'
  sealed_ : ∀ {w h S L s}, Hd w h S L s → Calls Tryz.prog 12 #[.pointer (some ⟨h, 0, none⟩)] w fun e w' => e = .returned (.bool s) ∧ Below w.heap.size w w'
  keys : ∀ {w h S L s}, Hd w h S L s → Calls Tryz.prog 34 #[.pointer (some ⟨h, 0, none⟩)] w fun e w' => (∃ p c, e = .returned (.slice p (keysTo L L.length).length c) ∧ Strs w' p (keysTo L L.length)) ∧ Below w.heap.size w w'
/-- A hold and its model, beside each other, both behind B. -/
structure Two (Hd : World → Nat → (Nat → Prop) → List Kep → Bool → Prop) (B : Nat) (w : World) (hp hm : Nat) (L : List Kep) (s : Bool) (S : Nat → Prop) : Prop where
  own : Hd w hp S L s
  base : ∀ k, S k → B ≤ k
  apart : ¬ S hm
  rows : L ≠ [] → ∀ b o c, w.cell? ⟨hm, 0, none⟩ = some (.slice (some ⟨b, o, none⟩) L.length c) → ¬ S b
  model : MHold w hm L s
  bm : B ≤ hm
  len : L.length ≤ 800000
  names : ∀ x ∈ L, x.1.size ≤ maxLen
theorem Two.below {Hd : World → Nat → (Nat → Prop) → List Kep → Bool → Prop} (hO : HoldSee Hd) {B : Nat} {w w' : World} {hp hm : Nat} {L : List Kep} {s : Bool} {S : Nat → Prop} (h : Two Hd B w hp hm L s S) (hb : Below w.heap.size w w') : Two Hd B w' hp hm L s S := by
  obtain ⟨p, c, q0, _⟩ := h.model.row
  refine ⟨hO.keep h.own hb.size (fun k hk => hb.block k (hO.lt h.own k hk)), h.base, h.apart, fun hne b o c hc => h.rows hne b o c ?_, h.model.below hb, h.bm, h.len, h.names⟩
  rw [hb.cell (p := ⟨hm, 0, none⟩) (lt_of_cellH q0)] at hc
  exact hc
theorem MHold.upd {S S' : Nat → Prop} {w w' : World} {h : Nat} {L : List Kep} {s : Bool} (hm : MHold w h L s) (hu : Upd S S' w w') (h1 : ¬ S h) (h2 : L ≠ [] → ∀ b o c, w.cell? ⟨h, 0, none⟩ = some (.slice (some ⟨b, o, none⟩) L.length c) → ¬ S b) : MHold w' h L s := by
  obtain ⟨p, c, q0, hr, hc, hn, hne⟩ := hm.row
  have hlt := lt_of_cellH q0
  have hblk := hu.block h hlt h1
  have hcell : ∀ o, w'.cell? ⟨h, o, none⟩ = w.cell? ⟨h, o, none⟩ := fun o => by unfold World.cell?; rw [hblk]
  have hfr : ∀ o, w'.frozen? ⟨h, o, none⟩ = w.frozen? ⟨h, o, none⟩ := fun o => by unfold World.frozen?; rw [hblk]
  refine ⟨⟨p, c, (hcell 0).trans q0, ?_, hc, hn, hne⟩, (hcell 1).trans hm.sealed_, (hfr 0).trans hm.free0, (hfr 1).trans hm.free1⟩
  by_cases hL : L = []
  · exact Or.inl hL
  rcases hr with hr | ⟨b, o, rfl, hltb, hcc⟩
  · exact Or.inl hr
  · have hb := hu.block b hltb (h2 hL b o c q0)
    exact Or.inr ⟨b, o, rfl, Nat.lt_of_lt_of_le hltb hu.size, fun i x hx j u hj => by
      have := hcc i x hx j u hj
      unfold World.cell? at this ⊢
      rw [hb]
      exact this⟩
/-- What was done to the hold: the model lies as it did. -/
theorem Two.upd {Hd : World → Nat → (Nat → Prop) → List Kep → Bool → Prop} {B : Nat} {w w' : World} {hp hm : Nat} {L : List Kep} {s : Bool} {S S' : Nat → Prop} (h : Two Hd B w hp hm L s S) (hu : Upd S S' w w') (hB : B ≤ w.heap.size) :
    MHold w' hm L s ∧ (∀ k, S' k → B ≤ k) ∧ ¬ S' hm ∧ (L ≠ [] → ∀ b o c, w'.cell? ⟨hm, 0, none⟩ = some (.slice (some ⟨b, o, none⟩) L.length c) → ¬ S' b ∧ b < w.heap.size) ∧ Below B w w' := by
  obtain ⟨p, c, q0, hr, _, hn, _⟩ := h.model.row
  have hlt := lt_of_cellH q0
  have hblk := hu.block hm hlt h.apart
  have hcell : w'.cell? ⟨hm, 0, none⟩ = w.cell? ⟨hm, 0, none⟩ := by unfold World.cell?; rw [hblk]
  have hnew : ∀ k, k < w.heap.size → ¬ S k → ¬ S' k := fun k hk h1 h2 => by
    rcases hu.new k h2 with h3 | h3
    · exact h1 h3
    · omega
  refine ⟨h.model.upd hu h.apart h.rows, fun k hk => ?_, hnew hm hlt h.apart, fun hL b o c' e => ?_, ⟨hu.os, hu.tape, hu.output, hu.size, fun k hk => hu.block k (by omega) (fun h1 => by have := h.base k h1; omega)⟩⟩
  · rcases hu.new k hk with h1 | h1
    · exact h.base k h1
    · omega
  · rw [hcell] at e
    have hbs : ¬ S b := h.rows hL b o c' e
    have hbl : b < w.heap.size := by
      rw [q0] at e
      obtain ⟨h1, _, _⟩ := Value.slice.inj (Option.some.inj e)
      rcases hr with h0 | ⟨b', o', hp', hlt', _⟩
      · exact absurd h0 hL
      · rw [h1] at hp'
        obtain ⟨rfl, _⟩ : b = b' ∧ o = o' := by simpa using hp'
        exact hlt'
    exact ⟨hnew b hbl hbs, hbl⟩
theorem keysTo_mem {L : List Kep} {x : ByteArray} : ∀ {i : Nat}, x ∈ keysTo L i → ∃ j, j < i ∧ (kepAt L j).1 = x
  | 0, h => by cases h
  | i + 1, h => by
    by_cases hc : (keysTo L i).length = 0 ∨ txt (keysTo L i) ((keysTo L i).length - 1) ≠ (kepAt L i).1
    · rw [keysTo_new hc] at h
      rcases List.mem_append.1 h with h1 | h1
      · obtain ⟨j, hj, e⟩ := keysTo_mem h1
        exact ⟨j, by omega, e⟩
      · exact ⟨i, by omega, (List.mem_singleton.1 h1).symm⟩
    · rw [keysTo_old hc] at h
      obtain ⟨j, hj, e⟩ := keysTo_mem h
      exact ⟨j, by omega, e⟩
theorem keysTo_get {L : List Kep} {x : ByteArray} (h : x ∈ keysTo L L.length) : 0 < (getL L x).length := by
  obtain ⟨j, hj, e⟩ := keysTo_mem h
  unfold getL
  rw [List.length_map]
  refine List.length_pos_of_mem (a := kepAt L j) (List.mem_filter.2 ⟨?_, by simpa using e⟩)
  have := kepAt_get hj
  exact List.mem_of_getElem? this
end Go.Proofs.YtmbpfbhpmafheaaGreatDoor
