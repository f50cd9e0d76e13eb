/- The document's own member: a version is put; whatever it hears. -/
import Derived.Test.YtcoecfpkihakoaaGreatDoorRMyW
import Derived.Deep.CutRange
import Derived.Deep.RegionWith
import Derived.Deep.RegionHeld3
import Derived.BigQuiet
namespace Go.Proofs.YtcoecfpkihakoaaGreatDoor
open Go.RowKit
set_option maxRecDepth 10000 in
set_option maxHeartbeats 16000000 in
theorem rmhear_keep {w : World} {B : Nat} {S : Nat → Prop} {h : Nat} {m : MMem} {up : Bool} {lv : Value} {bs : List Nat} (hm : RMem w B S h m up lv bs) (hlm : m.L.length ≤ 1000) (x : Msg × Lv) (hx : x.2.2.1 = x.1.L.length) (hl : x.1.L.length ≤ 2932031007317) (hto : x.1.to_ = m.name) (hcf : ¬ x.1.config < 0) (hnm : isN x.1.key = true) (hrec : ∀ W : World, w.heap.size ≤ W.heap.size → (∀ k, k < w.heap.size → ¬ S k → W.heap[k]? = w.heap[k]?) → Rec verE W x.2.1 x.1.L) (hone : x.1.L.length = 1) (htx : (verAt x.1.L 0).text.size ≤ maxLen) (hk : x.1.kind = kKeep) {my : MMem} (hhd : m.held x.1.config = some my) (hLl : (cfdAt my.L (cfdI m.L x.1.config)).2.1.length ≤ 900000) :
    Calls Tryz.prog 13 #[.pointer (some ⟨h, 0, none⟩), .agg #[.string x.1.from_, .string x.1.to_, .string x.1.kind, .string x.1.key, .int .i64 x.1.op, .int .i64 x.1.config, .bool x.1.shut, .slice x.2.1 x.2.2.1 x.2.2.2]] w fun e w' => (∃ p c, e = .returned (.slice p (my.does (cfdI m.L x.1.config) x.1).2.length c) ∧ MsgsAt w' p (my.does (cfdI m.L x.1.config) x.1).2) ∧ ∃ S' lv' bs', RMem w' B S' h (my.does (cfdI m.L x.1.config) x.1).1 up lv' bs' ∧ Upd S S' w w' := by
  obtain ⟨⟨m1, m2, m3, m4, m5, m6, m7, mL⟩, lp, ln, lc⟩ := x
  dsimp only at *
  subst hx
  obtain ⟨w1, hw1⟩ : ∃ w1, w1 = w.alloc (.cells #[.string m1, .string m2, .string m3, .string m4, .int .i64 m5, .int .i64 m6, .bool m7, .slice lp mL.length lc] 44) := ⟨_, rfl⟩
  have hb1 : Below w.heap.size w w1 := by rw [hw1]; exact (Below.refl _ _).alloc (Nat.le_refl _) _
  have hz1 : w1.heap.size = w.heap.size + 1 := by rw [hw1]; simp
  have HM1 : Hid (RMem w1 B S h m up lv bs) := hm.below hb1
  have HSW : Hid (∀ k, S k → k < w.heap.size) := fun k hk => (hm.inB k hk).2
  have c0 := HM1.out.name
  have d1 : w1.cell? ⟨w.heap.size, 1, none⟩ = some (.string m2) := by rw [hw1, World.cell?_alloc_at _ _ _ _ rfl]; rfl
  have d2 : w1.cell? ⟨w.heap.size, 2, none⟩ = some (.string m3) := by rw [hw1, World.cell?_alloc_at _ _ _ _ rfl]; rfl
  have d3 : w1.cell? ⟨w.heap.size, 3, none⟩ = some (.string m4) := by rw [hw1, World.cell?_alloc_at _ _ _ _ rfl]; rfl
  have d5 : w1.cell? ⟨w.heap.size, 5, none⟩ = some (.int .i64 m6) := by rw [hw1, World.cell?_alloc_at _ _ _ _ rfl]; rfl
  have d7 : w1.cell? ⟨w.heap.size, 7, none⟩ = some (.slice lp mL.length lc) := by rw [hw1, World.cell?_alloc_at _ _ _ _ rfl]; rfl
  have HMB : Hid (w1.heap[w.heap.size]? = some (.cells #[.string m1, .string m2, .string m3, .string m4, .int .i64 m5, .int .i64 m6, .bool m7, .slice lp mL.length lc] 44 (0, 0))) := by
    show _ = _
    rw [hw1]
    show (w.heap.push _)[w.heap.size]? = _
    simp
  have HW1 : Hid (w1 = w.alloc (.cells #[.string m1, .string m2, .string m3, .string m4, .int .i64 m5, .int .i64 m6, .bool m7, .slice lp mL.length lc] 44)) := hw1
  have HB1 : Hid (Below w.heap.size w w1 ∧ w1.heap.size = w.heap.size + 1) := ⟨hb1, hz1⟩
  have HIN := isNameBig_any m4 w1
  rw [hnm] at HIN
  have n6 : decide (m6 < 0) = false := decide_eq_false hcf
  have HTO : Hid (m2 = m.name) := hto
  have HCF : Hid (¬ m6 < 0) := hcf
  rw [← HTO.out] at c0
  clear hm hw1 hb1 hz1 hcf hto hnm
  have HREC : Hid (∀ W : World, w.heap.size ≤ W.heap.size → (∀ k, k < w.heap.size → ¬ S k → W.heap[k]? = w.heap[k]?) → Rec verE W lp mL) := hrec
  have HTX : Hid ((verAt mL 0).text.size ≤ maxLen) := htx
  have HONE : Hid (mL.length = 1) := hone
  clear hrec htx hone
  have HHD : Hid (m.held m6 = some my) := hhd
  have HNM : Hid (my.name = m.name) := held_name hhd
  have HLL : Hid ((cfdAt my.L (cfdI m.L m6)).2.1.length ≤ 900000) := hLl
  obtain rfl : m3 = ⟨#[107, 101, 101, 112]⟩ := hk
  clear hhd hLl
  go_enter Tryz.func13, Tryz.ntmps13
  go_wp2_with (first | rw [← HW1.out] | fail)
  refine HIN.mono ?_
  rintro e w2 ⟨rfl, hw2⟩
  rw [hw2]
  clear hw2 w2 HIN
  go_wp2
  go_quiet (fail)
  generalize hwq : World.drewN w1 _ = wq
  have hbq : Below w1.heap.size w1 wq := by rw [← hwq]; exact below_drewN (Below.refl _ _) _
  have HZQ : Hid (wq.heap.size = w1.heap.size) := by show _ = _; rw [← hwq]; rfl
  have d2q : wq.cell? ⟨w.heap.size, 2, none⟩ = some (.string ⟨#[107, 101, 101, 112]⟩) := by rw [← hwq]; exact d2
  have d5q : wq.cell? ⟨w.heap.size, 5, none⟩ = some (.int .i64 m6) := by rw [← hwq]; exact d5
  have d7q : wq.cell? ⟨w.heap.size, 7, none⟩ = some (.slice lp mL.length lc) := by rw [← hwq]; exact d7
  rw [HONE.out] at d7q
  have HMBQ : Hid (wq.heap[w.heap.size]? = some (.cells #[.string m1, .string m2, .string ⟨#[107, 101, 101, 112]⟩, .string m4, .int .i64 m5, .int .i64 m6, .bool m7, .slice lp mL.length lc] 44 (0, 0))) := by show _ = _; rw [← hwq]; exact HMB.out
  have HBQ : Hid (Below w1.heap.size w1 wq) := hbq
  have HHO := rmhold_any (HM1.out.below hbq) m6 hlm
  clear hwq c0 d1 d2 d3 d5 d7 hbq HMB HW1
  go_wp2_with fail
  refine HHO.mono ?_
  intro e w2 hH
  clear HHO
  rcases hH with ⟨h9, _⟩ | ⟨m9, S2, lv2, bs2, h9, rfl, hI2, hM2, hU2⟩
  · rw [HHD.out] at h9
    cases h9
  obtain rfl : my = m9 := by rw [HHD.out] at h9; exact Option.some.inj h9
  clear h9
  have hnS : ¬ S w.heap.size := fun hs => by have := HSW.out _ hs; omega
  have hzq : w.heap.size < wq.heap.size := by have := HZQ.out; have := HB1.out.2; omega
  have hmb2 : w2.heap[w.heap.size]? = some (.cells #[.string m1, .string m2, .string ⟨#[107, 101, 101, 112]⟩, .string m4, .int .i64 m5, .int .i64 m6, .bool m7, .slice lp mL.length lc] 44 (0, 0)) := (hU2.block _ hzq hnS).trans HMBQ.out
  have hz2 : w.heap.size < w2.heap.size := Nat.lt_of_lt_of_le hzq hU2.size
  have c0 := hM2.name
  rw [HNM.out, ← HTO.out] at c0
  have d0 : w2.cell? ⟨w.heap.size, 0, none⟩ = some (.string m1) := by simp [World.cell?, hmb2]
  have d2 : w2.cell? ⟨w.heap.size, 2, none⟩ = some (.string ⟨#[107, 101, 101, 112]⟩) := by simp [World.cell?, hmb2]
  have d3 : w2.cell? ⟨w.heap.size, 3, none⟩ = some (.string m4) := by simp [World.cell?, hmb2]
  have d4 : w2.cell? ⟨w.heap.size, 4, none⟩ = some (.int .i64 m5) := by simp [World.cell?, hmb2]
  have d5 : w2.cell? ⟨w.heap.size, 5, none⟩ = some (.int .i64 m6) := by simp [World.cell?, hmb2]
  have HM2 : Hid (RMem w2 B S2 h my up lv2 bs2) := hM2
  have HU2 : Hid (Upd S S2 w w2) := (Upd.of_below (HB1.out.1.trans (HBQ.out.mono HB1.out.1.size))).trans hU2
  have HMB2 : Hid (w2.heap[w.heap.size]? = some (.cells #[.string m1, .string m2, .string ⟨#[107, 101, 101, 112]⟩, .string m4, .int .i64 m5, .int .i64 m6, .bool m7, .slice lp mL.length lc] 44 (0, 0))) := hmb2
  have HI2 : Hid (cfdI m.L m6 < my.L.length) := hI2
  have HMH : Hid (MHold w2 (blkAt bs2 (cfdI m.L m6)) (cfdAt my.L (cfdI m.L m6)).2.1 (cfdAt my.L (cfdI m.L m6)).2.2) := hM2.hold _ hI2
  have HNB : Hid (¬ S2 w.heap.size) := fun hs => (hU2.new _ hs).elim hnS (by omega)
  have HIB : Hid (cfdI m.L m6 < bs2.length) := by show _ < _; rw [hM2.len]; exact hI2
  have HBK : Hid (S2 (blkAt bs2 (cfdI m.L m6))) := (hM2.sB _ HIB.out).1
  have hbl2 : blkAt bs2 (cfdI m.L m6) < w2.heap.size := (hM2.inB _ HBK.out).2
  have HZ2 : Hid (w.heap.size < w2.heap.size) := hz2
  have HLT : Hid (blkAt bs2 (cfdI m.L m6) < w2.heap.size) := hbl2
  clear hM2 hU2 hmb2 hI2 HMBQ HBQ hnS hzq HM1 HZQ d2q d5q d7q
  generalize hii : cfdI m.L m6 = ii at *
  generalize hbb : blkAt bs2 ii = hb at *
  obtain ⟨Lh, hLh⟩ : ∃ Lh, Lh = (cfdAt my.L ii).2.1 := ⟨_, rfl⟩
  obtain ⟨sh, hsh⟩ : ∃ sh, sh = (cfdAt my.L ii).2.2 := ⟨_, rfl⟩
  rw [← hLh, ← hsh] at HMH
  have HLH : Hid (Lh = (cfdAt my.L ii).2.1) := hLh
  have HSH : Hid (sh = (cfdAt my.L ii).2.2) := hsh
  have HBB : Hid (blkAt bs2 ii = hb) := hbb
  have HII : Hid (cfdI m.L m6 = ii) := hii
  clear hLh hsh hbb hii
  go_wp2
  have hh2 : h < w2.heap.size := (HM2.out.inB h HM2.out.self).2
  have HSS : Hid (∀ W, Below w2.heap.size w2 W → (W.cell? ⟨h, 0, none⟩ = some (.string m2) ∧ W.cell? ⟨w.heap.size, 0, none⟩ = some (.string m1) ∧ W.cell? ⟨w.heap.size, 3, none⟩ = some (.string m4) ∧ W.cell? ⟨w.heap.size, 4, none⟩ = some (.int .i64 m5) ∧ W.cell? ⟨w.heap.size, 5, none⟩ = some (.int .i64 m6) ∧ Below w2.heap.size w2 W)) := fun W hW => ⟨(hW.cell (p := ⟨h, 0, none⟩) hh2).trans c0, (hW.cell (p := ⟨w.heap.size, 0, none⟩) hz2).trans d0, (hW.cell (p := ⟨w.heap.size, 3, none⟩) hz2).trans d3, (hW.cell (p := ⟨w.heap.size, 4, none⟩) hz2).trans d4, (hW.cell (p := ⟨w.heap.size, 5, none⟩) hz2).trans d5, hW⟩
  clear c0 d0 d2 d3 d4 d5 hh2 hz2
  go_cut [7] from 53 to 112 (fun v W => v = .pointer (some ⟨w2.heap.size, 0, none⟩) ∧ W = (w2.alloc (.cells #[.string m2, .string m1, .string ⟨#[]⟩, .string m4, .int .i64 m5, .int .i64 m6, .bool false, .slice none 0 0] 44)).drew)
  case first =>
    go_region_held3 (fun W => (W.cell? ⟨h, 0, none⟩ = some (.string m2) ∧ W.cell? ⟨w.heap.size, 0, none⟩ = some (.string m1) ∧ W.cell? ⟨w.heap.size, 3, none⟩ = some (.string m4) ∧ W.cell? ⟨w.heap.size, 4, none⟩ = some (.int .i64 m5) ∧ W.cell? ⟨w.heap.size, 5, none⟩ = some (.int .i64 m6) ∧ Below w2.heap.size w2 W)) (first | assumption | exact HSS.out _ (Below.refl _ _).drew | exact HSS.out _ ((Below.refl _ _).alloc (Nat.le_refl _) _).drew) (fail)
    all_goals (go_wp2_with fail; go_meet)
    all_goals exact ⟨rfl, rfl⟩
  case rest =>
    clear HSS
    obtain ⟨rfl, hwc⟩ := hcut
    obtain ⟨w4, rfl⟩ : ∃ w4, w4 = wc := ⟨_, rfl⟩
    have hbl4 : w4.heap[w2.heap.size]? = some (.cells #[.string m2, .string m1, .string ⟨#[]⟩, .string m4, .int .i64 m5, .int .i64 m6, .bool false, .slice none 0 0] 44 (0, 0)) := by
      rw [hwc]
      show (w2.heap.push _)[w2.heap.size]? = _
      simp
    have hb4 : Below w2.heap.size w2 w4 := by rw [hwc]; exact ((Below.refl _ _).alloc (Nat.le_refl _) _).drew
    have hz4 : w4.heap.size = w2.heap.size + 1 := by rw [hwc]; show (w2.alloc _).heap.size = _; simp
    clear hwc
    generalize hob : w2.heap.size = ob at *
    have HOB : Hid (w2.heap.size = ob) := hob
    have HB4 : Hid (Below ob w2 w4) := hb4
    have HZ4 : Hid (w4.heap.size = ob + 1) := hz4
    have HNW : Hid (ob ≠ w.heap.size ∧ ob ≠ hb ∧ w.heap.size ≠ hb) := by have := HZ2.out; have := HLT.out; exact ⟨by omega, by omega, fun e => HNB.out (by rw [e]; exact HBK.out)⟩
    have HMH4 : Hid (MHold w4 hb Lh sh) := HMH.out.below (by rw [HOB.out]; exact hb4)
    have hmb4 : w4.heap[w.heap.size]? = some (.cells #[.string m1, .string m2, .string ⟨#[107, 101, 101, 112]⟩, .string m4, .int .i64 m5, .int .i64 m6, .bool m7, .slice lp mL.length lc] 44 (0, 0)) := (hb4.block _ HZ2.out).trans HMB2.out
    have HMB4 : Hid (w4.heap[w.heap.size]? = some (.cells #[.string m1, .string m2, .string ⟨#[107, 101, 101, 112]⟩, .string m4, .int .i64 m5, .int .i64 m6, .bool m7, .slice lp mL.length lc] 44 (0, 0))) := hmb4
    have HBL4 : Hid (w4.heap[ob]? = some (.cells #[.string m2, .string m1, .string ⟨#[]⟩, .string m4, .int .i64 m5, .int .i64 m6, .bool false, .slice none 0 0] 44 (0, 0))) := hbl4
    have HROW : Hid (Lh ≠ [] → ∀ b o n c, w2.cell? ⟨hb, 0, none⟩ = some (.slice (some ⟨b, o, none⟩) n c) → b < ob) := fun hL b o n c e => by
      obtain ⟨p, c', q0, hr, _⟩ := HMH.out.row
      rcases hr with hr | ⟨b1, o1, hp, hl1, _⟩
      · exact absurd hr hL
      · rw [e, hp] at q0
        injection q0 with q0
        injection q0 with q0
        injection q0 with q0
        injection q0 with q0
        rw [q0, ← HOB.out]
        exact hl1
    clear hob hb4 hz4
    have hrc4 : Rec verE w4 lp mL := HREC.out w4 (by have := HZ2.out; have := HZ4.out; omega) (fun k hk hs => (HB4.out.block k (by have := HZ2.out; omega)).trans (HU2.out.block k hk hs))
    obtain ⟨vb, vo, hvp, hvl, v0, v1, v2, v3, v4⟩ := ver_cells hrc4 (i := 0) (by have := HONE.out; omega)
    subst hvp
    rw [Nat.zero_mul, Nat.add_zero] at v0 v1 v2 v3 v4
    have HPU : Hid (∀ W, Below w4.heap.size w4 W → Calls Tryz.prog 31 #[.pointer (some ⟨hb, 0, none⟩), .string m4, .agg #[.int .i64 (verAt mL 0).n, .int .i64 (verAt mL 0).who, .int .i64 (verAt mL 0).size, .int .i64 (verAt mL 0).at_, .string (verAt mL 0).text]] W fun e w' => e = .returned (.int .i64 (putR Lh sh m4 (verAt mL 0)).1) ∧ MHold w' hb (putR Lh sh m4 (verAt mL 0)).2 sh ∧ Turn hb w4 w') := fun W hW => by
      have hlt4 : hb < w4.heap.size := by have := HLT.out; have := HZ4.out; omega
      refine (rput_any hb Lh sh m4 (verAt mL 0) W (by rw [HLH.out]; exact HLL.out) HTX.out (HMH4.out.below hW)).mono ?_
      rintro e w' ⟨h1, h2, h3⟩
      exact ⟨h1, h2, (Turn.of_below hlt4 hW).trans h3⟩
    have HDO : Hid (my.does ii ⟨m1, m2, ⟨#[107, 101, 101, 112]⟩, m4, m5, m6, m7, mL⟩ = (my.put ii ((putR Lh sh m4 (verAt mL 0)).2, sh), if 0 < (putR Lh sh m4 (verAt mL 0)).1 ∧ (putR Lh sh m4 (verAt mL 0)).1 ≠ 10 then [] else [my.out ⟨m1, m2, ⟨#[107, 101, 101, 112]⟩, m4, m5, m6, m7, mL⟩ kKept (decide (0 < (putR Lh sh m4 (verAt mL 0)).1)) []])) := by
      show _ = _
      unfold MMem.does
      rw [if_neg (by show ¬ (⟨#[107, 101, 101, 112]⟩ : ByteArray) = kLook; decide +kernel), if_neg (by show ¬ (⟨#[107, 101, 101, 112]⟩ : ByteArray) = kSeal; decide +kernel), HLH.out, HSH.out]
    generalize hvv : verAt mL 0 = vv at *
    have HVV : Hid (verAt mL 0 = vv) := hvv
    clear hvv hrc4 hvl
    obtain ⟨vn, vw, vs, va, vt⟩ := vv
    dsimp only at v0 v1 v2 v3 v4
    have k2 : w4.cell? ⟨w.heap.size, 2, none⟩ = some (.string ⟨#[107, 101, 101, 112]⟩) := by simp [World.cell?, hmb4]
    have k3 : w4.cell? ⟨w.heap.size, 3, none⟩ = some (.string m4) := by simp [World.cell?, hmb4]
    have k7 : w4.cell? ⟨w.heap.size, 7, none⟩ = some (.slice (some ⟨vb, vo, none⟩) mL.length lc) := by simp [World.cell?, hmb4]
    rw [HONE.out] at k7
    clear hbl4 hmb4
    go_wp2_with fail
    go_cut [8] from 68 to 112 (fun v W => v = .int .i64 (putR Lh sh m4 ⟨vn, vw, vs, va, vt⟩).1 ∧ MHold W hb (putR Lh sh m4 ⟨vn, vw, vs, va, vt⟩).2 sh ∧ Turn hb w4 W)
    case first =>
      go_region_with (go_at_call 31; refine (HPU.out _ (by first | exact (Below.refl _ _).drew | exact Below.refl _ _)).mono ?_; rintro e w5 ⟨rfl, hm5, ht5⟩; have HM5 : Hid (MHold w5 hb (putR Lh sh m4 ⟨vn, vw, vs, va, vt⟩).2 sh) := hm5; have HT5 : Hid (Turn hb w4 w5) := ht5; clear hm5 ht5)
      all_goals (go_wp2_with fail; go_meet)
      all_goals exact ⟨rfl, HM5.out, HT5.out⟩
    case rest =>
      obtain ⟨rfl, hm5, ht5⟩ := hcut
      obtain ⟨w5, rfl⟩ : ∃ w5, w5 = wc := ⟨_, rfl⟩
      have HM5 : Hid (MHold w5 hb (putR Lh sh m4 ⟨vn, vw, vs, va, vt⟩).2 sh) := hm5
      have HT5 : Hid (Turn hb w4 w5) := ht5
      have hob4 : ob < w4.heap.size := by have := HZ4.out; omega
      have hbl5 : w5.heap[ob]? = some (.cells #[.string m2, .string m1, .string ⟨#[]⟩, .string m4, .int .i64 m5, .int .i64 m6, .bool false, .slice none 0 0] 44 (0, 0)) := (ht5.block ob hob4 HNW.out.2.1).trans HBL4.out
      have HEND : Hid (∀ w9, Below ob w5 w9 → (∀ k, w4.heap.size ≤ k → k < w5.heap.size → w9.heap[k]? = w5.heap[k]?) → ∃ S', RMem w9 B S' h (my.put ii ((putR Lh sh m4 ⟨vn, vw, vs, va, vt⟩).2, sh)) up lv2 bs2 ∧ Upd S S' w w9) := fun w9 h59 hnew => HM2.out.turned HU2.out (by rw [HOB.out]; exact HB4.out) HI2.out (by rw [HBB.out]; exact HT5.out) (by rw [HBB.out]; exact HM5.out) (fun e e' => HMH4.out.nil_same HM5.out (by rw [HBB.out] at e'; exact e') (by rw [HLH.out]; exact e)) (by rw [HOB.out]; exact h59) hnew
      have HZ5 : Hid (w4.heap.size ≤ w5.heap.size) := ht5.size
      generalize (putR Lh sh m4 ⟨vn, vw, vs, va, vt⟩).2 = P2 at *
      generalize (putR Lh sh m4 ⟨vn, vw, vs, va, vt⟩).1 = r at *
      clear hm5 ht5 v0 v1 v2 v3 v4 k2 k3 k7 HPU HREC HMH HMH4 HROW HMB4 HMB2
      by_cases h0 : 0 < r
      · by_cases h10 : r = 10
        · subst h10
          have HD2 : Hid (my.does ii ⟨m1, m2, ⟨#[107, 101, 101, 112]⟩, m4, m5, m6, m7, mL⟩ = (my.put ii (P2, sh), [my.out ⟨m1, m2, ⟨#[107, 101, 101, 112]⟩, m4, m5, m6, m7, mL⟩ kKept true []])) := by show _ = _; rw [HDO.out]; rfl
          clear HDO
          have o2 : w5.cell? ⟨ob, 2, none⟩ = some (.string ⟨#[]⟩) := by simp [World.cell?, hbl5]
          have f2 : w5.frozen? ⟨ob, 2, none⟩ = false := by simp [World.frozen?, hbl5]
          obtain ⟨w6, hw6⟩ : ∃ w6, w6 = w5.setCell ⟨ob, 2, none⟩ (.string ⟨#[107, 101, 112, 116]⟩) := ⟨_, rfl⟩
          have hbl6 : w6.heap[ob]? = some (.cells #[.string m2, .string m1, .string ⟨#[107, 101, 112, 116]⟩, .string m4, .int .i64 m5, .int .i64 m6, .bool false, .slice none 0 0] 44 (0, 0)) := by rw [hw6]; exact blk_setG hbl5 2 _
          have o6 : w6.cell? ⟨ob, 6, none⟩ = some (.bool false) := by simp [World.cell?, hbl6]
          have f6 : w6.frozen? ⟨ob, 6, none⟩ = false := by simp [World.frozen?, hbl6]
          obtain ⟨w7, hw7⟩ : ∃ w7, w7 = w6.setCell ⟨ob, 6, none⟩ (.bool true) := ⟨_, rfl⟩
          have hbl7 : w7.heap[ob]? = some (.cells #[.string m2, .string m1, .string ⟨#[107, 101, 112, 116]⟩, .string m4, .int .i64 m5, .int .i64 m6, .bool true, .slice none 0 0] 44 (0, 0)) := by rw [hw7]; exact blk_setG hbl6 6 _
          have q0 : w7.cell? ⟨ob, 0, none⟩ = some (.string m2) := by simp [World.cell?, hbl7]
          have q1 : w7.cell? ⟨ob, 1, none⟩ = some (.string m1) := by simp [World.cell?, hbl7]
          have q2 : w7.cell? ⟨ob, 2, none⟩ = some (.string ⟨#[107, 101, 112, 116]⟩) := by simp [World.cell?, hbl7]
          have q3 : w7.cell? ⟨ob, 3, none⟩ = some (.string m4) := by simp [World.cell?, hbl7]
          have q4 : w7.cell? ⟨ob, 4, none⟩ = some (.int .i64 m5) := by simp [World.cell?, hbl7]
          have q5 : w7.cell? ⟨ob, 5, none⟩ = some (.int .i64 m6) := by simp [World.cell?, hbl7]
          have q6 : w7.cell? ⟨ob, 6, none⟩ = some (.bool true) := by simp [World.cell?, hbl7]
          have q7 : w7.cell? ⟨ob, 7, none⟩ = some (.slice none 0 0) := by simp [World.cell?, hbl7]
          have HFIN : Hid (∀ w9, w9 = w7.alloc (.cells #[.string m2, .string m1, .string ⟨#[107, 101, 112, 116]⟩, .string m4, .int .i64 m5, .int .i64 m6, .bool true, .slice none 0 0] 44) → MsgsAt w9 (some ⟨w7.heap.size, 0, none⟩) [⟨m2, m1, kKept, m4, m5, m6, true, []⟩] ∧ ∃ S', RMem w9 B S' h (my.put ii (P2, sh)) up lv2 bs2 ∧ Upd S S' w w9) := fun w9 hw9 => by
            have h56 : Below ob w5 w6 := by rw [hw6]; exact (Below.refl ob w5).setCell (p := ⟨ob, 2, none⟩) (Nat.le_refl ob) _
            have h67 : Below ob w6 w7 := by rw [hw7]; exact (Below.refl ob w6).setCell (p := ⟨ob, 6, none⟩) (Nat.le_refl ob) _
            have hz7 : w7.heap.size = w5.heap.size := by rw [hw7, hw6]; simp [World.setCell]
            have h79 : Below w7.heap.size w7 w9 := by rw [hw9]; exact (Below.refl _ _).alloc (Nat.le_refl _) _
            refine ⟨one_msg (x := (⟨m2, m1, kKept, m4, m5, m6, true, []⟩, (none, 0, 0))) (t := 44) ?_ ⟨rfl, Or.inl rfl, Nat.le_refl _, fun _ => ⟨rfl, rfl⟩⟩, HEND.out w9 (h56.trans (h67.trans (h79.mono (by have := HZ5.out; omega)))) (fun k h1 h2 => ?_)⟩
            · rw [hw9]
              show (w7.heap.push _)[w7.heap.size]? = _
              simp
              rfl
            · rw [h79.block k (by omega), hw7, Below.heap_setCell _ _ _ _ (by show k ≠ ob; omega), hw6, Below.heap_setCell _ _ _ _ (by show k ≠ ob; omega)]
          have HW6 : Hid (w6 = w5.setCell ⟨ob, 2, none⟩ (.string ⟨#[107, 101, 112, 116]⟩)) := hw6
          have HW7 : Hid (w7 = w6.setCell ⟨ob, 6, none⟩ (.bool true)) := hw7
          clear hw6 hw7 hbl5 hbl6 hbl7 HEND
          go_wp2_with (first | rw [← HW6.out] | rw [← HW7.out])
          go_ret
          obtain ⟨a1, S3, a2, a3⟩ := HFIN.out _ rfl
          rw [HII.out, HD2.out]
          first | refine ⟨⟨_, 1, rfl, ?_⟩, S3, lv2, bs2, a2, a3⟩ | refine ⟨⟨_, ⟨1, rfl⟩, ?_⟩, S3, ⟨lv2, bs2, a2⟩, a3⟩
          show MsgsAt _ _ [⟨my.name, m1, kKept, m4, m5, m6, _, _⟩]
          rw [HNM.out, ← HTO.out]
          exact a1
        · have g1 : decide (0 < r) = true := decide_eq_true h0
          have g2 : (r == 10) = false := by simpa using h10
          have HD2 : Hid (my.does ii ⟨m1, m2, ⟨#[107, 101, 101, 112]⟩, m4, m5, m6, m7, mL⟩ = (my.put ii (P2, sh), [])) := by show _ = _; rw [HDO.out, if_pos ⟨h0, h10⟩]
          obtain ⟨S3, a2, a3⟩ := HEND.out w5 (Below.refl _ _) (fun _ _ _ => rfl)
          have HA : Hid (RMem w5 B S3 h (my.put ii (P2, sh)) up lv2 bs2 ∧ Upd S S3 w w5) := ⟨a2, a3⟩
          clear HDO hbl5 a2 a3 HEND
          go_wp2
          go_ret
          rw [HII.out, HD2.out]
          exact ⟨⟨none, 0, rfl, MsgsAt.nil _ _⟩, S3, lv2, bs2, HA.out.1, HA.out.2⟩
      · have g1 : decide (0 < r) = false := decide_eq_false h0
        have HD2 : Hid (my.does ii ⟨m1, m2, ⟨#[107, 101, 101, 112]⟩, m4, m5, m6, m7, mL⟩ = (my.put ii (P2, sh), [my.out ⟨m1, m2, ⟨#[107, 101, 101, 112]⟩, m4, m5, m6, m7, mL⟩ kKept false []])) := by show _ = _; rw [HDO.out, if_neg (fun h => h0 h.1), g1]
        clear HDO
        have o2 : w5.cell? ⟨ob, 2, none⟩ = some (.string ⟨#[]⟩) := by simp [World.cell?, hbl5]
        have f2 : w5.frozen? ⟨ob, 2, none⟩ = false := by simp [World.frozen?, hbl5]
        obtain ⟨w6, hw6⟩ : ∃ w6, w6 = w5.setCell ⟨ob, 2, none⟩ (.string ⟨#[107, 101, 112, 116]⟩) := ⟨_, rfl⟩
        have hbl6 : w6.heap[ob]? = some (.cells #[.string m2, .string m1, .string ⟨#[107, 101, 112, 116]⟩, .string m4, .int .i64 m5, .int .i64 m6, .bool false, .slice none 0 0] 44 (0, 0)) := by rw [hw6]; exact blk_setG hbl5 2 _
        have o6 : w6.cell? ⟨ob, 6, none⟩ = some (.bool false) := by simp [World.cell?, hbl6]
        have f6 : w6.frozen? ⟨ob, 6, none⟩ = false := by simp [World.frozen?, hbl6]
        obtain ⟨w7, hw7⟩ : ∃ w7, w7 = w6.setCell ⟨ob, 6, none⟩ (.bool false) := ⟨_, rfl⟩
        have hbl7 : w7.heap[ob]? = some (.cells #[.string m2, .string m1, .string ⟨#[107, 101, 112, 116]⟩, .string m4, .int .i64 m5, .int .i64 m6, .bool false, .slice none 0 0] 44 (0, 0)) := by rw [hw7]; exact blk_setG hbl6 6 _
        have q0 : w7.cell? ⟨ob, 0, none⟩ = some (.string m2) := by simp [World.cell?, hbl7]
        have q1 : w7.cell? ⟨ob, 1, none⟩ = some (.string m1) := by simp [World.cell?, hbl7]
        have q2 : w7.cell? ⟨ob, 2, none⟩ = some (.string ⟨#[107, 101, 112, 116]⟩) := by simp [World.cell?, hbl7]
        have q3 : w7.cell? ⟨ob, 3, none⟩ = some (.string m4) := by simp [World.cell?, hbl7]
        have q4 : w7.cell? ⟨ob, 4, none⟩ = some (.int .i64 m5) := by simp [World.cell?, hbl7]
        have q5 : w7.cell? ⟨ob, 5, none⟩ = some (.int .i64 m6) := by simp [World.cell?, hbl7]
        have q6 : w7.cell? ⟨ob, 6, none⟩ = some (.bool false) := by simp [World.cell?, hbl7]
        have q7 : w7.cell? ⟨ob, 7, none⟩ = some (.slice none 0 0) := by simp [World.cell?, hbl7]
        have HFIN : Hid (∀ w9, w9 = w7.alloc (.cells #[.string m2, .string m1, .string ⟨#[107, 101, 112, 116]⟩, .string m4, .int .i64 m5, .int .i64 m6, .bool false, .slice none 0 0] 44) → MsgsAt w9 (some ⟨w7.heap.size, 0, none⟩) [⟨m2, m1, kKept, m4, m5, m6, false, []⟩] ∧ ∃ S', RMem w9 B S' h (my.put ii (P2, sh)) up lv2 bs2 ∧ Upd S S' w w9) := fun w9 hw9 => by
          have h56 : Below ob w5 w6 := by rw [hw6]; exact (Below.refl ob w5).setCell (p := ⟨ob, 2, none⟩) (Nat.le_refl ob) _
          have h67 : Below ob w6 w7 := by rw [hw7]; exact (Below.refl ob w6).setCell (p := ⟨ob, 6, none⟩) (Nat.le_refl ob) _
          have hz7 : w7.heap.size = w5.heap.size := by rw [hw7, hw6]; simp [World.setCell]
          have h79 : Below w7.heap.size w7 w9 := by rw [hw9]; exact (Below.refl _ _).alloc (Nat.le_refl _) _
          refine ⟨one_msg (x := (⟨m2, m1, kKept, m4, m5, m6, false, []⟩, (none, 0, 0))) (t := 44) ?_ ⟨rfl, Or.inl rfl, Nat.le_refl _, fun _ => ⟨rfl, rfl⟩⟩, HEND.out w9 (h56.trans (h67.trans (h79.mono (by have := HZ5.out; omega)))) (fun k h1 h2 => ?_)⟩
          · rw [hw9]
            show (w7.heap.push _)[w7.heap.size]? = _
            simp
            rfl
          · rw [h79.block k (by omega), hw7, Below.heap_setCell _ _ _ _ (by show k ≠ ob; omega), hw6, Below.heap_setCell _ _ _ _ (by show k ≠ ob; omega)]
        have HW6 : Hid (w6 = w5.setCell ⟨ob, 2, none⟩ (.string ⟨#[107, 101, 112, 116]⟩)) := hw6
        have HW7 : Hid (w7 = w6.setCell ⟨ob, 6, none⟩ (.bool false)) := hw7
        clear hw6 hw7 hbl5 hbl6 hbl7 HEND
        go_wp2_with (first | rw [← HW6.out] | rw [← HW7.out])
        go_ret
        obtain ⟨a1, S3, a2, a3⟩ := HFIN.out _ rfl
        rw [HII.out, HD2.out]
        first | refine ⟨⟨_, 1, rfl, ?_⟩, S3, lv2, bs2, a2, a3⟩ | refine ⟨⟨_, ⟨1, rfl⟩, ?_⟩, S3, ⟨lv2, bs2, a2⟩, a3⟩
        show MsgsAt _ _ [⟨my.name, m1, kKept, m4, m5, m6, _, _⟩]
        rw [HNM.out, ← HTO.out]
        exact a1
theorem held_len {m my : MMem} {c : Int} (h : m.held c = some my) (hl : ∀ i, (cfdAt m.L i).2.1.length ≤ 900000) : ∀ i, (cfdAt my.L i).2.1.length ≤ 900000 := by
  unfold MMem.held at h
  split at h
  · rw [← Option.some.inj h]; exact hl
  · split at h
    · cases h
    · rw [← Option.some.inj h]
      intro i
      show (cfdAt (m.L ++ [(c, [], false)]) i).2.1.length ≤ _
      rw [cfdAt_snoc]
      split
      · exact hl i
      · split <;> exact Nat.zero_le _
/-- Whatever message the document's own member hears. -/
theorem rmhear_all {w : World} {B : Nat} {S : Nat → Prop} {h : Nat} {m : MMem} {up : Bool} {lv : Value} {bs : List Nat} (hm : RMem w B S h m up lv bs) (hlm : m.L.length ≤ 1000) (hLL : ∀ i, (cfdAt m.L i).2.1.length ≤ 900000) (x : Msg × Lv) (hx : HasL w x) (hl : x.1.L.length ≤ 2932031007317) (htx : ∀ v ∈ x.1.L, v.text.size ≤ maxLen) (hrec : ∀ W : World, w.heap.size ≤ W.heap.size → (∀ k, k < w.heap.size → ¬ S k → W.heap[k]? = w.heap[k]?) → Rec verE W x.2.1 x.1.L) :
    Calls Tryz.prog 13 #[.pointer (some ⟨h, 0, none⟩), .agg #[.string x.1.from_, .string x.1.to_, .string x.1.kind, .string x.1.key, .int .i64 x.1.op, .int .i64 x.1.config, .bool x.1.shut, .slice x.2.1 x.2.2.1 x.2.2.2]] w fun e w' => (∃ p c, e = .returned (.slice p (m.hear x.1).2.length c) ∧ MsgsAt w' p (m.hear x.1).2) ∧ ∃ S' lv' bs', RMem w' B S' h (m.hear x.1).1 up lv' bs' ∧ Upd S S' w w' := by
  by_cases hno : m.off x.1 ∨ oddK x.1
  · have e : m.hear x.1 = (m, []) := by unfold MMem.hear; rw [if_pos hno]
    rw [e]
    exact (rmhear_no hm x hx.len hl hno).mono fun e w' hq => ⟨⟨none, 0, hq.1, MsgsAt.nil _ _⟩, S, _, _, hm.below hq.2, Upd.of_below hq.2⟩
  have hoff : ¬ m.off x.1 := fun h => hno (Or.inl h)
  have hodd : ¬ oddK x.1 := fun h => hno (Or.inr h)
  have hto : x.1.to_ = m.name := Classical.byContradiction fun h => hoff (Or.inl h)
  have hcf : ¬ x.1.config < 0 := fun h => hoff (Or.inr (Or.inl h))
  have hnm : isN x.1.key = true := by
    cases hq : isN x.1.key with
    | true => rfl
    | false => exact absurd (Or.inr (Or.inr hq)) hoff
  have e0 : m.hear x.1 = match m.held x.1.config with | none => (m, []) | some m1 => m1.does (cfdI m.L x.1.config) x.1 := by unfold MMem.hear; rw [if_neg hno]; cases m.held x.1.config <;> rfl
  rw [e0]
  cases hh : m.held x.1.config with
  | none => exact (rmhear_full hm hlm x hx.len hl hto hcf hnm hodd hh).mono fun e w' hq => ⟨⟨none, 0, hq.1, MsgsAt.nil _ _⟩, S, _, _, hm.below hq.2, Upd.of_below hq.2⟩
  | some my =>
    have hLy := held_len hh hLL (cfdI m.L x.1.config)
    show Calls _ _ _ _ fun e w' => (∃ p c, e = .returned (.slice p (my.does (cfdI m.L x.1.config) x.1).2.length c) ∧ MsgsAt w' p (my.does (cfdI m.L x.1.config) x.1).2) ∧ ∃ S' lv' bs', RMem w' B S' h (my.does (cfdI m.L x.1.config) x.1).1 up lv' bs' ∧ Upd S S' w w'
    by_cases k1 : x.1.kind = kLook
    · have e1 : my.does (cfdI m.L x.1.config) x.1 = (my, [my.out x.1 kTold (cfdAt my.L (cfdI m.L x.1.config)).2.2 (getL (cfdAt my.L (cfdI m.L x.1.config)).2.1 x.1.key)]) := by unfold MMem.does; rw [if_pos k1]
      rw [e1]
      exact rmhear_look hm hlm x hx.len hl hto hcf hnm k1 hh hLy
    by_cases k2 : x.1.kind = kSeal
    · have e1 : my.does (cfdI m.L x.1.config) x.1 = (my.put (cfdI m.L x.1.config) ((cfdAt my.L (cfdI m.L x.1.config)).2.1, true), [my.out x.1 kShut false (getL (cfdAt my.L (cfdI m.L x.1.config)).2.1 x.1.key)]) := by unfold MMem.does; rw [if_neg k1, if_pos k2]
      rw [e1]
      exact rmhear_seal hm hlm x hx.len hl hto hcf hnm k2 hh hLy
    have k3 : x.1.kind = kKeep ∧ x.1.L.length = 1 := by
      refine ⟨Classical.byContradiction fun h => hodd ⟨k1, k2, Or.inl h⟩, Classical.byContradiction fun h => hodd ⟨k1, k2, Or.inr h⟩⟩
    exact rmhear_keep hm hlm x hx.len hl hto hcf hnm hrec k3.2 (htx _ (List.mem_of_getElem? (verAt_get (by omega)))) k3.1 hh hLy
end Go.Proofs.YtcoecfpkihakoaaGreatDoor
