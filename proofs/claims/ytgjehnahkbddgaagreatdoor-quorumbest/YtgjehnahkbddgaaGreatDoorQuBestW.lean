/- QuorumBest, walked over what package quorum is asked. -/
import Derived.Test.YtgjehnahkbddgaaGreatDoorZL
import Derived.Test.YtgjehnahkbddgaaGreatDoorZM
import Derived.Test.YtgjehnahkbddgaaGreatDoorZN
import Derived.Test.YtgjehnahkbddgaaGreatDoorOwnVrW
namespace Go.Proofs.YtgjehnahkbddgaaGreatDoor
open Go.RowKit
theorem TagAt.other {w : World} {b b' : Nat} {a : Int × Int} (h : TagAt w b a) (hne : b' ≠ b) (x y : Value) : TagAt ((w.setCell ⟨b', 0, none⟩ x).setCell ⟨b', 1, none⟩ y) b a := by
  have e : ∀ i j : Nat, (⟨b', i, none⟩ : Addr) ≠ ⟨b, j, none⟩ := fun i j e => hne (congrArg Addr.block e)
  refine ⟨?_, ?_, by simp [h.f0], by simp [h.f1]⟩
  · rw [World.cell?_setCell_other _ _ _ _ (e _ _), World.cell?_setCell_other _ _ _ _ (e _ _)]; exact h.n
  · rw [World.cell?_setCell_other _ _ _ _ (e _ _), World.cell?_setCell_other _ _ _ _ (e _ _)]; exact h.who
set_option maxRecDepth 10000 in
set_option maxHeartbeats 16000000 in
theorem quorumBest_any {ad : Nat → Addr} {X : World → Prop} (hE : EnoughOk ad X) (hO : BestOk ad X) (c : Cfg) (p : Option Addr) (cap : Nat) (LL : List (List Ver)) (pl : Option Addr) (cl : Nat) (w : World)
    (hC : TxsIn w c.L p cap) (hin : CfgIn c) (hL : Vss w pl LL) (hV : ∀ v ∈ LL.flatten, VerI64 v) (hb : LL.length + tolN LL.flatten ≤ 4611686018427387904) (hS : ∀ W, Below w.heap.size w W → Sent W ad) (hX : ∀ W, Below w.heap.size w W → X W) :
    Calls Tryz.prog 3 #[cfgA c (.slice p c.L.length cap), .slice pl LL.length cl] w fun e w' => e = .returned (.bool true) ∧ Below w.heap.size w w' := by
  obtain ⟨w1, hw1⟩ : ∃ w1, w1 = w.alloc (.cells #[.int .i64 c.n, .int .i64 c.k, .slice p c.L.length cap] 24) := ⟨_, rfl⟩
  have HW1 : Hid (w1 = w.alloc (.cells #[.int .i64 c.n, .int .i64 c.k, .slice p c.L.length cap] 24)) := hw1
  have hb1 : Below w.heap.size w w1 := by rw [hw1]; exact (Below.refl _ _).alloc (Nat.le_refl _) _
  have a0 : w1.cell? ⟨w.heap.size, 0, none⟩ = some (.int .i64 c.n) := by rw [hw1, World.cell?_alloc_at _ _ _ _ rfl]; rfl
  have a1 : w1.cell? ⟨w.heap.size, 1, none⟩ = some (.int .i64 c.k) := by rw [hw1, World.cell?_alloc_at _ _ _ _ rfl]; rfl
  have a2 : w1.cell? ⟨w.heap.size, 2, none⟩ = some (.slice p c.L.length cap) := by rw [hw1, World.cell?_alloc_at _ _ _ _ rfl]; rfl
  have hlt1 : w.heap.size < w1.heap.size := lt_of_cellH a0
  have HBX : Hid (∀ W, Below w1.heap.size w1 W → W.cell? ⟨w.heap.size, 0, none⟩ = some (.int .i64 c.n) ∧ W.cell? ⟨w.heap.size, 1, none⟩ = some (.int .i64 c.k) ∧ W.cell? ⟨w.heap.size, 2, none⟩ = some (.slice p c.L.length cap)) := fun W hW => ⟨(hW.cell (p := ⟨w.heap.size, 0, none⟩) hlt1).trans a0, (hW.cell (p := ⟨w.heap.size, 1, none⟩) hlt1).trans a1, (hW.cell (p := ⟨w.heap.size, 2, none⟩) hlt1).trans a2⟩
  have HLO : Hid (∀ W, Below w1.heap.size w1 W → Below w.heap.size w W) := fun W hW => hb1.trans (hW.mono hb1.size)
  have HEN := enough_any hE w1 (fun W hW => (hS W (HLO.out W hW)).errsQ) (fun W hW => hX W (HLO.out W hW))
  have HLC : Hid (∀ W, Below w1.heap.size w1 W → Calls Tryz.prog 5 #[cfgA c (.slice p c.L.length cap)] W fun e w' => e = .returned (.bool (longC c)) ∧ Below W.heap.size W w') := fun W hW => longConfig_any c p cap W hC.len hC.size (hC.strs.below (HLO.out W hW))
  have HMT : Hid (∀ W, Below w1.heap.size w1 W → Calls Tryz.prog 6 #[.slice pl LL.length cl] W fun e w' => e = .returned (.bool (muchT LL)) ∧ Below W.heap.size W w') := fun W hW => muchTold_any pl LL cl W hb (hL.below (HLO.out W hW))
  have HOC : Hid (∀ W, Below w1.heap.size w1 W → longC c = false → Calls Tryz.prog 8 #[cfgA c (.slice p c.L.length cap)] W fun e w' => (∃ q d, e = .returned (cfgA c (.slice q c.L.length d)) ∧ CfgAt w' c q d) ∧ Below W.heap.size W w') := fun W hW hlc => (ownConfig_any c p cap W (by have := (longC_fine hlc).1; omega) (hC.strs.below (HLO.out W hW)) hC.empty).mono fun e w' hp => by
    obtain ⟨⟨q, d, h1, h2, h3, h4⟩, h5⟩ := hp
    exact ⟨⟨q, d, h1, cfgAt_of h2 h3 h4 hlc hin⟩, h5⟩
  have HOV : Hid (∀ W, Below w1.heap.size w1 W → muchT LL = false → Calls Tryz.prog 9 #[.slice pl LL.length cl] W fun e w' => (∃ p' c', e = .returned (.slice p' LL.length c') ∧ Vss w' p' LL) ∧ Below W.heap.size W w') := fun W hW hm => ownVers_any pl LL cl W (by have := muchT_fine hm; omega) (by have := muchT_fine hm; omega) (hL.below (HLO.out W hW))
  have HQB : Hid (∀ W q d q2 d2, Below w1.heap.size w1 W → CfgAt W c q d → Vss W q2 LL → muchT LL = false → Calls Tryz.prog 7 #[cfgA c (.slice q c.L.length d), .slice q2 LL.length d2] W fun e w' => (∃ ev, e = .returned (.tuple #[.agg #[.int .i64 (bestT c LL).1.1, .int .i64 (bestT c LL).1.2], .string (bestT c LL).2.1, .bool (bestT c LL).2.2, ev]) ∧ ErrIs w' ad ev (bestE c LL).1 (bestE c LL).2) ∧ Below W.heap.size W w') := fun W q d q2 d2 hW h1 h2 h3 => hO.best c q d LL q2 d2 W h1 h2 h3 hV (hS W (HLO.out W hW)).errsQ (hX W (HLO.out W hW))
  have HCF : Hid (∀ W, Below w1.heap.size w1 W → longC c = false → Calls Tryz.prog 10 #[cfgA c (.slice p c.L.length cap)] W fun e w' => e = .returned (.agg #[.int .i64 (cfgF c).1, .int .i64 (cfgF c).2]) ∧ Below W.heap.size W w') := fun W hW hlc => rcfg_any c p cap W (cfgAt_of (hC.strs.below (HLO.out W hW)) hC.room hC.empty hlc hin)
  have HFD : Hid (∀ W ev x y, Below w1.heap.size w1 W → ErrIs W ad ev x y → Calls Tryz.prog 12 #[ev, .agg #[.int .i64 x, .int .i64 y]] W fun e w' => e = .returned (.bool true) ∧ Below W.heap.size W w') := fun W ev x y hW he => faulted2_any ad ev x y W (hS W (HLO.out W hW)) he
  have HRB : Hid (∀ W, Below w1.heap.size w1 W → ¬ 0 < (cfgF c).1 → muchT LL = false → Calls Tryz.prog 13 #[cfgA c (.slice p c.L.length cap), .slice pl LL.length cl] W fun e w' => e = .returned (.tuple #[.agg #[.int .i64 (bestF c.n.toNat c.k.toNat LL.flatten LL.flatten).1.1, .int .i64 (bestF c.n.toNat c.k.toNat LL.flatten LL.flatten).1.2], .string (bestF c.n.toNat c.k.toNat LL.flatten LL.flatten).2.1, .bool (bestF c.n.toNat c.k.toNat LL.flatten LL.flatten).2.2]) ∧ Below W.heap.size W w') := fun W hW hf hm => by
    have h1 := (cfgF_fine hf).1
    have h2 := muchT_fine hm
    have := rbest_any c.n.toNat c.k.toNat p c.L.length cap pl LL cl W (by omega) (by omega) (by omega) (by omega) (by omega) (hL.below (HLO.out W hW))
    rw [show ((c.n.toNat : Nat) : Int) = c.n by omega, show ((c.k.toNat : Nat) : Int) = c.k by omega] at this
    exact this
  have HP : Hid (0 < (cfgF c).1 → bestE c LL = cfgF c ∧ bestT c LL = ((0, 0), ⟨#[]⟩, false)) := fun h => bestE_bad h
  have HN1 : Hid (¬ 0 < (cfgF c).1 → c.n < (LL.length : Int) → bestE c LL = (3, -1) ∧ bestT c LL = ((0, 0), ⟨#[]⟩, false)) := fun h h2 => bestE_many h h2
  have HN2 : Hid (¬ 0 < (cfgF c).1 → ¬ c.n < (LL.length : Int) → bestE c LL = (0, -1) ∧ bestT c LL = bestF c.n.toNat c.k.toNat LL.flatten LL.flatten) := fun h h2 => bestE_fine h h2
  have HFI : Hid (¬ 0 < (cfgF c).1 → (1 ≤ c.k ∧ c.k ≤ c.n ∧ c.n ≤ 12) ∧ cfgF c = (0, -1)) := fun h => ⟨(cfgF_fine h).1, (cfgF_fine h).2.2.1⟩
  have HLF : Hid (longC c = false → c.L.length ≤ 30) := fun h => (longC_fine h).1
  have HMF : Hid (muchT LL = false → LL.length ≤ 200) := fun h => (muchT_fine h).1
  have hcn := hin.1
  have hck := hin.2
  clear hw1 hb1 a0 a1 a2 hE hO hC hin hL hV hb hS hX
  obtain ⟨cn, ck, L⟩ := c
  unfold cfgA at *
  simp only [] at *
  generalize cfgF ⟨cn, ck, L⟩ = F at *
  generalize bestE ⟨cn, ck, L⟩ LL = BE at *
  generalize bestT ⟨cn, ck, L⟩ LL = BT at *
  generalize bestF cn.toNat ck.toNat LL.flatten LL.flatten = BF at *
  obtain ⟨f1, f2⟩ := F
  obtain ⟨e1, e2⟩ := BE
  obtain ⟨⟨bn, bw⟩, bx, bf⟩ := BT
  obtain ⟨⟨mn, mw⟩, mx, mf⟩ := BF
  simp only [] at *
  go_enter Tryz.func3, Tryz.ntmps3
  go_wp2_with fail
  rw [← HW1.out]
  refine HEN.mono ?_
  rintro e w2 ⟨rfl, hb2⟩
  have HB2 : Hid (Below w1.heap.size w1 w2) := hb2
  obtain ⟨q0, q1, q2⟩ := HBX.out w2 hb2
  clear hb2 HEN HW1
  go_wp2_with fail
  refine (HLC.out w2 HB2.out).mono ?_
  rintro e w3 ⟨rfl, hb3⟩
  have HB3 : Hid (Below w1.heap.size w1 w3) := HB2.out.trans (hb3.mono HB2.out.size)
  clear hb3 HB2 HLC q0 q1 q2
  generalize hlc : longC ⟨cn, ck, L⟩ = LC at *
  cases LC with
  | true =>
    go_wp2
    go_ret
    exact ⟨rfl, HLO.out w3 HB3.out⟩
  | false =>
    go_wp2_with fail
    refine (HMT.out w3 HB3.out).mono ?_
    rintro e w4 ⟨rfl, hb4⟩
    have HB4 : Hid (Below w1.heap.size w1 w4) := HB3.out.trans (hb4.mono HB3.out.size)
    clear hb4 HB3 HMT
    generalize muchT LL = MT at *
    cases MT with
    | true =>
      go_wp2
      go_ret
      exact ⟨rfl, HLO.out w4 HB4.out⟩
    | false =>
      have hl200 := HMF.out (by first | rfl | trivial)
      obtain ⟨q0, q1, q2⟩ := HBX.out w4 HB4.out
      go_wp2_with fail
      refine (HOC.out w4 HB4.out (by first | rfl | trivial)).mono ?_
      rintro e w5 ⟨⟨qc, dc, rfl, hca⟩, hb5⟩
      have HB5 : Hid (Below w1.heap.size w1 w5) := HB4.out.trans (hb5.mono HB4.out.size)
      have HCA : Hid (CfgAt w5 ⟨cn, ck, L⟩ qc dc) := hca
      clear hb5 hca HOC q0 q1 q2 HMF
      go_wp2_with fail
      refine (HOV.out w5 HB5.out (by first | rfl | trivial)).mono ?_
      rintro e w6 ⟨⟨qv, dv, rfl, hva⟩, hb6⟩
      have HB6 : Hid (Below w1.heap.size w1 w6) := HB5.out.trans (hb6.mono HB5.out.size)
      have HCA6 : Hid (CfgAt w6 ⟨cn, ck, L⟩ qc dc) := HCA.out.below hb6
      have HVA : Hid (Vss w6 qv LL) := hva
      clear hb6 hva HOV HCA
      go_wp2_with fail
      refine (HQB.out w6 qc dc qv dv HB6.out HCA6.out HVA.out (by first | rfl | trivial)).mono ?_
      rintro e w7 ⟨⟨ev, rfl, hev⟩, hb7⟩
      have HB7 : Hid (Below w1.heap.size w1 w7) := HB6.out.trans (hb7.mono HB6.out.size)
      have HEV : Hid (ErrIs w7 ad ev e1 e2) := hev
      clear hb7 hev HQB HCA6 HVA
      obtain ⟨w8, hw8⟩ : ∃ w8, w8 = w7.alloc (.cells #[.int .i64 bn, .int .i64 bw] 30) := ⟨_, rfl⟩
      have HW8 : Hid (w8 = w7.alloc (.cells #[.int .i64 bn, .int .i64 bw] 30)) := hw8
      have hb8 : Below w7.heap.size w7 w8 := by rw [hw8]; exact (Below.refl _ _).alloc (Nat.le_refl _) _
      have HT8 : Hid (TagAt w8 w7.heap.size (bn, bw)) := by show TagAt _ _ _; rw [hw8]; exact TagAt.alloc _ _ _ _
      have HB8 : Hid (Below w1.heap.size w1 w8) := HB7.out.trans (hb8.mono HB7.out.size)
      have HEV8 : Hid (ErrIs w8 ad ev e1 e2) := HEV.out.below hb8
      obtain ⟨q0, q1, q2⟩ := HBX.out w8 HB8.out
      clear hw8 hb8 HEV
      go_wp2_with (rw [← HW8.out])
      refine (HCF.out w8 HB8.out (by first | rfl | trivial)).mono ?_
      rintro e w9 ⟨rfl, hb9⟩
      obtain ⟨w10, hw10⟩ : ∃ w10, w10 = w9.alloc (.cells #[.int .i64 f1, .int .i64 f2] 38) := ⟨_, rfl⟩
      have HW10 : Hid (w10 = w9.alloc (.cells #[.int .i64 f1, .int .i64 f2] 38)) := hw10
      have hb10 : Below w9.heap.size w9 w10 := by rw [hw10]; exact (Below.refl _ _).alloc (Nat.le_refl _) _
      have HF10 : Hid (TagAt w10 w9.heap.size (f1, f2)) := by show TagAt _ _ _; rw [hw10]; exact TagAt.alloc _ _ _ _
      have h810 : Below w8.heap.size w8 w10 := hb9.trans (hb10.mono hb9.size)
      have hlt79 : w7.heap.size < w9.heap.size := Nat.lt_of_lt_of_le (lt_of_cellH HT8.out.n) hb9.size
      have H10 : Hid (∀ W, Below w10.heap.size w10 W → (W.cell? ⟨w.heap.size, 0, none⟩ = some (.int .i64 cn) ∧ W.cell? ⟨w.heap.size, 1, none⟩ = some (.int .i64 ck) ∧ W.cell? ⟨w.heap.size, 2, none⟩ = some (.slice p L.length cap)) ∧ TagAt W w7.heap.size (bn, bw) ∧ TagAt W w9.heap.size (f1, f2) ∧ ErrIs W ad ev e1 e2 ∧ Below w1.heap.size w1 W) := fun W hW => by
        have h8W : Below w8.heap.size w8 W := h810.trans (hW.mono h810.size)
        have h1W : Below w1.heap.size w1 W := HB8.out.trans (h8W.mono HB8.out.size)
        exact ⟨HBX.out W h1W, HT8.out.below h8W, HF10.out.below hW, HEV8.out.below h8W, h1W⟩
      have hlt19 : w1.heap.size ≤ w9.heap.size := Nat.le_trans HB8.out.size hb9.size
      clear hw10 hb10 h810 hb9 HT8 HF10 HEV8 HB8 HW8 HCF q0 q1 q2 HB7
      obtain ⟨⟨q0, q1, q2⟩, tt, tf, te, tb⟩ := H10.out w10 (Below.refl _ _)
      have t0 := tt.n
      have t1 := tt.who
      have g0 := tf.n
      have g1 := tf.who
      have g2 := tf.f0
      have g3 := tf.f1
      have HTE : Hid (ErrIs w10 ad ev e1 e2) := te
      have HTB : Hid (Below w1.heap.size w1 w10) := tb
      have HTF : Hid (TagAt w10 w9.heap.size (f1, f2)) := tf
      dsimp only at t0 t1 g0 g1
      clear tt tf te tb
      by_cases hf : 0 < f1
      · obtain ⟨he, hbt⟩ := HP.out hf
        simp only [Prod.mk.injEq] at he hbt
        obtain ⟨rfl, rfl⟩ := he
        obtain ⟨⟨rfl, rfl⟩, rfl, rfl⟩ := hbt
        have hne : (e1 == 0) = false := beq_eq_false_iff_ne.2 (by omega)
        clear HP HN1 HN2 HFI HRB
        go_wp2_with (rw [← HW10.out])
        refine (HFD.out w10 ev e1 e2 HTB.out HTE.out).mono ?_
        rintro e w11 ⟨rfl, hb11⟩
        clear t0 t1 g0 g1 g2 g3 q0 q1 q2
        obtain ⟨⟨q0, q1, q2⟩, tt, _, _, tb⟩ := H10.out w11 hb11
        have t0 := tt.n
        have t1 := tt.who
        dsimp only at t0 t1
        have HTB11 : Hid (Below w1.heap.size w1 w11) := tb
        clear tt tb hb11
        go_wp2
        go_ret
        exact ⟨rfl, HLO.out w11 HTB11.out⟩
      · obtain ⟨hc1, hcf⟩ := HFI.out (by omega)
        simp only [Prod.mk.injEq] at hcf
        obtain ⟨rfl, rfl⟩ := hcf
        by_cases hm : cn < (LL.length : Int)
        · obtain ⟨he, hbt⟩ := HN1.out (by omega) hm
          simp only [Prod.mk.injEq] at he hbt
          obtain ⟨rfl, rfl⟩ := he
          obtain ⟨⟨rfl, rfl⟩, rfl, rfl⟩ := hbt
          clear HP HN1 HN2 HFI HRB hf
          go_wp2_with (rw [← HW10.out])
          refine (bare_any 3 _).mono ?_
          rintro e w11 ⟨rfl, hb11⟩
          clear t0 t1 g0 g1 g2 g3 q0 q1 q2
          obtain ⟨_, tt, tf, te, tb⟩ := H10.out w11 hb11
          have g0 := tf.n
          have g1 := tf.who
          have g2 := tf.f0
          have g3 := tf.f1
          dsimp only at g0 g1
          obtain ⟨w12, hw12⟩ : ∃ w12, w12 = (w11.setCell ⟨w9.heap.size, 0, none⟩ (.int .i64 3)).setCell ⟨w9.heap.size, 1, none⟩ (.int .i64 (-1)) := ⟨_, rfl⟩
          have HW12 : Hid (w12 = (w11.setCell ⟨w9.heap.size, 0, none⟩ (.int .i64 3)).setCell ⟨w9.heap.size, 1, none⟩ (.int .i64 (-1))) := hw12
          have hf12 : TagAt w12 w9.heap.size (3, -1) := by rw [hw12]; exact tf.set 3 (-1)
          have ht12 : TagAt w12 w7.heap.size (0, 0) := by rw [hw12]; exact tt.other (by omega) _ _
          have he12 : ErrIs w12 ad ev 3 (-1) := by
            rw [hw12]
            exact (te.setInt g1 0 _).setInt (z := -1) (by rw [World.cell?_setCell_other _ _ _ _ (fun e => by have h2 : (0 : Nat) = 1 := congrArg Addr.off e; omega)]; exact g1) 1 _
          have HB12 : Hid (Below w1.heap.size w1 w12) := by
            show Below _ _ _
            rw [hw12]
            exact (tb.setCell (p := ⟨w9.heap.size, 0, none⟩) hlt19 _).setCell (p := ⟨w9.heap.size, 1, none⟩) hlt19 _
          have HT12 : Hid (TagAt w12 w7.heap.size (0, 0)) := ht12
          have HE12 : Hid (ErrIs w12 ad ev 3 (-1)) := he12
          have r0 := hf12.n
          have r1 := hf12.who
          dsimp only at r0 r1
          clear hw12 hf12 ht12 he12 tt tf te tb hb11 HTE HTB HTF H10
          go_wp2_with (rw [← HW12.out])
          refine (HFD.out w12 ev 3 (-1) HB12.out HE12.out).mono ?_
          rintro e w13 ⟨rfl, hb13⟩
          have HT13 := HT12.out.below hb13
          have t0 := HT13.n
          have t1 := HT13.who
          dsimp only at t0 t1
          have HB13 : Hid (Below w1.heap.size w1 w13) := HB12.out.trans (hb13.mono HB12.out.size)
          clear HT13 hb13 r0 r1 g0 g1 g2 g3
          go_wp2
          go_ret
          exact ⟨rfl, HLO.out w13 HB13.out⟩
        · obtain ⟨he, hbt⟩ := HN2.out (by omega) (by omega)
          simp only [Prod.mk.injEq] at he hbt
          obtain ⟨rfl, rfl⟩ := he
          obtain ⟨⟨rfl, rfl⟩, rfl, rfl⟩ := hbt
          have hnil := HTE.out.isNil
          subst hnil
          have HRB2 := HRB.out w10 HTB.out (by omega) (by first | rfl | trivial)
          clear HP HN1 HN2 HFI HRB
          go_wp2_with (rw [← HW10.out])
          refine HRB2.mono ?_
          rintro e w11 ⟨rfl, hb11⟩
          clear t0 t1 g0 g1 g2 g3 q0 q1 q2 HRB2
          obtain ⟨_, tt, _, _, tb⟩ := H10.out w11 hb11
          obtain ⟨w12, hw12⟩ : ∃ w12, w12 = w11.alloc (.cells #[.int .i64 bn, .int .i64 bw] 30) := ⟨_, rfl⟩
          have HW12 : Hid (w12 = w11.alloc (.cells #[.int .i64 bn, .int .i64 bw] 30)) := hw12
          have hb12 : Below w11.heap.size w11 w12 := by rw [hw12]; exact (Below.refl _ _).alloc (Nat.le_refl _) _
          have ht12 : TagAt w12 w11.heap.size (bn, bw) := by rw [hw12]; exact TagAt.alloc _ _ _ _
          have hs12 := tt.below hb12
          have r0 := ht12.n
          have r1 := ht12.who
          have t0 := hs12.n
          have t1 := hs12.who
          dsimp only at r0 r1 t0 t1
          have HB12 : Hid (Below w1.heap.size w1 w12) := tb.trans (hb12.mono tb.size)
          clear hw12 hb12 ht12 hs12 tt tb hb11 HTE HTB HTF H10
          go_wp2_with (rw [← HW12.out])
          go_ret
          exact ⟨rfl, HLO.out w12 HB12.out⟩
end Go.Proofs.YtgjehnahkbddgaaGreatDoor
