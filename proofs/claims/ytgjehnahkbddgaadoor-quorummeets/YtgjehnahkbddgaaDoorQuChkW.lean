/- Package ring: Check, where a configuration asks it. -/
import Derived.Test.YtgjehnahkbddgaaDoorRgNmW
import Derived.Test.YtgjehnahkbddgaaDoorRgSlW
import Derived.Test.YtgjehnahkbddgaaDoorQuCB
import Derived.Test.YtgjehnahkbddgaaDoorStrsSlW
namespace Go.Proofs.YtgjehnahkbddgaaDoor
open Go.RowKit
theorem errIs_fault {w w' : World} {ad : Nat → Addr} {t : TypeId} (i : Nat) (hi : i < 12) (at_ : Int) (hw : w' = w.alloc (.cells #[.int .i64 at_, .iface 101 (.pointer (some (ad i)))] t)) : ErrIs w' ad (.iface 56 (.pointer (some ⟨w.heap.size, 0, none⟩))) ((i + 1 : Nat) : Int) at_ := by
  subst hw
  refine Or.inr (Or.inr ⟨i, w.heap.size, hi, rfl, rfl, ?_, ?_⟩)
  · rw [World.cell?_alloc_at _ _ _ _ rfl]; rfl
  · rw [World.cell?_alloc_at _ _ _ _ rfl]; rfl
set_option maxRecDepth 10000 in
set_option maxHeartbeats 1000000 in
theorem check_bound (ad : Nat → Addr) (p : Option Addr) (l : List ByteArray) (c : Nat) (w : World) (hl : l.length ≤ 1000) (hE : ErrsQ w ad) (h : l.length < 1 ∨ 16 < l.length) :
    Calls Tryd.prog 22 #[.slice p l.length c] w fun e w' => (∃ ev, e = .returned ev ∧ ErrIs w' ad ev 2 (-1)) ∧ Below w.heap.size w w' := by
  have q1 := hE.c1
  have HI : Hid (∀ W, ErrIs W ad (.iface 101 (.pointer (some (ad 1)))) 2 (-1)) := fun W => ErrIs.sent 1 (by decide)
  clear hE
  rcases h with h | h
  · have d1 : decide ((l.length : Int) < 1) = true := decide_eq_true (by omega)
    go_enter Tryd.func22, Tryd.ntmps22
    go_wp2
    go_ret
    exact ⟨⟨_, rfl, HI.out _⟩, Below.refl _ _⟩
  · have d1 : decide ((l.length : Int) < 1) = false := decide_eq_false (by omega)
    have d2 : decide (16 < (l.length : Int)) = true := decide_eq_true (by omega)
    go_enter Tryd.func22, Tryd.ntmps22
    go_wp2
    go_ret
    exact ⟨⟨_, rfl, HI.out _⟩, Below.refl _ _⟩
set_option maxRecDepth 10000 in
set_option maxHeartbeats 4000000 in
theorem check_scan (ad : Nat → Addr) (p : Option Addr) (l : List ByteArray) (c : Nat) (w : World) (h1 : ¬ l.length < 1) (h2 : ¬ 16 < l.length) (hc : l.length ≤ c) (hs : Strs w p l) (hE : ErrsQ w ad) :
    Calls Tryd.prog 22 #[.slice p l.length c] w fun e w' => (∃ ev, e = .returned ev ∧ ErrIs w' ad ev (scanF l 0 l.length).1 (scanF l 0 l.length).2) ∧ Below w.heap.size w w' := by
  have HS : Hid (Strs w p l) := hs
  have HE : Hid (ErrsQ w ad) := hE
  have g1 : decide ((l.length : Int) < 1) = false := decide_eq_false (by omega)
  have g2 : decide (16 < (l.length : Int)) = false := decide_eq_false (by omega)
  obtain ⟨b, o, rfl⟩ : ∃ b o, p = some ⟨b, o, none⟩ := by
    rcases hs with h0 | ⟨b, o, hp, _⟩
    · rw [h0] at h1; exact absurd (by decide) h1
    · exact ⟨b, o, hp⟩
  clear hs hE
  obtain ⟨R, hR⟩ : ∃ R, R = scanF l 0 l.length := ⟨_, rfl⟩
  rw [← hR]
  have HR : Hid (R = scanF l 0 l.length) := hR
  clear hR
  go_enter Tryd.func22, Tryd.ntmps22
  go_wp2
  go_loopw [16] (fun x wq => ∃ i : Nat, i ≤ l.length ∧ x = .int .i64 i ∧ scanF l i (l.length - i) = R ∧ Below w.heap.size w wq) (fun x _ => l.length - (intOf x).toNat)
  case atStart => exact ⟨0, Nat.zero_le _, rfl, HR.out.symm, Below.refl _ _⟩
  case round =>
    obtain ⟨i, hi, rfl, hsc, hbq⟩ := hrel
    obtain ⟨w1, rfl⟩ : ∃ w1, w1 = wr := ⟨_, rfl⟩
    have HSC : Hid (scanF l i (l.length - i) = R) := hsc
    have HBW : Hid (Below w.heap.size w w1) := hbq
    have HS1 : Hid (Strs w1 (some ⟨b, o, none⟩) l) := HS.out.below hbq
    have HE1 : Hid (ErrsQ w1 ad) := HE.out.below hbq
    clear hsc hbq HR HS HE
    by_cases hil : i < l.length
    · have q3 : w1.cell? ⟨b, o + i, none⟩ = some (.string (txt l i)) := by
        rcases HS1.out with h0 | ⟨b', o', hp, _, hcell⟩
        · rw [h0] at hil; exact absurd hil (Nat.not_lt_zero _)
        · obtain ⟨rfl, rfl⟩ : b = b' ∧ o = o' := by simpa using hp
          exact hcell i hil
      have HNAME : Hid (∀ W, Calls Tryd.prog 31 #[.string (txt l i)] W fun e w' => e = .returned (.bool (isN (txt l i))) ∧ Below W.heap.size W w') := fun W => pname_any _ W
      have HSUC : Hid (scanF l i (l.length - i) = if faultAt l i = 0 then scanF l (i + 1) (l.length - (i + 1)) else (((faultAt l i : Nat) : Int), (i : Int))) := by
        show _ = _
        rw [show l.length - i = (l.length - (i + 1)) + 1 by omega]
        rfl
      by_cases hN : isN (txt l i) = true
      · have HCON : Hid (∀ W, Strs W (some ⟨b, o, none⟩) (l.take i) → Calls Tryd.prog 24 #[.slice (some ⟨b, o, none⟩) (l.take i).length c, .string (txt l i)] W fun e w' => e = .returned (.bool (inL (l.take i) (txt l i))) ∧ w' = W) := fun W hW => scont_any _ _ c _ W (by rw [List.length_take]; omega) hW
        rw [show (l.take i).length = i by rw [List.length_take]; omega] at HCON
        rw [hN] at HNAME
        by_cases hM : txt l i ∈ l.take i
        · have HA : Hid (R = (6, (i : Int))) := by
            show _ = _
            rw [← HSC.out, HSUC.out, faultAt_twice hN hM, if_neg (by decide)]
            rfl
          rw [inL_iff.2 hM] at HCON
          clear HSC HSUC hN hM
          generalize txt l i = t at *
          go_wp2_with fail
          refine (HNAME.out _).mono ?_
          rintro e w2 ⟨rfl, hb2⟩
          have HB2 : Hid (Below w.heap.size w w2) := HBW.out.trans (hb2.mono HBW.out.size)
          have HS2 : Hid (Strs w2 (some ⟨b, o, none⟩) (l.take i)) := (HS1.out.below hb2).take i
          have hE2 : ErrsQ w2 ad := HE1.out.below hb2
          have q4 := hE2.c5
          clear hE2 hb2 HNAME q3
          go_wp2_with fail
          refine (HCON.out _ HS2.out).mono ?_
          rintro e w3 ⟨rfl, hw3⟩
          rw [hw3]
          clear hw3 w3 HCON HS2
          go_wp2
          go_ret
          exact ⟨⟨_, rfl, by rw [HA.out]; exact errIs_fault (w := w2) 5 (by decide) (i : Int) rfl⟩, HB2.out.alloc HB2.out.size _⟩
        · have HA : Hid (scanF l (i + 1) (l.length - (i + 1)) = R) := by
            show _ = _
            rw [← HSC.out, HSUC.out, faultAt_fine hN hM, if_pos rfl]
          rw [Bool.eq_false_iff.2 (fun h => hM (inL_iff.1 h))] at HCON
          clear HSC HSUC hN hM
          generalize txt l i = t at *
          go_wp2_with fail
          refine (HNAME.out _).mono ?_
          rintro e w2 ⟨rfl, hb2⟩
          have HB2 : Hid (Below w.heap.size w w2) := HBW.out.trans (hb2.mono HBW.out.size)
          have HS2 : Hid (Strs w2 (some ⟨b, o, none⟩) (l.take i)) := (HS1.out.below hb2).take i
          clear hb2 HNAME q3
          go_wp2_with fail
          refine (HCON.out _ HS2.out).mono ?_
          rintro e w3 ⟨rfl, hw3⟩
          rw [hw3]
          clear hw3 w3 HCON HS2
          go_wp2
          go_roundw
          case rel => exact ⟨i + 1, by omega, by go_num, HA.out, HB2.out⟩
          case measure => simp [intOf]; omega
      · have hN' : isN (txt l i) = false := Bool.eq_false_iff.2 hN
        have HA : Hid (R = (4, (i : Int))) := by
          show _ = _
          rw [← HSC.out, HSUC.out, faultAt_name hN', if_neg (by decide)]
          rfl
        rw [hN'] at HNAME
        clear HSC HSUC hN hN'
        generalize txt l i = t at *
        go_wp2_with fail
        refine (HNAME.out _).mono ?_
        rintro e w2 ⟨rfl, hb2⟩
        have HB2 : Hid (Below w.heap.size w w2) := HBW.out.trans (hb2.mono HBW.out.size)
        have hE2 : ErrsQ w2 ad := HE1.out.below hb2
        have q4 := hE2.c3
        clear hE2 hb2 HNAME q3
        go_wp2
        go_ret
        exact ⟨⟨_, rfl, by rw [HA.out]; exact errIs_fault (w := w2) 3 (by decide) (i : Int) rfl⟩, HB2.out.alloc HB2.out.size _⟩
    · have hie : i = l.length := by omega
      subst hie
      have HA : Hid (R = (0, -1)) := by
        show _ = _
        rw [← HSC.out, Nat.sub_self]
        rfl
      clear HSC
      go_wp2
      go_ret
      exact ⟨⟨_, rfl, by rw [HA.out]; exact ErrIs.nil _ _⟩, HBW.out⟩
theorem check_any (ad : Nat → Addr) (p : Option Addr) (l : List ByteArray) (c : Nat) (w : World) (hl : l.length ≤ 1000) (hc : l.length ≤ c) (hs : Strs w p l) (hE : ErrsQ w ad) :
    Calls Tryd.prog 22 #[.slice p l.length c] w fun e w' => (∃ ev, e = .returned ev ∧ ErrIs w' ad ev (nodesF l).1 (nodesF l).2) ∧ Below w.heap.size w w' := by
  by_cases h : l.length < 1 ∨ 16 < l.length
  · rw [nodesF_bound h]
    exact check_bound ad p l c w hl hE h
  · rw [nodesF_scan (by omega) (by omega)]
    exact check_scan ad p l c w (by omega) (by omega) hc hs hE
end Go.Proofs.YtgjehnahkbddgaaDoor
