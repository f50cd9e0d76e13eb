/- The document's own SameTexts. -/
import Derived.Test.YtgjehnahkbddgaaDoorStrsB
import Derived.BigQuiet
namespace Go.Proofs.YtgjehnahkbddgaaDoor
open Go.RowKit
set_option maxRecDepth 10000 in
set_option maxHeartbeats 2000000 in
theorem sameTexts_any (pa pb : Option Addr) (l m : List ByteArray) (ca cb : Nat) (w : World) (hl : l.length ≤ 1000000) (_hm : m.length ≤ 1000000) (ha : Strs w pa l) (hb : Strs w pb m) :
    Calls Tryd.prog 15 #[.slice pa l.length ca, .slice pb m.length cb] w fun e w' => e = .returned (.bool (decide (l = m))) ∧ Below w.heap.size w w' := by
  by_cases hlen : l.length = m.length
  · have HT : Hid ((∀ i, i < l.length → txt l i = txt m i) → decide (l = m) = true) := fun h => decide_eq_true (txt_ext hlen h)
    have HF : Hid (∀ i, i < l.length → txt l i ≠ txt m i → decide (l = m) = false) := fun i _ h => decide_eq_false (fun e => h (by rw [e]))
    generalize decide (l = m) = r at *
    have HM : Hid (m.length = l.length) := hlen.symm
    rw [← hlen]
    clear hlen
    go_enter Tryd.func15, Tryd.ntmps15
    go_wp2
    go_loopw [5] (fun x wq => ∃ i : Nat, i ≤ l.length ∧ x = .int .i64 i ∧ (∀ j, j < i → txt l j = txt m j) ∧ ∃ n, wq = w.drewN n) (fun x _ => l.length - (intOf x).toNat)
    case atStart => exact ⟨0, Nat.zero_le _, rfl, fun j hj => absurd hj (Nat.not_lt_zero _), 0, rfl⟩
    case round =>
      obtain ⟨i, hi, rfl, hall, n, hw⟩ := hrel
      obtain ⟨w1, rfl⟩ : ∃ w1, w1 = wr := ⟨_, rfl⟩
      have HALL : Hid (∀ j, j < i → txt l j = txt m j) := hall
      have HW : Hid (∃ n, w1 = w.drewN n) := ⟨n, hw⟩
      have HA : Hid (Strs w1 pa l) := by show Strs w1 pa l; rw [hw]; exact ha.drewN n
      have HB : Hid (Strs w1 pb m) := by show Strs w1 pb m; rw [hw]; exact hb.drewN n
      clear hw hall
      by_cases hil : i < l.length
      · rcases HA.out with h0 | ⟨b1, o1, rfl, hlt1, hc1⟩
        · rw [h0] at hil; exact absurd hil (Nat.not_lt_zero _)
        rcases HB.out with h0 | ⟨b2, o2, rfl, hlt2, hc2⟩
        · have := HM.out; rw [h0] at this; have h3 : (0 : Nat) = l.length := this; omega
        have q1 := hc1 i hil
        have q2 := hc2 i (by have := HM.out; omega)
        clear hc1 hc2 HA HB
        by_cases he : txt l i = txt m i
        · have HE : Hid (txt l i = txt m i) := he
          rw [← he] at q2
          clear he
          generalize hti : txt l i = t at *
          have HTI : Hid (txt l i = t) := hti
          clear hti
          go_wp2
          go_quiet (fail)
          go_wp2
          go_roundw
          case rel => exact ⟨i + 1, by omega, by go_num, fun j hj => by
            rcases Nat.lt_or_ge j i with h | h
            · exact HALL.out j h
            · obtain rfl : j = i := by omega
              rw [HTI.out]; exact HE.out, by obtain ⟨n, hn⟩ := HW.out; exact ⟨_, by rw [hn, World.drewN_drewN]⟩⟩
          case measure => simp [intOf]; omega
        · have HR : Hid (r = false) := HF.out i hil he
          have d1 := toList_ne he
          have d2 := toList_beq he
          have d3 := bytes_beq he
          clear he HF HT HALL
          generalize txt l i = t at *
          generalize txt m i = u at *
          go_wp2
          go_quiet (fail)
          go_wp2
          go_ret
          exact ⟨by rw [HR.out]; rfl, by obtain ⟨n, hn⟩ := HW.out; rw [hn]; exact below_drewN (below_drewN (Below.refl _ _) n) _⟩
      · have HR : Hid (r = true) := HT.out (fun j hj => HALL.out j (by omega))
        go_wp2
        go_ret
        exact ⟨by rw [HR.out]; rfl, by obtain ⟨n, hn⟩ := HW.out; rw [hn]; exact below_drewN (Below.refl _ _) n⟩
  · have HR : Hid (decide (l = m) = false) := decide_eq_false (fun e => hlen (by rw [e]))
    rw [HR.out]
    have h6 : ((l.length : Int) != (m.length : Int)) = true := by rw [bne_iff_ne]; omega
    clear hlen
    go_enter Tryd.func15, Tryd.ntmps15
    go_wp2
    go_ret
    exact ⟨rfl, Below.refl _ _⟩
end Go.Proofs.YtgjehnahkbddgaaDoor
