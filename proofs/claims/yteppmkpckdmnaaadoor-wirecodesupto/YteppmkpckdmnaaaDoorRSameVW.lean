/- The document's own SameVersions. -/
import Derived.Test.YteppmkpckdmnaaaDoorHoldM
import Derived.BigQuiet
namespace Go.Proofs.YteppmkpckdmnaaaDoor
open Go.RowKit
set_option maxRecDepth 10000 in
set_option maxHeartbeats 2000000 in
theorem sameVers_any (pa pb : Option Addr) (l m : List Ver) (ca cb : Nat) (w : World) (hl : l.length ≤ 1000000) (ha : Rec verE w pa l) (hb : Rec verE w pb m) :
    Calls Tryd.prog 25 #[.slice pa l.length ca, .slice pb m.length cb] w fun e w' => e = .returned (.bool (decide (l = m))) ∧ Below w.heap.size w w' := by
  by_cases hlen : l.length = m.length
  · have HT : Hid ((∀ i, i < l.length → verAt l i = verAt m i) → decide (l = m) = true) := fun h => decide_eq_true (ver_ext hlen h)
    have HF : Hid (∀ i, i < l.length → verAt l i ≠ verAt m i → decide (l = m) = false) := fun i _ h => decide_eq_false (fun e => h (by rw [e]))
    generalize decide (l = m) = r at *
    have HM : Hid (m.length = l.length) := hlen.symm
    rw [← hlen]
    clear hlen
    go_enter Tryd.func25, Tryd.ntmps25
    go_wp2
    go_loopw [5] (fun x wq => ∃ i : Nat, i ≤ l.length ∧ x = .int .i64 i ∧ (∀ j, j < i → verAt l j = verAt m j) ∧ ∃ n, wq = w.drewN n) (fun x _ => l.length - (intOf x).toNat)
    case atStart => exact ⟨0, Nat.zero_le _, rfl, fun j hj => absurd hj (Nat.not_lt_zero _), 0, rfl⟩
    case round =>
      obtain ⟨i, hi, rfl, hall, n, hw⟩ := hrel
      obtain ⟨w1, rfl⟩ : ∃ w1, w1 = wr := ⟨_, rfl⟩
      have HALL : Hid (∀ j, j < i → verAt l j = verAt m j) := hall
      have HW : Hid (∃ n, w1 = w.drewN n) := ⟨n, hw⟩
      have HA : Hid (Rec verE w1 pa l) := by show Rec verE w1 pa l; rw [hw]; exact ha.drewN n
      have HB : Hid (Rec verE w1 pb m) := by show Rec verE w1 pb m; rw [hw]; exact hb.drewN n
      clear hw hall
      by_cases hil : i < l.length
      · obtain ⟨b1, o1, hp1, _, a0, a1, a2, a3, a4⟩ := ver_cells HA.out hil
        obtain ⟨b2, o2, hp2, _, e0, e1, e2, e3, e4⟩ := ver_cells HB.out (show i < m.length by have := HM.out; omega)
        subst hp1 hp2
        by_cases he : verAt l i = verAt m i
        · have HNX : Hid (∀ j, j < i + 1 → verAt l j = verAt m j) := fun j hj => by
            rcases Nat.lt_or_ge j i with h | h
            · exact HALL.out j h
            · obtain rfl : j = i := by omega
              exact he
          rw [← he] at e0 e1 e2 e3 e4
          clear he HALL
          generalize verAt l i = x at *
          obtain ⟨xn, xw, xs, xa, xt⟩ := x
          go_wp2
          go_quiet (fail)
          go_wp2
          go_roundw
          case rel => exact ⟨i + 1, by omega, by go_num, HNX.out, by obtain ⟨n, hn⟩ := HW.out; exact ⟨_, by rw [hn, World.drewN_drewN]⟩⟩
          case measure => simp [intOf]; omega
        · have HR : Hid (r = false) := HF.out i hil he
          have HNE : Hid (verAt l i ≠ verAt m i) := he
          clear he HF HT HALL
          generalize verAt l i = x at *
          generalize verAt m i = y at *
          obtain ⟨xn, xw, xs, xa, xt⟩ := x
          obtain ⟨yn, yw, ys, ya, yt⟩ := y
          have walk : ((xn == yn) = false) ∨ xn = yn ∧ (((xw == yw) = false) ∨ xw = yw ∧ (((xs == ys) = false) ∨ xs = ys ∧ (((xa == ya) = false) ∨ xa = ya ∧ xt ≠ yt))) := by
            by_cases h1 : xn = yn
            · refine Or.inr ⟨h1, ?_⟩
              by_cases h2 : xw = yw
              · refine Or.inr ⟨h2, ?_⟩
                by_cases h3 : xs = ys
                · refine Or.inr ⟨h3, ?_⟩
                  by_cases h4 : xa = ya
                  · refine Or.inr ⟨h4, fun h5 => HNE.out (by rw [h1, h2, h3, h4, h5])⟩
                  · exact Or.inl (beq_eq_false_iff_ne.2 h4)
                · exact Or.inl (beq_eq_false_iff_ne.2 h3)
              · exact Or.inl (beq_eq_false_iff_ne.2 h2)
            · exact Or.inl (beq_eq_false_iff_ne.2 h1)
          clear HNE
          rcases walk with g | ⟨rfl, g | ⟨rfl, g | ⟨rfl, g | ⟨rfl, g⟩⟩⟩⟩
          rotate_right
          · have d1 := toList_ne g
            have d2 := toList_beq g
            have d3 := bytes_beq g
            clear g
            go_wp2
            go_quiet (fail)
            go_wp2
            go_ret
            exact ⟨by rw [HR.out]; rfl, by obtain ⟨n, hn⟩ := HW.out; rw [hn]; exact below_drewN (below_drewN (Below.refl _ _) n) _⟩
          all_goals
            go_wp2
            go_quiet (fail)
            go_wp2
            go_ret
            exact ⟨by rw [HR.out]; rfl, by obtain ⟨n, hn⟩ := HW.out; rw [hn]; exact below_drewN (below_drewN (Below.refl _ _) n) _⟩
      · have HR : Hid (r = true) := HT.out (fun j hj => HALL.out j (by omega))
        go_wp2
        go_ret
        exact ⟨by rw [HR.out]; rfl, by obtain ⟨n, hn⟩ := HW.out; rw [hn]; exact below_drewN (Below.refl _ _) n⟩
  · have HR : Hid (decide (l = m) = false) := decide_eq_false (fun e => hlen (by rw [e]))
    rw [HR.out]
    have h6 : ((l.length : Int) != (m.length : Int)) = true := by rw [bne_iff_ne]; omega
    clear hlen
    go_enter Tryd.func25, Tryd.ntmps25
    go_wp2
    go_ret
    exact ⟨rfl, Below.refl _ _⟩
end Go.Proofs.YteppmkpckdmnaaaDoor
