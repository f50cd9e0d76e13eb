/- The document's own hold: Keys. -/
import Derived.Test.YtoapbjifkjehhaaGreatDoorG3
import Derived.Test.YtoapbjifkjehhaaGreatDoorG2
import Derived.BigQuiet
namespace Go.Proofs.YtoapbjifkjehhaaGreatDoor
open Go.RowKit
set_option maxRecDepth 10000 in
set_option maxHeartbeats 8000000 in
theorem rkeys_any (h : Nat) (L : List Kep) (s : Bool) (w : World) (hl : L.length ≤ 900000) (hm : MHold w h L s) :
    Calls Tryz.prog 35 #[.pointer (some ⟨h, 0, none⟩)] w fun e w' => (∃ v, e = .returned v ∧ OwnT w' w.heap.size v (keysTo L L.length)) ∧ Below w.heap.size w w' := by
  obtain ⟨p, c, q0, hrec, hc, hn, hne⟩ := hm.row
  have HREC : Hid (Rec kepE w p L) := hrec
  have hlt := lt_of_cellH q0
  have HQ0 : Hid (w.cell? ⟨h, 0, none⟩ = some (.slice p L.length c)) := q0
  clear hrec hm q0 hne hn
  go_enter Tryz.func35, Tryz.ntmps35
  go_wp2
  go_loopw [3, 4] (fun v x wq => ∃ i : Nat, i ≤ L.length ∧ x = .int .i64 i ∧ OwnT wq w.heap.size v (keysTo L i) ∧ Below w.heap.size w wq) (fun _ x _ => L.length - (intOf x).toNat)
  case atStart => exact ⟨0, Nat.zero_le _, rfl, OwnT.nil _ _, Below.refl _ _⟩
  case round =>
    obtain ⟨i, hi, rfl, hO, hB⟩ := hrel
    obtain ⟨w1, rfl⟩ : ∃ w1, w1 = wr := ⟨_, rfl⟩
    obtain ⟨po, co, hvf, hSo, _, _, _⟩ := hO.form
    subst hvf
    have HO : Hid (OwnT w1 w.heap.size (.slice po (keysTo L i).length co) (keysTo L i)) := hO
    have HB : Hid (Below w.heap.size w w1) := hB
    have q0 : w1.cell? ⟨h, 0, none⟩ = some (.slice p L.length c) := (hB.cell (p := ⟨h, 0, none⟩) hlt).trans HQ0.out
    have hz1 : w.heap.size ≤ w1.heap.size := hB.size
    have hkl := keysTo_le L i
    clear hO hB
    by_cases hil : i < L.length
    · obtain ⟨b, o, hpp, hblt, c0, c1, c2, c3, c4, c5⟩ := kep_cells (HREC.out.below HB.out) hil
      subst hpp
      clear c1 c2 c3 c4 c5
      have HNEW := @keysTo_new L i
      have HOLD := @keysTo_old L i
      by_cases h0 : (keysTo L i).length = 0
      · have HNX : Hid (keysTo L (i + 1) = keysTo L i ++ [(kepAt L i).1]) := HNEW (Or.inl h0)
        have hks : keysTo L i = [] := List.length_eq_zero_iff.1 h0
        have HKS : Hid (keysTo L i = []) := hks
        rw [h0] at *
        clear HNEW HOLD hks hSo
        generalize (kepAt L i).1 = t at *
        go_wp2
        go_quiet (fail)
        have HB2 : Hid (Below w.heap.size w (w1.drewN nq)) := below_drewN HB.out nq
        have HO2 : Hid (OwnT (w1.drewN nq) w.heap.size (.slice po 0 co) []) := by
          have := HO.out
          rw [HKS.out] at this
          exact this.kept (below_drewN (Below.refl _ _) nq)
        have q0' : (w1.drewN nq).cell? ⟨h, 0, none⟩ = some (.slice (some ⟨b, o, none⟩) L.length c) := q0
        have c0' : (w1.drewN nq).cell? ⟨b, o + i * 6, none⟩ = some (.string t) := c0
        have hz2 : w.heap.size ≤ (w1.drewN nq).heap.size := hz1
        clear q0 c0 HO HB hz1
        generalize w1.drewN nq = w2 at HB2 HO2 q0' c0' hz2 ⊢
        go_wp2_with (first | (at_builtin; refine wpList_append_str rfl (.tmp 34) (.tmp 43) rfl w.heap.size (.slice po 0 co) [] rfl (HO2.out.kept ((Below.refl _ _).alloc (Nat.le_refl _) _)) ⟨w2.heap.size, 0, none⟩ t 1 rfl (by rw [World.cell?_alloc_at _ _ _ _ rfl]; rfl) (by decide) (by simp; omega) ?_; intro v3 w3 hO3 hb3))
        have HO3 : Hid (OwnT w3 w.heap.size v3 ([] ++ [t])) := hO3
        have HB3 : Hid (Below w.heap.size w w3) := (HB2.out.alloc hz2 _).trans hb3
        clear hO3 hb3
        go_wp2
        go_roundw
        case rel => exact ⟨i + 1, by omega, by go_num, by rw [HNX.out, HKS.out]; exact HO3.out, HB3.out⟩
        case measure => simp [intOf]; omega
      · by_cases he : txt (keysTo L i) ((keysTo L i).length - 1) = (kepAt L i).1
        · have HNX : Hid (keysTo L (i + 1) = keysTo L i) := HOLD (by
            rintro (h1 | h1)
            · exact h0 h1
            · exact h1 he)
          rcases hSo with hz | ⟨bo, oo, hpo, holt, hoc⟩
          · rw [hz] at h0; exact absurd rfl h0
          subst hpo
          have q1 := hoc ((keysTo L i).length - 1) (by omega)
          rw [he] at q1
          clear hoc HNEW HOLD he
          generalize (kepAt L i).1 = t at *
          generalize keysTo L i = ks at *
          have f1 : decide (ks.length = 0) = false := decide_eq_false h0
          have f2 : ((ks.length : Int) == 0) = false := by
            rw [beq_eq_false_iff_ne]
            omega
          have l3 : IntKind.i64.wrap ((ks.length : Int) - 1) = ((ks.length - 1 : Nat) : Int) := by rw [IntKind.wrap_i64]; omega
          have l5 : (ks.length : Int) - 1 < (ks.length : Int) := by omega
          have l6 : (0 : Int) ≤ (ks.length : Int) - 1 := by omega
          have l7 : ((ks.length : Int) - 1).toNat = ks.length - 1 := by omega
          go_wp2
          go_quiet (fail)
          go_wp2
          go_roundw
          case rel => exact ⟨i + 1, by omega, by go_num, by rw [HNX.out]; exact HO.out.kept (below_drewN (Below.refl _ _) _), below_drewN HB.out _⟩
          case measure => simp [intOf]; omega
        · have HNX : Hid (keysTo L (i + 1) = keysTo L i ++ [(kepAt L i).1]) := HNEW (Or.inr he)
          rcases hSo with hz | ⟨bo, oo, hpo, holt, hoc⟩
          · rw [hz] at h0; exact absurd rfl h0
          subst hpo
          have q1 := hoc ((keysTo L i).length - 1) (by omega)
          have d1 := toList_ne he
          have d2 := toList_beq he
          have d3 := bytes_beq he
          clear hoc HNEW HOLD he
          generalize txt (keysTo L i) ((keysTo L i).length - 1) = u at *
          generalize (kepAt L i).1 = t at *
          generalize keysTo L i = ks at *
          have f2 : ((ks.length : Int) == 0) = false := by
            rw [beq_eq_false_iff_ne]
            omega
          have l3 : IntKind.i64.wrap ((ks.length : Int) - 1) = ((ks.length - 1 : Nat) : Int) := by rw [IntKind.wrap_i64]; omega
          have l5 : (ks.length : Int) - 1 < (ks.length : Int) := by omega
          have l6 : (0 : Int) ≤ (ks.length : Int) - 1 := by omega
          have l7 : ((ks.length : Int) - 1).toNat = ks.length - 1 := by omega
          go_wp2
          go_quiet (fail)
          have HB2 : Hid (Below w.heap.size w (w1.drewN nq)) := below_drewN HB.out nq
          have HO2 : Hid (OwnT (w1.drewN nq) w.heap.size (.slice (some ⟨bo, oo, none⟩) ks.length co) ks) := HO.out.kept (below_drewN (Below.refl _ _) nq)
          have q0' : (w1.drewN nq).cell? ⟨h, 0, none⟩ = some (.slice (some ⟨b, o, none⟩) L.length c) := q0
          have c0' : (w1.drewN nq).cell? ⟨b, o + i * 6, none⟩ = some (.string t) := c0
          have hz2 : w.heap.size ≤ (w1.drewN nq).heap.size := hz1
          clear q0 c0 HO HB hz1 q1 d1 d2 d3
          generalize w1.drewN nq = w2 at HB2 HO2 q0' c0' hz2 ⊢
          go_wp2_with (first | (at_builtin; refine wpList_append_str rfl (.tmp 34) (.tmp 43) rfl w.heap.size (.slice (some ⟨bo, oo, none⟩) ks.length co) ks rfl (HO2.out.kept ((Below.refl _ _).alloc (Nat.le_refl _) _)) ⟨w2.heap.size, 0, none⟩ t 1 rfl (by rw [World.cell?_alloc_at _ _ _ _ rfl]; rfl) (by omega) (by simp; omega) ?_; intro v3 w3 hO3 hb3))
          have HO3 : Hid (OwnT w3 w.heap.size v3 (ks ++ [t])) := hO3
          have HB3 : Hid (Below w.heap.size w w3) := (HB2.out.alloc hz2 _).trans hb3
          clear hO3 hb3
          go_wp2
          go_roundw
          case rel => exact ⟨i + 1, by omega, by go_num, by rw [HNX.out]; exact HO3.out, HB3.out⟩
          case measure => simp [intOf]; omega
    · have hie : i = L.length := by omega
      subst hie
      go_wp2
      go_ret
      exact ⟨⟨_, rfl, HO.out⟩, HB.out⟩
end Go.Proofs.YtoapbjifkjehhaaGreatDoor
