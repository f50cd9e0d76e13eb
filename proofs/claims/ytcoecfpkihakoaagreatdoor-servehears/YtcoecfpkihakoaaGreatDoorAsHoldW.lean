/- The statements' own asHold: a hold has what its model has. -/
import Derived.Test.YtcoecfpkihakoaaGreatDoorGz7
import Derived.Test.YtcoecfpkihakoaaGreatDoorGz6
import Derived.Test.YtcoecfpkihakoaaGreatDoorGz5
import Derived.Deep.RegionWith
import Derived.Deep.CutRange
import Derived.Deep.RegionHeld3
namespace Go.Proofs.YtcoecfpkihakoaaGreatDoor
open Go.RowKit
theorem last_idx (m : Nat) (h : m + 1 ≤ 900000) : wrap64 ((m : Int) + 1 - 1) = (m : Int) ∧ IntKind.i64.wrap ((m : Int) + 1 - 1) = (m : Int) ∧ wrap64 (((m + 1 : Nat) : Int) - 1) = (m : Int) ∧ IntKind.i64.wrap (((m + 1 : Nat) : Int) - 1) = (m : Int) ∧ (0 : Int) ≤ (m : Int) ∧ (m : Int) < (m : Int) + 1 ∧ (m : Int) < ((m + 1 : Nat) : Int) ∧ wrap64 (m : Int) = (m : Int) ∧ IntKind.i64.wrap (m : Int) = (m : Int) := by
  refine ⟨?_, ?_, ?_, ?_, ?_, ?_, ?_, ?_, ?_⟩
  all_goals first | omega | (unfold wrap64; omega) | (rw [IntKind.wrap_i64]; omega)
set_option maxRecDepth 10000 in
set_option maxHeartbeats 8000000 in
theorem asHold_any {Hd : World → Nat → (Nat → Prop) → List Kep → Bool → Prop} (hO : HoldSee Hd) (B hp hm : Nat) (L : List Kep) (s : Bool) (S : Nat → Prop) (w : World) (hT : Two Hd B w hp hm L s S) :
    Calls Tryz.prog 15 #[.pointer (some ⟨hp, 0, none⟩), .pointer (some ⟨hm, 0, none⟩)] w fun e w' => e = .returned (.bool true) ∧ Below w.heap.size w w' := by
  have hks : ∀ x ∈ keysTo L L.length, x.size ≤ maxLen := fun x hx => by
    obtain ⟨j, hj, e⟩ := keysTo_mem hx
    rw [← e]
    exact hT.names _ (List.mem_of_getElem? (kepAt_get hj))
  obtain ⟨p, c, q0, _, hc, _, _⟩ := hT.model.row
  have q1 := hT.model.sealed_
  have hlt := lt_of_cellH q0
  have hlen := hT.len
  have HT : Hid (∀ W, Below w.heap.size w W → Two Hd B W hp hm L s S) := fun W hW => hT.below hO hW
  have HCNT : Hid (∀ W, Below w.heap.size w W → Calls Tryz.prog 32 #[.pointer (some ⟨hp, 0, none⟩)] W fun e w' => e = .returned (.int .i64 (L.length : Int)) ∧ Below W.heap.size W w') := fun W hW => hO.count (HT.out W hW).own
  have HSEA : Hid (∀ W, Below w.heap.size w W → Calls Tryz.prog 25 #[.pointer (some ⟨hp, 0, none⟩)] W fun e w' => e = .returned (.bool s) ∧ Below W.heap.size W w') := fun W hW => hO.sealed_ (HT.out W hW).own
  have HKEY : Hid (∀ W, Below w.heap.size w W → Calls Tryz.prog 34 #[.pointer (some ⟨hp, 0, none⟩)] W fun e w' => (∃ p c, e = .returned (.slice p (keysTo L L.length).length c) ∧ Strs w' p (keysTo L L.length)) ∧ Below W.heap.size W w') := fun W hW => hO.keys (HT.out W hW).own
  have HMKY : Hid (∀ W, Below w.heap.size w W → Calls Tryz.prog 35 #[.pointer (some ⟨hm, 0, none⟩)] W fun e w' => (∃ p c, e = .returned (.slice p (keysTo L L.length).length c) ∧ Strs w' p (keysTo L L.length)) ∧ Below W.heap.size W w') := fun W hW => by
    refine (rkeys_any hm L s W (by omega) (HT.out W hW).model).mono ?_
    rintro e w' ⟨⟨v, rfl, hv⟩, hb⟩
    obtain ⟨p, c, rfl, hs, _⟩ := hv.form
    exact ⟨⟨p, c, rfl, hs⟩, hb⟩
  have hkl : (keysTo L L.length).length ≤ 900000 := Nat.le_trans (keysTo_le L L.length) (by omega)
  have HSAM : Hid (∀ W pa pb ca cb, Strs W pa (keysTo L L.length) → Strs W pb (keysTo L L.length) → Calls Tryz.prog 33 #[.slice pa (keysTo L L.length).length ca, .slice pb (keysTo L L.length).length cb] W fun e w' => e = .returned (.bool true) ∧ Below W.heap.size W w') := fun W pa pb ca cb h1 h2 => by
    have := sameTexts_any pa pb _ _ ca cb W (by omega) (by omega) h1 h2
    rw [decide_eq_true rfl] at this
    exact this
  have HGET : Hid (∀ x ∈ keysTo L L.length, 0 < (getL L x).length ∧ x.size ≤ maxLen) := fun x hx => ⟨keysTo_get hx, hks x hx⟩
  have g1 : ((L.length : Int) != (L.length : Int)) = false := by simp
  have g2 : (s != s) = false := by simp
  generalize keysTo L L.length = ks at *
  clear hT hks
  go_enter Tryz.func15, Tryz.ntmps15
  go_upto_region 1 with fail
  go_cut [34] from 10 (fun b wc => b = .bool false ∧ Below w.heap.size w wc)
  case first =>
    have hS0 : w.drew.cell? ⟨hm, 0, none⟩ = some (.slice p L.length c) ∧ w.drew.cell? ⟨hm, 1, none⟩ = some (.bool s) ∧ Below w.heap.size w w.drew := ⟨q0, q1, (Below.refl _ _).drew⟩
    have HK : Hid (∀ W, Below w.heap.size w W → (W.cell? ⟨hm, 0, none⟩ = some (.slice p L.length c) ∧ W.cell? ⟨hm, 1, none⟩ = some (.bool s) ∧ Below w.heap.size w W)) := fun W hW => ⟨(hW.cell (p := ⟨hm, 0, none⟩) hlt).trans q0, (hW.cell (p := ⟨hm, 1, none⟩) hlt).trans q1, hW⟩
    have HCNT' : Hid (∀ W, (W.cell? ⟨hm, 0, none⟩ = some (.slice p L.length c) ∧ W.cell? ⟨hm, 1, none⟩ = some (.bool s) ∧ Below w.heap.size w W) → Calls Tryz.prog 32 #[.pointer (some ⟨hp, 0, none⟩)] W fun e w' => e = .returned (.int .i64 (L.length : Int)) ∧ (w'.cell? ⟨hm, 0, none⟩ = some (.slice p L.length c) ∧ w'.cell? ⟨hm, 1, none⟩ = some (.bool s) ∧ Below w.heap.size w w')) := fun W hW => (HCNT.out W hW.2.2).mono fun e w' ⟨h1, hb⟩ => ⟨h1, HK.out w' (hW.2.2.trans (hb.mono hW.2.2.size))⟩
    have HSEA' : Hid (∀ W, (W.cell? ⟨hm, 0, none⟩ = some (.slice p L.length c) ∧ W.cell? ⟨hm, 1, none⟩ = some (.bool s) ∧ Below w.heap.size w W) → Calls Tryz.prog 25 #[.pointer (some ⟨hp, 0, none⟩)] W fun e w' => e = .returned (.bool s) ∧ (w'.cell? ⟨hm, 0, none⟩ = some (.slice p L.length c) ∧ w'.cell? ⟨hm, 1, none⟩ = some (.bool s) ∧ Below w.heap.size w w')) := fun W hW => (HSEA.out W hW.2.2).mono fun e w' ⟨h1, hb⟩ => ⟨h1, HK.out w' (hW.2.2.trans (hb.mono hW.2.2.size))⟩
    have HKEY' : Hid (∀ W, (W.cell? ⟨hm, 0, none⟩ = some (.slice p L.length c) ∧ W.cell? ⟨hm, 1, none⟩ = some (.bool s) ∧ Below w.heap.size w W) → Calls Tryz.prog 34 #[.pointer (some ⟨hp, 0, none⟩)] W fun e w' => (∃ p c, e = .returned (.slice p ks.length c) ∧ Strs w' p ks) ∧ (w'.cell? ⟨hm, 0, none⟩ = some (.slice p L.length c) ∧ w'.cell? ⟨hm, 1, none⟩ = some (.bool s) ∧ Below w.heap.size w w')) := fun W hW => (HKEY.out W hW.2.2).mono fun e w' ⟨h1, hb⟩ => ⟨h1, HK.out w' (hW.2.2.trans (hb.mono hW.2.2.size))⟩
    have HMKY' : Hid (∀ W, (W.cell? ⟨hm, 0, none⟩ = some (.slice p L.length c) ∧ W.cell? ⟨hm, 1, none⟩ = some (.bool s) ∧ Below w.heap.size w W) → Calls Tryz.prog 35 #[.pointer (some ⟨hm, 0, none⟩)] W fun e w' => (∃ p c, e = .returned (.slice p ks.length c) ∧ Strs w' p ks) ∧ Below W.heap.size W w' ∧ (w'.cell? ⟨hm, 0, none⟩ = some (.slice p L.length c) ∧ w'.cell? ⟨hm, 1, none⟩ = some (.bool s) ∧ Below w.heap.size w w')) := fun W hW => (HMKY.out W hW.2.2).mono fun e w' ⟨h1, hb⟩ => ⟨h1, hb, HK.out w' (hW.2.2.trans (hb.mono hW.2.2.size))⟩
    have HSAM' : Hid (∀ W pa pb ca cb, (W.cell? ⟨hm, 0, none⟩ = some (.slice p L.length c) ∧ W.cell? ⟨hm, 1, none⟩ = some (.bool s) ∧ Below w.heap.size w W) → Strs W pa ks → Strs W pb ks → Calls Tryz.prog 33 #[.slice pa ks.length ca, .slice pb ks.length cb] W fun e w' => e = .returned (.bool true) ∧ (w'.cell? ⟨hm, 0, none⟩ = some (.slice p L.length c) ∧ w'.cell? ⟨hm, 1, none⟩ = some (.bool s) ∧ Below w.heap.size w w')) := fun W pa pb ca cb hW h1 h2 => (HSAM.out W pa pb ca cb h1 h2).mono fun e w' ⟨h3, hb⟩ => ⟨h3, HK.out w' (hW.2.2.trans (hb.mono hW.2.2.size))⟩
    clear HCNT HSEA HKEY HMKY HSAM
    go_region_held3 (fun W => (W.cell? ⟨hm, 0, none⟩ = some (.slice p L.length c) ∧ W.cell? ⟨hm, 1, none⟩ = some (.bool s) ∧ Below w.heap.size w W)) (first | assumption | exact hS0) (first | (go_at_call 32; refine (HCNT'.out _ (by assumption)).mono ?_; rintro e w1 ⟨rfl, hS1⟩) | (go_at_call 25; refine (HSEA'.out _ (by assumption)).mono ?_; rintro e w2 ⟨rfl, hS2⟩) | (go_at_call 34; refine (HKEY'.out _ (by assumption)).mono ?_; rintro e wk ⟨⟨pk, ck, rfl, hsk⟩, hSk⟩) | (go_at_call 35; refine (HMKY'.out _ (by assumption)).mono ?_; rintro e wm ⟨⟨pm, cm, rfl, hsm⟩, hbm, hSm⟩) | (go_at_call 33; refine (HSAM'.out _ pk pm ck cm (by assumption) (hsk.below hbm) hsm).mono ?_; rintro e ws ⟨rfl, hSs⟩))
    all_goals (go_wp2_with fail; go_meet)
    all_goals exact ⟨rfl, hSs.2.2⟩
  case rest =>
    obtain ⟨rfl, hbc⟩ := hcut
    have HBC : Hid (Below w.heap.size w wc) := hbc
    clear hbc HCNT HSEA HKEY HSAM q0 q1 g1 g2
    go_wp2_with fail
    refine (HMKY.out _ HBC.out).mono ?_
    rintro e w1 ⟨⟨pk, ck, rfl, hsk⟩, hb1⟩
    have HSK : Hid (Strs w1 pk ks) := hsk
    have HB1 : Hid (Below w.heap.size w w1) := HBC.out.trans (hb1.mono HBC.out.size)
    clear hsk hb1 HMKY
    go_wp2
    go_loopw [6] (fun x wq => ∃ i : Nat, i ≤ ks.length ∧ x = .int .i64 i ∧ Below w1.heap.size w1 wq) (fun x _ => ks.length - (intOf x).toNat)
    case atStart => exact ⟨0, Nat.zero_le _, rfl, Below.refl _ _⟩
    case round =>
      obtain ⟨i, hi, rfl, hbq⟩ := hrel
      obtain ⟨w2, rfl⟩ : ∃ w2, w2 = wr := ⟨_, rfl⟩
      have HBQ : Hid (Below w1.heap.size w1 w2) := hbq
      have HB2 : Hid (Below w.heap.size w w2) := HB1.out.trans (hbq.mono HB1.out.size)
      clear hbq
      by_cases hil : i < ks.length
      · obtain ⟨b, o, hpp, hblt, hcell⟩ : ∃ b o, pk = some ⟨b, o, none⟩ ∧ b < w1.heap.size ∧ ∀ j, j < ks.length → w1.cell? ⟨b, o + j, none⟩ = some (.string (txt ks j)) := by
          rcases HSK.out with h0 | ⟨b, o, hp, hlt, hc⟩
          · rw [h0] at hil; exact absurd hil (Nat.not_lt_zero _)
          · exact ⟨b, o, hp, hlt, hc⟩
        subst hpp
        have HCEL : Hid (∀ W, Below w1.heap.size w1 W → W.cell? ⟨b, o + i, none⟩ = some (.string (txt ks i))) := fun W hW => (hW.cell (p := ⟨b, o + i, none⟩) hblt).trans (hcell i hil)
        obtain ⟨hg0, hsz⟩ := HGET.out (txt ks i) (txt_mem hil)
        clear hcell
        generalize txt ks i = t at *
        have HMG : Hid (Calls Tryz.prog 30 #[.pointer (some ⟨hm, 0, none⟩), .string t] w2 fun e w' => (∃ p c, e = .returned (.slice p (getL L t).length c) ∧ Rec verE w' p (getL L t)) ∧ Below w2.heap.size w2 w') := by
          refine (rget_any hm L s t w2 (by omega) (HT.out w2 HB2.out).model).mono ?_
          rintro e w' ⟨⟨v, rfl, hv⟩, hb⟩
          obtain ⟨p, c, rfl, hs, _⟩ := hv.form
          exact ⟨⟨p, c, rfl, hs⟩, hb⟩
        have HLA : Hid (∀ W, Below w.heap.size w W → Calls Tryz.prog 36 #[.pointer (some ⟨hp, 0, none⟩), .string t] W fun e w' => e = .returned (.tuple #[.agg #[.int .i64 (lastT (getL L t)).1, .int .i64 (lastT (getL L t)).2], .bool true]) ∧ Below W.heap.size W w') := fun W hW => by
          have := hO.last t hsz (HT.out W hW).own
          rw [decide_eq_true hg0] at this
          exact this
        have HGE : Hid (∀ W, Below w.heap.size w W → Calls Tryz.prog 26 #[.pointer (some ⟨hp, 0, none⟩), .string t] W fun e w' => (∃ p c, e = .returned (.slice p (getL L t).length c) ∧ Rec verE w' p (getL L t)) ∧ Below W.heap.size W w') := fun W hW => hO.get t hsz (HT.out W hW).own
        have hgl : (getL L t).length ≤ 900000 := Nat.le_trans (getL_le _ _) (by omega)
        have HLT : Hid (lastT (getL L t) = ((verAt (getL L t) ((getL L t).length - 1)).n, (verAt (getL L t) ((getL L t).length - 1)).who)) := by show _ = _; rfl
        have HSV : Hid (∀ W pa pb ca cb, Rec verE W pa (getL L t) → Rec verE W pb (getL L t) → Calls Tryz.prog 37 #[.slice pa (getL L t).length ca, .slice pb (getL L t).length cb] W fun e w' => e = .returned (.bool true) ∧ Below W.heap.size W w') := fun W pa pb ca cb h1 h2 => by
          have := sameVers_any pa pb _ _ ca cb W (by omega) h1 h2
          rw [decide_eq_true rfl] at this
          exact this
        generalize getL L t = gl at *
        have q2 := HCEL.out w2 HBQ.out
        go_wp2_with fail
        refine HMG.out.mono ?_
        rintro e w3 ⟨⟨pl, cl, rfl, hrl⟩, hb3⟩
        have HBQ3 : Hid (Below w1.heap.size w1 w3) := HBQ.out.trans (hb3.mono HBQ.out.size)
        have HB3 : Hid (Below w.heap.size w w3) := HB2.out.trans (hb3.mono HB2.out.size)
        have HRL : Hid (Rec verE w3 pl gl) := hrl
        have q3 := HCEL.out w3 HBQ3.out
        clear hb3 hrl HMG q2
        go_wp2_with fail
        refine (HLA.out w3 HB3.out).mono ?_
        rintro e w4 ⟨rfl, hb4⟩
        have HBQ4 : Hid (Below w1.heap.size w1 w4) := HBQ3.out.trans (hb4.mono HBQ3.out.size)
        have HB4 : Hid (Below w.heap.size w w4) := HB3.out.trans (hb4.mono HB3.out.size)
        have HRL4 : Hid (Rec verE w4 pl gl) := HRL.out.below hb4
        rw [HLT.out]
        generalize hva : (verAt gl (gl.length - 1)).n = va at *
        generalize hvb : (verAt gl (gl.length - 1)).who = vb at *
        clear hb4 HLA q3 HRL
        obtain ⟨bl, ol, hpl, hbl, v0, v1, _⟩ := ver_cells HRL4.out (i := gl.length - 1) (by omega)
        subst hpl
        rw [hva] at v0
        rw [hvb] at v1
        obtain ⟨m, hgm⟩ : ∃ m, gl.length = m + 1 := ⟨gl.length - 1, by omega⟩
        have HGM : Hid (gl.length = m + 1) := hgm
        rw [hgm] at HGE HSV v0 v1 hgl
        rw [show m + 1 - 1 = m by omega] at v0 v1
        obtain ⟨w5, hw5⟩ : ∃ w5, w5 = w4.alloc (.cells #[.int .i64 va, .int .i64 vb] 55) := ⟨_, rfl⟩
        have hb45 : Below w4.heap.size w4 w5 := by rw [hw5]; exact (Below.refl _ _).alloc (Nat.le_refl _) _
        have r0 : w5.cell? ⟨w4.heap.size, 0, none⟩ = some (.int .i64 va) := by rw [hw5]; simp
        have r1 : w5.cell? ⟨w4.heap.size, 1, none⟩ = some (.int .i64 vb) := by rw [hw5]; simp
        have HB5 : Hid (Below w.heap.size w w5) := HB4.out.trans (hb45.mono HB4.out.size)
        have HBQ5 : Hid (Below w1.heap.size w1 w5) := HBQ4.out.trans (hb45.mono HBQ4.out.size)
        have HRL5 : Hid (Rec verE w5 (some ⟨bl, ol, none⟩) gl) := HRL4.out.below hb45
        have HCL5 : Hid (∀ W, Below w5.heap.size w5 W → W.cell? ⟨w4.heap.size, 0, none⟩ = some (.int .i64 va) ∧ W.cell? ⟨w4.heap.size, 1, none⟩ = some (.int .i64 vb) ∧ W.cell? ⟨bl, ol + m * 5, none⟩ = some (.int .i64 va) ∧ W.cell? ⟨bl, ol + m * 5 + 1, none⟩ = some (.int .i64 vb)) := fun W hW => by
          have hlt4 : w4.heap.size < w5.heap.size := lt_of_cellH r0
          have hlb : bl < w5.heap.size := Nat.lt_of_lt_of_le hbl hb45.size
          exact ⟨(hW.cell (p := ⟨w4.heap.size, 0, none⟩) hlt4).trans r0, (hW.cell (p := ⟨w4.heap.size, 1, none⟩) hlt4).trans r1, (hW.cell (p := ⟨bl, ol + m * 5, none⟩) hlb).trans ((hb45.cell (p := ⟨bl, ol + m * 5, none⟩) hbl).trans v0), (hW.cell (p := ⟨bl, ol + m * 5 + 1, none⟩) hlb).trans ((hb45.cell (p := ⟨bl, ol + m * 5 + 1, none⟩) hbl).trans v1)⟩
        have HW5 : Hid (w5 = w4.alloc (.cells #[.int .i64 va, .int .i64 vb] 55)) := hw5
        have q5 := HCEL.out w5 HBQ5.out
        obtain ⟨e1, e2, e3, e4, e5, e6, e7, e8, e9⟩ := last_idx m hgl
        clear hw5 hb45 r0 r1 v0 v1 hva hvb HRL4 HB4 HBQ4 HLT HCEL
        rw [hgm]
        clear hgm
        go_upto_region 9 with fail
        rw [← HW5.out]
        go_cut [81] from 37 to 81 (fun b wx => b = .bool false ∧ Below w5.heap.size w5 wx)
        case first =>
          have hS0 : w5.drew.cell? ⟨b, o + i, none⟩ = some (.string t) ∧ w5.drew.cell? ⟨w4.heap.size, 0, none⟩ = some (.int .i64 va) ∧ w5.drew.cell? ⟨w4.heap.size, 1, none⟩ = some (.int .i64 vb) ∧ w5.drew.cell? ⟨bl, ol + m * 5, none⟩ = some (.int .i64 va) ∧ w5.drew.cell? ⟨bl, ol + m * 5 + 1, none⟩ = some (.int .i64 vb) ∧ Below w5.heap.size w5 w5.drew := by
            obtain ⟨x0, x1, x2, x3⟩ := HCL5.out w5 (Below.refl _ _)
            exact ⟨q5, x0, x1, x2, x3, (Below.refl _ _).drew⟩
          have HK5 : Hid (∀ W, Below w5.heap.size w5 W → (W.cell? ⟨b, o + i, none⟩ = some (.string t) ∧ W.cell? ⟨w4.heap.size, 0, none⟩ = some (.int .i64 va) ∧ W.cell? ⟨w4.heap.size, 1, none⟩ = some (.int .i64 vb) ∧ W.cell? ⟨bl, ol + m * 5, none⟩ = some (.int .i64 va) ∧ W.cell? ⟨bl, ol + m * 5 + 1, none⟩ = some (.int .i64 vb) ∧ Below w5.heap.size w5 W)) := fun W hW => by
            obtain ⟨x0, x1, x2, x3⟩ := HCL5.out W hW
            exact ⟨(hW.cell (p := ⟨b, o + i, none⟩) (lt_of_cellH q5)).trans q5, x0, x1, x2, x3, hW⟩
          have HGE' : Hid (∀ W, (W.cell? ⟨b, o + i, none⟩ = some (.string t) ∧ W.cell? ⟨w4.heap.size, 0, none⟩ = some (.int .i64 va) ∧ W.cell? ⟨w4.heap.size, 1, none⟩ = some (.int .i64 vb) ∧ W.cell? ⟨bl, ol + m * 5, none⟩ = some (.int .i64 va) ∧ W.cell? ⟨bl, ol + m * 5 + 1, none⟩ = some (.int .i64 vb) ∧ Below w5.heap.size w5 W) → Calls Tryz.prog 26 #[.pointer (some ⟨hp, 0, none⟩), .string t] W fun e w' => (∃ p c, e = .returned (.slice p (m + 1) c) ∧ Rec verE w' p gl) ∧ (w'.cell? ⟨b, o + i, none⟩ = some (.string t) ∧ w'.cell? ⟨w4.heap.size, 0, none⟩ = some (.int .i64 va) ∧ w'.cell? ⟨w4.heap.size, 1, none⟩ = some (.int .i64 vb) ∧ w'.cell? ⟨bl, ol + m * 5, none⟩ = some (.int .i64 va) ∧ w'.cell? ⟨bl, ol + m * 5 + 1, none⟩ = some (.int .i64 vb) ∧ Below w5.heap.size w5 w')) := fun W hW => by
            refine (HGE.out W (HB5.out.trans (hW.2.2.2.2.2.mono HB5.out.size))).mono ?_
            rintro e w' ⟨h1, hb⟩
            exact ⟨h1, HK5.out w' (hW.2.2.2.2.2.trans (hb.mono hW.2.2.2.2.2.size))⟩
          have HSV' : Hid (∀ W pa ca, (W.cell? ⟨b, o + i, none⟩ = some (.string t) ∧ W.cell? ⟨w4.heap.size, 0, none⟩ = some (.int .i64 va) ∧ W.cell? ⟨w4.heap.size, 1, none⟩ = some (.int .i64 vb) ∧ W.cell? ⟨bl, ol + m * 5, none⟩ = some (.int .i64 va) ∧ W.cell? ⟨bl, ol + m * 5 + 1, none⟩ = some (.int .i64 vb) ∧ Below w5.heap.size w5 W) → Rec verE W pa gl → Calls Tryz.prog 37 #[.slice pa (m + 1) ca, .slice (some ⟨bl, ol, none⟩) (m + 1) cl] W fun e w' => e = .returned (.bool true) ∧ (w'.cell? ⟨b, o + i, none⟩ = some (.string t) ∧ w'.cell? ⟨w4.heap.size, 0, none⟩ = some (.int .i64 va) ∧ w'.cell? ⟨w4.heap.size, 1, none⟩ = some (.int .i64 vb) ∧ w'.cell? ⟨bl, ol + m * 5, none⟩ = some (.int .i64 va) ∧ w'.cell? ⟨bl, ol + m * 5 + 1, none⟩ = some (.int .i64 vb) ∧ Below w5.heap.size w5 w')) := fun W pa ca hW hr => by
            refine (HSV.out W pa (some ⟨bl, ol, none⟩) ca cl hr (HRL5.out.below hW.2.2.2.2.2)).mono ?_
            rintro e w' ⟨rfl, hb⟩
            exact ⟨rfl, HK5.out w' (hW.2.2.2.2.2.trans (hb.mono hW.2.2.2.2.2.size))⟩
          clear HGE HSV
          go_region_held3 (fun W => (W.cell? ⟨b, o + i, none⟩ = some (.string t) ∧ W.cell? ⟨w4.heap.size, 0, none⟩ = some (.int .i64 va) ∧ W.cell? ⟨w4.heap.size, 1, none⟩ = some (.int .i64 vb) ∧ W.cell? ⟨bl, ol + m * 5, none⟩ = some (.int .i64 va) ∧ W.cell? ⟨bl, ol + m * 5 + 1, none⟩ = some (.int .i64 vb) ∧ Below w5.heap.size w5 W)) (first | assumption | exact hS0) (first | (go_at_call 26; refine (HGE'.out _ (by assumption)).mono ?_; rintro e w6 ⟨⟨pg, cg, rfl, hrg⟩, hS6⟩) | (go_at_call 37; refine (HSV'.out _ pg cg (by assumption) hrg).mono ?_; rintro e w7 ⟨rfl, hS7⟩))
          all_goals (go_wp2_with fail; go_meet)
          all_goals exact ⟨rfl, hS7.2.2.2.2.2⟩
        case rest =>
          obtain ⟨rfl, hbx⟩ := hcut
          have HBX : Hid (Below w1.heap.size w1 wc) := HBQ5.out.trans (hbx.mono HBQ5.out.size)
          clear hbx
          go_wp2
          go_roundw
          case rel => exact ⟨i + 1, by omega, by go_num, HBX.out⟩
          case measure => simp [intOf]; omega
      · go_wp2
        go_ret
        exact ⟨rfl, HB2.out⟩
end Go.Proofs.YtcoecfpkihakoaaGreatDoor
