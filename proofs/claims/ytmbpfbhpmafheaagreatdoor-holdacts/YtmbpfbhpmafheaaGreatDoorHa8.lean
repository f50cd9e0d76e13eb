/- Texts laid together. -/
import Derived.Test.YtmbpfbhpmafheaaGreatDoorHa6
namespace Go.Proofs.YtmbpfbhpmafheaaGreatDoor
open Go.RowKit
theorem last_idx (m : Nat) (h : m + 1 ≤ 900000) : wrap64 ((m : Int) + 1 - 1) = (m : Int) ∧ IntKind.i64.wrap ((m : Int) + 1 - 1) = (m : Int) ∧ wrap64 (((m + 1 : Nat) : Int) - 1) = (m : Int) ∧ IntKind.i64.wrap (((m + 1 : Nat) : Int) - 1) = (m : Int) ∧ (0 : Int) ≤ (m : Int) ∧ (m : Int) < (m : Int) + 1 ∧ (m : Int) < ((m + 1 : Nat) : Int) ∧ wrap64 (m : Int) = (m : Int) ∧ IntKind.i64.wrap (m : Int) = (m : Int) := by
  refine ⟨?_, ?_, ?_, ?_, ?_, ?_, ?_, ?_, ?_⟩
  all_goals first | omega | (unfold wrap64; omega) | (rw [IntKind.wrap_i64]; omega)
set_option maxRecDepth 10000 in
set_option maxHeartbeats 8000000 in
theorem asHold_any {Hd : World → Nat → (Nat → Prop) → List Kep → Bool → Prop} (hO : HoldSee Hd) (B hp hm : Nat) (L : List Kep) (s : Bool) (S : Nat → Prop) (w : World) (hT : Two Hd B w hp hm L s S) :
    Calls Tryz.prog 15 #[.pointer (some ⟨hp, 0, none⟩), .pointer (some ⟨hm, 0, none⟩)] w fun e w' => e = .returned (.bool true) ∧ Below w.heap.size w w' := by
  have hks : ∀ x ∈ keysTo L L.length, x.size ≤ maxLen := fun x hx => by
    obtain ⟨j, hj, e⟩ := keysTo_mem hx
    rw [← e]
    exact hT.names _ (List.mem_of_getElem? (kepAt_get hj))
  obtain ⟨p, c, q0, _, hc, _, _⟩ := hT.model.row
  have q1 := hT.model.sealed_
  have hlt := lt_of_cellH q0
  have hlen := hT.len
  have HT : Hid (∀ W, Below w.heap.size w W → Two Hd B W hp hm L s S) := fun W hW => hT.below hO hW
  have HCNT : Hid (∀ W, Below w.heap.size w W → Calls Tryz.prog 11 #[.pointer (some ⟨hp, 0, none⟩)] W fun e w' => e = .returned (.int .i64 (L.length : Int)) ∧ Below W.heap.size W w') := fun W hW => hO.count (HT.out W hW).own
  have HSEA : Hid (∀ W, Below w.heap.size w W → Calls Tryz.prog 12 #[.pointer (some ⟨hp, 0, none⟩)] W fun e w' => e = .returned (.bool s) ∧ Below W.heap.size W w') := fun W hW => hO.sealed_ (HT.out W hW).own
  have HKEY : Hid (∀ W, Below w.heap.size w W → Calls Tryz.prog 34 #[.pointer (some ⟨hp, 0, none⟩)] W fun e w' => (∃ p c, e = .returned (.slice p (keysTo L L.length).length c) ∧ Strs w' p (keysTo L L.length)) ∧ Below W.heap.size W w') := fun W hW => hO.keys (HT.out W hW).own
  have HMKY : Hid (∀ W, Below w.heap.size w W → Calls Tryz.prog 35 #[.pointer (some ⟨hm, 0, none⟩)] W fun e w' => (∃ p c, e = .returned (.slice p (keysTo L L.length).length c) ∧ Strs w' p (keysTo L L.length)) ∧ Below W.heap.size W w') := fun W hW => by
    refine (rkeys_any hm L s W (by omega) (HT.out W hW).model).mono ?_
    rintro e w' ⟨⟨v, rfl, hv⟩, hb⟩
    obtain ⟨p, c, rfl, hs, _⟩ := hv.form
    exact ⟨⟨p, c, rfl, hs⟩, hb⟩
  have hkl : (keysTo L L.length).length ≤ 900000 := Nat.le_trans (keysTo_le L L.length) (by omega)
  have HSAM : Hid (∀ W pa pb ca cb, Strs W pa (keysTo L L.length) → Strs W pb (keysTo L L.length) → Calls Tryz.prog 33 #[.slice pa (keysTo L L.length).length ca, .slice pb (keysTo L L.length).length cb] W fun e w' => e = .returned (.bool true) ∧ Below W.heap.size W w') := fun W pa pb ca cb h1 h2 => by
    have := sameTexts_any pa pb _ _ ca cb W (by omega) (by omega) h1 h2
    rw [decide_eq_true rfl] at this
    exact this
  have HGET : Hid (∀ x ∈ keysTo L L.length, 0 < (getL L x).length ∧ x.size ≤ maxLen) := fun x hx => ⟨keysTo_get hx, hks x hx⟩
  have g1 : ((L.length : Int) != (L.length : Int)) = false := by simp
  have g2 : (s != s) = false := by simp
  generalize keysTo L L.length = ks at *
  clear hT hks
  go_enter Tryz.func15, Tryz.ntmps15
  go_upto_region 1 with fail
  go_cut [34] from 10 (fun b wc => b = .bool false ∧ Below w.heap.size w wc)
  case first =>
    have hS0 : w.drew.cell? ⟨hm, 0, none⟩ = some (.slice p L.length c) ∧ w.drew.cell? ⟨hm, 1, none⟩ = some (.bool s) ∧ Below w.heap.size w w.drew := ⟨q0, q1, (Below.refl _ _).drew⟩
    have HK : Hid (∀ W, Below w.heap.size w W → (W.cell? ⟨hm, 0, none⟩ = some (.slice p L.length c) ∧ W.cell? ⟨hm, 1, none⟩ = some (.bool s) ∧ Below w.heap.size w W)) := fun W hW => ⟨(hW.cell (p := ⟨hm, 0, none⟩) hlt).trans q0, (hW.cell (p := ⟨hm, 1, none⟩) hlt).trans q1, hW⟩
    have HCNT' : Hid (∀ W, (W.cell? ⟨hm, 0, none⟩ = some (.slice p L.length c) ∧ W.cell? ⟨hm, 1, none⟩ = some (.bool s) ∧ Below w.heap.size w W) → Calls Tryz.prog 11 #[.pointer (some ⟨hp, 0, none⟩)] W fun e w' => e = .returned (.int .i64 (L.length : Int)) ∧ (w'.cell? ⟨hm, 0, none⟩ = some (.slice p L.length c) ∧ w'.cell? ⟨hm, 1, none⟩ = some (.bool s) ∧ Below w.heap.size w w')) := fun W hW => (HCNT.out W hW.2.2).mono fun e w' ⟨h1, hb⟩ => ⟨h1, HK.out w' (hW.2.2.trans (hb.mono hW.2.2.size))⟩
    have HSEA' : Hid (∀ W, (W.cell? ⟨hm, 0, none⟩ = some (.slice p L.length c) ∧ W.cell? ⟨hm, 1, none⟩ = some (.bool s) ∧ Below w.heap.size w W) → Calls Tryz.prog 12 #[.pointer (some ⟨hp, 0, none⟩)] W fun e w' => e = .returned (.bool s) ∧ (w'.cell? ⟨hm, 0, none⟩ = some (.slice p L.length c) ∧ w'.cell? ⟨hm, 1, none⟩ = some (.bool s) ∧ Below w.heap.size w w')) := fun W hW => (HSEA.out W hW.2.2).mono fun e w' ⟨h1, hb⟩ => ⟨h1, HK.out w' (hW.2.2.trans (hb.mono hW.2.2.size))⟩
    have HKEY' : Hid (∀ W, (W.cell? ⟨hm, 0, none⟩ = some (.slice p L.length c) ∧ W.cell? ⟨hm, 1, none⟩ = some (.bool s) ∧ Below w.heap.size w W) → Calls Tryz.prog 34 #[.pointer (some ⟨hp, 0, none⟩)] W fun e w' => (∃ p c, e = .returned (.slice p ks.length c) ∧ Strs w' p ks) ∧ (w'.cell? ⟨hm, 0, none⟩ = some (.slice p L.length c) ∧ w'.cell? ⟨hm, 1, none⟩ = some (.bool s) ∧ Below w.heap.size w w')) := fun W hW => (HKEY.out W hW.2.2).mono fun e w' ⟨h1, hb⟩ => ⟨h1, HK.out w' (hW.2.2.trans (hb.mono hW.2.2.size))⟩
    have HMKY' : Hid (∀ W, (W.cell? ⟨hm, 0, none⟩ = some (.slice p L.length c) ∧ W.cell? ⟨hm, 1, none⟩ = some (.bool s) ∧ Below w.heap.size w W) → Calls Tryz.prog 35 #[.pointer (some ⟨hm, 0, none⟩)] W fun e w' => (∃ p c, e = .returned (.slice p ks.length c) ∧ Strs w' p ks) ∧ Below W.heap.size W w' ∧ (w'.cell? ⟨hm, 0, none⟩ = some (.slice p L.length c) ∧ w'.cell? ⟨hm, 1, none⟩ = some (.bool s) ∧ Below w.heap.size w w')) := fun W hW => (HMKY.out W hW.2.2).mono fun e w' ⟨h1, hb⟩ => ⟨h1, hb, HK.out w' (hW.2.2.trans (hb.mono hW.2.2.size))⟩
    have HSAM' : Hid (∀ W pa pb ca cb, (W.cell? ⟨hm, 0, none⟩ = some (.slice p L.length c) ∧ W.cell? ⟨hm, 1, none⟩ = some (.bool s) ∧ Below w.heap.size w W) → Strs W pa ks → Strs W pb ks → Calls Tryz.prog 33 #[.slice pa ks.length ca, .slice pb ks.length cb] W fun e w' => e = .returned (.bool true) ∧ (w'.cell? ⟨hm, 0, none⟩ = some (.slice p L.length c) ∧ w'.cell? ⟨hm, 1, none⟩ = some (.bool s) ∧ Below w.heap.size w w')) := fun W pa pb ca cb hW h1 h2 => (HSAM.out W pa pb ca cb h1 h2).mono fun e w' ⟨h3, hb⟩ => ⟨h3, HK.out w' (hW.2.2.trans (hb.mono hW.2.2.size))⟩
    clear HCNT HSEA HKEY HMKY HSAM
    go_region_held3 (fun W => (W.cell? ⟨hm, 0, none⟩ = some (.slice p L.length c) ∧ W.cell? ⟨hm, 1, none⟩ = some (.bool s) ∧ Below w.heap.size w W)) (first | assumption | exact hS0) (first | (go_at_call 11; refine (HCNT'.out _ (by assumption)).mono ?_; rintro e w1 ⟨rfl, hS1⟩) | (go_at_call 12; refine (HSEA'.out _ (by assumption)).mono ?_; rintro e w2 ⟨rfl, hS2⟩) | (go_at_call 34; refine (HKEY'.out _ (by assumption)).mono ?_; rintro e wk ⟨⟨pk, ck, rfl, hsk⟩, hSk⟩) | (go_at_call 35; refine (HMKY'.out _ (by assumption)).mono ?_; rintro e wm ⟨⟨pm, cm, rfl, hsm⟩, hbm, hSm⟩) | (go_at_call 33; refine (HSAM'.out _ pk pm ck cm (by assumption) (hsk.below hbm) hsm).mono ?_; rintro e ws ⟨rfl, hSs⟩))
    all_goals (go_wp2_with fail; go_meet)
    all_goals exact ⟨rfl, hSs.2.2⟩
  case rest =>
    obtain ⟨rfl, hbc⟩ := hcut
    have HBC : Hid (Below w.heap.size w wc) := hbc
    clear hbc HCNT HSEA HKEY HSAM q0 q1 g1 g2
    go_wp2_with fail
    refine (HMKY.out _ HBC.out).mono ?_
    rintro e w1 ⟨⟨pk, ck, rfl, hsk⟩, hb1⟩
    have HSK : Hid (Strs w1 pk ks) := hsk
    have HB1 : Hid (Below w.heap.size w w1) := HBC.out.trans (hb1.mono HBC.out.size)
    clear hsk hb1 HMKY
    go_wp2
    go_loopw [6] (fun x wq => ∃ i : Nat, i ≤ ks.length ∧ x = .int .i64 i ∧ Below w1.heap.size w1 wq) (fun x _ => ks.length - (intOf x).toNat)
    case atStart => exact ⟨0, Nat.zero_le _, rfl, Below.refl _ _⟩
    case round =>
      obtain ⟨i, hi, rfl, hbq⟩ := hrel
      obtain ⟨w2, rfl⟩ : ∃ w2, w2 = wr := ⟨_, rfl⟩
      have HBQ : Hid (Below w1.heap.size w1 w2) := hbq
      have HB2 : Hid (Below w.heap.size w w2) := HB1.out.trans (hbq.mono HB1.out.size)
      clear hbq
      by_cases hil : i < ks.length
      · obtain ⟨b, o, hpp, hblt, hcell⟩ : ∃ b o, pk = some ⟨b, o, none⟩ ∧ b < w1.heap.size ∧ ∀ j, j < ks.length → w1.cell? ⟨b, o + j, none⟩ = some (.string (txt ks j)) := by
          rcases HSK.out with h0 | ⟨b, o, hp, hlt, hc⟩
          · rw [h0] at hil; exact absurd hil (Nat.not_lt_zero _)
          · exact ⟨b, o, hp, hlt, hc⟩
        subst hpp
        have HCEL : Hid (∀ W, Below w1.heap.size w1 W → W.cell? ⟨b, o + i, none⟩ = some (.string (txt ks i))) := fun W hW => (hW.cell (p := ⟨b, o + i, none⟩) hblt).trans (hcell i hil)
        obtain ⟨hg0, hsz⟩ := HGET.out (txt ks i) (txt_mem hil)
        clear hcell
        generalize txt ks i = t at *
        have HMG : Hid (Calls Tryz.prog 31 #[.pointer (some ⟨hm, 0, none⟩), .string t] w2 fun e w' => (∃ p c, e = .returned (.slice p (getL L t).length c) ∧ Rec verE w' p (getL L t)) ∧ Below w2.heap.size w2 w') := by
          refine (rget_any hm L s t w2 (by omega) (HT.out w2 HB2.out).model).mono ?_
          rintro e w' ⟨⟨v, rfl, hv⟩, hb⟩
          obtain ⟨p, c, rfl, hs, _⟩ := hv.form
          exact ⟨⟨p, c, rfl, hs⟩, hb⟩
        have HLA : Hid (∀ W, Below w.heap.size w W → Calls Tryz.prog 18 #[.pointer (some ⟨hp, 0, none⟩), .string t] W fun e w' => e = .returned (.tuple #[.agg #[.int .i64 (lastT (getL L t)).1, .int .i64 (lastT (getL L t)).2], .bool true]) ∧ Below W.heap.size W w') := fun W hW => by
          have := hO.last t hsz (HT.out W hW).own
          rw [decide_eq_true hg0] at this
          exact this
        have HGE : Hid (∀ W, Below w.heap.size w W → Calls Tryz.prog 17 #[.pointer (some ⟨hp, 0, none⟩), .string t] W fun e w' => (∃ p c, e = .returned (.slice p (getL L t).length c) ∧ Rec verE w' p (getL L t)) ∧ Below W.heap.size W w') := fun W hW => hO.get t hsz (HT.out W hW).own
        have hgl : (getL L t).length ≤ 900000 := Nat.le_trans (getL_le _ _) (by omega)
        have HLT : Hid (lastT (getL L t) = ((verAt (getL L t) ((getL L t).length - 1)).n, (verAt (getL L t) ((getL L t).length - 1)).who)) := by show _ = _; rfl
        have HSV : Hid (∀ W pa pb ca cb, Rec verE W pa (getL L t) → Rec verE W pb (getL L t) → Calls Tryz.prog 32 #[.slice pa (getL L t).length ca, .slice pb (getL L t).length cb] W fun e w' => e = .returned (.bool true) ∧ Below W.heap.size W w') := fun W pa pb ca cb h1 h2 => by
          have := sameVers_any pa pb _ _ ca cb W (by omega) h1 h2
          rw [decide_eq_true rfl] at this
          exact this
        generalize getL L t = gl at *
        have q2 := HCEL.out w2 HBQ.out
        go_wp2_with fail
        refine HMG.out.mono ?_
        rintro e w3 ⟨⟨pl, cl, rfl, hrl⟩, hb3⟩
        have HBQ3 : Hid (Below w1.heap.size w1 w3) := HBQ.out.trans (hb3.mono HBQ.out.size)
        have HB3 : Hid (Below w.heap.size w w3) := HB2.out.trans (hb3.mono HB2.out.size)
        have HRL : Hid (Rec verE w3 pl gl) := hrl
        have q3 := HCEL.out w3 HBQ3.out
        clear hb3 hrl HMG q2
        go_wp2_with fail
        refine (HLA.out w3 HB3.out).mono ?_
        rintro e w4 ⟨rfl, hb4⟩
        have HBQ4 : Hid (Below w1.heap.size w1 w4) := HBQ3.out.trans (hb4.mono HBQ3.out.size)
        have HB4 : Hid (Below w.heap.size w w4) := HB3.out.trans (hb4.mono HB3.out.size)
        have HRL4 : Hid (Rec verE w4 pl gl) := HRL.out.below hb4
        rw [HLT.out]
        generalize hva : (verAt gl (gl.length - 1)).n = va at *
        generalize hvb : (verAt gl (gl.length - 1)).who = vb at *
        clear hb4 HLA q3 HRL
        obtain ⟨bl, ol, hpl, hbl, v0, v1, _⟩ := ver_cells HRL4.out (i := gl.length - 1) (by omega)
        subst hpl
        rw [hva] at v0
        rw [hvb] at v1
        obtain ⟨m, hgm⟩ : ∃ m, gl.length = m + 1 := ⟨gl.length - 1, by omega⟩
        have HGM : Hid (gl.length = m + 1) := hgm
        rw [hgm] at HGE HSV v0 v1 hgl
        rw [show m + 1 - 1 = m by omega] at v0 v1
        obtain ⟨w5, hw5⟩ : ∃ w5, w5 = w4.alloc (.cells #[.int .i64 va, .int .i64 vb] 45) := ⟨_, rfl⟩
        have hb45 : Below w4.heap.size w4 w5 := by rw [hw5]; exact (Below.refl _ _).alloc (Nat.le_refl _) _
        have r0 : w5.cell? ⟨w4.heap.size, 0, none⟩ = some (.int .i64 va) := by rw [hw5]; simp
        have r1 : w5.cell? ⟨w4.heap.size, 1, none⟩ = some (.int .i64 vb) := by rw [hw5]; simp
        have HB5 : Hid (Below w.heap.size w w5) := HB4.out.trans (hb45.mono HB4.out.size)
        have HBQ5 : Hid (Below w1.heap.size w1 w5) := HBQ4.out.trans (hb45.mono HBQ4.out.size)
        have HRL5 : Hid (Rec verE w5 (some ⟨bl, ol, none⟩) gl) := HRL4.out.below hb45
        have HCL5 : Hid (∀ W, Below w5.heap.size w5 W → W.cell? ⟨w4.heap.size, 0, none⟩ = some (.int .i64 va) ∧ W.cell? ⟨w4.heap.size, 1, none⟩ = some (.int .i64 vb) ∧ W.cell? ⟨bl, ol + m * 5, none⟩ = some (.int .i64 va) ∧ W.cell? ⟨bl, ol + m * 5 + 1, none⟩ = some (.int .i64 vb)) := fun W hW => by
          have hlt4 : w4.heap.size < w5.heap.size := lt_of_cellH r0
          have hlb : bl < w5.heap.size := Nat.lt_of_lt_of_le hbl hb45.size
          exact ⟨(hW.cell (p := ⟨w4.heap.size, 0, none⟩) hlt4).trans r0, (hW.cell (p := ⟨w4.heap.size, 1, none⟩) hlt4).trans r1, (hW.cell (p := ⟨bl, ol + m * 5, none⟩) hlb).trans ((hb45.cell (p := ⟨bl, ol + m * 5, none⟩) hbl).trans v0), (hW.cell (p := ⟨bl, ol + m * 5 + 1, none⟩) hlb).trans ((hb45.cell (p := ⟨bl, ol + m * 5 + 1, none⟩) hbl).trans v1)⟩
        have HW5 : Hid (w5 = w4.alloc (.cells #[.int .i64 va, .int .i64 vb] 45)) := hw5
        have q5 := HCEL.out w5 HBQ5.out
        obtain ⟨e1, e2, e3, e4, e5, e6, e7, e8, e9⟩ := last_idx m hgl
        clear hw5 hb45 r0 r1 v0 v1 hva hvb HRL4 HB4 HBQ4 HLT HCEL
        rw [hgm]
        clear hgm
        go_upto_region 9 with fail
        rw [← HW5.out]
        go_cut [81] from 37 to 81 (fun b wx => b = .bool false ∧ Below w5.heap.size w5 wx)
        case first =>
          have hS0 : w5.drew.cell? ⟨b, o + i, none⟩ = some (.string t) ∧ w5.drew.cell? ⟨w4.heap.size, 0, none⟩ = some (.int .i64 va) ∧ w5.drew.cell? ⟨w4.heap.size, 1, none⟩ = some (.int .i64 vb) ∧ w5.drew.cell? ⟨bl, ol + m * 5, none⟩ = some (.int .i64 va) ∧ w5.drew.cell? ⟨bl, ol + m * 5 + 1, none⟩ = some (.int .i64 vb) ∧ Below w5.heap.size w5 w5.drew := by
            obtain ⟨x0, x1, x2, x3⟩ := HCL5.out w5 (Below.refl _ _)
            exact ⟨q5, x0, x1, x2, x3, (Below.refl _ _).drew⟩
          have HK5 : Hid (∀ W, Below w5.heap.size w5 W → (W.cell? ⟨b, o + i, none⟩ = some (.string t) ∧ W.cell? ⟨w4.heap.size, 0, none⟩ = some (.int .i64 va) ∧ W.cell? ⟨w4.heap.size, 1, none⟩ = some (.int .i64 vb) ∧ W.cell? ⟨bl, ol + m * 5, none⟩ = some (.int .i64 va) ∧ W.cell? ⟨bl, ol + m * 5 + 1, none⟩ = some (.int .i64 vb) ∧ Below w5.heap.size w5 W)) := fun W hW => by
            obtain ⟨x0, x1, x2, x3⟩ := HCL5.out W hW
            exact ⟨(hW.cell (p := ⟨b, o + i, none⟩) (lt_of_cellH q5)).trans q5, x0, x1, x2, x3, hW⟩
          have HGE' : Hid (∀ W, (W.cell? ⟨b, o + i, none⟩ = some (.string t) ∧ W.cell? ⟨w4.heap.size, 0, none⟩ = some (.int .i64 va) ∧ W.cell? ⟨w4.heap.size, 1, none⟩ = some (.int .i64 vb) ∧ W.cell? ⟨bl, ol + m * 5, none⟩ = some (.int .i64 va) ∧ W.cell? ⟨bl, ol + m * 5 + 1, none⟩ = some (.int .i64 vb) ∧ Below w5.heap.size w5 W) → Calls Tryz.prog 17 #[.pointer (some ⟨hp, 0, none⟩), .string t] W fun e w' => (∃ p c, e = .returned (.slice p (m + 1) c) ∧ Rec verE w' p gl) ∧ (w'.cell? ⟨b, o + i, none⟩ = some (.string t) ∧ w'.cell? ⟨w4.heap.size, 0, none⟩ = some (.int .i64 va) ∧ w'.cell? ⟨w4.heap.size, 1, none⟩ = some (.int .i64 vb) ∧ w'.cell? ⟨bl, ol + m * 5, none⟩ = some (.int .i64 va) ∧ w'.cell? ⟨bl, ol + m * 5 + 1, none⟩ = some (.int .i64 vb) ∧ Below w5.heap.size w5 w')) := fun W hW => by
            refine (HGE.out W (HB5.out.trans (hW.2.2.2.2.2.mono HB5.out.size))).mono ?_
            rintro e w' ⟨h1, hb⟩
            exact ⟨h1, HK5.out w' (hW.2.2.2.2.2.trans (hb.mono hW.2.2.2.2.2.size))⟩
          have HSV' : Hid (∀ W pa ca, (W.cell? ⟨b, o + i, none⟩ = some (.string t) ∧ W.cell? ⟨w4.heap.size, 0, none⟩ = some (.int .i64 va) ∧ W.cell? ⟨w4.heap.size, 1, none⟩ = some (.int .i64 vb) ∧ W.cell? ⟨bl, ol + m * 5, none⟩ = some (.int .i64 va) ∧ W.cell? ⟨bl, ol + m * 5 + 1, none⟩ = some (.int .i64 vb) ∧ Below w5.heap.size w5 W) → Rec verE W pa gl → Calls Tryz.prog 32 #[.slice pa (m + 1) ca, .slice (some ⟨bl, ol, none⟩) (m + 1) cl] W fun e w' => e = .returned (.bool true) ∧ (w'.cell? ⟨b, o + i, none⟩ = some (.string t) ∧ w'.cell? ⟨w4.heap.size, 0, none⟩ = some (.int .i64 va) ∧ w'.cell? ⟨w4.heap.size, 1, none⟩ = some (.int .i64 vb) ∧ w'.cell? ⟨bl, ol + m * 5, none⟩ = some (.int .i64 va) ∧ w'.cell? ⟨bl, ol + m * 5 + 1, none⟩ = some (.int .i64 vb) ∧ Below w5.heap.size w5 w')) := fun W pa ca hW hr => by
            refine (HSV.out W pa (some ⟨bl, ol, none⟩) ca cl hr (HRL5.out.below hW.2.2.2.2.2)).mono ?_
            rintro e w' ⟨rfl, hb⟩
            exact ⟨rfl, HK5.out w' (hW.2.2.2.2.2.trans (hb.mono hW.2.2.2.2.2.size))⟩
          clear HGE HSV
          go_region_held3 (fun W => (W.cell? ⟨b, o + i, none⟩ = some (.string t) ∧ W.cell? ⟨w4.heap.size, 0, none⟩ = some (.int .i64 va) ∧ W.cell? ⟨w4.heap.size, 1, none⟩ = some (.int .i64 vb) ∧ W.cell? ⟨bl, ol + m * 5, none⟩ = some (.int .i64 va) ∧ W.cell? ⟨bl, ol + m * 5 + 1, none⟩ = some (.int .i64 vb) ∧ Below w5.heap.size w5 W)) (first | assumption | exact hS0) (first | (go_at_call 17; refine (HGE'.out _ (by assumption)).mono ?_; rintro e w6 ⟨⟨pg, cg, rfl, hrg⟩, hS6⟩) | (go_at_call 32; refine (HSV'.out _ pg cg (by assumption) hrg).mono ?_; rintro e w7 ⟨rfl, hS7⟩))
          all_goals (go_wp2_with fail; go_meet)
          all_goals exact ⟨rfl, hS7.2.2.2.2.2⟩
        case rest =>
          obtain ⟨rfl, hbx⟩ := hcut
          have HBX : Hid (Below w1.heap.size w1 wc) := HBQ5.out.trans (hbx.mono HBQ5.out.size)
          clear hbx
          go_wp2
          go_roundw
          case rel => exact ⟨i + 1, by omega, by go_num, HBX.out⟩
          case measure => simp [intOf]; omega
      · go_wp2
        go_ret
        exact ⟨rfl, HB2.out⟩
/-- The cells of an act lie at block b. -/
def ActIs (W : World) (b : Nat) (a : HAct) : Prop := W.cell? ⟨b, 0, none⟩ = some (.string a.kind) ∧ W.cell? ⟨b, 1, none⟩ = some (.string a.key) ∧ W.cell? ⟨b, 2, none⟩ = some (.int .i64 a.v.n) ∧ W.cell? ⟨b, 3, none⟩ = some (.int .i64 a.v.who) ∧ W.cell? ⟨b, 4, none⟩ = some (.int .i64 a.v.size) ∧ W.cell? ⟨b, 5, none⟩ = some (.int .i64 a.v.at_) ∧ W.cell? ⟨b, 6, none⟩ = some (.string a.v.text) ∧ W.cell? ⟨b, 7, none⟩ = some (.int .i64 a.n)
theorem ActIs.of_block {W W' : World} {b : Nat} {a : HAct} (h : ActIs W b a) (hb : W'.heap[b]? = W.heap[b]?) : ActIs W' b a := by
  have hc : ∀ o, W'.cell? ⟨b, o, none⟩ = W.cell? ⟨b, o, none⟩ := fun o => by unfold World.cell?; rw [hb]
  unfold ActIs at h ⊢
  rw [hc, hc, hc, hc, hc, hc, hc, hc]
  exact h
theorem ActIs.made (w : World) (a : HAct) (t : TypeId) : ActIs (w.alloc (.cells #[.string a.kind, .string a.key, .int .i64 a.v.n, .int .i64 a.v.who, .int .i64 a.v.size, .int .i64 a.v.at_, .string a.v.text, .int .i64 a.n] t)) w.heap.size a := by
  refine ⟨?_, ?_, ?_, ?_, ?_, ?_, ?_, ?_⟩ <;> (rw [World.cell?_alloc_at _ _ _ _ rfl]; rfl)
/-- What a put does to both, its answers alike. -/
theorem both_put {ad : Nat → Addr} {Hd : World → Nat → (Nat → Prop) → List Kep → Bool → Prop} (hO : HoldOk ad Hd) {B hp hm ab : Nat} {L : List Kep} {s : Bool} {S : Nat → Prop} {w : World} (hT : Two Hd B w hp hm L s S) (hB : B ≤ w.heap.size) (a : HAct) (hk : a.key.size ≤ maxLen) (ht : a.v.text.size ≤ maxLen) (hS : Sent w ad) (hab : ActIs w ab a) (hn : ¬ S ab) (hne : ab ≠ hm) :
    Calls Tryz.prog 16 #[.pointer (some ⟨hp, 0, none⟩), .string a.key, verA a.v] w fun e w' => ∃ ev, e = .returned ev ∧ BareIs ad ev (putR L s a.key a.v).1 ∧ ActIs w' ab a ∧
      Calls Tryz.prog 26 #[.pointer (some ⟨hm, 0, none⟩), .string a.key, verA a.v] w' fun e w'' => e = .returned (.int .i64 (putR L s a.key a.v).1) ∧ ActIs w'' ab a ∧ (∃ S', Two Hd B w'' hp hm (putR L s a.key a.v).2 s S') ∧ Below B w w'' := by
  have hlt : ab < w.heap.size := lt_of_cellH hab.1
  refine (hO.put a.key a.v hk ht hT.own hS).mono ?_
  rintro e w' ⟨⟨ev, rfl, hI⟩, S', hH', hU⟩
  have hab' : ActIs w' ab a := hab.of_block (hU.block ab hlt hn)
  refine ⟨ev, rfl, hI, hab', ?_⟩
  obtain ⟨hm', _, _, _, _⟩ := hT.upd hU hB
  refine (rput_any hm L s a.key a.v w' (by have := hT.len; omega) ht hm').mono ?_
  rintro e w'' ⟨rfl, hm'', hturn⟩
  obtain ⟨h1, h2⟩ := hT.step hO hU hH' hB hm'' hturn (putR_len hT.len) (putR_names hT.names hk)
  exact ⟨rfl, hab'.of_block (hturn.block ab (Nat.lt_of_lt_of_le hlt hU.size) hne), ⟨S', h1⟩, h2⟩
/-- What a trim does to both, its answers alike. -/
theorem both_trim {ad : Nat → Addr} {Hd : World → Nat → (Nat → Prop) → List Kep → Bool → Prop} (hO : HoldOk ad Hd) {B hp hm ab : Nat} {L : List Kep} {s : Bool} {S : Nat → Prop} {w : World} (hT : Two Hd B w hp hm L s S) (hB : B ≤ w.heap.size) (a : HAct) (hk : a.key.size ≤ maxLen) (h0 : 0 ≤ a.n) (h1 : a.n ≤ 9223372036854775807) (hab : ActIs w ab a) (hn : ¬ S ab) :
    Calls Tryz.prog 27 #[.pointer (some ⟨hp, 0, none⟩), .string a.key, .int .i64 a.n] w fun e w' => e = .returned (.tuple #[.int .i64 ((goneN L a.key a.n : Nat) : Int), .nilIface]) ∧ ActIs w' ab a ∧ w.heap.size ≤ w'.heap.size ∧
      (∀ W, Below w'.heap.size w' W → Calls Tryz.prog 28 #[.pointer (some ⟨hm, 0, none⟩), .string a.key, .int .i64 a.n] W fun e w'' => e = .returned (.int .i64 ((goneN L a.key a.n : Nat) : Int)) ∧ (∃ S', Two Hd B w'' hp hm (trimL L a.key a.n) s S') ∧ Below B w w'') := by
  have hlt : ab < w.heap.size := lt_of_cellH hab.1
  refine (hO.trim a.key a.n hk h0 h1 hT.own).mono ?_
  rintro e w' ⟨rfl, S', hH', hU⟩
  refine ⟨rfl, hab.of_block (hU.block ab hlt hn), hU.size, fun W hW => ?_⟩
  have hUW : Upd S S' w W := ⟨hW.os.trans hU.os, hW.tape.trans hU.tape, hW.output.trans hU.output, Nat.le_trans hU.size hW.size, fun k hk' hs => (hW.block k (Nat.lt_of_lt_of_le hk' hU.size)).trans (hU.block k hk' hs), hU.new⟩
  have hHW : Hd W hp S' (trimL L a.key a.n) s := hO.keep hH' hW.size (fun k hk' => hW.block k (hO.lt hH' k hk'))
  obtain ⟨hm', _, _, _, _⟩ := hT.upd hUW hB
  refine (rtrim_any hm L s a.key a.n W (by have := hT.len; omega) h0 h1 hm').mono ?_
  rintro e w'' ⟨rfl, hm'', hturn⟩
  have hsub := trimGo_subP a.key (goneN L a.key a.n) L
  obtain ⟨h2, h3⟩ := hT.step hO hUW hHW hB hm'' hturn (Nat.le_trans hsub.1 hT.len) (fun x hx => hT.names x (hsub.2 x hx))
  exact ⟨rfl, ⟨S', h2⟩, h3⟩
theorem MHold.seal1 {w : World} {h : Nat} {L : List Kep} {s : Bool} (hm : MHold w h L s) (b : Bool) : MHold (w.setCell ⟨h, 1, none⟩ (.bool b)) h L b ∧ Turn h w (w.setCell ⟨h, 1, none⟩ (.bool b)) := by
  obtain ⟨p, c, q0, hr, hc, hn, hne⟩ := hm.row
  have e0 : (w.setCell ⟨h, 1, none⟩ (.bool b)).cell? ⟨h, 0, none⟩ = w.cell? ⟨h, 0, none⟩ := World.cell?_setCell_other _ _ _ _ (fun e => by have h2 : (1 : Nat) = 0 := congrArg Addr.off e; omega)
  refine ⟨⟨⟨p, c, e0.trans q0, ?_, hc, hn, hne⟩, World.cell?_setCell_same _ _ _ hm.sealed_, by rw [World.frozen?_setCell]; exact hm.free0, by rw [World.frozen?_setCell]; exact hm.free1⟩, ⟨rfl, rfl, rfl, by simp, fun k hk hkne => Deep.blk_setCell_other _ _ _ _ hkne, Or.inl e0⟩⟩
  rcases hr with hr | ⟨b', o, hp, hlt, hcell⟩
  · exact Or.inl hr
  · refine Or.inr ⟨b', o, hp, by simpa using hlt, fun i x hx j u hu => ?_⟩
    rw [World.cell?_setCell_other _ _ _ _ (fun e => by have h2 : h = b' := congrArg Addr.block e; exact hne b' o hp h2.symm)]
    exact hcell i x hx j u hu
theorem MHold.wipe0 {w : World} {h : Nat} {L : List Kep} {s : Bool} (hm : MHold w h L s) : MHold (w.setCell ⟨h, 0, none⟩ (.slice none 0 0)) h [] s ∧ Turn h w (w.setCell ⟨h, 0, none⟩ (.slice none 0 0)) := by
  obtain ⟨p, c, q0, _⟩ := hm.row
  have e0 : (w.setCell ⟨h, 0, none⟩ (.slice none 0 0)).cell? ⟨h, 0, none⟩ = some (.slice none 0 0) := World.cell?_setCell_same _ _ _ q0
  have e1 : (w.setCell ⟨h, 0, none⟩ (.slice none 0 0)).cell? ⟨h, 1, none⟩ = w.cell? ⟨h, 1, none⟩ := World.cell?_setCell_other _ _ _ _ (fun e => by have h2 : (0 : Nat) = 1 := congrArg Addr.off e; omega)
  exact ⟨⟨⟨none, 0, e0, Or.inl rfl, Nat.le_refl _, fun _ => ⟨rfl, rfl⟩, fun _ _ e => by cases e⟩, e1.trans hm.sealed_, by rw [World.frozen?_setCell]; exact hm.free0, by rw [World.frozen?_setCell]; exact hm.free1⟩, ⟨rfl, rfl, rfl, by simp, fun k hk hkne => Deep.blk_setCell_other _ _ _ _ hkne, Or.inr fun b o n c e => by rw [e0] at e; cases e⟩⟩
theorem both_seal {ad : Nat → Addr} {Hd : World → Nat → (Nat → Prop) → List Kep → Bool → Prop} (hO : HoldOk ad Hd) {B hp hm : Nat} {L : List Kep} {s : Bool} {S : Nat → Prop} {w : World} (hT : Two Hd B w hp hm L s S) (hB : B ≤ w.heap.size) :
    Calls Tryz.prog 29 #[.pointer (some ⟨hp, 0, none⟩)] w fun e w' => e = .returned (.tuple #[]) ∧ (w'.cell? ⟨hm, 1, none⟩ = some (.bool s) ∧ w'.frozen? ⟨hm, 1, none⟩ = false) ∧ (∃ S', Two Hd B (w'.setCell ⟨hm, 1, none⟩ (.bool true)) hp hm L true S') ∧ Below B w (w'.setCell ⟨hm, 1, none⟩ (.bool true)) := by
  refine (hO.seals hT.own).mono ?_
  rintro e w' ⟨rfl, S', hH', hU⟩
  obtain ⟨hm', _, _, _, _⟩ := hT.upd hU hB
  obtain ⟨h1, h2⟩ := hm'.seal1 true
  obtain ⟨h3, h4⟩ := hT.step hO hU hH' hB h1 h2 hT.len hT.names
  exact ⟨rfl, ⟨hm'.sealed_, hm'.free1⟩, ⟨S', h3⟩, h4⟩
theorem both_wipe {ad : Nat → Addr} {Hd : World → Nat → (Nat → Prop) → List Kep → Bool → Prop} (hO : HoldOk ad Hd) {B hp hm : Nat} {L : List Kep} {s : Bool} {S : Nat → Prop} {w : World} (hT : Two Hd B w hp hm L s S) (hB : B ≤ w.heap.size) :
    Calls Tryz.prog 30 #[.pointer (some ⟨hp, 0, none⟩)] w fun e w' => e = .returned (.tuple #[]) ∧ (∃ p n c, w'.cell? ⟨hm, 0, none⟩ = some (.slice p n c)) ∧ (w'.cell? ⟨hm, 1, none⟩ = some (.bool s) ∧ w'.frozen? ⟨hm, 0, none⟩ = false ∧ w'.frozen? ⟨hm, 1, none⟩ = false) ∧ (∃ S', Two Hd B ((w'.setCell ⟨hm, 0, none⟩ (.slice none 0 0)).setCell ⟨hm, 1, none⟩ (.bool false)) hp hm [] false S') ∧ Below B w ((w'.setCell ⟨hm, 0, none⟩ (.slice none 0 0)).setCell ⟨hm, 1, none⟩ (.bool false)) := by
  refine (hO.wipe hT.own).mono ?_
  rintro e w' ⟨rfl, S', hH', hU⟩
  obtain ⟨hm', _, _, _, _⟩ := hT.upd hU hB
  obtain ⟨p, c, q0, _⟩ := hm'.row
  obtain ⟨h1, h2⟩ := hm'.wipe0
  obtain ⟨h5, h6⟩ := h1.seal1 false
  obtain ⟨h3, h4⟩ := hT.step hO hU hH' hB h5 (h2.trans h6) (Nat.zero_le _) (fun x hx => by cases hx)
  exact ⟨rfl, ⟨p, _, c, q0⟩, ⟨hm'.sealed_, hm'.free0, hm'.free1⟩, ⟨S', h3⟩, h4⟩
theorem lit_ne {x : ByteArray} {l : List UInt8} (h : x ≠ ⟨l.toArray⟩) : (x.toList == l) = false := by
  rw [beq_eq_false_iff_ne]
  intro e
  refine h (ByteArray.ext ?_)
  rw [ByteArray.toList_eq] at e
  rw [← e]
set_option maxRecDepth 10000 in
set_option maxHeartbeats 16000000 in
theorem play_any {ad : Nat → Addr} {Hd : World → Nat → (Nat → Prop) → List Kep → Bool → Prop} (hO : HoldOk ad Hd) (B hp hm : Nat) (L0 : List Kep) (s0 : Bool) (S0 : Nat → Prop) (pl : Option Addr) (acts : List HAct) (cl : Nat) (w : World) (hT : Two Hd B w hp hm L0 s0 S0) (hB : B ≤ w.heap.size) (hl : acts.length ≤ maxLen)
    (hA : ∀ W, Below B w W → Rec actE W pl acts) (hS : ∀ W, Below B w W → Sent W ad) (hx : ∀ i, i < acts.length → (actAt acts i).key.size ≤ maxLen ∧ (actAt acts i).v.text.size ≤ maxLen ∧ -9223372036854775808 ≤ (actAt acts i).n ∧ (actAt acts i).n ≤ 9223372036854775807) :
    Calls Tryz.prog 14 #[.pointer (some ⟨hp, 0, none⟩), .pointer (some ⟨hm, 0, none⟩), .slice pl acts.length cl] w fun e w' => e = .returned (.bool true) ∧ (∃ L s S, Two Hd B w' hp hm L s S) ∧ Below B w w' := by
  have HA : Hid (∀ W, Below B w W → Rec actE W pl acts) := hA
  have HS : Hid (∀ W, Below B w W → Sent W ad) := hS
  have HX : Hid (∀ i, i < acts.length → (actAt acts i).key.size ≤ maxLen ∧ (actAt acts i).v.text.size ≤ maxLen ∧ -9223372036854775808 ≤ (actAt acts i).n ∧ (actAt acts i).n ≤ 9223372036854775807) := hx
  have HT0 : Hid (Two Hd B w hp hm L0 s0 S0) := hT
  have HO : Hid (HoldOk ad Hd) := hO
  have hl' : acts.length ≤ 9223372036854775807 := by unfold maxLen at hl; omega
  clear hA hS hx hT hO hl
  go_enter Tryz.func14, Tryz.ntmps14
  go_wp2
  go_loopw [7] (fun x wq => ∃ i : Nat, i ≤ acts.length ∧ x = .int .i64 i ∧ (∃ L s S, Two Hd B wq hp hm L s S) ∧ Below B w wq) (fun x _ => acts.length - (intOf x).toNat)
  case atStart => exact ⟨0, Nat.zero_le _, rfl, ⟨L0, s0, S0, HT0.out⟩, Below.refl _ _⟩
  case round =>
    obtain ⟨i, hi, rfl, ⟨L, s, S, hT2⟩, hb2⟩ := hrel
    obtain ⟨w2, rfl⟩ : ∃ w2, w2 = wr := ⟨_, rfl⟩
    have HT2 : Hid (Two Hd B w2 hp hm L s S) := hT2
    have HB2 : Hid (Below B w w2) := hb2
    have hB2 : B ≤ w2.heap.size := Nat.le_trans hB hb2.size
    clear hT2 hb2 HT0
    by_cases hil : i < acts.length
    · obtain ⟨b, o, hpp, hblt, c0, c1, c2, c3, c4, c5, c6, c7⟩ := act_cells (HA.out w2 HB2.out) hil
      obtain ⟨hky, hvt, hn0, hn1⟩ := HX.out i hil
      subst hpp
      generalize actAt acts i = a at *
      obtain ⟨kk, ky, v, an⟩ := a
      obtain ⟨w3, hw3⟩ : ∃ w3, w3 = w2.alloc (.cells #[.string kk, .string ky, .int .i64 v.n, .int .i64 v.who, .int .i64 v.size, .int .i64 v.at_, .string v.text, .int .i64 an] 70) := ⟨_, rfl⟩
      have hb3 : Below w2.heap.size w2 w3 := by rw [hw3]; exact (Below.refl _ _).alloc (Nat.le_refl _) _
      have hA3 : (w3.cell? ⟨w2.heap.size, 0, none⟩ = some (.string kk) ∧ w3.cell? ⟨w2.heap.size, 1, none⟩ = some (.string ky) ∧ w3.cell? ⟨w2.heap.size, 2, none⟩ = some (.int .i64 v.n) ∧ w3.cell? ⟨w2.heap.size, 3, none⟩ = some (.int .i64 v.who) ∧ w3.cell? ⟨w2.heap.size, 4, none⟩ = some (.int .i64 v.size) ∧ w3.cell? ⟨w2.heap.size, 5, none⟩ = some (.int .i64 v.at_) ∧ w3.cell? ⟨w2.heap.size, 6, none⟩ = some (.string v.text) ∧ w3.cell? ⟨w2.heap.size, 7, none⟩ = some (.int .i64 an)) := by rw [hw3]; exact ActIs.made w2 ⟨kk, ky, v, an⟩ _
      have HT3 : Hid (Two Hd B w3 hp hm L s S) := HT2.out.below HO.out.see hb3
      have HB3 : Hid (Below B w w3) := HB2.out.trans (hb3.mono hB2)
      have hB3 : B ≤ w3.heap.size := Nat.le_trans hB2 hb3.size
      have HNS : Hid (¬ S w2.heap.size) := fun h => absurd (HO.out.lt HT2.out.own _ h) (Nat.lt_irrefl _)
      have HNM : Hid (w2.heap.size ≠ hm) := fun h => by
        obtain ⟨p, c, q, _⟩ := HT2.out.model.row
        have := lt_of_cellH q
        omega
      have HW3 : Hid (w3 = w2.alloc (.cells #[.string kk, .string ky, .int .i64 v.n, .int .i64 v.who, .int .i64 v.size, .int .i64 v.at_, .string v.text, .int .i64 an] 70)) := hw3
      have HKEEP : Hid (∀ W W', (W.cell? ⟨w2.heap.size, 0, none⟩ = some (.string kk) ∧ W.cell? ⟨w2.heap.size, 1, none⟩ = some (.string ky) ∧ W.cell? ⟨w2.heap.size, 2, none⟩ = some (.int .i64 v.n) ∧ W.cell? ⟨w2.heap.size, 3, none⟩ = some (.int .i64 v.who) ∧ W.cell? ⟨w2.heap.size, 4, none⟩ = some (.int .i64 v.size) ∧ W.cell? ⟨w2.heap.size, 5, none⟩ = some (.int .i64 v.at_) ∧ W.cell? ⟨w2.heap.size, 6, none⟩ = some (.string v.text) ∧ W.cell? ⟨w2.heap.size, 7, none⟩ = some (.int .i64 an)) → Below W.heap.size W W' → (W'.cell? ⟨w2.heap.size, 0, none⟩ = some (.string kk) ∧ W'.cell? ⟨w2.heap.size, 1, none⟩ = some (.string ky) ∧ W'.cell? ⟨w2.heap.size, 2, none⟩ = some (.int .i64 v.n) ∧ W'.cell? ⟨w2.heap.size, 3, none⟩ = some (.int .i64 v.who) ∧ W'.cell? ⟨w2.heap.size, 4, none⟩ = some (.int .i64 v.size) ∧ W'.cell? ⟨w2.heap.size, 5, none⟩ = some (.int .i64 v.at_) ∧ W'.cell? ⟨w2.heap.size, 6, none⟩ = some (.string v.text) ∧ W'.cell? ⟨w2.heap.size, 7, none⟩ = some (.int .i64 an))) := fun W W' h hb => (show ActIs W' w2.heap.size ⟨kk, ky, v, an⟩ from ActIs.of_block (show ActIs W w2.heap.size ⟨kk, ky, v, an⟩ from h) (hb.block _ (lt_of_cellH h.1)))
      clear hw3 hb3 HT2 HB2
      by_cases hp0 : kk = ⟨#[112, 117, 116]⟩
      · subst hp0
        have HP : Hid (Calls Tryz.prog 16 #[.pointer (some ⟨hp, 0, none⟩), .string ky, .agg #[.int .i64 v.n, .int .i64 v.who, .int .i64 v.size, .int .i64 v.at_, .string v.text]] w3.drew fun e w' => ∃ ev, e = .returned ev ∧ BareIs ad ev (putR L s ky v).1 ∧ (w'.cell? ⟨w2.heap.size, 0, none⟩ = some (.string (⟨#[112, 117, 116]⟩ : ByteArray)) ∧ w'.cell? ⟨w2.heap.size, 1, none⟩ = some (.string ky) ∧ w'.cell? ⟨w2.heap.size, 2, none⟩ = some (.int .i64 v.n) ∧ w'.cell? ⟨w2.heap.size, 3, none⟩ = some (.int .i64 v.who) ∧ w'.cell? ⟨w2.heap.size, 4, none⟩ = some (.int .i64 v.size) ∧ w'.cell? ⟨w2.heap.size, 5, none⟩ = some (.int .i64 v.at_) ∧ w'.cell? ⟨w2.heap.size, 6, none⟩ = some (.string v.text) ∧ w'.cell? ⟨w2.heap.size, 7, none⟩ = some (.int .i64 an)) ∧
            Calls Tryz.prog 26 #[.pointer (some ⟨hm, 0, none⟩), .string ky, .agg #[.int .i64 v.n, .int .i64 v.who, .int .i64 v.size, .int .i64 v.at_, .string v.text]] w' fun e w'' => e = .returned (.int .i64 (putR L s ky v).1) ∧ (w''.cell? ⟨w2.heap.size, 0, none⟩ = some (.string (⟨#[112, 117, 116]⟩ : ByteArray)) ∧ w''.cell? ⟨w2.heap.size, 1, none⟩ = some (.string ky) ∧ w''.cell? ⟨w2.heap.size, 2, none⟩ = some (.int .i64 v.n) ∧ w''.cell? ⟨w2.heap.size, 3, none⟩ = some (.int .i64 v.who) ∧ w''.cell? ⟨w2.heap.size, 4, none⟩ = some (.int .i64 v.size) ∧ w''.cell? ⟨w2.heap.size, 5, none⟩ = some (.int .i64 v.at_) ∧ w''.cell? ⟨w2.heap.size, 6, none⟩ = some (.string v.text) ∧ w''.cell? ⟨w2.heap.size, 7, none⟩ = some (.int .i64 an)) ∧ (∃ S', Two Hd B w'' hp hm (putR L s ky v).2 s S') ∧ Below B w3.drew w'') := by
          have hd : Below w3.heap.size w3 w3.drew := (Below.refl _ _).drew
          exact (both_put HO.out (HT3.out.below HO.out.see hd) hB3 ⟨⟨#[112, 117, 116]⟩, ky, v, an⟩ hky hvt (HS.out _ (HB3.out.drew)) (show ActIs w3.drew w2.heap.size _ from hA3) HNS.out HNM.out)
        have HCO : Hid (∀ W ev c, BareIs ad ev c → (W.cell? ⟨w2.heap.size, 0, none⟩ = some (.string (⟨#[112, 117, 116]⟩ : ByteArray)) ∧ W.cell? ⟨w2.heap.size, 1, none⟩ = some (.string ky) ∧ W.cell? ⟨w2.heap.size, 2, none⟩ = some (.int .i64 v.n) ∧ W.cell? ⟨w2.heap.size, 3, none⟩ = some (.int .i64 v.who) ∧ W.cell? ⟨w2.heap.size, 4, none⟩ = some (.int .i64 v.size) ∧ W.cell? ⟨w2.heap.size, 5, none⟩ = some (.int .i64 v.at_) ∧ W.cell? ⟨w2.heap.size, 6, none⟩ = some (.string v.text) ∧ W.cell? ⟨w2.heap.size, 7, none⟩ = some (.int .i64 an)) → Below B w3.drew W → Calls Tryz.prog 9 #[ev, .int .i64 c] W fun e w' => e = .returned (.bool true) ∧ (w'.cell? ⟨w2.heap.size, 0, none⟩ = some (.string (⟨#[112, 117, 116]⟩ : ByteArray)) ∧ w'.cell? ⟨w2.heap.size, 1, none⟩ = some (.string ky) ∧ w'.cell? ⟨w2.heap.size, 2, none⟩ = some (.int .i64 v.n) ∧ w'.cell? ⟨w2.heap.size, 3, none⟩ = some (.int .i64 v.who) ∧ w'.cell? ⟨w2.heap.size, 4, none⟩ = some (.int .i64 v.size) ∧ w'.cell? ⟨w2.heap.size, 5, none⟩ = some (.int .i64 v.at_) ∧ w'.cell? ⟨w2.heap.size, 6, none⟩ = some (.string v.text) ∧ w'.cell? ⟨w2.heap.size, 7, none⟩ = some (.int .i64 an)) ∧ Below W.heap.size W w') := fun W ev c h1 h2 h3 => (coded2_any h1 W (HS.out W (HB3.out.drew.trans h3))).mono fun e w' ⟨h4, h5⟩ => ⟨h4, HKEEP.out W w' h2 h5, h5⟩
        have hS0 : (w3.drew.cell? ⟨w2.heap.size, 0, none⟩ = some (.string (⟨#[112, 117, 116]⟩ : ByteArray)) ∧ w3.drew.cell? ⟨w2.heap.size, 1, none⟩ = some (.string ky) ∧ w3.drew.cell? ⟨w2.heap.size, 2, none⟩ = some (.int .i64 v.n) ∧ w3.drew.cell? ⟨w2.heap.size, 3, none⟩ = some (.int .i64 v.who) ∧ w3.drew.cell? ⟨w2.heap.size, 4, none⟩ = some (.int .i64 v.size) ∧ w3.drew.cell? ⟨w2.heap.size, 5, none⟩ = some (.int .i64 v.at_) ∧ w3.drew.cell? ⟨w2.heap.size, 6, none⟩ = some (.string v.text) ∧ w3.drew.cell? ⟨w2.heap.size, 7, none⟩ = some (.int .i64 an)) := hA3
        generalize (putR L s ky v).1 = pc at *
        generalize (putR L s ky v).2 = L' at *
        go_wp2
        rw [← HW3.out]
        go_region_held3 (fun W => (W.cell? ⟨w2.heap.size, 0, none⟩ = some (.string (⟨#[112, 117, 116]⟩ : ByteArray)) ∧ W.cell? ⟨w2.heap.size, 1, none⟩ = some (.string ky) ∧ W.cell? ⟨w2.heap.size, 2, none⟩ = some (.int .i64 v.n) ∧ W.cell? ⟨w2.heap.size, 3, none⟩ = some (.int .i64 v.who) ∧ W.cell? ⟨w2.heap.size, 4, none⟩ = some (.int .i64 v.size) ∧ W.cell? ⟨w2.heap.size, 5, none⟩ = some (.int .i64 v.at_) ∧ W.cell? ⟨w2.heap.size, 6, none⟩ = some (.string v.text) ∧ W.cell? ⟨w2.heap.size, 7, none⟩ = some (.int .i64 an))) (first | assumption | exact hS0) (first | (go_at_call 16; refine HP.out.mono ?_; rintro e w4 ⟨ev, rfl, hI4, hX4, hC4⟩) | (go_at_call 26; refine hC4.mono ?_; rintro e w5 ⟨rfl, hX5, hT5, hB5⟩) | (go_at_call 9; refine (HCO.out _ ev pc hI4 (by assumption) hB5).mono ?_; rintro e w6 ⟨rfl, hX6, hb6⟩))
        have HT6 : Hid (∃ L s S, Two Hd B w6 hp hm L s S) := by
          obtain ⟨S', h⟩ := hT5
          exact ⟨L', s, S', h.below HO.out.see hb6⟩
        have HB6 : Hid (Below B w w6) := (HB3.out.drew.trans hB5).trans (hb6.mono (Nat.le_trans hB3 hB5.size))
        clear hT5 hB5 hb6 hX4 hX5 hX6 hI4 hC4 HP HCO hS0
        go_simp
        go_wp2
        go_roundw
        case rel => exact ⟨i + 1, by omega, by go_num, HT6.out, HB6.out⟩
        case measure => simp [intOf]; omega
      have p1 : (kk.toList == [112, 117, 116]) = false := lit_ne hp0
      clear hp0
      by_cases ht0 : kk = ⟨#[116, 114, 105, 109]⟩
      · subst ht0
        have HAI : Hid (ActIs w3 w2.heap.size ⟨⟨#[116, 114, 105, 109]⟩, ky, v, an⟩) := hA3
        by_cases hneg : an < 0
        · have HTB := HO.out.trimBad ky an hky hneg hn0 HT3.out.own (HS.out w3 HB3.out)
          have d1 : decide (an < 0) = true := decide_eq_true hneg
          obtain ⟨x0, x1, x2, x3, x4, x5, x6, x7⟩ := hA3
          go_wp2_with (rw [← HW3.out])
          refine HTB.mono ?_
          rintro e w4 ⟨⟨ev, rfl, hI⟩, hb4⟩
          have HCO := coded2_any hI w4 (HS.out w4 (HB3.out.trans (hb4.mono hB3)))
          have hA4 : ActIs w4 w2.heap.size ⟨⟨#[116, 114, 105, 109]⟩, ky, v, an⟩ := HAI.out.of_block (hb4.block _ (lt_of_cellH HAI.out.1))
          obtain ⟨y0, y1, y2, y3, y4, y5, y6, y7⟩ := hA4
          have HB4 : Hid (Below B w w4) := HB3.out.trans (hb4.mono hB3)
          have HT4 : Hid (Two Hd B w4 hp hm L s S) := HT3.out.below HO.out.see hb4
          have HZ4 : Hid (B ≤ w4.heap.size) := Nat.le_trans hB3 hb4.size
          clear hb4 HTB hI x0 x1 x2 x3 x4 x5 x6 x7
          go_wp2_with fail
          refine HCO.mono ?_
          rintro e w5 ⟨rfl, hb5⟩
          have HT5 : Hid (∃ L s S, Two Hd B w5 hp hm L s S) := ⟨L, s, S, HT4.out.below HO.out.see hb5⟩
          have HB5 : Hid (Below B w w5) := HB4.out.trans (hb5.mono HZ4.out)
          clear hb5 HCO
          go_wp2
          go_roundw
          case rel => exact ⟨i + 1, by omega, by go_num, HT5.out, HB5.out⟩
          case measure => simp [intOf]; omega
        · have HTR := both_trim HO.out HT3.out hB3 ⟨⟨#[116, 114, 105, 109]⟩, ky, v, an⟩ hky (by show 0 ≤ an; omega) hn1 HAI.out HNS.out
          have d1 : decide (an < 0) = false := decide_eq_false hneg
          obtain ⟨x0, x1, x2, x3, x4, x5, x6, x7⟩ := hA3
          have HTR' : Hid (Calls Tryz.prog 27 #[.pointer (some ⟨hp, 0, none⟩), .string ky, .int .i64 an] w3 fun e w' => e = .returned (.tuple #[.int .i64 ((goneN L ky an : Nat) : Int), .nilIface]) ∧ ActIs w' w2.heap.size ⟨⟨#[116, 114, 105, 109]⟩, ky, v, an⟩ ∧ w3.heap.size ≤ w'.heap.size ∧
            (∀ W, Below w'.heap.size w' W → Calls Tryz.prog 28 #[.pointer (some ⟨hm, 0, none⟩), .string ky, .int .i64 an] W fun e w'' => e = .returned (.int .i64 ((goneN L ky an : Nat) : Int)) ∧ (∃ S', Two Hd B w'' hp hm (trimL L ky an) s S') ∧ Below B w3 w'')) := HTR
          clear HTR
          generalize goneN L ky an = gn at *
          generalize trimL L ky an = L' at *
          go_wp2_with (rw [← HW3.out])
          refine HTR'.out.mono ?_
          rintro e w4 ⟨rfl, hA4, _, hC4⟩
          obtain ⟨y0, y1, y2, y3, y4, y5, y6, y7⟩ := hA4
          have HC4 := hC4 w4 (Below.refl _ _)
          clear hC4 HTR' x0 x1 x2 x3 x4 x5 x6 x7
          go_wp2_with fail
          refine HC4.mono ?_
          rintro e w5 ⟨rfl, hT5, hb5⟩
          have HT5 : Hid (∃ L s S, Two Hd B w5 hp hm L s S) := by
            obtain ⟨S', h⟩ := hT5
            exact ⟨L', s, S', h⟩
          have HB5 : Hid (Below B w w5) := HB3.out.trans hb5
          clear hb5 hT5 HC4 y0 y1 y2 y3 y4 y5 y6 y7
          go_wp2
          go_roundw
          case rel => exact ⟨i + 1, by omega, by go_num, HT5.out, HB5.out⟩
          case measure => simp [intOf]; omega
      have t1 : (kk.toList == [116, 114, 105, 109]) = false := lit_ne ht0
      clear ht0
      by_cases hs0 : kk = ⟨#[115, 101, 97, 108]⟩
      · subst hs0
        have HSE := both_seal HO.out HT3.out hB3
        obtain ⟨x0, x1, x2, x3, x4, x5, x6, x7⟩ := hA3
        go_wp2_with (rw [← HW3.out])
        refine HSE.mono ?_
        rintro e w4 ⟨rfl, ⟨z0, z1⟩, hT4, hb4⟩
        have HT4 : Hid (∃ L s S, Two Hd B (w4.setCell ⟨hm, 1, none⟩ (.bool true)) hp hm L s S) := by
          obtain ⟨S', h⟩ := hT4
          exact ⟨L, true, S', h⟩
        have HB4 : Hid (Below B w (w4.setCell ⟨hm, 1, none⟩ (.bool true))) := HB3.out.trans hb4
        clear hT4 hb4 HSE x0 x1 x2 x3 x4 x5 x6 x7
        go_wp2
        go_roundw
        case rel => exact ⟨i + 1, by omega, by go_num, HT4.out, HB4.out⟩
        case measure => simp [intOf]; omega
      have s1 : (kk.toList == [115, 101, 97, 108]) = false := lit_ne hs0
      clear hs0
      by_cases hw0 : kk = ⟨#[119, 105, 112, 101]⟩
      · subst hw0
        have HWI := both_wipe HO.out HT3.out hB3
        obtain ⟨x0, x1, x2, x3, x4, x5, x6, x7⟩ := hA3
        go_wp2_with (rw [← HW3.out])
        refine HWI.mono ?_
        rintro e w4 ⟨rfl, ⟨pz, nz, cz, z0⟩, ⟨z1, z2, z3⟩, hT4, hb4⟩
        have HT4 : Hid (∃ L s S, Two Hd B ((w4.setCell ⟨hm, 0, none⟩ (.slice none 0 0)).setCell ⟨hm, 1, none⟩ (.bool false)) hp hm L s S) := by
          obtain ⟨S', h⟩ := hT4
          exact ⟨[], false, S', h⟩
        have HB4 : Hid (Below B w ((w4.setCell ⟨hm, 0, none⟩ (.slice none 0 0)).setCell ⟨hm, 1, none⟩ (.bool false))) := HB3.out.trans hb4
        clear hT4 hb4 HWI x0 x1 x2 x3 x4 x5 x6 x7
        go_wp2
        go_roundw
        case rel => exact ⟨i + 1, by omega, by go_num, HT4.out, HB4.out⟩
        case measure => simp [intOf]; omega
      have v1 : (kk.toList == [119, 105, 112, 101]) = false := lit_ne hw0
      clear hw0
      have HAI : Hid (ActIs w3 w2.heap.size ⟨kk, ky, v, an⟩) := hA3
      have HLA := HO.out.last ky hky HT3.out.own
      obtain ⟨m0, hm0⟩ : ∃ m0, m0 = (getL L ky).length := ⟨_, rfl⟩
      have HM0 : Hid (m0 = (getL L ky).length) := hm0
      have HLZ : Hid (m0 = 0 → lastT (getL L ky) = (0, 0)) := fun h => by
        have : getL L ky = [] := List.length_eq_zero_iff.1 (by rw [← HM0.out]; exact h)
        rw [this]
        rfl
      have hgl : (getL L ky).length ≤ 900000 := Nat.le_trans (getL_le _ _) (by have := HT3.out.len; omega)
      have HMG : Hid (∀ W, Below w3.heap.size w3 W → Calls Tryz.prog 31 #[.pointer (some ⟨hm, 0, none⟩), .string ky] W fun e w' => (∃ p c, e = .returned (.slice p m0 c) ∧ Rec verE w' p (getL L ky)) ∧ Below W.heap.size W w') := fun W hW => by
        refine (rget_any hm L s ky W (by have := HT3.out.len; omega) (HT3.out.below HO.out.see hW).model).mono ?_
        rintro e w' ⟨⟨v, rfl, hv⟩, hb⟩
        obtain ⟨p, c, rfl, hs, _⟩ := hv.form
        exact ⟨⟨p, c, by rw [HM0.out], hs⟩, hb⟩
      have HGE : Hid (∀ W, Below w3.heap.size w3 W → Calls Tryz.prog 17 #[.pointer (some ⟨hp, 0, none⟩), .string ky] W fun e w' => (∃ p c, e = .returned (.slice p m0 c) ∧ Rec verE w' p (getL L ky)) ∧ Below W.heap.size W w') := fun W hW => by
        rw [HM0.out]
        exact HO.out.get ky hky (HT3.out.below HO.out.see hW).own
      have HSV : Hid (∀ W pa pb ca cb, Rec verE W pa (getL L ky) → Rec verE W pb (getL L ky) → Calls Tryz.prog 32 #[.slice pa m0 ca, .slice pb m0 cb] W fun e w' => e = .returned (.bool true) ∧ Below W.heap.size W w') := fun W pa pb ca cb h1 h2 => by
        have := sameVers_any pa pb _ _ ca cb W (by omega) h1 h2
        rw [decide_eq_true rfl, ← HM0.out] at this
        exact this
      rw [← hm0] at HLA hgl
      clear hm0 HM0
      generalize getL L ky = gl at *
      generalize hta : lastT gl = ta at *
      have HTA : Hid (m0 = 0 → ta = (0, 0)) := HLZ.out
      clear hta HLZ
      obtain ⟨t0, t9⟩ := ta
      obtain ⟨x0, x1, x2, x3, x4, x5, x6, x7⟩ := hA3
      go_wp2_with (rw [← HW3.out])
      refine HLA.mono ?_
      rintro e w4 ⟨rfl, hb4⟩
      obtain ⟨w5, hw5⟩ : ∃ w5, w5 = w4.alloc (.cells #[.int .i64 t0, .int .i64 t9] 45) := ⟨_, rfl⟩
      have hb45 : Below w4.heap.size w4 w5 := by rw [hw5]; exact (Below.refl _ _).alloc (Nat.le_refl _) _
      have r0 : w5.cell? ⟨w4.heap.size, 0, none⟩ = some (.int .i64 t0) := by rw [hw5]; simp
      have r1 : w5.cell? ⟨w4.heap.size, 1, none⟩ = some (.int .i64 t9) := by rw [hw5]; simp
      have HB35 : Hid (Below w3.heap.size w3 w5) := hb4.trans (hb45.mono hb4.size)
      have HTG : Hid (∀ W, Below w5.heap.size w5 W → W.cell? ⟨w4.heap.size, 0, none⟩ = some (.int .i64 t0) ∧ W.cell? ⟨w4.heap.size, 1, none⟩ = some (.int .i64 t9)) := fun W hW => ⟨(hW.cell (p := ⟨w4.heap.size, 0, none⟩) (lt_of_cellH r0)).trans r0, (hW.cell (p := ⟨w4.heap.size, 1, none⟩) (lt_of_cellH r0)).trans r1⟩
      have HW5 : Hid (w5 = w4.alloc (.cells #[.int .i64 t0, .int .i64 t9] 45)) := hw5
      have HKY : Hid (∀ W, Below w3.heap.size w3 W → W.cell? ⟨w2.heap.size, 1, none⟩ = some (.string ky)) := fun W hW => (hW.cell (p := ⟨w2.heap.size, 1, none⟩) (lt_of_cellH HAI.out.1)).trans HAI.out.2.1
      have y1 := HKY.out w5 HB35.out
      clear hb4 hb45 hw5 HLA r0 r1 x0 x1 x2 x3 x4 x5 x6 x7
      go_wp2_with (rw [← HW5.out])
      refine (HMG.out w5 HB35.out).mono ?_
      rintro e w6 ⟨⟨pm, cm, rfl, hrm⟩, hb6⟩
      have HB36 : Hid (Below w3.heap.size w3 w6) := HB35.out.trans (hb6.mono HB35.out.size)
      have HB56 : Hid (Below w5.heap.size w5 w6) := hb6
      have HRM : Hid (Rec verE w6 pm gl) := hrm
      have y2 := HKY.out w6 HB36.out
      clear hb6 hrm HMG y1
      go_wp2_with fail
      refine (HGE.out w6 HB36.out).mono ?_
      rintro e w7 ⟨⟨pg, cg, rfl, hrg⟩, hb7⟩
      have HB37 : Hid (Below w3.heap.size w3 w7) := HB36.out.trans (hb7.mono HB36.out.size)
      have HB57 : Hid (Below w5.heap.size w5 w7) := HB56.out.trans (hb7.mono HB56.out.size)
      have HSW := HSV.out w7 pg pm cg cm hrg (HRM.out.below hb7)
      clear hb7 hrg HGE y2 HSV
      go_wp2_with fail
      refine HSW.mono ?_
      rintro e w8 ⟨rfl, hb8⟩
      have HB38 : Hid (Below w3.heap.size w3 w8) := HB37.out.trans (hb8.mono HB37.out.size)
      obtain ⟨r0, r1⟩ := HTG.out w8 (HB57.out.trans (hb8.mono HB57.out.size))
      have HT8 : Hid (∃ L s S, Two Hd B w8 hp hm L s S) := ⟨L, s, S, HT3.out.below HO.out.see HB38.out⟩
      have HB8 : Hid (Below B w w8) := HB3.out.trans (HB38.out.mono hB3)
      clear hb8 HSW HTG
      by_cases hz : m0 = 0
      · have hta := HTA.out hz
        obtain ⟨rfl, rfl⟩ := Prod.mk.inj hta
        subst hz
        clear hta
        go_wp2
        go_roundw
        case rel => exact ⟨i + 1, by omega, by go_num, HT8.out, HB8.out⟩
        case measure => simp [intOf]; omega
      · have d1 : decide (0 < m0) = true := decide_eq_true (by omega)
        have d2 : decide (0 < (m0 : Int)) = true := decide_eq_true (by omega)
        have d3 : 0 < m0 := by omega
        go_wp2
        go_roundw
        case rel => exact ⟨i + 1, by omega, by go_num, HT8.out, HB8.out⟩
        case measure => simp [intOf]; omega
    · have hie : i = acts.length := by omega
      subst hie
      have HAS := asHold_any HO.out.see B hp hm L s S w2 HT2.out
      go_wp2_with fail
      refine HAS.mono ?_
      rintro e w3 ⟨rfl, hb3⟩
      have HT3 : Hid (∃ L s S, Two Hd B w3 hp hm L s S) := ⟨L, s, S, HT2.out.below HO.out.see hb3⟩
      have HB3 : Hid (Below B w w3) := HB2.out.trans (hb3.mono hB2)
      clear hb3 HAS
      go_wp2
      go_ret
      exact ⟨rfl, HT3.out, HB3.out⟩
set_option maxRecDepth 10000 in
set_option maxHeartbeats 4000000 in
theorem heavy_any (p : Option Addr) (l : List HAct) (c : Nat) (w : World) (hl : l.length ≤ maxLen) (hr : Rec actE w p l) :
    Calls Tryz.prog 13 #[.slice p l.length c] w fun e w' => (∃ r, e = .returned (.bool r)) ∧ Below w.heap.size w w' := by
  have HR : Hid (Rec actE w p l) := hr
  have hl' : l.length ≤ 9223372036854775807 := by unfold maxLen at hl; omega
  clear hr hl
  go_enter Tryz.func13, Tryz.ntmps13
  go_wp2
  go_loopw [3, 4] (fun y x wq => (∃ z : Int, y = .int .i64 z) ∧ (∃ i : Nat, i ≤ l.length ∧ x = .int .i64 i) ∧ ∃ n, wq = w.drewN n) (fun _ x _ => l.length - (intOf x).toNat)
  case atStart => exact ⟨⟨0, rfl⟩, ⟨0, Nat.zero_le _, rfl⟩, 0, rfl⟩
  case round =>
    obtain ⟨⟨z, rfl⟩, ⟨i, hi, rfl⟩, n, hw⟩ := hrel
    obtain ⟨w1, rfl⟩ : ∃ w1, w1 = wr := ⟨_, rfl⟩
    have HW : Hid (∃ n, w1 = w.drewN n) := ⟨n, hw⟩
    have HR1 : Hid (Rec actE w1 p l) := by show Rec actE w1 p l; rw [hw]; exact HR.out.drewN n
    clear hw
    by_cases hil : i < l.length
    · obtain ⟨b, o, hpp, hblt, c0, c1, c2, c3, c4, c5, c6, c7⟩ := act_cells HR1.out hil
      subst hpp
      generalize actAt l i = a at *
      obtain ⟨kk, ky, v, an⟩ := a
      go_wp2
      go_quiet (fail)
      go_wp2
      go_roundw
      case rel => exact ⟨⟨_, rfl⟩, ⟨i + 1, by omega, by go_num⟩, by obtain ⟨n, hn⟩ := HW.out; exact ⟨_, by rw [hn, World.drewN_drewN]⟩⟩
      case measure => simp [intOf]; omega
    · go_wp2
      go_ret
      exact ⟨⟨_, rfl⟩, by obtain ⟨n, hn⟩ := HW.out; rw [hn]; exact below_drewN (Below.refl _ _) n⟩
/-- A hold and its model, both new. -/
theorem two_new {ad : Nat → Addr} {Hd : World → Nat → (Nat → Prop) → List Kep → Bool → Prop} (hO : HoldOk ad Hd) (B : Nat) (w : World) (hB : B ≤ w.heap.size) :
    Two Hd B ((w.alloc (.cells #[.map none, .bool false] 39)).alloc (.cells #[.slice none 0 0, .bool false] 43)) w.heap.size (w.heap.size + 1) [] false (fun k => k = w.heap.size) := by
  have hb : Below (w.alloc (.cells #[.map none, .bool false] 39)).heap.size (w.alloc (.cells #[.map none, .bool false] 39)) ((w.alloc (.cells #[.map none, .bool false] 39)).alloc (.cells #[.slice none 0 0, .bool false] 43)) := (Below.refl _ _).alloc (Nat.le_refl _) _
  refine ⟨hO.keep (hO.zero w) hb.size (fun k hk => hb.block k (hO.lt (hO.zero w) k hk)), fun k hk => by have : k = w.heap.size := hk; omega, by show ¬ (_ = _); omega, fun h => absurd rfl h, ⟨⟨none, 0, by simp, Or.inl rfl, Nat.le_refl _, fun _ => ⟨rfl, rfl⟩, fun b o h => by cases h⟩, by simp, by simp, by simp⟩, by omega, by simp, fun x hx => by cases hx⟩
set_option maxRecDepth 10000 in
set_option maxHeartbeats 1600000 in
theorem holdActs_any {ad : Nat → Addr} {Hd : World → Nat → (Nat → Prop) → List Kep → Bool → Prop} (hO : HoldOk ad Hd) (pl : Option Addr) (acts : List HAct) (cl : Nat) (w : World) (hl : acts.length ≤ maxLen) (hr : Rec actE w pl acts)
    (hS : ∀ W, Below w.heap.size w W → Sent W ad) (hx : ∀ i, i < acts.length → (actAt acts i).key.size ≤ maxLen ∧ (actAt acts i).v.text.size ≤ maxLen ∧ -9223372036854775808 ≤ (actAt acts i).n ∧ (actAt acts i).n ≤ 9223372036854775807) :
    Calls Tryz.prog 4 #[.slice pl acts.length cl] w fun e w' => e = .returned (.bool true) ∧ Below w.heap.size w w' := by
  have HH := holds_any hO.toHoldOk0 w hS
  have HR : Hid (Rec actE w pl acts) := hr
  have HO : Hid (HoldOk ad Hd) := hO
  have HS : Hid (∀ W, Below w.heap.size w W → Sent W ad) := hS
  have HX : Hid (∀ i, i < acts.length → (actAt acts i).key.size ≤ maxLen ∧ (actAt acts i).v.text.size ≤ maxLen ∧ -9223372036854775808 ≤ (actAt acts i).n ∧ (actAt acts i).n ≤ 9223372036854775807) := hx
  have HL : Hid (acts.length ≤ maxLen) := hl
  clear hl hr hO hS hx
  go_enter Tryz.func4, Tryz.ntmps4
  go_wp2_with fail
  refine HH.mono ?_
  rintro e w1 ⟨rfl, hb1⟩
  clear HH
  have HB1 : Hid (Below w.heap.size w w1) := hb1
  have HV := heavy_any pl acts cl w1 HL.out (HR.out.below hb1)
  clear hb1
  go_wp2_with fail
  refine HV.mono ?_
  rintro e w2 ⟨⟨r, rfl⟩, hb2⟩
  clear HV
  have HB2 : Hid (Below w.heap.size w w2) := HB1.out.trans (hb2.mono HB1.out.size)
  clear hb2 HB1
  cases r
  · obtain ⟨w3, hw3⟩ : ∃ w3, w3 = (w2.alloc (.cells #[.map none, .bool false] 39)).alloc (.cells #[.slice none 0 0, .bool false] 43) := ⟨_, rfl⟩
    have hb3 : Below w.heap.size w w3 := by rw [hw3]; exact HB2.out.trans ((((Below.refl w2.heap.size _).alloc (Nat.le_refl _) _).alloc (by simp) _).mono HB2.out.size)
    have hT := two_new HO.out w.heap.size w2 HB2.out.size
    rw [← hw3] at hT
    have HP := play_any HO.out w.heap.size w2.heap.size (w2.heap.size + 1) [] false _ pl acts cl w3 hT hb3.size HL.out (fun W hW => HR.out.below (hb3.trans hW)) (fun W hW => HS.out W (hb3.trans hW)) HX.out
    have HW3 : Hid (w3 = (w2.alloc (.cells #[.map none, .bool false] 39)).alloc (.cells #[.slice none 0 0, .bool false] 43)) := hw3
    have HB3 : Hid (Below w.heap.size w w3) := hb3
    clear hw3 hb3 hT HB2
    go_wp2_with fail
    rw [← HW3.out]
    refine HP.mono ?_
    rintro e w4 ⟨rfl, _, hb4⟩
    go_wp2
    go_ret
    exact ⟨rfl, HB3.out.trans hb4⟩
  · go_wp2
    go_ret
    exact ⟨rfl, HB2.out⟩
end Go.Proofs.YtmbpfbhpmafheaaGreatDoor
