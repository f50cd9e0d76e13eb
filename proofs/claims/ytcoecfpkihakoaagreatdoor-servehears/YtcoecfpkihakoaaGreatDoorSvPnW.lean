/- Package serve: Hear, a message that is passed over, or for which there is no room. -/
import Derived.Test.YtcoecfpkihakoaaGreatDoorGz19
import Derived.Deep.RegionHeld3
import Derived.Deep.CutRange
import Derived.BigQuiet
namespace Go.Proofs.YtcoecfpkihakoaaGreatDoor
open Go.RowKit
variable {w : World} {B h : Nat} {S : Nat → Prop} {m : MMem} {mp : Option Nat} {D : DataW Value} {hb : Nat → Nat} {Sh : Nat → Nat → Prop}
set_option maxRecDepth 10000 in
set_option maxHeartbeats 16000000 in
theorem phear_other (hp : PSv w B h S m mp D hb Sh) (x : Msg × Lv) (hL : HasL w x) (hto : x.1.to_ ≠ m.name) :
    Calls Tryz.prog 11 #[.pointer (some ⟨h, 0, none⟩), .agg #[.string x.1.from_, .string x.1.to_, .string x.1.kind, .string x.1.key, .int .i64 x.1.op, .int .i64 x.1.config, .bool x.1.shut, .slice x.2.1 x.2.2.1 x.2.2.2]] w fun e w' => HearP w B h S m x.1 e w' := by
  obtain ⟨⟨m1, m2, m3, m4, m5, m6, m7, mL⟩, lp, ln, lc⟩ := x
  have hln : ln = mL.length := hL.len
  subst hln
  dsimp only at *
  obtain ⟨w1, hw1⟩ : ∃ w1, w1 = w.alloc (.cells #[.string m1, .string m2, .string m3, .string m4, .int .i64 m5, .int .i64 m6, .bool m7, .slice lp mL.length lc] 42) := ⟨_, rfl⟩
  have hb1 : Below w.heap.size w w1 := by rw [hw1]; exact (Below.refl _ _).alloc (Nat.le_refl _) _
  have hz1 : w1.heap.size = w.heap.size + 1 := by rw [hw1]; simp
  have hz0 : w.heap.size < w1.heap.size := by omega
  have hbl1 : w1.heap[w.heap.size]? = some (.cells #[.string m1, .string m2, .string m3, .string m4, .int .i64 m5, .int .i64 m6, .bool m7, .slice lp mL.length lc] 42 (0, 0)) := by rw [hw1]; show (w.heap.push _)[w.heap.size]? = _; simp
  have HP1 : Hid (PSv w1 B h S m mp D hb Sh) := hp.below hb1
  have HSW : Hid (∀ k, S k → k < w.heap.size) := fun k hk => (hp.inB k hk).2
  have hlt : h < w1.heap.size := by have := hp.lt; omega
  have c0 := HP1.out.cells.1
  have HHE : Hid (m.hear ⟨m1, m2, m3, m4, m5, m6, m7, mL⟩ = (m, [])) := hear_off (fun h => hto h.1)
  generalize hnm : m.name = nm at *
  have HW1 : Hid (w1 = w.alloc (.cells #[.string m1, .string m2, .string m3, .string m4, .int .i64 m5, .int .i64 m6, .bool m7, .slice lp mL.length lc] 42)) := hw1
  have HB1 : Hid (Below w.heap.size w w1 ∧ w1.heap.size = w.heap.size + 1) := ⟨hb1, hz1⟩
  have d1 : w1.cell? ⟨w.heap.size, 1, none⟩ = some (.string m2) := by simp [World.cell?, hbl1]
  have t0 := toList_ne hto
  have t1 := toList_beq hto
  have t2 := bytes_beq hto
  clear hp hL hto hw1 hb1 hz1 hz0 hbl1 hlt HSW hnm
  go_enter Tryz.func11, Tryz.ntmps11
  go_wp2_with (first | rw [← HW1.out] | fail)
  go_quiet (fail)
  go_wp2
  go_ret
  exact hearP_nil (HP1.out.below (below_drewN (Below.refl _ _) _)) (Upd.of_below (HB1.out.1.trans ((below_drewN (Below.refl _ _) _).mono HB1.out.1.size))) HHE.out
set_option maxRecDepth 10000 in
set_option maxHeartbeats 16000000 in
theorem phear_odd (hp : PSv w B h S m mp D hb Sh) (x : Msg × Lv) (hL : HasL w x) (hR : MsgR x.1) (hto : x.1.to_ = m.name) (hask : ¬ AskIs x.1) :
    Calls Tryz.prog 11 #[.pointer (some ⟨h, 0, none⟩), .agg #[.string x.1.from_, .string x.1.to_, .string x.1.kind, .string x.1.key, .int .i64 x.1.op, .int .i64 x.1.config, .bool x.1.shut, .slice x.2.1 x.2.2.1 x.2.2.2]] w fun e w' => HearP w B h S m x.1 e w' := by
  obtain ⟨⟨m1, m2, m3, m4, m5, m6, m7, mL⟩, lp, ln, lc⟩ := x
  have hln : ln = mL.length := hL.len
  subst hln
  dsimp only at *
  obtain ⟨w1, hw1⟩ : ∃ w1, w1 = w.alloc (.cells #[.string m1, .string m2, .string m3, .string m4, .int .i64 m5, .int .i64 m6, .bool m7, .slice lp mL.length lc] 42) := ⟨_, rfl⟩
  have hb1 : Below w.heap.size w w1 := by rw [hw1]; exact (Below.refl _ _).alloc (Nat.le_refl _) _
  have hz1 : w1.heap.size = w.heap.size + 1 := by rw [hw1]; simp
  have hz0 : w.heap.size < w1.heap.size := by omega
  have hbl1 : w1.heap[w.heap.size]? = some (.cells #[.string m1, .string m2, .string m3, .string m4, .int .i64 m5, .int .i64 m6, .bool m7, .slice lp mL.length lc] 42 (0, 0)) := by rw [hw1]; show (w.heap.push _)[w.heap.size]? = _; simp
  have HP1 : Hid (PSv w1 B h S m mp D hb Sh) := hp.below hb1
  have HSW : Hid (∀ k, S k → k < w.heap.size) := fun k hk => (hp.inB k hk).2
  have hlt : h < w1.heap.size := by have := hp.lt; omega
  have c0 := HP1.out.cells.1
  rw [← hto] at c0
  have HSC : Hid (∀ W, Below w1.heap.size w1 W → (W.cell? ⟨h, 0, none⟩ = some (.string m2) ∧ W.cell? ⟨w.heap.size, 0, none⟩ = some (.string m1) ∧ W.cell? ⟨w.heap.size, 1, none⟩ = some (.string m2) ∧ W.cell? ⟨w.heap.size, 2, none⟩ = some (.string m3) ∧ W.cell? ⟨w.heap.size, 3, none⟩ = some (.string m4) ∧ W.cell? ⟨w.heap.size, 4, none⟩ = some (.int .i64 m5) ∧ W.cell? ⟨w.heap.size, 5, none⟩ = some (.int .i64 m6) ∧ W.cell? ⟨w.heap.size, 6, none⟩ = some (.bool m7) ∧ W.cell? ⟨w.heap.size, 7, none⟩ = some (.slice lp mL.length lc) ∧ Below w1.heap.size w1 W)) := fun W hW => ⟨(hW.cell (p := ⟨h, 0, none⟩) hlt).trans c0, (hW.cell (p := ⟨w.heap.size, 0, none⟩) hz0).trans (by simp [World.cell?, hbl1]), (hW.cell (p := ⟨w.heap.size, 1, none⟩) hz0).trans (by simp [World.cell?, hbl1]), (hW.cell (p := ⟨w.heap.size, 2, none⟩) hz0).trans (by simp [World.cell?, hbl1]), (hW.cell (p := ⟨w.heap.size, 3, none⟩) hz0).trans (by simp [World.cell?, hbl1]), (hW.cell (p := ⟨w.heap.size, 4, none⟩) hz0).trans (by simp [World.cell?, hbl1]), (hW.cell (p := ⟨w.heap.size, 5, none⟩) hz0).trans (by simp [World.cell?, hbl1]), (hW.cell (p := ⟨w.heap.size, 6, none⟩) hz0).trans (by simp [World.cell?, hbl1]), (hW.cell (p := ⟨w.heap.size, 7, none⟩) hz0).trans (by simp [World.cell?, hbl1]), hW⟩
  have HIA : Hid (∀ W, (W.cell? ⟨h, 0, none⟩ = some (.string m2) ∧ W.cell? ⟨w.heap.size, 0, none⟩ = some (.string m1) ∧ W.cell? ⟨w.heap.size, 1, none⟩ = some (.string m2) ∧ W.cell? ⟨w.heap.size, 2, none⟩ = some (.string m3) ∧ W.cell? ⟨w.heap.size, 3, none⟩ = some (.string m4) ∧ W.cell? ⟨w.heap.size, 4, none⟩ = some (.int .i64 m5) ∧ W.cell? ⟨w.heap.size, 5, none⟩ = some (.int .i64 m6) ∧ W.cell? ⟨w.heap.size, 6, none⟩ = some (.bool m7) ∧ W.cell? ⟨w.heap.size, 7, none⟩ = some (.slice lp mL.length lc) ∧ Below w1.heap.size w1 W) → Calls Tryz.prog 23 #[.agg #[.string m1, .string m2, .string m3, .string m4, .int .i64 m5, .int .i64 m6, .bool m7, .slice lp mL.length lc]] W fun e w' => e = .returned (.bool false) ∧ (w'.cell? ⟨h, 0, none⟩ = some (.string m2) ∧ w'.cell? ⟨w.heap.size, 0, none⟩ = some (.string m1) ∧ w'.cell? ⟨w.heap.size, 1, none⟩ = some (.string m2) ∧ w'.cell? ⟨w.heap.size, 2, none⟩ = some (.string m3) ∧ w'.cell? ⟨w.heap.size, 3, none⟩ = some (.string m4) ∧ w'.cell? ⟨w.heap.size, 4, none⟩ = some (.int .i64 m5) ∧ w'.cell? ⟨w.heap.size, 5, none⟩ = some (.int .i64 m6) ∧ w'.cell? ⟨w.heap.size, 6, none⟩ = some (.bool m7) ∧ w'.cell? ⟨w.heap.size, 7, none⟩ = some (.slice lp mL.length lc) ∧ Below w1.heap.size w1 w')) := fun W hW => (isAsk_any (⟨m1, m2, m3, m4, m5, m6, m7, mL⟩, (lp, mL.length, lc)) rfl hR.2.1 W).mono fun e w' hq => ⟨by rw [hq.1, decide_eq_false hask], HSC.out w' (hW.2.2.2.2.2.2.2.2.2.trans (hq.2.mono hW.2.2.2.2.2.2.2.2.2.size))⟩
  have HW1 : Hid (w1 = w.alloc (.cells #[.string m1, .string m2, .string m3, .string m4, .int .i64 m5, .int .i64 m6, .bool m7, .slice lp mL.length lc] 42)) := hw1
  have HB1 : Hid (Below w.heap.size w w1 ∧ w1.heap.size = w.heap.size + 1) := ⟨hb1, hz1⟩
  have HHE : Hid (m.hear ⟨m1, m2, m3, m4, m5, m6, m7, mL⟩ = (m, [])) := hear_off (fun h => hask h.2)
  clear hp hL hR hto hask hw1 hb1 hz1 hz0 hbl1 hlt c0 HSW
  go_enter Tryz.func11, Tryz.ntmps11
  go_wp2_with (first | rw [← HW1.out] | fail)
  go_cut [23] from 8 to 93 (fun v W => v = .bool true ∧ (W.cell? ⟨h, 0, none⟩ = some (.string m2) ∧ W.cell? ⟨w.heap.size, 0, none⟩ = some (.string m1) ∧ W.cell? ⟨w.heap.size, 1, none⟩ = some (.string m2) ∧ W.cell? ⟨w.heap.size, 2, none⟩ = some (.string m3) ∧ W.cell? ⟨w.heap.size, 3, none⟩ = some (.string m4) ∧ W.cell? ⟨w.heap.size, 4, none⟩ = some (.int .i64 m5) ∧ W.cell? ⟨w.heap.size, 5, none⟩ = some (.int .i64 m6) ∧ W.cell? ⟨w.heap.size, 6, none⟩ = some (.bool m7) ∧ W.cell? ⟨w.heap.size, 7, none⟩ = some (.slice lp mL.length lc) ∧ Below w1.heap.size w1 W))
  case first =>
    go_region_held3 (fun W => (W.cell? ⟨h, 0, none⟩ = some (.string m2) ∧ W.cell? ⟨w.heap.size, 0, none⟩ = some (.string m1) ∧ W.cell? ⟨w.heap.size, 1, none⟩ = some (.string m2) ∧ W.cell? ⟨w.heap.size, 2, none⟩ = some (.string m3) ∧ W.cell? ⟨w.heap.size, 3, none⟩ = some (.string m4) ∧ W.cell? ⟨w.heap.size, 4, none⟩ = some (.int .i64 m5) ∧ W.cell? ⟨w.heap.size, 5, none⟩ = some (.int .i64 m6) ∧ W.cell? ⟨w.heap.size, 6, none⟩ = some (.bool m7) ∧ W.cell? ⟨w.heap.size, 7, none⟩ = some (.slice lp mL.length lc) ∧ Below w1.heap.size w1 W)) (first | assumption | exact HSC.out _ (Below.refl _ _).drew | exact HSC.out _ (Below.refl _ _)) (first | (go_at_call 23; refine (HIA.out _ (by assumption)).mono ?_; rintro e w2 ⟨rfl, hS2⟩))
    all_goals (go_wp2_with fail; go_meet)
    all_goals exact ⟨rfl, by assumption⟩
  case rest =>
    obtain ⟨rfl, hS2⟩ := hcut
    obtain ⟨w2, rfl⟩ : ∃ w2, w2 = wc := ⟨_, rfl⟩
    obtain ⟨_, _, _, _, _, _, d5, _, _, hb2⟩ := hS2
    have HB2 : Hid (Below w1.heap.size w1 w2) := hb2
    clear hb2 HIA HSC HW1
    clear d5
    go_wp2
    go_ret
    exact hearP_nil (HP1.out.below HB2.out) (Upd.of_below (HB1.out.1.trans (HB2.out.mono HB1.out.1.size))) HHE.out
set_option maxRecDepth 10000 in
set_option maxHeartbeats 16000000 in
theorem phear_full (hp : PSv w B h S m mp D hb Sh) (x : Msg × Lv) (hL : HasL w x) (hR : MsgR x.1) (hci : CfIn x.1.config) (hto : x.1.to_ = m.name) (hask : AskIs x.1) (hhd : m.held x.1.config = none) :
    Calls Tryz.prog 11 #[.pointer (some ⟨h, 0, none⟩), .agg #[.string x.1.from_, .string x.1.to_, .string x.1.kind, .string x.1.key, .int .i64 x.1.op, .int .i64 x.1.config, .bool x.1.shut, .slice x.2.1 x.2.2.1 x.2.2.2]] w fun e w' => HearP w B h S m x.1 e w' := by
  obtain ⟨⟨m1, m2, m3, m4, m5, m6, m7, mL⟩, lp, ln, lc⟩ := x
  have hln : ln = mL.length := hL.len
  subst hln
  dsimp only at *
  obtain ⟨w1, hw1⟩ : ∃ w1, w1 = w.alloc (.cells #[.string m1, .string m2, .string m3, .string m4, .int .i64 m5, .int .i64 m6, .bool m7, .slice lp mL.length lc] 42) := ⟨_, rfl⟩
  have hb1 : Below w.heap.size w w1 := by rw [hw1]; exact (Below.refl _ _).alloc (Nat.le_refl _) _
  have hz1 : w1.heap.size = w.heap.size + 1 := by rw [hw1]; simp
  have hz0 : w.heap.size < w1.heap.size := by omega
  have hbl1 : w1.heap[w.heap.size]? = some (.cells #[.string m1, .string m2, .string m3, .string m4, .int .i64 m5, .int .i64 m6, .bool m7, .slice lp mL.length lc] 42 (0, 0)) := by rw [hw1]; show (w.heap.push _)[w.heap.size]? = _; simp
  have HP1 : Hid (PSv w1 B h S m mp D hb Sh) := hp.below hb1
  have HSW : Hid (∀ k, S k → k < w.heap.size) := fun k hk => (hp.inB k hk).2
  have hlt : h < w1.heap.size := by have := hp.lt; omega
  have c0 := HP1.out.cells.1
  rw [← hto] at c0
  have HSC : Hid (∀ W, Below w1.heap.size w1 W → (W.cell? ⟨h, 0, none⟩ = some (.string m2) ∧ W.cell? ⟨w.heap.size, 0, none⟩ = some (.string m1) ∧ W.cell? ⟨w.heap.size, 1, none⟩ = some (.string m2) ∧ W.cell? ⟨w.heap.size, 2, none⟩ = some (.string m3) ∧ W.cell? ⟨w.heap.size, 3, none⟩ = some (.string m4) ∧ W.cell? ⟨w.heap.size, 4, none⟩ = some (.int .i64 m5) ∧ W.cell? ⟨w.heap.size, 5, none⟩ = some (.int .i64 m6) ∧ W.cell? ⟨w.heap.size, 6, none⟩ = some (.bool m7) ∧ W.cell? ⟨w.heap.size, 7, none⟩ = some (.slice lp mL.length lc) ∧ Below w1.heap.size w1 W)) := fun W hW => ⟨(hW.cell (p := ⟨h, 0, none⟩) hlt).trans c0, (hW.cell (p := ⟨w.heap.size, 0, none⟩) hz0).trans (by simp [World.cell?, hbl1]), (hW.cell (p := ⟨w.heap.size, 1, none⟩) hz0).trans (by simp [World.cell?, hbl1]), (hW.cell (p := ⟨w.heap.size, 2, none⟩) hz0).trans (by simp [World.cell?, hbl1]), (hW.cell (p := ⟨w.heap.size, 3, none⟩) hz0).trans (by simp [World.cell?, hbl1]), (hW.cell (p := ⟨w.heap.size, 4, none⟩) hz0).trans (by simp [World.cell?, hbl1]), (hW.cell (p := ⟨w.heap.size, 5, none⟩) hz0).trans (by simp [World.cell?, hbl1]), (hW.cell (p := ⟨w.heap.size, 6, none⟩) hz0).trans (by simp [World.cell?, hbl1]), (hW.cell (p := ⟨w.heap.size, 7, none⟩) hz0).trans (by simp [World.cell?, hbl1]), hW⟩
  have HIA : Hid (∀ W, (W.cell? ⟨h, 0, none⟩ = some (.string m2) ∧ W.cell? ⟨w.heap.size, 0, none⟩ = some (.string m1) ∧ W.cell? ⟨w.heap.size, 1, none⟩ = some (.string m2) ∧ W.cell? ⟨w.heap.size, 2, none⟩ = some (.string m3) ∧ W.cell? ⟨w.heap.size, 3, none⟩ = some (.string m4) ∧ W.cell? ⟨w.heap.size, 4, none⟩ = some (.int .i64 m5) ∧ W.cell? ⟨w.heap.size, 5, none⟩ = some (.int .i64 m6) ∧ W.cell? ⟨w.heap.size, 6, none⟩ = some (.bool m7) ∧ W.cell? ⟨w.heap.size, 7, none⟩ = some (.slice lp mL.length lc) ∧ Below w1.heap.size w1 W) → Calls Tryz.prog 23 #[.agg #[.string m1, .string m2, .string m3, .string m4, .int .i64 m5, .int .i64 m6, .bool m7, .slice lp mL.length lc]] W fun e w' => e = .returned (.bool true) ∧ (w'.cell? ⟨h, 0, none⟩ = some (.string m2) ∧ w'.cell? ⟨w.heap.size, 0, none⟩ = some (.string m1) ∧ w'.cell? ⟨w.heap.size, 1, none⟩ = some (.string m2) ∧ w'.cell? ⟨w.heap.size, 2, none⟩ = some (.string m3) ∧ w'.cell? ⟨w.heap.size, 3, none⟩ = some (.string m4) ∧ w'.cell? ⟨w.heap.size, 4, none⟩ = some (.int .i64 m5) ∧ w'.cell? ⟨w.heap.size, 5, none⟩ = some (.int .i64 m6) ∧ w'.cell? ⟨w.heap.size, 6, none⟩ = some (.bool m7) ∧ w'.cell? ⟨w.heap.size, 7, none⟩ = some (.slice lp mL.length lc) ∧ Below w1.heap.size w1 w')) := fun W hW => (isAsk_any (⟨m1, m2, m3, m4, m5, m6, m7, mL⟩, (lp, mL.length, lc)) rfl hR.2.1 W).mono fun e w' hq => ⟨by rw [hq.1, decide_eq_true hask], HSC.out w' (hW.2.2.2.2.2.2.2.2.2.trans (hq.2.mono hW.2.2.2.2.2.2.2.2.2.size))⟩
  have HW1 : Hid (w1 = w.alloc (.cells #[.string m1, .string m2, .string m3, .string m4, .int .i64 m5, .int .i64 m6, .bool m7, .slice lp mL.length lc] 42)) := hw1
  have HB1 : Hid (Below w.heap.size w w1 ∧ w1.heap.size = w.heap.size + 1) := ⟨hb1, hz1⟩
  have HHE : Hid (m.hear ⟨m1, m2, m3, m4, m5, m6, m7, mL⟩ = (m, [])) := by
    show _ = _
    rw [hear_on hto hask]
    show (match m.held m6 with | none => (m, []) | some m1' => m1'.does (cfdI m.L m6) _) = _
    rw [hhd]
  have HCI : Hid (CfIn m6) := hci
  have HHD : Hid (m.held m6 = none) := hhd
  clear hp hL hR hci hto hask hhd hw1 hb1 hz1 hz0 hbl1 hlt c0 HSW
  go_enter Tryz.func11, Tryz.ntmps11
  go_wp2_with (first | rw [← HW1.out] | fail)
  go_cut [23] from 8 to 93 (fun v W => v = .bool false ∧ (W.cell? ⟨h, 0, none⟩ = some (.string m2) ∧ W.cell? ⟨w.heap.size, 0, none⟩ = some (.string m1) ∧ W.cell? ⟨w.heap.size, 1, none⟩ = some (.string m2) ∧ W.cell? ⟨w.heap.size, 2, none⟩ = some (.string m3) ∧ W.cell? ⟨w.heap.size, 3, none⟩ = some (.string m4) ∧ W.cell? ⟨w.heap.size, 4, none⟩ = some (.int .i64 m5) ∧ W.cell? ⟨w.heap.size, 5, none⟩ = some (.int .i64 m6) ∧ W.cell? ⟨w.heap.size, 6, none⟩ = some (.bool m7) ∧ W.cell? ⟨w.heap.size, 7, none⟩ = some (.slice lp mL.length lc) ∧ Below w1.heap.size w1 W))
  case first =>
    go_region_held3 (fun W => (W.cell? ⟨h, 0, none⟩ = some (.string m2) ∧ W.cell? ⟨w.heap.size, 0, none⟩ = some (.string m1) ∧ W.cell? ⟨w.heap.size, 1, none⟩ = some (.string m2) ∧ W.cell? ⟨w.heap.size, 2, none⟩ = some (.string m3) ∧ W.cell? ⟨w.heap.size, 3, none⟩ = some (.string m4) ∧ W.cell? ⟨w.heap.size, 4, none⟩ = some (.int .i64 m5) ∧ W.cell? ⟨w.heap.size, 5, none⟩ = some (.int .i64 m6) ∧ W.cell? ⟨w.heap.size, 6, none⟩ = some (.bool m7) ∧ W.cell? ⟨w.heap.size, 7, none⟩ = some (.slice lp mL.length lc) ∧ Below w1.heap.size w1 W)) (first | assumption | exact HSC.out _ (Below.refl _ _).drew | exact HSC.out _ (Below.refl _ _)) (first | (go_at_call 23; refine (HIA.out _ (by assumption)).mono ?_; rintro e w2 ⟨rfl, hS2⟩))
    all_goals (go_wp2_with fail; go_meet)
    all_goals exact ⟨rfl, by assumption⟩
  case rest =>
    obtain ⟨rfl, hS2⟩ := hcut
    obtain ⟨w2, rfl⟩ : ∃ w2, w2 = wc := ⟨_, rfl⟩
    obtain ⟨_, _, _, _, _, _, d5, _, _, hb2⟩ := hS2
    have HHF := pheld_any (HP1.out.below hb2) HCI.out
    have HB2 : Hid (Below w1.heap.size w1 w2) := hb2
    clear hb2 HIA HSC HW1
    go_wp2_with fail
    refine HHF.mono ?_
    intro e w3 hH
    clear HHF d5
    rcases hH with ⟨_, rfl, hb3⟩ | ⟨m9, S2, mp2, D2, hb2, Sh2, h9, rfl, hI2, hP2, hU2⟩
    rotate_left
    · rw [HHD.out] at h9
      cases h9
    have HB3 : Hid (Below w1.heap.size w1 w3) := HB2.out.trans (hb3.mono HB2.out.size)
    clear hb3
    go_wp2
    go_ret
    exact hearP_nil (HP1.out.below HB3.out) (Upd.of_below (HB1.out.1.trans (HB3.out.mono HB1.out.1.size))) HHE.out
end Go.Proofs.YtcoecfpkihakoaaGreatDoor
