/- Package serve: Hear, a message that seals. -/
import Derived.Test.YtcoecfpkihakoaaGreatDoorGz19
import Derived.Test.YtcoecfpkihakoaaGreatDoorGz20
import Derived.Test.YtcoecfpkihakoaaGreatDoorGz6
import Derived.Deep.RegionHeld3
import Derived.Deep.CutRange
import Derived.BigQuiet
namespace Go.Proofs.YtcoecfpkihakoaaGreatDoor
open Go.RowKit
variable {w : World} {B h : Nat} {S : Nat → Prop} {m : MMem} {mp : Option Nat} {D : DataW Value} {hb : Nat → Nat} {Sh : Nat → Nat → Prop}
set_option maxRecDepth 10000 in
set_option maxHeartbeats 16000000 in
theorem phear_seal (hp : PSv w B h S m mp D hb Sh) (x : Msg × Lv) (hL : HasL w x) (hR : MsgR x.1) (hci : CfIn x.1.config) (hto : x.1.to_ = m.name) (hask : AskIs x.1) (hk : x.1.kind = kSeal) {my : MMem} (hhd : m.held x.1.config = some my) :
    Calls Tryz.prog 11 #[.pointer (some ⟨h, 0, none⟩), .agg #[.string x.1.from_, .string x.1.to_, .string x.1.kind, .string x.1.key, .int .i64 x.1.op, .int .i64 x.1.config, .bool x.1.shut, .slice x.2.1 x.2.2.1 x.2.2.2]] w fun e w' => HearP w B h S m x.1 e w' := by
  obtain ⟨⟨m1, m2, m3, m4, m5, m6, m7, mL⟩, lp, ln, lc⟩ := x
  have hln : ln = mL.length := hL.len
  subst hln
  dsimp only at *
  obtain ⟨w1, hw1⟩ : ∃ w1, w1 = w.alloc (.cells #[.string m1, .string m2, .string m3, .string m4, .int .i64 m5, .int .i64 m6, .bool m7, .slice lp mL.length lc] 42) := ⟨_, rfl⟩
  have hb1 : Below w.heap.size w w1 := by rw [hw1]; exact (Below.refl _ _).alloc (Nat.le_refl _) _
  have hz1 : w1.heap.size = w.heap.size + 1 := by rw [hw1]; simp
  have hz0 : w.heap.size < w1.heap.size := by omega
  have hbl1 : w1.heap[w.heap.size]? = some (.cells #[.string m1, .string m2, .string m3, .string m4, .int .i64 m5, .int .i64 m6, .bool m7, .slice lp mL.length lc] 42 (0, 0)) := by rw [hw1]; show (w.heap.push _)[w.heap.size]? = _; simp
  have HP1 : Hid (PSv w1 B h S m mp D hb Sh) := hp.below hb1
  have HSW : Hid (∀ k, S k → k < w.heap.size) := fun k hk => (hp.inB k hk).2
  have hlt : h < w1.heap.size := by have := hp.lt; omega
  have c0 := HP1.out.cells.1
  rw [← hto] at c0
  have HSC : Hid (∀ W, Below w1.heap.size w1 W → (W.cell? ⟨h, 0, none⟩ = some (.string m2) ∧ W.cell? ⟨w.heap.size, 0, none⟩ = some (.string m1) ∧ W.cell? ⟨w.heap.size, 1, none⟩ = some (.string m2) ∧ W.cell? ⟨w.heap.size, 2, none⟩ = some (.string m3) ∧ W.cell? ⟨w.heap.size, 3, none⟩ = some (.string m4) ∧ W.cell? ⟨w.heap.size, 4, none⟩ = some (.int .i64 m5) ∧ W.cell? ⟨w.heap.size, 5, none⟩ = some (.int .i64 m6) ∧ W.cell? ⟨w.heap.size, 6, none⟩ = some (.bool m7) ∧ W.cell? ⟨w.heap.size, 7, none⟩ = some (.slice lp mL.length lc) ∧ Below w1.heap.size w1 W)) := fun W hW => ⟨(hW.cell (p := ⟨h, 0, none⟩) hlt).trans c0, (hW.cell (p := ⟨w.heap.size, 0, none⟩) hz0).trans (by simp [World.cell?, hbl1]), (hW.cell (p := ⟨w.heap.size, 1, none⟩) hz0).trans (by simp [World.cell?, hbl1]), (hW.cell (p := ⟨w.heap.size, 2, none⟩) hz0).trans (by simp [World.cell?, hbl1]), (hW.cell (p := ⟨w.heap.size, 3, none⟩) hz0).trans (by simp [World.cell?, hbl1]), (hW.cell (p := ⟨w.heap.size, 4, none⟩) hz0).trans (by simp [World.cell?, hbl1]), (hW.cell (p := ⟨w.heap.size, 5, none⟩) hz0).trans (by simp [World.cell?, hbl1]), (hW.cell (p := ⟨w.heap.size, 6, none⟩) hz0).trans (by simp [World.cell?, hbl1]), (hW.cell (p := ⟨w.heap.size, 7, none⟩) hz0).trans (by simp [World.cell?, hbl1]), hW⟩
  have HIA : Hid (∀ W, (W.cell? ⟨h, 0, none⟩ = some (.string m2) ∧ W.cell? ⟨w.heap.size, 0, none⟩ = some (.string m1) ∧ W.cell? ⟨w.heap.size, 1, none⟩ = some (.string m2) ∧ W.cell? ⟨w.heap.size, 2, none⟩ = some (.string m3) ∧ W.cell? ⟨w.heap.size, 3, none⟩ = some (.string m4) ∧ W.cell? ⟨w.heap.size, 4, none⟩ = some (.int .i64 m5) ∧ W.cell? ⟨w.heap.size, 5, none⟩ = some (.int .i64 m6) ∧ W.cell? ⟨w.heap.size, 6, none⟩ = some (.bool m7) ∧ W.cell? ⟨w.heap.size, 7, none⟩ = some (.slice lp mL.length lc) ∧ Below w1.heap.size w1 W) → Calls Tryz.prog 23 #[.agg #[.string m1, .string m2, .string m3, .string m4, .int .i64 m5, .int .i64 m6, .bool m7, .slice lp mL.length lc]] W fun e w' => e = .returned (.bool true) ∧ (w'.cell? ⟨h, 0, none⟩ = some (.string m2) ∧ w'.cell? ⟨w.heap.size, 0, none⟩ = some (.string m1) ∧ w'.cell? ⟨w.heap.size, 1, none⟩ = some (.string m2) ∧ w'.cell? ⟨w.heap.size, 2, none⟩ = some (.string m3) ∧ w'.cell? ⟨w.heap.size, 3, none⟩ = some (.string m4) ∧ w'.cell? ⟨w.heap.size, 4, none⟩ = some (.int .i64 m5) ∧ w'.cell? ⟨w.heap.size, 5, none⟩ = some (.int .i64 m6) ∧ w'.cell? ⟨w.heap.size, 6, none⟩ = some (.bool m7) ∧ w'.cell? ⟨w.heap.size, 7, none⟩ = some (.slice lp mL.length lc) ∧ Below w1.heap.size w1 w')) := fun W hW => (isAsk_any (⟨m1, m2, m3, m4, m5, m6, m7, mL⟩, (lp, mL.length, lc)) rfl hR.2.1 W).mono fun e w' hq => ⟨by rw [hq.1, decide_eq_true hask], HSC.out w' (hW.2.2.2.2.2.2.2.2.2.trans (hq.2.mono hW.2.2.2.2.2.2.2.2.2.size))⟩
  have HMB : Hid (w1.heap[w.heap.size]? = some (.cells #[.string m1, .string m2, .string m3, .string m4, .int .i64 m5, .int .i64 m6, .bool m7, .slice lp mL.length lc] 42 (0, 0))) := hbl1
  have HW1 : Hid (w1 = w.alloc (.cells #[.string m1, .string m2, .string m3, .string m4, .int .i64 m5, .int .i64 m6, .bool m7, .slice lp mL.length lc] 42)) := hw1
  have HB1 : Hid (Below w.heap.size w w1 ∧ w1.heap.size = w.heap.size + 1) := ⟨hb1, hz1⟩
  have HTO : Hid (m2 = m.name) := hto
  have HCI : Hid (CfIn m6) := hci
  have HAS : Hid (AskIs ⟨m1, m2, m3, m4, m5, m6, m7, mL⟩) := hask
  have HHD : Hid (m.held m6 = some my) := hhd
  have HNM : Hid (my.name = m.name) := pheld_name hhd
  have HRM : Hid (MsgR ⟨m1, m2, m3, m4, m5, m6, m7, mL⟩) := hR
  have HFM : Hid my.Fine := (hp.fine.held_ hci hhd).1
  obtain rfl : m3 = ⟨#[115, 101, 97, 108]⟩ := hk
  clear hp hL hR hci hto hask hhd hw1 hb1 hz1 hz0 hbl1 hlt c0
  go_enter Tryz.func11, Tryz.ntmps11
  go_wp2_with (first | rw [← HW1.out] | fail)
  go_cut [23] from 8 to 93 (fun v W => v = .bool false ∧ (W.cell? ⟨h, 0, none⟩ = some (.string m2) ∧ W.cell? ⟨w.heap.size, 0, none⟩ = some (.string m1) ∧ W.cell? ⟨w.heap.size, 1, none⟩ = some (.string m2) ∧ W.cell? ⟨w.heap.size, 2, none⟩ = some (.string ⟨#[115, 101, 97, 108]⟩) ∧ W.cell? ⟨w.heap.size, 3, none⟩ = some (.string m4) ∧ W.cell? ⟨w.heap.size, 4, none⟩ = some (.int .i64 m5) ∧ W.cell? ⟨w.heap.size, 5, none⟩ = some (.int .i64 m6) ∧ W.cell? ⟨w.heap.size, 6, none⟩ = some (.bool m7) ∧ W.cell? ⟨w.heap.size, 7, none⟩ = some (.slice lp mL.length lc) ∧ Below w1.heap.size w1 W))
  case first =>
    go_region_held3 (fun W => (W.cell? ⟨h, 0, none⟩ = some (.string m2) ∧ W.cell? ⟨w.heap.size, 0, none⟩ = some (.string m1) ∧ W.cell? ⟨w.heap.size, 1, none⟩ = some (.string m2) ∧ W.cell? ⟨w.heap.size, 2, none⟩ = some (.string ⟨#[115, 101, 97, 108]⟩) ∧ W.cell? ⟨w.heap.size, 3, none⟩ = some (.string m4) ∧ W.cell? ⟨w.heap.size, 4, none⟩ = some (.int .i64 m5) ∧ W.cell? ⟨w.heap.size, 5, none⟩ = some (.int .i64 m6) ∧ W.cell? ⟨w.heap.size, 6, none⟩ = some (.bool m7) ∧ W.cell? ⟨w.heap.size, 7, none⟩ = some (.slice lp mL.length lc) ∧ Below w1.heap.size w1 W)) (first | assumption | exact HSC.out _ (Below.refl _ _).drew | exact HSC.out _ (Below.refl _ _)) (first | (go_at_call 23; refine (HIA.out _ (by assumption)).mono ?_; rintro e w2 ⟨rfl, hS2⟩))
    all_goals (go_wp2_with fail; go_meet)
    all_goals exact ⟨rfl, by assumption⟩
  case rest =>
    obtain ⟨rfl, hS2⟩ := hcut
    obtain ⟨w2, rfl⟩ : ∃ w2, w2 = wc := ⟨_, rfl⟩
    obtain ⟨_, _, _, _, _, _, d5, _, _, hb2⟩ := hS2
    have HHF := pheld_any (HP1.out.below hb2) HCI.out
    have HB2 : Hid (Below w1.heap.size w1 w2) := hb2
    clear hb2 HIA HSC HW1
    go_wp2_with fail
    refine HHF.mono ?_
    intro e w3 hH
    clear HHF d5
    rcases hH with ⟨h9, _⟩ | ⟨m9, S2, mp2, D2, hb2, Sh2, h9, rfl, hI2, hP2, hU2⟩
    · rw [HHD.out] at h9
      cases h9
    obtain rfl : my = m9 := by rw [HHD.out] at h9; exact Option.some.inj h9
    clear h9
    have hnS : ¬ S w.heap.size := fun hs => by have := HSW.out _ hs; omega
    have hz2 : w.heap.size < w2.heap.size := by have := HB2.out.size; have := HB1.out.2; omega
    have hmb3 : w3.heap[w.heap.size]? = some (.cells #[.string m1, .string m2, .string ⟨#[115, 101, 97, 108]⟩, .string m4, .int .i64 m5, .int .i64 m6, .bool m7, .slice lp mL.length lc] 42 (0, 0)) := (hU2.block _ hz2 hnS).trans ((HB2.out.block _ (by have := HB1.out.2; omega)).trans HMB.out)
    have hz3 : w.heap.size < w3.heap.size := Nat.lt_of_lt_of_le hz2 hU2.size
    have hlt3 : h < w3.heap.size := hP2.lt
    have c0 := hP2.cells.1
    rw [HNM.out, ← HTO.out] at c0
    have HSC6 : Hid (∀ W, Below w3.heap.size w3 W → (W.cell? ⟨h, 0, none⟩ = some (.string m2) ∧ W.cell? ⟨w.heap.size, 0, none⟩ = some (.string m1) ∧ W.cell? ⟨w.heap.size, 3, none⟩ = some (.string m4) ∧ W.cell? ⟨w.heap.size, 4, none⟩ = some (.int .i64 m5) ∧ W.cell? ⟨w.heap.size, 5, none⟩ = some (.int .i64 m6) ∧ Below w3.heap.size w3 W)) := fun W hW => ⟨(hW.cell (p := ⟨h, 0, none⟩) hlt3).trans c0, (hW.cell (p := ⟨w.heap.size, 0, none⟩) hz3).trans (by simp [World.cell?, hmb3]), (hW.cell (p := ⟨w.heap.size, 3, none⟩) hz3).trans (by simp [World.cell?, hmb3]), (hW.cell (p := ⟨w.heap.size, 4, none⟩) hz3).trans (by simp [World.cell?, hmb3]), (hW.cell (p := ⟨w.heap.size, 5, none⟩) hz3).trans (by simp [World.cell?, hmb3]), hW⟩
    have HU2 : Hid (Upd S S2 w w3) := (Upd.of_below (HB1.out.1.trans (HB2.out.mono HB1.out.1.size))).trans hU2
    have HP3 : Hid (PSv w3 B h S2 my mp2 D2 hb2 Sh2) := hP2
    have HI3 : Hid (cfdI m.L m6 < my.L.length) := hI2
    have HMB3 : Hid (w3.heap[w.heap.size]? = some (.cells #[.string m1, .string m2, .string ⟨#[115, 101, 97, 108]⟩, .string m4, .int .i64 m5, .int .i64 m6, .bool m7, .slice lp mL.length lc] 42 (0, 0))) := hmb3
    have HNB : Hid (¬ S2 w.heap.size ∧ w.heap.size < w3.heap.size) := ⟨fun hs => (hU2.new _ hs).elim hnS (by omega), hz3⟩
    have HHD3 : Hid (HdOf w3 (hb2 (cfdI m.L m6)) (Sh2 (cfdI m.L m6)) (cfdAt my.L (cfdI m.L m6)).2.1 (cfdAt my.L (cfdI m.L m6)).2.2) := hP2.hold _ hI2
    have HSUB : Hid (∀ k, Sh2 (cfdI m.L m6) k → S2 k ∧ k < w3.heap.size) := fun k hk => ⟨(hP2.sub _ hI2 k hk).1, (hP2.inB k (hP2.sub _ hI2 k hk).1).2⟩
    clear hU2 hP2 hI2 hmb3 hnS hz2 hz3 hlt3 c0 HP1 HMB HB2 HSW
    generalize hii : cfdI m.L m6 = ii at *
    have HII : Hid (cfdI m.L m6 = ii) := hii
    generalize hbb : hb2 ii = hk at *
    have HBB : Hid (hb2 ii = hk) := hbb
    obtain ⟨Lh, hLh⟩ : ∃ Lh, Lh = (cfdAt my.L ii).2.1 := ⟨_, rfl⟩
    obtain ⟨sh, hsh⟩ : ∃ sh, sh = (cfdAt my.L ii).2.2 := ⟨_, rfl⟩
    rw [← hLh, ← hsh] at HHD3
    have HLH : Hid (Lh = (cfdAt my.L ii).2.1) := hLh
    have HSH : Hid (sh = (cfdAt my.L ii).2.2) := hsh
    have HCL : Hid (∀ (t : ByteArray) W, t.size ≤ 140737488351232 → (W.cell? ⟨h, 0, none⟩ = some (.string m2) ∧ W.cell? ⟨w.heap.size, 0, none⟩ = some (.string m1) ∧ W.cell? ⟨w.heap.size, 3, none⟩ = some (.string m4) ∧ W.cell? ⟨w.heap.size, 4, none⟩ = some (.int .i64 m5) ∧ W.cell? ⟨w.heap.size, 5, none⟩ = some (.int .i64 m6) ∧ Below w3.heap.size w3 W) → Calls Tryz.prog 19 #[.string t] W fun e w' => e = .returned (.string t) ∧ (w'.cell? ⟨h, 0, none⟩ = some (.string m2) ∧ w'.cell? ⟨w.heap.size, 0, none⟩ = some (.string m1) ∧ w'.cell? ⟨w.heap.size, 3, none⟩ = some (.string m4) ∧ w'.cell? ⟨w.heap.size, 4, none⟩ = some (.int .i64 m5) ∧ w'.cell? ⟨w.heap.size, 5, none⟩ = some (.int .i64 m6) ∧ Below w3.heap.size w3 w') ∧ Below W.heap.size W w') := fun t W ht hW => (sclone_any t W ht).mono fun e w' hq => ⟨hq.1, HSC6.out w' (hW.2.2.2.2.2.trans (hq.2.mono hW.2.2.2.2.2.size)), hq.2⟩
    obtain ⟨⟨hs1, hs2, _, hs4⟩, _⟩ := HRM.out
    have HS124 : Hid (m1.size ≤ 140737488351232 ∧ m2.size ≤ 140737488351232 ∧ m4.size ≤ 140737488351232) := ⟨hs1, hs2, hs4⟩
    clear hLh hsh hbb hii hs1 hs2 hs4
    go_wp2
    go_cut [6] from 30 to 93 (fun v W => ∃ ob, v = .pointer (some ⟨ob, 0, none⟩) ∧ w3.heap.size ≤ ob ∧ W.heap[ob]? = some (.cells #[.string m2, .string m1, .string ⟨#[]⟩, .string m4, .int .i64 m5, .int .i64 m6, .bool false, .slice none 0 0] 42 (0, 0)) ∧ Below w3.heap.size w3 W)
    case first =>
      have HS0 : (w3.drew.cell? ⟨h, 0, none⟩ = some (.string m2) ∧ w3.drew.cell? ⟨w.heap.size, 0, none⟩ = some (.string m1) ∧ w3.drew.cell? ⟨w.heap.size, 3, none⟩ = some (.string m4) ∧ w3.drew.cell? ⟨w.heap.size, 4, none⟩ = some (.int .i64 m5) ∧ w3.drew.cell? ⟨w.heap.size, 5, none⟩ = some (.int .i64 m6) ∧ Below w3.heap.size w3 w3.drew) := HSC6.out _ (Below.refl _ _).drew
      refine wp_region_held_drew (S := fun W => (W.cell? ⟨h, 0, none⟩ = some (.string m2) ∧ W.cell? ⟨w.heap.size, 0, none⟩ = some (.string m1) ∧ W.cell? ⟨w.heap.size, 3, none⟩ = some (.string m4) ∧ W.cell? ⟨w.heap.size, 4, none⟩ = some (.int .i64 m5) ∧ W.cell? ⟨w.heap.size, 5, none⟩ = some (.int .i64 m6) ∧ Below w3.heap.size w3 W)) (by kernel_rfl) HS0 (fun hHeld => ?_)
      refine wpAnyH_take (i := 0) (oi := { dst := some 30, op := Op.move (Operand.tmp 0), type := 25, pos := "serve.go:38", after := #[], guard := none }) (v := ?_) rfl (by kernel_rfl) (by kernel_rfl) (by kernel_rfl) (fun _ _ _ h => h) (Or.inl ⟨by rfl, ?_⟩) hHeld ?_
      rotate_left
      · (intro w hSw; (try dsimp only at hSw); go_simp; try with_reducible rfl)
      try simp only [Act.put, List.setIfInBounds_toArray, List.set_cons_zero, List.set_cons_succ]
      refine wpAnyH_take (i := 1) (oi := { dst := some 31, op := Op.nilCheck (Operand.tmp 30), type := 0, pos := "serve.go:38", after := #[{ on := 0, ground := Ground.data }], guard := none }) (v := ?_) rfl (by kernel_rfl) (by kernel_rfl) (by kernel_rfl) (fun _ _ _ h => h) (Or.inl ⟨by rfl, ?_⟩) hHeld ?_
      rotate_left
      · (intro w hSw; (try dsimp only at hSw); go_simp; try with_reducible rfl)
      try simp only [Act.put, List.setIfInBounds_toArray, List.set_cons_zero, List.set_cons_succ]
      refine wpAnyH_take (i := 2) (oi := { dst := some 32, op := Op.fieldAddr 63 (Operand.tmp 31) 0, type := 0, pos := "serve.go:38", after := #[{ on := 1, ground := Ground.data }], guard := none }) (v := ?_) rfl (by kernel_rfl) (by kernel_rfl) (by kernel_rfl) (fun _ _ _ h => h) (Or.inl ⟨by rfl, ?_⟩) hHeld ?_
      rotate_left
      · (intro w hSw; (try dsimp only at hSw); go_simp; try with_reducible rfl)
      try simp only [Act.put, List.setIfInBounds_toArray, List.set_cons_zero, List.set_cons_succ]
      refine wpAnyH_take (i := 3) (oi := { dst := some 33, op := Op.load 9 (Operand.tmp 32), type := 9, pos := "serve.go:38", after := #[{ on := 2, ground := Ground.data }], guard := none }) (v := ?_) rfl (by kernel_rfl) (by kernel_rfl) (by kernel_rfl) (fun _ _ _ h => h) (Or.inl ⟨by rfl, ?_⟩) hHeld ?_
      rotate_left
      · (intro w hSw; (try dsimp only at hSw); go_simp; try with_reducible rfl)
      try simp only [Act.put, List.setIfInBounds_toArray, List.set_cons_zero, List.set_cons_succ]
      refine wpAnyH_take (i := 5) (oi := { dst := some 35, op := Op.fieldAddr 42 (Operand.tmp 3) 0, type := 0, pos := "serve.go:38", after := #[], guard := none }) (v := ?_) rfl (by kernel_rfl) (by kernel_rfl) (by kernel_rfl) (fun _ _ _ h => h) (Or.inl ⟨by rfl, ?_⟩) hHeld ?_
      rotate_left
      · (intro w hSw; (try dsimp only at hSw); go_simp; try with_reducible rfl)
      try simp only [Act.put, List.setIfInBounds_toArray, List.set_cons_zero, List.set_cons_succ]
      refine wpAnyH_take (i := 6) (oi := { dst := some 36, op := Op.load 9 (Operand.tmp 35), type := 9, pos := "serve.go:38", after := #[{ on := 5, ground := Ground.data }], guard := none }) (v := ?_) rfl (by kernel_rfl) (by kernel_rfl) (by kernel_rfl) (fun _ _ _ h => h) (Or.inl ⟨by rfl, ?_⟩) hHeld ?_
      rotate_left
      · (intro w hSw; (try dsimp only at hSw); go_simp; try with_reducible rfl)
      try simp only [Act.put, List.setIfInBounds_toArray, List.set_cons_zero, List.set_cons_succ]
      refine wpAnyH_take (i := 8) (oi := { dst := some 38, op := Op.fieldAddr 42 (Operand.tmp 3) 3, type := 0, pos := "serve.go:38", after := #[], guard := none }) (v := ?_) rfl (by kernel_rfl) (by kernel_rfl) (by kernel_rfl) (fun _ _ _ h => h) (Or.inl ⟨by rfl, ?_⟩) hHeld ?_
      rotate_left
      · (intro w hSw; (try dsimp only at hSw); go_simp; try with_reducible rfl)
      try simp only [Act.put, List.setIfInBounds_toArray, List.set_cons_zero, List.set_cons_succ]
      refine wpAnyH_take (i := 9) (oi := { dst := some 39, op := Op.load 9 (Operand.tmp 38), type := 9, pos := "serve.go:38", after := #[{ on := 8, ground := Ground.data }], guard := none }) (v := ?_) rfl (by kernel_rfl) (by kernel_rfl) (by kernel_rfl) (fun _ _ _ h => h) (Or.inl ⟨by rfl, ?_⟩) hHeld ?_
      rotate_left
      · (intro w hSw; (try dsimp only at hSw); go_simp; try with_reducible rfl)
      try simp only [Act.put, List.setIfInBounds_toArray, List.set_cons_zero, List.set_cons_succ]
      refine wpAnyH_take (i := 11) (oi := { dst := some 41, op := Op.fieldAddr 42 (Operand.tmp 3) 4, type := 0, pos := "serve.go:38", after := #[], guard := none }) (v := ?_) rfl (by kernel_rfl) (by kernel_rfl) (by kernel_rfl) (fun _ _ _ h => h) (Or.inl ⟨by rfl, ?_⟩) hHeld ?_
      rotate_left
      · (intro w hSw; (try dsimp only at hSw); go_simp; try with_reducible rfl)
      try simp only [Act.put, List.setIfInBounds_toArray, List.set_cons_zero, List.set_cons_succ]
      refine wpAnyH_take (i := 12) (oi := { dst := some 42, op := Op.load 3 (Operand.tmp 41), type := 3, pos := "serve.go:38", after := #[{ on := 11, ground := Ground.data }], guard := none }) (v := ?_) rfl (by kernel_rfl) (by kernel_rfl) (by kernel_rfl) (fun _ _ _ h => h) (Or.inl ⟨by rfl, ?_⟩) hHeld ?_
      rotate_left
      · (intro w hSw; (try dsimp only at hSw); go_simp; try with_reducible rfl)
      try simp only [Act.put, List.setIfInBounds_toArray, List.set_cons_zero, List.set_cons_succ]
      refine wpAnyH_take (i := 13) (oi := { dst := some 43, op := Op.fieldAddr 42 (Operand.tmp 3) 5, type := 0, pos := "serve.go:38", after := #[], guard := none }) (v := ?_) rfl (by kernel_rfl) (by kernel_rfl) (by kernel_rfl) (fun _ _ _ h => h) (Or.inl ⟨by rfl, ?_⟩) hHeld ?_
      rotate_left
      · (intro w hSw; (try dsimp only at hSw); go_simp; try with_reducible rfl)
      try simp only [Act.put, List.setIfInBounds_toArray, List.set_cons_zero, List.set_cons_succ]
      refine wpAnyH_take (i := 14) (oi := { dst := some 44, op := Op.load 3 (Operand.tmp 43), type := 3, pos := "serve.go:38", after := #[{ on := 13, ground := Ground.data }], guard := none }) (v := ?_) rfl (by kernel_rfl) (by kernel_rfl) (by kernel_rfl) (fun _ _ _ h => h) (Or.inl ⟨by rfl, ?_⟩) hHeld ?_
      rotate_left
      · (intro w hSw; (try dsimp only at hSw); go_simp; try with_reducible rfl)
      try simp only [Act.put, List.setIfInBounds_toArray, List.set_cons_zero, List.set_cons_succ]
      refine wpAnyH_ready (rs := [4, 16]) (by kernel_rfl) (by simp) ?_
      refine AllReadyH.cons (o := { dst := some 34, op := Op.call { callee := Callee.value (Operand.func 19), args := #[Operand.tmp 33], argTypes := #[9] }, type := 9, pos := "serve.go:39", after := #[{ on := 3, ground := Ground.data }], guard := none }) rfl (fun K hK => ?_) ?_
      · 
        go_simp
        (go_at_call 19; refine (HCL.out _ _ HS124.out.2.1 (by assumption)).mono ?_; rintro e v0b ⟨rfl, hSv0b, hBv0b⟩)
        first | (refine hK.out _ _ ?_ (fun hHeld => ?_)) | (go_wp2_with fail; refine hK.out _ _ ?_ (fun hHeld => ?_))
        · exact hSv0b
        clear hK K
        try simp only [Act.put, List.setIfInBounds_toArray, List.set_cons_zero, List.set_cons_succ]
        refine wpAnyH_ready (rs := [7, 16]) (by kernel_rfl) (by simp) ?_
        refine AllReadyH.cons (o := { dst := some 37, op := Op.call { callee := Callee.value (Operand.func 19), args := #[Operand.tmp 36], argTypes := #[9] }, type := 9, pos := "serve.go:39", after := #[{ on := 6, ground := Ground.data }, { on := 4, ground := Ground.chain }], guard := none }) rfl (fun K hK => ?_) ?_
        · 
          go_simp
          (go_at_call 19; refine (HCL.out _ _ HS124.out.1 (by assumption)).mono ?_; rintro e v1b ⟨rfl, hSv1b, hBv1b⟩)
          first | (refine hK.out _ _ ?_ (fun hHeld => ?_)) | (go_wp2_with fail; refine hK.out _ _ ?_ (fun hHeld => ?_))
          · exact hSv1b
          clear hK K
          try simp only [Act.put, List.setIfInBounds_toArray, List.set_cons_zero, List.set_cons_succ]
          refine wpAnyH_ready (rs := [10, 16]) (by kernel_rfl) (by simp) ?_
          refine AllReadyH.cons (o := { dst := some 40, op := Op.call { callee := Callee.value (Operand.func 19), args := #[Operand.tmp 39], argTypes := #[9] }, type := 9, pos := "serve.go:39", after := #[{ on := 9, ground := Ground.data }, { on := 7, ground := Ground.chain }], guard := none }) rfl (fun K hK => ?_) ?_
          · 
            go_simp
            (go_at_call 19; refine (HCL.out _ _ HS124.out.2.2 (by assumption)).mono ?_; rintro e v2b ⟨rfl, hSv2b, hBv2b⟩)
            first | (refine hK.out _ _ ?_ (fun hHeld => ?_)) | (go_wp2_with fail; refine hK.out _ _ ?_ (fun hHeld => ?_))
            · exact hSv2b
            clear hK K
            try simp only [Act.put, List.setIfInBounds_toArray, List.set_cons_zero, List.set_cons_succ]
            refine wpAnyH_take (i := 15) (oi := { dst := some 45, op := Op.build 42 #[(0, Operand.tmp 34), (1, Operand.tmp 37), (3, Operand.tmp 40), (4, Operand.tmp 42), (5, Operand.tmp 44)], type := 42, pos := "serve.go:38", after := #[{ on := 4, ground := Ground.data }, { on := 7, ground := Ground.data }, { on := 10, ground := Ground.data }, { on := 12, ground := Ground.data }, { on := 14, ground := Ground.data }], guard := none }) (v := ?_) rfl (by kernel_rfl) (by kernel_rfl) (by kernel_rfl) (fun _ _ _ h => h) (Or.inl ⟨by rfl, ?_⟩) hHeld ?_
            rotate_left
            · (intro w hSw; (try dsimp only at hSw); go_simp; try with_reducible rfl)
            try simp only [Act.put, List.setIfInBounds_toArray, List.set_cons_zero, List.set_cons_succ]
            refine wpAnyH_ready (rs := [16]) (by kernel_rfl) (by simp) ?_
            refine AllReadyH.cons (o := { dst := some 6, op := Op.alloc 42, type := 0, pos := "serve.go:38", after := #[], guard := none }) rfl (fun K hK => ?_) AllReadyH.nil
            go_simp
            obtain ⟨a3, ha3⟩ : ∃ a, a = v2b.alloc (.cells #[.string ⟨#[]⟩, .string ⟨#[]⟩, .string ⟨#[]⟩, .string ⟨#[]⟩, .int .i64 0, .int .i64 0, .bool false, .slice none 0 0] 42) := ⟨_, rfl⟩
            rw [← ha3]
            have hSa3 : (a3.cell? ⟨h, 0, none⟩ = some (.string m2) ∧ a3.cell? ⟨w.heap.size, 0, none⟩ = some (.string m1) ∧ a3.cell? ⟨w.heap.size, 3, none⟩ = some (.string m4) ∧ a3.cell? ⟨w.heap.size, 4, none⟩ = some (.int .i64 m5) ∧ a3.cell? ⟨w.heap.size, 5, none⟩ = some (.int .i64 m6) ∧ Below w3.heap.size w3 a3) := by rw [ha3]; exact HSC6.out _ (hHeld.2.2.2.2.2.alloc hHeld.2.2.2.2.2.size _)
            have za3 : a3.heap[v2b.heap.size]? = some (.cells #[.string ⟨#[]⟩, .string ⟨#[]⟩, .string ⟨#[]⟩, .string ⟨#[]⟩, .int .i64 0, .int .i64 0, .bool false, .slice none 0 0] 42 (0, 0)) := by rw [ha3]; exact heap_alloc_new _ _
            have la3 : v2b.heap.size < a3.heap.size := by rw [ha3]; show v2b.heap.size < (v2b.heap.push _).size; rw [Array.size_push]; exact Nat.lt_succ_self _
            have ga3 : w3.heap.size ≤ v2b.heap.size := hHeld.2.2.2.2.2.size
            clear ha3
            first | (refine hK.out _ _ ?_ (fun hHeld => ?_)) | (go_wp2_with fail; refine hK.out _ _ ?_ (fun hHeld => ?_))
            · exact hSa3
            clear hK K
            try simp only [Act.put, List.setIfInBounds_toArray, List.set_cons_zero, List.set_cons_succ]
            have y0 : a3.cell? ⟨v2b.heap.size, 0, none⟩ = some (.string ⟨#[]⟩) := by simp [World.cell?, za3]
            have y1 : a3.cell? ⟨v2b.heap.size, 1, none⟩ = some (.string ⟨#[]⟩) := by simp [World.cell?, za3]
            have y2 : a3.cell? ⟨v2b.heap.size, 2, none⟩ = some (.string ⟨#[]⟩) := by simp [World.cell?, za3]
            have y3 : a3.cell? ⟨v2b.heap.size, 3, none⟩ = some (.string ⟨#[]⟩) := by simp [World.cell?, za3]
            have y4 : a3.cell? ⟨v2b.heap.size, 4, none⟩ = some (.int .i64 0) := by simp [World.cell?, za3]
            have y5 : a3.cell? ⟨v2b.heap.size, 5, none⟩ = some (.int .i64 0) := by simp [World.cell?, za3]
            have y6 : a3.cell? ⟨v2b.heap.size, 6, none⟩ = some (.bool false) := by simp [World.cell?, za3]
            have y7 : a3.cell? ⟨v2b.heap.size, 7, none⟩ = some (.slice none 0 0) := by simp [World.cell?, za3]
            have yf : ∀ o, a3.frozen? ⟨v2b.heap.size, o, none⟩ = false := fun o => by simp [World.frozen?, za3]
            have HZV : Hid (a3.heap[v2b.heap.size]? = some (.cells #[.string ⟨#[]⟩, .string ⟨#[]⟩, .string ⟨#[]⟩, .string ⟨#[]⟩, .int .i64 0, .int .i64 0, .bool false, .slice none 0 0] 42 (0, 0))) := za3
            have HHL : Hid ((a3.cell? ⟨h, 0, none⟩ = some (.string m2) ∧ a3.cell? ⟨w.heap.size, 0, none⟩ = some (.string m1) ∧ a3.cell? ⟨w.heap.size, 3, none⟩ = some (.string m4) ∧ a3.cell? ⟨w.heap.size, 4, none⟩ = some (.int .i64 m5) ∧ a3.cell? ⟨w.heap.size, 5, none⟩ = some (.int .i64 m6) ∧ Below w3.heap.size w3 a3)) := hHeld
            clear HS0 hHeld hBv0b hSv0b hBv1b hSv1b hBv2b hSv2b hSa3 za3 la3
            refine wpAnyH_ready (rs := [17]) (by kernel_rfl) (by simp) ?_
            refine AllReadyH.cons (o := { dst := none, op := Op.store 42 (Operand.tmp 6) (Operand.tmp 45), type := 0, pos := "serve.go:38", after := #[{ on := 16, ground := Ground.data }, { on := 15, ground := Ground.data }, { on := 10, ground := Ground.chain }, { on := 0, ground := Ground.phase }, { on := 1, ground := Ground.phase }, { on := 2, ground := Ground.phase }, { on := 3, ground := Ground.phase }, { on := 4, ground := Ground.phase }, { on := 5, ground := Ground.phase }, { on := 6, ground := Ground.phase }, { on := 7, ground := Ground.phase }, { on := 8, ground := Ground.phase }, { on := 9, ground := Ground.phase }, { on := 10, ground := Ground.phase }, { on := 11, ground := Ground.phase }, { on := 12, ground := Ground.phase }, { on := 13, ground := Ground.phase }, { on := 14, ground := Ground.phase }, { on := 15, ground := Ground.phase }, { on := 16, ground := Ground.phase }], guard := none }) rfl (fun K hK => ?_) AllReadyH.nil
            go_simp
            first | (refine hK.out _ _ ?_ (fun hHeld => ?_)) | (go_wp2_with fail; refine hK.out _ _ ?_ (fun hHeld => ?_))
            · exact HSC6.out _ ((((((((HHL.out.2.2.2.2.2.setCell (p := ⟨v2b.heap.size, 0, none⟩) ga3 _).setCell (p := ⟨v2b.heap.size, 1, none⟩) ga3 _).setCell (p := ⟨v2b.heap.size, 2, none⟩) ga3 _).setCell (p := ⟨v2b.heap.size, 3, none⟩) ga3 _).setCell (p := ⟨v2b.heap.size, 4, none⟩) ga3 _).setCell (p := ⟨v2b.heap.size, 5, none⟩) ga3 _).setCell (p := ⟨v2b.heap.size, 6, none⟩) ga3 _).setCell (p := ⟨v2b.heap.size, 7, none⟩) ga3 _)
            clear hK K
            try simp only [Act.put, List.setIfInBounds_toArray, List.set_cons_zero, List.set_cons_succ]
            refine wpAnyH_done (by kernel_rfl) ?_ _
            go_wp2_with fail
            go_meet
            exact ⟨_, rfl, ga3, (blk_setG (blk_setG (blk_setG (blk_setG (blk_setG (blk_setG (blk_setG (blk_setG HZV.out 0 _) 1 _) 2 _) 3 _) 4 _) 5 _) 6 _) 7 _), hHeld.2.2.2.2.2⟩
          refine AllReadyH.cons (o := { dst := some 6, op := Op.alloc 42, type := 0, pos := "serve.go:38", after := #[], guard := none }) rfl (fun K hK => ?_) AllReadyH.nil
          go_simp
          obtain ⟨a2, ha2⟩ : ∃ a, a = v1b.alloc (.cells #[.string ⟨#[]⟩, .string ⟨#[]⟩, .string ⟨#[]⟩, .string ⟨#[]⟩, .int .i64 0, .int .i64 0, .bool false, .slice none 0 0] 42) := ⟨_, rfl⟩
          rw [← ha2]
          have hSa2 : (a2.cell? ⟨h, 0, none⟩ = some (.string m2) ∧ a2.cell? ⟨w.heap.size, 0, none⟩ = some (.string m1) ∧ a2.cell? ⟨w.heap.size, 3, none⟩ = some (.string m4) ∧ a2.cell? ⟨w.heap.size, 4, none⟩ = some (.int .i64 m5) ∧ a2.cell? ⟨w.heap.size, 5, none⟩ = some (.int .i64 m6) ∧ Below w3.heap.size w3 a2) := by rw [ha2]; exact HSC6.out _ (hHeld.2.2.2.2.2.alloc hHeld.2.2.2.2.2.size _)
          have za2 : a2.heap[v1b.heap.size]? = some (.cells #[.string ⟨#[]⟩, .string ⟨#[]⟩, .string ⟨#[]⟩, .string ⟨#[]⟩, .int .i64 0, .int .i64 0, .bool false, .slice none 0 0] 42 (0, 0)) := by rw [ha2]; exact heap_alloc_new _ _
          have la2 : v1b.heap.size < a2.heap.size := by rw [ha2]; show v1b.heap.size < (v1b.heap.push _).size; rw [Array.size_push]; exact Nat.lt_succ_self _
          have ga2 : w3.heap.size ≤ v1b.heap.size := hHeld.2.2.2.2.2.size
          clear ha2
          first | (refine hK.out _ _ ?_ (fun hHeld => ?_)) | (go_wp2_with fail; refine hK.out _ _ ?_ (fun hHeld => ?_))
          · exact hSa2
          clear hK K
          try simp only [Act.put, List.setIfInBounds_toArray, List.set_cons_zero, List.set_cons_succ]
          refine wpAnyH_ready (rs := [10]) (by kernel_rfl) (by simp) ?_
          refine AllReadyH.cons (o := { dst := some 40, op := Op.call { callee := Callee.value (Operand.func 19), args := #[Operand.tmp 39], argTypes := #[9] }, type := 9, pos := "serve.go:39", after := #[{ on := 9, ground := Ground.data }, { on := 7, ground := Ground.chain }], guard := none }) rfl (fun K hK => ?_) AllReadyH.nil
          go_simp
          (go_at_call 19; refine (HCL.out _ _ HS124.out.2.2 (by assumption)).mono ?_; rintro e v2a ⟨rfl, hSv2a, hBv2a⟩)
          have zv2a := (hBv2a.block _ la2).trans za2
          have lv2a := Nat.lt_of_lt_of_le la2 hBv2a.size
          first | (refine hK.out _ _ ?_ (fun hHeld => ?_)) | (go_wp2_with fail; refine hK.out _ _ ?_ (fun hHeld => ?_))
          · exact hSv2a
          clear hK K
          try simp only [Act.put, List.setIfInBounds_toArray, List.set_cons_zero, List.set_cons_succ]
          refine wpAnyH_take (i := 15) (oi := { dst := some 45, op := Op.build 42 #[(0, Operand.tmp 34), (1, Operand.tmp 37), (3, Operand.tmp 40), (4, Operand.tmp 42), (5, Operand.tmp 44)], type := 42, pos := "serve.go:38", after := #[{ on := 4, ground := Ground.data }, { on := 7, ground := Ground.data }, { on := 10, ground := Ground.data }, { on := 12, ground := Ground.data }, { on := 14, ground := Ground.data }], guard := none }) (v := ?_) rfl (by kernel_rfl) (by kernel_rfl) (by kernel_rfl) (fun _ _ _ h => h) (Or.inl ⟨by rfl, ?_⟩) hHeld ?_
          rotate_left
          · (intro w hSw; (try dsimp only at hSw); go_simp; try with_reducible rfl)
          try simp only [Act.put, List.setIfInBounds_toArray, List.set_cons_zero, List.set_cons_succ]
          have y0 : v2a.cell? ⟨v1b.heap.size, 0, none⟩ = some (.string ⟨#[]⟩) := by simp [World.cell?, zv2a]
          have y1 : v2a.cell? ⟨v1b.heap.size, 1, none⟩ = some (.string ⟨#[]⟩) := by simp [World.cell?, zv2a]
          have y2 : v2a.cell? ⟨v1b.heap.size, 2, none⟩ = some (.string ⟨#[]⟩) := by simp [World.cell?, zv2a]
          have y3 : v2a.cell? ⟨v1b.heap.size, 3, none⟩ = some (.string ⟨#[]⟩) := by simp [World.cell?, zv2a]
          have y4 : v2a.cell? ⟨v1b.heap.size, 4, none⟩ = some (.int .i64 0) := by simp [World.cell?, zv2a]
          have y5 : v2a.cell? ⟨v1b.heap.size, 5, none⟩ = some (.int .i64 0) := by simp [World.cell?, zv2a]
          have y6 : v2a.cell? ⟨v1b.heap.size, 6, none⟩ = some (.bool false) := by simp [World.cell?, zv2a]
          have y7 : v2a.cell? ⟨v1b.heap.size, 7, none⟩ = some (.slice none 0 0) := by simp [World.cell?, zv2a]
          have yf : ∀ o, v2a.frozen? ⟨v1b.heap.size, o, none⟩ = false := fun o => by simp [World.frozen?, zv2a]
          have HZV : Hid (v2a.heap[v1b.heap.size]? = some (.cells #[.string ⟨#[]⟩, .string ⟨#[]⟩, .string ⟨#[]⟩, .string ⟨#[]⟩, .int .i64 0, .int .i64 0, .bool false, .slice none 0 0] 42 (0, 0))) := zv2a
          have HHL : Hid ((v2a.cell? ⟨h, 0, none⟩ = some (.string m2) ∧ v2a.cell? ⟨w.heap.size, 0, none⟩ = some (.string m1) ∧ v2a.cell? ⟨w.heap.size, 3, none⟩ = some (.string m4) ∧ v2a.cell? ⟨w.heap.size, 4, none⟩ = some (.int .i64 m5) ∧ v2a.cell? ⟨w.heap.size, 5, none⟩ = some (.int .i64 m6) ∧ Below w3.heap.size w3 v2a)) := hHeld
          clear HS0 hHeld hBv0b hSv0b hBv1b hSv1b hSa2 za2 la2 hBv2a hSv2a zv2a lv2a
          refine wpAnyH_ready (rs := [17]) (by kernel_rfl) (by simp) ?_
          refine AllReadyH.cons (o := { dst := none, op := Op.store 42 (Operand.tmp 6) (Operand.tmp 45), type := 0, pos := "serve.go:38", after := #[{ on := 16, ground := Ground.data }, { on := 15, ground := Ground.data }, { on := 10, ground := Ground.chain }, { on := 0, ground := Ground.phase }, { on := 1, ground := Ground.phase }, { on := 2, ground := Ground.phase }, { on := 3, ground := Ground.phase }, { on := 4, ground := Ground.phase }, { on := 5, ground := Ground.phase }, { on := 6, ground := Ground.phase }, { on := 7, ground := Ground.phase }, { on := 8, ground := Ground.phase }, { on := 9, ground := Ground.phase }, { on := 10, ground := Ground.phase }, { on := 11, ground := Ground.phase }, { on := 12, ground := Ground.phase }, { on := 13, ground := Ground.phase }, { on := 14, ground := Ground.phase }, { on := 15, ground := Ground.phase }, { on := 16, ground := Ground.phase }], guard := none }) rfl (fun K hK => ?_) AllReadyH.nil
          go_simp
          first | (refine hK.out _ _ ?_ (fun hHeld => ?_)) | (go_wp2_with fail; refine hK.out _ _ ?_ (fun hHeld => ?_))
          · exact HSC6.out _ ((((((((HHL.out.2.2.2.2.2.setCell (p := ⟨v1b.heap.size, 0, none⟩) ga2 _).setCell (p := ⟨v1b.heap.size, 1, none⟩) ga2 _).setCell (p := ⟨v1b.heap.size, 2, none⟩) ga2 _).setCell (p := ⟨v1b.heap.size, 3, none⟩) ga2 _).setCell (p := ⟨v1b.heap.size, 4, none⟩) ga2 _).setCell (p := ⟨v1b.heap.size, 5, none⟩) ga2 _).setCell (p := ⟨v1b.heap.size, 6, none⟩) ga2 _).setCell (p := ⟨v1b.heap.size, 7, none⟩) ga2 _)
          clear hK K
          try simp only [Act.put, List.setIfInBounds_toArray, List.set_cons_zero, List.set_cons_succ]
          refine wpAnyH_done (by kernel_rfl) ?_ _
          go_wp2_with fail
          go_meet
          exact ⟨_, rfl, ga2, (blk_setG (blk_setG (blk_setG (blk_setG (blk_setG (blk_setG (blk_setG (blk_setG HZV.out 0 _) 1 _) 2 _) 3 _) 4 _) 5 _) 6 _) 7 _), hHeld.2.2.2.2.2⟩
        refine AllReadyH.cons (o := { dst := some 6, op := Op.alloc 42, type := 0, pos := "serve.go:38", after := #[], guard := none }) rfl (fun K hK => ?_) AllReadyH.nil
        go_simp
        obtain ⟨a1, ha1⟩ : ∃ a, a = v0b.alloc (.cells #[.string ⟨#[]⟩, .string ⟨#[]⟩, .string ⟨#[]⟩, .string ⟨#[]⟩, .int .i64 0, .int .i64 0, .bool false, .slice none 0 0] 42) := ⟨_, rfl⟩
        rw [← ha1]
        have hSa1 : (a1.cell? ⟨h, 0, none⟩ = some (.string m2) ∧ a1.cell? ⟨w.heap.size, 0, none⟩ = some (.string m1) ∧ a1.cell? ⟨w.heap.size, 3, none⟩ = some (.string m4) ∧ a1.cell? ⟨w.heap.size, 4, none⟩ = some (.int .i64 m5) ∧ a1.cell? ⟨w.heap.size, 5, none⟩ = some (.int .i64 m6) ∧ Below w3.heap.size w3 a1) := by rw [ha1]; exact HSC6.out _ (hHeld.2.2.2.2.2.alloc hHeld.2.2.2.2.2.size _)
        have za1 : a1.heap[v0b.heap.size]? = some (.cells #[.string ⟨#[]⟩, .string ⟨#[]⟩, .string ⟨#[]⟩, .string ⟨#[]⟩, .int .i64 0, .int .i64 0, .bool false, .slice none 0 0] 42 (0, 0)) := by rw [ha1]; exact heap_alloc_new _ _
        have la1 : v0b.heap.size < a1.heap.size := by rw [ha1]; show v0b.heap.size < (v0b.heap.push _).size; rw [Array.size_push]; exact Nat.lt_succ_self _
        have ga1 : w3.heap.size ≤ v0b.heap.size := hHeld.2.2.2.2.2.size
        clear ha1
        first | (refine hK.out _ _ ?_ (fun hHeld => ?_)) | (go_wp2_with fail; refine hK.out _ _ ?_ (fun hHeld => ?_))
        · exact hSa1
        clear hK K
        try simp only [Act.put, List.setIfInBounds_toArray, List.set_cons_zero, List.set_cons_succ]
        refine wpAnyH_ready (rs := [7]) (by kernel_rfl) (by simp) ?_
        refine AllReadyH.cons (o := { dst := some 37, op := Op.call { callee := Callee.value (Operand.func 19), args := #[Operand.tmp 36], argTypes := #[9] }, type := 9, pos := "serve.go:39", after := #[{ on := 6, ground := Ground.data }, { on := 4, ground := Ground.chain }], guard := none }) rfl (fun K hK => ?_) AllReadyH.nil
        go_simp
        (go_at_call 19; refine (HCL.out _ _ HS124.out.1 (by assumption)).mono ?_; rintro e v1a ⟨rfl, hSv1a, hBv1a⟩)
        have zv1a := (hBv1a.block _ la1).trans za1
        have lv1a := Nat.lt_of_lt_of_le la1 hBv1a.size
        first | (refine hK.out _ _ ?_ (fun hHeld => ?_)) | (go_wp2_with fail; refine hK.out _ _ ?_ (fun hHeld => ?_))
        · exact hSv1a
        clear hK K
        try simp only [Act.put, List.setIfInBounds_toArray, List.set_cons_zero, List.set_cons_succ]
        refine wpAnyH_ready (rs := [10]) (by kernel_rfl) (by simp) ?_
        refine AllReadyH.cons (o := { dst := some 40, op := Op.call { callee := Callee.value (Operand.func 19), args := #[Operand.tmp 39], argTypes := #[9] }, type := 9, pos := "serve.go:39", after := #[{ on := 9, ground := Ground.data }, { on := 7, ground := Ground.chain }], guard := none }) rfl (fun K hK => ?_) AllReadyH.nil
        go_simp
        (go_at_call 19; refine (HCL.out _ _ HS124.out.2.2 (by assumption)).mono ?_; rintro e v2a ⟨rfl, hSv2a, hBv2a⟩)
        have zv2a := (hBv2a.block _ lv1a).trans zv1a
        have lv2a := Nat.lt_of_lt_of_le lv1a hBv2a.size
        first | (refine hK.out _ _ ?_ (fun hHeld => ?_)) | (go_wp2_with fail; refine hK.out _ _ ?_ (fun hHeld => ?_))
        · exact hSv2a
        clear hK K
        try simp only [Act.put, List.setIfInBounds_toArray, List.set_cons_zero, List.set_cons_succ]
        refine wpAnyH_take (i := 15) (oi := { dst := some 45, op := Op.build 42 #[(0, Operand.tmp 34), (1, Operand.tmp 37), (3, Operand.tmp 40), (4, Operand.tmp 42), (5, Operand.tmp 44)], type := 42, pos := "serve.go:38", after := #[{ on := 4, ground := Ground.data }, { on := 7, ground := Ground.data }, { on := 10, ground := Ground.data }, { on := 12, ground := Ground.data }, { on := 14, ground := Ground.data }], guard := none }) (v := ?_) rfl (by kernel_rfl) (by kernel_rfl) (by kernel_rfl) (fun _ _ _ h => h) (Or.inl ⟨by rfl, ?_⟩) hHeld ?_
        rotate_left
        · (intro w hSw; (try dsimp only at hSw); go_simp; try with_reducible rfl)
        try simp only [Act.put, List.setIfInBounds_toArray, List.set_cons_zero, List.set_cons_succ]
        have y0 : v2a.cell? ⟨v0b.heap.size, 0, none⟩ = some (.string ⟨#[]⟩) := by simp [World.cell?, zv2a]
        have y1 : v2a.cell? ⟨v0b.heap.size, 1, none⟩ = some (.string ⟨#[]⟩) := by simp [World.cell?, zv2a]
        have y2 : v2a.cell? ⟨v0b.heap.size, 2, none⟩ = some (.string ⟨#[]⟩) := by simp [World.cell?, zv2a]
        have y3 : v2a.cell? ⟨v0b.heap.size, 3, none⟩ = some (.string ⟨#[]⟩) := by simp [World.cell?, zv2a]
        have y4 : v2a.cell? ⟨v0b.heap.size, 4, none⟩ = some (.int .i64 0) := by simp [World.cell?, zv2a]
        have y5 : v2a.cell? ⟨v0b.heap.size, 5, none⟩ = some (.int .i64 0) := by simp [World.cell?, zv2a]
        have y6 : v2a.cell? ⟨v0b.heap.size, 6, none⟩ = some (.bool false) := by simp [World.cell?, zv2a]
        have y7 : v2a.cell? ⟨v0b.heap.size, 7, none⟩ = some (.slice none 0 0) := by simp [World.cell?, zv2a]
        have yf : ∀ o, v2a.frozen? ⟨v0b.heap.size, o, none⟩ = false := fun o => by simp [World.frozen?, zv2a]
        have HZV : Hid (v2a.heap[v0b.heap.size]? = some (.cells #[.string ⟨#[]⟩, .string ⟨#[]⟩, .string ⟨#[]⟩, .string ⟨#[]⟩, .int .i64 0, .int .i64 0, .bool false, .slice none 0 0] 42 (0, 0))) := zv2a
        have HHL : Hid ((v2a.cell? ⟨h, 0, none⟩ = some (.string m2) ∧ v2a.cell? ⟨w.heap.size, 0, none⟩ = some (.string m1) ∧ v2a.cell? ⟨w.heap.size, 3, none⟩ = some (.string m4) ∧ v2a.cell? ⟨w.heap.size, 4, none⟩ = some (.int .i64 m5) ∧ v2a.cell? ⟨w.heap.size, 5, none⟩ = some (.int .i64 m6) ∧ Below w3.heap.size w3 v2a)) := hHeld
        clear HS0 hHeld hBv0b hSv0b hSa1 za1 la1 hBv1a hSv1a zv1a lv1a hBv2a hSv2a zv2a lv2a
        refine wpAnyH_ready (rs := [17]) (by kernel_rfl) (by simp) ?_
        refine AllReadyH.cons (o := { dst := none, op := Op.store 42 (Operand.tmp 6) (Operand.tmp 45), type := 0, pos := "serve.go:38", after := #[{ on := 16, ground := Ground.data }, { on := 15, ground := Ground.data }, { on := 10, ground := Ground.chain }, { on := 0, ground := Ground.phase }, { on := 1, ground := Ground.phase }, { on := 2, ground := Ground.phase }, { on := 3, ground := Ground.phase }, { on := 4, ground := Ground.phase }, { on := 5, ground := Ground.phase }, { on := 6, ground := Ground.phase }, { on := 7, ground := Ground.phase }, { on := 8, ground := Ground.phase }, { on := 9, ground := Ground.phase }, { on := 10, ground := Ground.phase }, { on := 11, ground := Ground.phase }, { on := 12, ground := Ground.phase }, { on := 13, ground := Ground.phase }, { on := 14, ground := Ground.phase }, { on := 15, ground := Ground.phase }, { on := 16, ground := Ground.phase }], guard := none }) rfl (fun K hK => ?_) AllReadyH.nil
        go_simp
        first | (refine hK.out _ _ ?_ (fun hHeld => ?_)) | (go_wp2_with fail; refine hK.out _ _ ?_ (fun hHeld => ?_))
        · exact HSC6.out _ ((((((((HHL.out.2.2.2.2.2.setCell (p := ⟨v0b.heap.size, 0, none⟩) ga1 _).setCell (p := ⟨v0b.heap.size, 1, none⟩) ga1 _).setCell (p := ⟨v0b.heap.size, 2, none⟩) ga1 _).setCell (p := ⟨v0b.heap.size, 3, none⟩) ga1 _).setCell (p := ⟨v0b.heap.size, 4, none⟩) ga1 _).setCell (p := ⟨v0b.heap.size, 5, none⟩) ga1 _).setCell (p := ⟨v0b.heap.size, 6, none⟩) ga1 _).setCell (p := ⟨v0b.heap.size, 7, none⟩) ga1 _)
        clear hK K
        try simp only [Act.put, List.setIfInBounds_toArray, List.set_cons_zero, List.set_cons_succ]
        refine wpAnyH_done (by kernel_rfl) ?_ _
        go_wp2_with fail
        go_meet
        exact ⟨_, rfl, ga1, (blk_setG (blk_setG (blk_setG (blk_setG (blk_setG (blk_setG (blk_setG (blk_setG HZV.out 0 _) 1 _) 2 _) 3 _) 4 _) 5 _) 6 _) 7 _), hHeld.2.2.2.2.2⟩
      refine AllReadyH.cons (o := { dst := some 6, op := Op.alloc 42, type := 0, pos := "serve.go:38", after := #[], guard := none }) rfl (fun K hK => ?_) AllReadyH.nil
      go_simp
      obtain ⟨a0, ha0⟩ : ∃ a, a = (w3.alloc (.cells #[.string ⟨#[]⟩, .string ⟨#[]⟩, .string ⟨#[]⟩, .string ⟨#[]⟩, .int .i64 0, .int .i64 0, .bool false, .slice none 0 0] 42)).drew := ⟨_, rfl⟩
      rw [← ha0]
      have hSa0 : (a0.cell? ⟨h, 0, none⟩ = some (.string m2) ∧ a0.cell? ⟨w.heap.size, 0, none⟩ = some (.string m1) ∧ a0.cell? ⟨w.heap.size, 3, none⟩ = some (.string m4) ∧ a0.cell? ⟨w.heap.size, 4, none⟩ = some (.int .i64 m5) ∧ a0.cell? ⟨w.heap.size, 5, none⟩ = some (.int .i64 m6) ∧ Below w3.heap.size w3 a0) := by rw [ha0]; exact HSC6.out _ ((Below.refl _ _).alloc (Nat.le_refl _) _).drew
      have za0 : a0.heap[w3.heap.size]? = some (.cells #[.string ⟨#[]⟩, .string ⟨#[]⟩, .string ⟨#[]⟩, .string ⟨#[]⟩, .int .i64 0, .int .i64 0, .bool false, .slice none 0 0] 42 (0, 0)) := by rw [ha0]; exact heap_alloc_new w3 _
      have la0 : w3.heap.size < a0.heap.size := by rw [ha0]; show w3.heap.size < (w3.heap.push _).size; rw [Array.size_push]; exact Nat.lt_succ_self _
      have ga0 : w3.heap.size ≤ w3.heap.size := hHeld.2.2.2.2.2.size
      clear ha0
      first | (refine hK.out _ _ ?_ (fun hHeld => ?_)) | (go_wp2_with fail; refine hK.out _ _ ?_ (fun hHeld => ?_))
      · exact hSa0
      clear hK K
      try simp only [Act.put, List.setIfInBounds_toArray, List.set_cons_zero, List.set_cons_succ]
      refine wpAnyH_ready (rs := [4]) (by kernel_rfl) (by simp) ?_
      refine AllReadyH.cons (o := { dst := some 34, op := Op.call { callee := Callee.value (Operand.func 19), args := #[Operand.tmp 33], argTypes := #[9] }, type := 9, pos := "serve.go:39", after := #[{ on := 3, ground := Ground.data }], guard := none }) rfl (fun K hK => ?_) AllReadyH.nil
      go_simp
      (go_at_call 19; refine (HCL.out _ _ HS124.out.2.1 (by assumption)).mono ?_; rintro e v0a ⟨rfl, hSv0a, hBv0a⟩)
      have zv0a := (hBv0a.block _ la0).trans za0
      have lv0a := Nat.lt_of_lt_of_le la0 hBv0a.size
      first | (refine hK.out _ _ ?_ (fun hHeld => ?_)) | (go_wp2_with fail; refine hK.out _ _ ?_ (fun hHeld => ?_))
      · exact hSv0a
      clear hK K
      try simp only [Act.put, List.setIfInBounds_toArray, List.set_cons_zero, List.set_cons_succ]
      refine wpAnyH_ready (rs := [7]) (by kernel_rfl) (by simp) ?_
      refine AllReadyH.cons (o := { dst := some 37, op := Op.call { callee := Callee.value (Operand.func 19), args := #[Operand.tmp 36], argTypes := #[9] }, type := 9, pos := "serve.go:39", after := #[{ on := 6, ground := Ground.data }, { on := 4, ground := Ground.chain }], guard := none }) rfl (fun K hK => ?_) AllReadyH.nil
      go_simp
      (go_at_call 19; refine (HCL.out _ _ HS124.out.1 (by assumption)).mono ?_; rintro e v1a ⟨rfl, hSv1a, hBv1a⟩)
      have zv1a := (hBv1a.block _ lv0a).trans zv0a
      have lv1a := Nat.lt_of_lt_of_le lv0a hBv1a.size
      first | (refine hK.out _ _ ?_ (fun hHeld => ?_)) | (go_wp2_with fail; refine hK.out _ _ ?_ (fun hHeld => ?_))
      · exact hSv1a
      clear hK K
      try simp only [Act.put, List.setIfInBounds_toArray, List.set_cons_zero, List.set_cons_succ]
      refine wpAnyH_ready (rs := [10]) (by kernel_rfl) (by simp) ?_
      refine AllReadyH.cons (o := { dst := some 40, op := Op.call { callee := Callee.value (Operand.func 19), args := #[Operand.tmp 39], argTypes := #[9] }, type := 9, pos := "serve.go:39", after := #[{ on := 9, ground := Ground.data }, { on := 7, ground := Ground.chain }], guard := none }) rfl (fun K hK => ?_) AllReadyH.nil
      go_simp
      (go_at_call 19; refine (HCL.out _ _ HS124.out.2.2 (by assumption)).mono ?_; rintro e v2a ⟨rfl, hSv2a, hBv2a⟩)
      have zv2a := (hBv2a.block _ lv1a).trans zv1a
      have lv2a := Nat.lt_of_lt_of_le lv1a hBv2a.size
      first | (refine hK.out _ _ ?_ (fun hHeld => ?_)) | (go_wp2_with fail; refine hK.out _ _ ?_ (fun hHeld => ?_))
      · exact hSv2a
      clear hK K
      try simp only [Act.put, List.setIfInBounds_toArray, List.set_cons_zero, List.set_cons_succ]
      refine wpAnyH_take (i := 15) (oi := { dst := some 45, op := Op.build 42 #[(0, Operand.tmp 34), (1, Operand.tmp 37), (3, Operand.tmp 40), (4, Operand.tmp 42), (5, Operand.tmp 44)], type := 42, pos := "serve.go:38", after := #[{ on := 4, ground := Ground.data }, { on := 7, ground := Ground.data }, { on := 10, ground := Ground.data }, { on := 12, ground := Ground.data }, { on := 14, ground := Ground.data }], guard := none }) (v := ?_) rfl (by kernel_rfl) (by kernel_rfl) (by kernel_rfl) (fun _ _ _ h => h) (Or.inl ⟨by rfl, ?_⟩) hHeld ?_
      rotate_left
      · (intro w hSw; (try dsimp only at hSw); go_simp; try with_reducible rfl)
      try simp only [Act.put, List.setIfInBounds_toArray, List.set_cons_zero, List.set_cons_succ]
      have y0 : v2a.cell? ⟨w3.heap.size, 0, none⟩ = some (.string ⟨#[]⟩) := by simp [World.cell?, zv2a]
      have y1 : v2a.cell? ⟨w3.heap.size, 1, none⟩ = some (.string ⟨#[]⟩) := by simp [World.cell?, zv2a]
      have y2 : v2a.cell? ⟨w3.heap.size, 2, none⟩ = some (.string ⟨#[]⟩) := by simp [World.cell?, zv2a]
      have y3 : v2a.cell? ⟨w3.heap.size, 3, none⟩ = some (.string ⟨#[]⟩) := by simp [World.cell?, zv2a]
      have y4 : v2a.cell? ⟨w3.heap.size, 4, none⟩ = some (.int .i64 0) := by simp [World.cell?, zv2a]
      have y5 : v2a.cell? ⟨w3.heap.size, 5, none⟩ = some (.int .i64 0) := by simp [World.cell?, zv2a]
      have y6 : v2a.cell? ⟨w3.heap.size, 6, none⟩ = some (.bool false) := by simp [World.cell?, zv2a]
      have y7 : v2a.cell? ⟨w3.heap.size, 7, none⟩ = some (.slice none 0 0) := by simp [World.cell?, zv2a]
      have yf : ∀ o, v2a.frozen? ⟨w3.heap.size, o, none⟩ = false := fun o => by simp [World.frozen?, zv2a]
      have HZV : Hid (v2a.heap[w3.heap.size]? = some (.cells #[.string ⟨#[]⟩, .string ⟨#[]⟩, .string ⟨#[]⟩, .string ⟨#[]⟩, .int .i64 0, .int .i64 0, .bool false, .slice none 0 0] 42 (0, 0))) := zv2a
      have HHL : Hid ((v2a.cell? ⟨h, 0, none⟩ = some (.string m2) ∧ v2a.cell? ⟨w.heap.size, 0, none⟩ = some (.string m1) ∧ v2a.cell? ⟨w.heap.size, 3, none⟩ = some (.string m4) ∧ v2a.cell? ⟨w.heap.size, 4, none⟩ = some (.int .i64 m5) ∧ v2a.cell? ⟨w.heap.size, 5, none⟩ = some (.int .i64 m6) ∧ Below w3.heap.size w3 v2a)) := hHeld
      clear HS0 hHeld hSa0 za0 la0 hBv0a hSv0a zv0a lv0a hBv1a hSv1a zv1a lv1a hBv2a hSv2a zv2a lv2a
      refine wpAnyH_ready (rs := [17]) (by kernel_rfl) (by simp) ?_
      refine AllReadyH.cons (o := { dst := none, op := Op.store 42 (Operand.tmp 6) (Operand.tmp 45), type := 0, pos := "serve.go:38", after := #[{ on := 16, ground := Ground.data }, { on := 15, ground := Ground.data }, { on := 10, ground := Ground.chain }, { on := 0, ground := Ground.phase }, { on := 1, ground := Ground.phase }, { on := 2, ground := Ground.phase }, { on := 3, ground := Ground.phase }, { on := 4, ground := Ground.phase }, { on := 5, ground := Ground.phase }, { on := 6, ground := Ground.phase }, { on := 7, ground := Ground.phase }, { on := 8, ground := Ground.phase }, { on := 9, ground := Ground.phase }, { on := 10, ground := Ground.phase }, { on := 11, ground := Ground.phase }, { on := 12, ground := Ground.phase }, { on := 13, ground := Ground.phase }, { on := 14, ground := Ground.phase }, { on := 15, ground := Ground.phase }, { on := 16, ground := Ground.phase }], guard := none }) rfl (fun K hK => ?_) AllReadyH.nil
      go_simp
      first | (refine hK.out _ _ ?_ (fun hHeld => ?_)) | (go_wp2_with fail; refine hK.out _ _ ?_ (fun hHeld => ?_))
      · exact HSC6.out _ ((((((((HHL.out.2.2.2.2.2.setCell (p := ⟨w3.heap.size, 0, none⟩) ga0 _).setCell (p := ⟨w3.heap.size, 1, none⟩) ga0 _).setCell (p := ⟨w3.heap.size, 2, none⟩) ga0 _).setCell (p := ⟨w3.heap.size, 3, none⟩) ga0 _).setCell (p := ⟨w3.heap.size, 4, none⟩) ga0 _).setCell (p := ⟨w3.heap.size, 5, none⟩) ga0 _).setCell (p := ⟨w3.heap.size, 6, none⟩) ga0 _).setCell (p := ⟨w3.heap.size, 7, none⟩) ga0 _)
      clear hK K
      try simp only [Act.put, List.setIfInBounds_toArray, List.set_cons_zero, List.set_cons_succ]
      refine wpAnyH_done (by kernel_rfl) ?_ _
      go_wp2_with fail
      go_meet
      exact ⟨_, rfl, ga0, (blk_setG (blk_setG (blk_setG (blk_setG (blk_setG (blk_setG (blk_setG (blk_setG HZV.out 0 _) 1 _) 2 _) 3 _) 4 _) 5 _) 6 _) 7 _), hHeld.2.2.2.2.2⟩
    case rest =>
      clear HSC6 HCL HS124
      obtain ⟨ob, rfl, hob, hbl4, hb4⟩ := hcut
      obtain ⟨w4, rfl⟩ : ∃ w4, w4 = wc := ⟨_, rfl⟩
      have hz4 : ob < w4.heap.size := lt_of_blk hbl4
      have hxob : w.heap.size < ob := Nat.lt_of_lt_of_le HNB.out.2 hob
      have hmb4 : w4.heap[w.heap.size]? = some (.cells #[.string m1, .string m2, .string ⟨#[115, 101, 97, 108]⟩, .string m4, .int .i64 m5, .int .i64 m6, .bool m7, .slice lp mL.length lc] 42 (0, 0)) := (hb4.block _ HNB.out.2).trans HMB3.out
      have k2 : w4.cell? ⟨w.heap.size, 2, none⟩ = some (.string ⟨#[115, 101, 97, 108]⟩) := by simp [World.cell?, hmb4]
      have HBL4 : Hid (w4.heap[ob]? = some (.cells #[.string m2, .string m1, .string ⟨#[]⟩, .string m4, .int .i64 m5, .int .i64 m6, .bool false, .slice none 0 0] 42 (0, 0))) := hbl4
      have HB4 : Hid (Below w3.heap.size w3 w4 ∧ w3.heap.size ≤ ob ∧ ob < w4.heap.size ∧ w.heap.size < ob) := ⟨hb4, hob, hz4, hxob⟩
      have HMB4 : Hid (w4.heap[w.heap.size]? = some (.cells #[.string m1, .string m2, .string ⟨#[115, 101, 97, 108]⟩, .string m4, .int .i64 m5, .int .i64 m6, .bool m7, .slice lp mL.length lc] 42 (0, 0))) := hmb4
      have HHD4 : Hid (HdOf w4 hk (Sh2 ii) Lh sh) := HHD3.out.below hb4
      have HKM : Hid (m4.size ≤ maxLen) := by have := HRM.out.1.2.2.2; show m4.size ≤ maxLen; unfold maxLen; dsimp only at this; omega
      have HSL := seals_any HHD4.out
      clear hmb4 hbl4 hb4 hob hz4 hxob
      go_wp2_with fail
      refine HSL.mono ?_
      rintro e w5 ⟨rfl, Sn, hH5, hU5⟩
      clear HSL k2
      have hz4 := HB4.out.2.2.1
      have hob := HB4.out.2.1
      have hnob : ¬ Sh2 ii ob := fun hs => by have := (HSUB.out ob hs).2; omega
      have hnx : ¬ Sh2 ii w.heap.size := fun hs => HNB.out.1 (HSUB.out _ hs).1
      have hbl5 := (hU5.block ob hz4 hnob).trans HBL4.out
      have hmb5 := (hU5.block w.heap.size (by have := HB4.out.2.2.2; omega) hnx).trans HMB4.out
      have hlt5 : ∀ k, Sn k → k < w5.heap.size := fun k hk => by obtain ⟨_, _, _, _, hd⟩ := hH5; exact hd.inS k hk
      have hF5 : (my.put ii (Lh, true)).Fine := HFM.out.put_ HI3.out (by rw [HLH.out]; exact HFM.out.held ii) (by rw [HLH.out]; exact HFM.out.names ii)
      have hT := (HP3.out.below HB4.out.1).turn HI3.out (L' := Lh) (s' := true) (by rw [HBB.out]; exact hH5) hU5 hlt5 hF5
      have HP5 : Hid (PSv w5 B h (fun k => S2 k ∨ Sn k) (my.put ii (Lh, true)) mp2 D2 hb2 (fun j => if j = ii then Sn else Sh2 j)) := hT.1
      have HU5 : Hid (Upd S (fun k => S2 k ∨ Sn k) w w5) := (HU2.out.trans (Upd.of_below HB4.out.1)).trans hT.2
      have HZ5 : Hid (ob < w5.heap.size) := Nat.lt_of_lt_of_le hz4 hU5.size
      have HNS5 : Hid (¬ (S2 ob ∨ Sn ob)) := fun hs => by
        rcases hs with hs | hs
        · have := (HP3.out.inB ob hs).2; omega
        · rcases hU5.new ob hs with h1 | h1
          · exact hnob h1
          · omega
      obtain ⟨_, _, _, _, hd5⟩ := hH5
      have HGE := getO_any hd5 m4 HKM.out
      have k3 : w5.cell? ⟨w.heap.size, 3, none⟩ = some (.string m4) := by simp [World.cell?, hmb5]
      have HBL5 : Hid (w5.heap[ob]? = some (.cells #[.string m2, .string m1, .string ⟨#[]⟩, .string m4, .int .i64 m5, .int .i64 m6, .bool false, .slice none 0 0] 42 (0, 0))) := hbl5
      clear hd5 hT hU5 hlt5 hF5 hnob hnx hbl5 hmb5 hz4 hob
      go_wp2_with fail
      refine HGE.mono ?_
      rintro e w6 ⟨⟨v, rfl, hO6⟩, hb6⟩
      obtain ⟨pv, cv, rfl, _⟩ := hO6.form
      have hbl6 := (hb6.block ob HZ5.out).trans HBL5.out
      have o2 : w6.cell? ⟨ob, 2, none⟩ = some (.string ⟨#[]⟩) := by simp [World.cell?, hbl6]
      have o7 : w6.cell? ⟨ob, 7, none⟩ = some (.slice none 0 0) := by simp [World.cell?, hbl6]
      have fz : ∀ j, w6.frozen? ⟨ob, j, none⟩ = false := fun j => by simp [World.frozen?, hbl6]
      obtain ⟨w7, hw7⟩ : ∃ w7, w7 = w6.setCell ⟨ob, 2, none⟩ (.string ⟨#[115, 101, 97, 108, 101, 100]⟩) := ⟨_, rfl⟩
      obtain ⟨w8, hw8⟩ : ∃ w8, w8 = w7.setCell ⟨ob, 7, none⟩ (.slice pv (getL Lh m4).length cv) := ⟨_, rfl⟩
      have hbl7 : w7.heap[ob]? = some (.cells #[.string m2, .string m1, .string ⟨#[115, 101, 97, 108, 101, 100]⟩, .string m4, .int .i64 m5, .int .i64 m6, .bool false, .slice none 0 0] 42 (0, 0)) := by rw [hw7]; exact blk_setG hbl6 2 _
      have hbl8 : w8.heap[ob]? = some (.cells #[.string m2, .string m1, .string ⟨#[115, 101, 97, 108, 101, 100]⟩, .string m4, .int .i64 m5, .int .i64 m6, .bool false, .slice pv (getL Lh m4).length cv] 42 (0, 0)) := by rw [hw8]; exact blk_setG hbl7 7 _
      have p7 : w7.cell? ⟨ob, 7, none⟩ = some (.slice none 0 0) := by simp [World.cell?, hbl7]
      have fz7 : ∀ j, w7.frozen? ⟨ob, j, none⟩ = false := fun j => by simp [World.frozen?, hbl7]
      have q0 : w8.cell? ⟨ob, 0, none⟩ = some (.string m2) := by simp [World.cell?, hbl8]
      have q1 : w8.cell? ⟨ob, 1, none⟩ = some (.string m1) := by simp [World.cell?, hbl8]
      have q2 : w8.cell? ⟨ob, 2, none⟩ = some (.string ⟨#[115, 101, 97, 108, 101, 100]⟩) := by simp [World.cell?, hbl8]
      have q3 : w8.cell? ⟨ob, 3, none⟩ = some (.string m4) := by simp [World.cell?, hbl8]
      have q4 : w8.cell? ⟨ob, 4, none⟩ = some (.int .i64 m5) := by simp [World.cell?, hbl8]
      have q5 : w8.cell? ⟨ob, 5, none⟩ = some (.int .i64 m6) := by simp [World.cell?, hbl8]
      have q6 : w8.cell? ⟨ob, 6, none⟩ = some (.bool false) := by simp [World.cell?, hbl8]
      have q7 : w8.cell? ⟨ob, 7, none⟩ = some (.slice pv (getL Lh m4).length cv) := by simp [World.cell?, hbl8]
      have hs58 : ∀ k, k < w5.heap.size → k ≠ ob → w8.heap[k]? = w5.heap[k]? := fun k hk hne => by rw [hw8, Below.heap_setCell _ _ _ _ hne, hw7, Below.heap_setCell _ _ _ _ hne]; exact hb6.block k hk
      have h58 : Below ob w5 w8 := by rw [hw8, hw7]; exact (((hb6.mono (Nat.le_of_lt HZ5.out)).setCell (p := ⟨ob, 2, none⟩) (Nat.le_refl ob) _).setCell (p := ⟨ob, 7, none⟩) (Nat.le_refl ob) _)
      have hO8 : OwnR verE 59 w8 w5.heap.size (.slice pv (getL Lh m4).length cv) (getL Lh m4) := by rw [hw8, hw7]; exact OwnR.setC (OwnR.setC hO6 (b := ob) HZ5.out 2 _) (b := ob) HZ5.out 7 _
      have HFIN : Hid (∀ w9 c, w9 = w8.alloc (.cells #[.string m2, .string m1, .string ⟨#[115, 101, 97, 108, 101, 100]⟩, .string m4, .int .i64 m5, .int .i64 m6, .bool false, .slice pv (getL Lh m4).length cv] 42) → HearP w B h S m ⟨m1, m2, ⟨#[115, 101, 97, 108]⟩, m4, m5, m6, m7, mL⟩ (.returned (.slice (some ⟨w8.heap.size, 0, none⟩) 1 c)) w9) := fun w9 c hw9 => by
        have h89 : Below w8.heap.size w8 w9 := by rw [hw9]; exact (Below.refl _ _).alloc (Nat.le_refl _) _
        have hwob : w.heap.size ≤ ob := by have := HB4.out.2.2.2; omega
        have h59 : Below w.heap.size w5 w9 := (h58.mono hwob).trans (h89.mono (by have := h58.size; have := HZ5.out; omega))
        refine hearP_one (y := (⟨m2, m1, kShut, m4, m5, m6, false, getL Lh m4⟩, (pv, (getL Lh m4).length, cv))) (t := 42) HP5.out HU5.out h59 (fun k hk => ?_) ?_ (hasL_own (hO8.kept h89)) h58.size (fun b o e => ?_) ?_
        · rw [h89.block k (by have := (HP5.out.inB k hk).2; have := h58.size; omega)]
          exact hs58 k (HP5.out.inB k hk).2 (fun e => HNS5.out (by rw [← e]; exact hk))
        · rw [hw9]
          show (w8.heap.push _)[w8.heap.size]? = _
          simp
          rfl
        · have e' : pv = some ⟨b, o, none⟩ := e
          have hb8 := hO8.block (k := b) (by rw [e']; rfl)
          exact ⟨hb8.1, Nat.lt_of_lt_of_le hb8.2 h89.size⟩
        · rw [hear_on HTO.out HAS.out]
          show (match m.held m6 with | none => (m, []) | some m1' => m1'.does (cfdI m.L m6) _) = _
          rw [HHD.out]
          show my.does (cfdI m.L m6) _ = _
          unfold MMem.does
          rw [if_neg (show ¬ (⟨m1, m2, ⟨#[115, 101, 97, 108]⟩, m4, m5, m6, m7, mL⟩ : Msg).kind = kLook from (by decide : ¬ kSeal = kLook)), if_pos (show (⟨m1, m2, ⟨#[115, 101, 97, 108]⟩, m4, m5, m6, m7, mL⟩ : Msg).kind = kSeal from rfl), HII.out, ← HLH.out]
          show (my.put ii (Lh, true), [(⟨my.name, m1, kShut, m4, m5, m6, false, getL Lh m4⟩ : Msg)]) = _
          rw [HNM.out, ← HTO.out]
      have HW7 : Hid (w7 = w6.setCell ⟨ob, 2, none⟩ (.string ⟨#[115, 101, 97, 108, 101, 100]⟩)) := hw7
      have HW8 : Hid (w8 = w7.setCell ⟨ob, 7, none⟩ (.slice pv (getL Lh m4).length cv)) := hw8
      clear hw7 hw8 hbl6 hbl7 hbl8 h58 hs58 hO8 hO6 hb6 HGE k3
      go_wp2_with (first | rw [← HW7.out] | rw [← HW8.out])
      go_ret
      exact HFIN.out _ _ rfl
end Go.Proofs.YtcoecfpkihakoaaGreatDoor
