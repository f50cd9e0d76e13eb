/- The walk of the law ServeHears, over what package serve is asked. -/
import Derived.Test.YtcoecfpkihakoaaGreatDoorSvRB
import Derived.Test.YtcoecfpkihakoaaGreatDoorGz7
import Derived.Test.YtcoecfpkihakoaaGreatDoorGz8
import Derived.Test.YtcoecfpkihakoaaGreatDoorAsHoldW
import Derived.Test.YtcoecfpkihakoaaGreatDoorGz6
import Derived.Deep.RegionHeld3
import Derived.Deep.CutRange
import Derived.BigQuiet
namespace Go.Proofs.YtcoecfpkihakoaaGreatDoor
open Go.RowKit
variable {ad : Nat → Addr} {X : World → Prop} {Hd : World → Nat → (Nat → Prop) → List Kep → Bool → Prop} {Sv : World → Nat → Nat → (Nat → Prop) → MMem → Prop}
theorem smid_row {B h ab M : Nat} {W : World} {m m' : MMem} (hm : SMid Sv B h ab M W m m') : ∃ p c, W.cell? ⟨ab, 1, none⟩ = some (.slice p m.L.length c) := by
  obtain ⟨S, S', lv, bs, h1, h2, _⟩ := hm
  obtain ⟨p, c, e, _⟩ := h2.row.form
  rw [ofB_length h2.len] at e
  exact ⟨p, c, by rw [← e]; simp [World.cell?, h2.blk]⟩
theorem smid_cells {B h ab M : Nat} {W : World} {m m' : MMem} (hm : SMid Sv B h ab M W m m') {i : Nat} (hi : i < m.L.length) : ∃ lb lo lc, W.cell? ⟨ab, 1, none⟩ = some (.slice (some ⟨lb, lo, none⟩) m.L.length lc) ∧ W.cell? ⟨lb, lo + i * 2, none⟩ = some (.int .i64 (cfdAt m.L i).1) := by
  obtain ⟨S, S', lv, bs, h1, h2, _⟩ := hm
  obtain ⟨lb, lo, lc, k1, k2, k3, k4⟩ := h2.cells hi
  exact ⟨lb, lo, lc, by rw [← k1]; simp [World.cell?, h2.blk], k3⟩
theorem smid_none {B h ab M : Nat} {W : World} {m : MMem} (hO : ServeOk ad X Hd Sv) (hm : SMid Sv B h ab M W m m) {c : Int} (hci : CfIn c) (hc : ∀ j, j < m.L.length → (cfdAt m.L j).1 ≠ c) : Calls Tryz.prog 14 #[.pointer (some ⟨h, 0, none⟩), .int .i64 c] W fun e w' => e = .returned (.pointer none) ∧ Below W.heap.size W w' := by
  obtain ⟨S, S', lv, bs, h1, h2, _⟩ := hm
  refine (hO.hold c hci h1).mono fun e w' hq => ?_
  rcases hq.1 with ⟨hlt, _⟩ | ⟨_, e1⟩
  · exact absurd hlt (cfdI_none hc)
  · exact ⟨e1, hq.2⟩
theorem smid_wipe {B h ab M : Nat} {w W : World} {m : MMem} (hO : ServeOk ad X Hd Sv) (hm : SMid Sv B h ab M W m m) (hwB : w.heap.size ≤ B) (hb : Below w.heap.size w W) : Calls Tryz.prog 16 #[.pointer (some ⟨h, 0, none⟩)] W fun e w' => e = .returned (.tuple #[]) ∧ Hid (∀ c, CfIn c → Calls Tryz.prog 14 #[.pointer (some ⟨h, 0, none⟩), .int .i64 c] w' fun e w'' => e = .returned (.pointer none) ∧ Below w.heap.size w w'') := by
  obtain ⟨S, S', lv, bs, h1, h2, _⟩ := hm
  refine (hO.wipe h1).mono fun e w' hq => ?_
  obtain ⟨e1, S1, g1, g2⟩ := hq
  have hb' : Below w.heap.size w w' := hb.trans ⟨g2.os, g2.tape, g2.output, g2.size, fun k hk => g2.block k (Nat.lt_of_lt_of_le hk hb.size) (fun hS => by have := (hO.inS h1 k hS).1; omega)⟩
  refine ⟨e1, fun c hci => (hO.hold c hci g1).mono fun e w'' hq => ?_⟩
  rcases hq.1 with ⟨hlt, _⟩ | ⟨_, e1⟩
  · exact absurd hlt (Nat.not_lt_zero _)
  · exact ⟨e1, hb'.trans (hq.2.mono hb'.size)⟩
/-- The document's own member as it is made, beside the program's. -/
theorem smid_new {w2 w3 w4 : World} {h : Nat} {S : Nat → Prop} {name : ByteArray} (hO : ServeOk ad X Hd Sv) (hS : Sv w3 w2.heap.size h S ⟨name, []⟩) (hb : w2.heap.size ≤ w3.heap.size) (hw4 : w4 = w3.alloc (.cells #[.string name, .slice none 0 0, .bool false] 35)) : SMid Sv w2.heap.size h w3.heap.size w4.heap.size w4 ⟨name, []⟩ ⟨name, []⟩ := by
  have hb4 : Below w3.heap.size w3 w4 := by rw [hw4]; exact (Below.refl _ _).alloc (Nat.le_refl _) _
  have hz4 : w4.heap.size = w3.heap.size + 1 := by rw [hw4]; simp
  refine ⟨S, fun k => k = w3.heap.size, .slice none 0 0, [], hO.keep hS (hb4.mono hb) (fun k hk => hb4.block k (hO.inS hS k hk).2), ⟨?_, OwnR.nil _ _ _, rfl, fun i _ hi => absurd hi (Nat.not_lt_zero _), fun i hi => absurd hi (Nat.not_lt_zero _), rfl, (fun k hk => by cases hk), fun i hi => absurd hi (Nat.not_lt_zero _), fun i hi => absurd hi (Nat.not_lt_zero _), fun k hk => by subst hk; exact ⟨hb, by omega⟩⟩, fun k hk hk' => ?_, fun k hk => by subst hk; omega, Nat.le_refl _⟩
  · rw [hw4]
    show (w3.heap.push _)[w3.heap.size]? = _
    simp
  · have := (hO.inS hS k hk).2
    omega
set_option maxRecDepth 10000 in
set_option maxHeartbeats 16000000 in
theorem serveHears_long (hO : ServeOk ad X Hd Sv) (name : ByteArray) (l : List Msg) (lp : Option Addr) (lcap : Nat) (c : Int) (w : World) (hi : SvIn X l lp w) (h1 : 100 < name.size) : Calls Tryz.prog 3 #[.string name, .slice lp l.length lcap, .int .i64 c] w fun e w' => e = .returned (.bool true) ∧ Below w.heap.size w w' := by
  have HAS := answers_any hO.toServeOk0 w hi.errs
  have n1 : decide ((100 : Int) < (name.size : Int)) = true := decide_eq_true (by omega)
  clear hi hO
  go_enter Tryz.func3, Tryz.ntmps3
  go_wp2_with fail
  refine HAS.mono ?_
  rintro e w1 ⟨rfl, hb1⟩
  have HB1 : Hid (Below w.heap.size w w1) := hb1
  clear hb1 HAS
  go_wp2_with fail
  go_ret
  exact ⟨rfl, HB1.out⟩
set_option maxRecDepth 10000 in
set_option maxHeartbeats 16000000 in
theorem serveHears_much (hO : ServeOk ad X Hd Sv) (name : ByteArray) (l : List Msg) (lp : Option Addr) (lcap : Nat) (c : Int) (w : World) (hi : SvIn X l lp w) (h1 : ¬ 100 < name.size) (h2 : fitsX l = false) : Calls Tryz.prog 3 #[.string name, .slice lp l.length lcap, .int .i64 c] w fun e w' => e = .returned (.bool true) ∧ Below w.heap.size w w' := by
  have HAS := answers_any hO.toServeOk0 w hi.errs
  have HMF : Hid (∀ W, Below w.heap.size w W → Calls Tryz.prog 5 #[.slice lp l.length lcap] W fun e w' => e = .returned (.bool (fitsX l)) ∧ Below w.heap.size w w') := fun W hW => (messagesFit_all lp l lcap W hi.few hi.room (hi.msgs.below hW)).mono fun e w' hq => ⟨hq.1, hW.trans (hq.2.mono hW.size)⟩
  rw [h2] at HMF
  have n1 : decide ((100 : Int) < (name.size : Int)) = false := decide_eq_false (by omega)
  clear hi hO
  go_enter Tryz.func3, Tryz.ntmps3
  go_wp2_with fail
  refine HAS.mono ?_
  rintro e w1 ⟨rfl, hb1⟩
  have HM1 := HMF.out w1 hb1
  clear hb1 HAS
  go_wp2_with fail
  refine HM1.mono ?_
  rintro e w2 ⟨rfl, hb2⟩
  have HB2 : Hid (Below w.heap.size w w2) := hb2
  clear hb2 HM1
  go_wp2
  go_ret
  exact ⟨rfl, HB2.out⟩
set_option maxRecDepth 10000 in
set_option maxHeartbeats 16000000 in
theorem serveHears_name (hO : ServeOk ad X Hd Sv) (name : ByteArray) (l : List Msg) (lp : Option Addr) (lcap : Nat) (c : Int) (w : World) (hi : SvIn X l lp w) (hsent : ∀ V : World, Below w.heap.size w V → Sent V ad) (h1 : ¬ 100 < name.size) (h2 : fitsX l = true) (h3 : isN name = false) : Calls Tryz.prog 3 #[.string name, .slice lp l.length lcap, .int .i64 c] w fun e w' => e = .returned (.bool true) ∧ Below w.heap.size w w' := by
  have HAS := answers_any hO.toServeOk0 w hi.errs
  have HMF : Hid (∀ W, Below w.heap.size w W → Calls Tryz.prog 5 #[.slice lp l.length lcap] W fun e w' => e = .returned (.bool (fitsX l)) ∧ Below w.heap.size w w') := fun W hW => (messagesFit_all lp l lcap W hi.few hi.room (hi.msgs.below hW)).mono fun e w' hq => ⟨hq.1, hW.trans (hq.2.mono hW.size)⟩
  rw [h2] at HMF
  have n1 : decide ((100 : Int) < (name.size : Int)) = false := decide_eq_false (by omega)
  have HNE : Hid (∀ W, Below w.heap.size w W → Calls Tryz.prog 6 #[.string name] W fun e w' => ∃ ev, e = .returned (.tuple #[.pointer none, ev]) ∧ BareIs ad ev 4 ∧ Below w.heap.size w w') := fun W hW => (hO.new name W (by omega) (hi.errs W hW.size (fun k hk => hW.block k hk))).mono fun e w' hq => by
    rcases hq.1 with ⟨h4, _⟩ | ⟨_, ev, e1, e2⟩
    · rw [h3] at h4; cases h4
    · exact ⟨ev, e1, e2, hW.trans (hq.2.mono hW.size)⟩
  have HNM : Hid (∀ W, Calls Tryz.prog 7 #[.string name] W fun e w' => e = .returned (.bool false) ∧ w' = W) := fun W => by rw [← h3]; exact isNameBig_any name W
  have HSE : Hid (∀ V : World, Below w.heap.size w V → Sent V ad) := hsent
  clear hi hO h2 h3 hsent
  go_enter Tryz.func3, Tryz.ntmps3
  go_wp2_with fail
  refine HAS.mono ?_
  rintro e w1 ⟨rfl, hb1⟩
  have HM1 := HMF.out w1 hb1
  clear hb1 HAS HMF
  go_wp2_with fail
  refine HM1.mono ?_
  rintro e w2 ⟨rfl, hb2⟩
  have HN2 := HNE.out w2 hb2
  clear hb2 HM1 HNE
  go_wp2_with fail
  refine HN2.mono ?_
  rintro e w3 ⟨ev, rfl, hev, hb3⟩
  have HN3 := HNM.out w3
  have HB3 : Hid (Below w.heap.size w w3) := hb3
  have HCO := coded2_any hev w3 (HSE.out w3 hb3)
  have hei : ∃ t v, ev = .iface t v := by
    rcases hev with ⟨_, h4⟩ | ⟨j, _, e, _⟩
    · exact absurd h4 (by decide)
    · exact ⟨_, _, e⟩
  obtain ⟨et, ee, rfl⟩ := hei
  clear hev hb3 HN2 HNM
  go_wp2_with fail
  refine HN3.mono ?_
  rintro e w4 ⟨rfl, hw4⟩
  rw [hw4]
  clear hw4 w4 HN3
  go_wp2_with fail
  refine HCO.mono ?_
  rintro e w5 ⟨rfl, hb5⟩
  have HB5 : Hid (Below w.heap.size w w5) := HB3.out.trans (hb5.mono HB3.out.size)
  clear hb5 HCO
  go_wp2
  go_ret
  exact ⟨rfl, HB5.out⟩
set_option maxRecDepth 10000 in
set_option maxHeartbeats 16000000 in
theorem serveHears_fine (hO : ServeOk ad X Hd Sv) (name : ByteArray) (l : List Msg) (lp : Option Addr) (lcap : Nat) (c : Int) (w : World) (hi : SvIn X l lp w) (hc : CfIn c) (h1 : ¬ 100 < name.size) (h2 : fitsX l = true) (h3 : isN name = true) : Calls Tryz.prog 3 #[.string name, .slice lp l.length lcap, .int .i64 c] w fun e w' => e = .returned (.bool true) ∧ Below w.heap.size w w' := by
  have HAS := answers_any hO.toServeOk0 w hi.errs
  have HMF : Hid (∀ W, Below w.heap.size w W → Calls Tryz.prog 5 #[.slice lp l.length lcap] W fun e w' => e = .returned (.bool (fitsX l)) ∧ Below w.heap.size w w') := fun W hW => (messagesFit_all lp l lcap W hi.few hi.room (hi.msgs.below hW)).mono fun e w' hq => ⟨hq.1, hW.trans (hq.2.mono hW.size)⟩
  rw [h2] at HMF
  have n1 : decide ((100 : Int) < (name.size : Int)) = false := decide_eq_false (by omega)
  have HNE : Hid (∀ W, Below w.heap.size w W → Calls Tryz.prog 6 #[.string name] W fun e w' => ∃ h S, e = .returned (.tuple #[.pointer (some ⟨h, 0, none⟩), .nilIface]) ∧ Sv w' W.heap.size h S ⟨name, []⟩ ∧ Below W.heap.size W w') := fun W hW => (hO.new name W (by omega) (hi.errs W hW.size (fun k hk => hW.block k hk))).mono fun e w' hq => by
    rcases hq.1 with ⟨_, h, S, e1, e2⟩ | ⟨h4, _⟩
    · exact ⟨h, S, e1, e2, hq.2⟩
    · rw [h3] at h4; cases h4
  have HNM : Hid (∀ W, Calls Tryz.prog 7 #[.string name] W fun e w' => e = .returned (.bool true) ∧ w' = W) := fun W => by rw [← h3]; exact isNameBig_any name W
  have HFT : Hid (∀ m ∈ l, MsgR m) := hi.room
  have hll : l.length ≤ 140737488351232 := hi.few
  have HO : Hid (ServeOk ad X Hd Sv) := hO
  have HI : Hid (SvIn X l lp w) := hi
  have HCI : Hid (CfIn c) := hc
  clear hi hO h2 h3 hc
  go_enter Tryz.func3, Tryz.ntmps3
  go_wp2_with fail
  refine HAS.mono ?_
  rintro e w1 ⟨rfl, hb1⟩
  have HM1 := HMF.out w1 hb1
  clear hb1 HAS HMF
  go_wp2_with fail
  refine HM1.mono ?_
  rintro e w2 ⟨rfl, hb2⟩
  have HN2 := HNE.out w2 hb2
  have HB2 : Hid (Below w.heap.size w w2) := hb2
  clear hb2 HM1 HNE
  go_wp2_with fail
  refine HN2.mono ?_
  rintro e w3 ⟨h, S, rfl, hS3, hb3⟩
  have HN3 := HNM.out w3
  have HB3 : Hid (Below w.heap.size w w3) := HB2.out.trans (hb3.mono HB2.out.size)
  obtain ⟨w4, hw4⟩ : ∃ w4, w4 = w3.alloc (.cells #[.string name, .slice none 0 0, .bool false] 35) := ⟨_, rfl⟩
  have HSM4 : Hid (SMid Sv w2.heap.size h w3.heap.size w4.heap.size w4 ⟨name, []⟩ ⟨name, []⟩) := smid_new HO.out hS3 hb3.size hw4
  have HB4 : Hid (Below w.heap.size w w4) := by show Below _ _ _; rw [hw4]; exact HB3.out.alloc HB3.out.size _
  have HW4 : Hid (w4 = w3.alloc (.cells #[.string name, .slice none 0 0, .bool false] 35)) := hw4
  have HWB : Hid (w.heap.size ≤ w2.heap.size) := HB2.out.size
  generalize w2.heap.size = B at *
  clear hS3 hb3 HN2 HNM hw4
  go_wp2_with fail
  refine HN3.mono ?_
  rintro e w5 ⟨rfl, hw5⟩
  rw [hw5]
  clear hw5 w5 HN3
  go_wp2_with (first | rw [← HW4.out])
  clear HW4 n1 HB3
  generalize w3.heap.size = ab at *
  go_loopw [11] (fun x wq => ∃ (i : Nat) (a : MMem), i ≤ l.length ∧ x = .int .i64 i ∧ Hid (a.Fine ∧ a.name = name) ∧ Hid (SMid Sv B h ab wq.heap.size wq a a) ∧ Below w.heap.size w wq) (fun x _ => l.length - (intOf x).toNat)
  case atStart => exact ⟨0, ⟨name, []⟩, Nat.zero_le _, rfl, ⟨MMem.Fine.nil _, rfl⟩, HSM4.out, HB4.out⟩
  case round =>
    obtain ⟨i, a, hi, rfl, HF, HSM, hbq⟩ := hrel
    obtain ⟨w20, rfl⟩ : ∃ w20, w20 = wr := ⟨_, rfl⟩
    have HBQ : Hid (Below w.heap.size w w20) := hbq
    clear hbq HSM4 HB4 HB2
    by_cases hil : i < l.length
    · obtain ⟨mb, mo, m1, m2, m3, m4, m5, m6, m7, mL, lq, lc, r1, r2, rl, hpp, HSC, HWO, HHE, HBW, HRH, HSA, HR1⟩ := svr_all (w20 := w20) (h := h) (ab := ab) HO.out HWB.out HI.out.errs HI.out.msgs HFT.out HI.out.ints hil HF.out.1
      subst hpp
      have HS0 := HSC.out w20.drew HBQ.out.drew
      have HSM20 : Hid (SMid Sv B h ab w20.heap.size w20.drew a a) := HSM.out.below HO.out (Below.refl _ _).drew
      clear HSM
      go_wp2
      go_cut [72] from 51 to 72 (fun v W => v = .bool false ∧ Hid (SMid Sv B h ab W.heap.size W r1 r1) ∧ Below w.heap.size w W)
      case first =>
        refine wp_region_held_drew (S := fun W => (W.cell? ⟨mb, mo + i * 8, none⟩ = some (.string m1) ∧ W.cell? ⟨mb, mo + i * 8 + 1, none⟩ = some (.string m2) ∧ W.cell? ⟨mb, mo + i * 8 + 2, none⟩ = some (.string m3) ∧ W.cell? ⟨mb, mo + i * 8 + 3, none⟩ = some (.string m4) ∧ W.cell? ⟨mb, mo + i * 8 + 4, none⟩ = some (.int .i64 m5) ∧ W.cell? ⟨mb, mo + i * 8 + 5, none⟩ = some (.int .i64 m6) ∧ W.cell? ⟨mb, mo + i * 8 + 6, none⟩ = some (.bool m7) ∧ W.cell? ⟨mb, mo + i * 8 + 7, none⟩ = some (.slice lq mL.length lc) ∧ Below w.heap.size w W)) (by kernel_rfl) HS0 (fun hHeld => ?_)
        refine wpAnyH_take (i := 0) (oi := { dst := some 57, op := Op.move (Operand.tmp 8), type := 25, pos := "parts.go:532", after := #[], guard := none }) (v := ?_) rfl (by kernel_rfl) (by kernel_rfl) (by kernel_rfl) (fun _ _ _ h => h) (Or.inl ⟨by rfl, ?_⟩) hHeld ?_
        rotate_left
        · (intro w hSw; (try dsimp only at hSw); go_simp; try with_reducible rfl)
        try simp only [Act.put, List.setIfInBounds_toArray, List.set_cons_zero, List.set_cons_succ]
        refine wpAnyH_take (i := 1) (oi := { dst := some 58, op := Op.move (Operand.tmp 1), type := 22, pos := "parts.go:532", after := #[], guard := none }) (v := ?_) rfl (by kernel_rfl) (by kernel_rfl) (by kernel_rfl) (fun _ _ _ h => h) (Or.inl ⟨by rfl, ?_⟩) hHeld ?_
        rotate_left
        · (intro w hSw; (try dsimp only at hSw); go_simp; try with_reducible rfl)
        try simp only [Act.put, List.setIfInBounds_toArray, List.set_cons_zero, List.set_cons_succ]
        refine wpAnyH_take (i := 2) (oi := { dst := some 59, op := Op.move (Operand.tmp 11), type := 3, pos := "parts.go:532", after := #[], guard := none }) (v := ?_) rfl (by kernel_rfl) (by kernel_rfl) (by kernel_rfl) (fun _ _ _ h => h) (Or.inl ⟨by rfl, ?_⟩) hHeld ?_
        rotate_left
        · (intro w hSw; (try dsimp only at hSw); go_simp; try with_reducible rfl)
        try simp only [Act.put, List.setIfInBounds_toArray, List.set_cons_zero, List.set_cons_succ]
        refine wpAnyH_take (i := 3) (oi := { dst := some 60, op := Op.indexAddr 22 (Operand.tmp 58) (Operand.tmp 59), type := 0, pos := "parts.go:532", after := #[{ on := 1, ground := Ground.data }, { on := 2, ground := Ground.data }], guard := none }) (v := ?_) rfl (by kernel_rfl) (by kernel_rfl) (by kernel_rfl) (fun _ _ _ h => h) (Or.inl ⟨by rfl, ?_⟩) hHeld ?_
        rotate_left
        · (intro w hSw; (try dsimp only at hSw); go_simp; try with_reducible rfl)
        try simp only [Act.put, List.setIfInBounds_toArray, List.set_cons_zero, List.set_cons_succ]
        refine wpAnyH_take (i := 4) (oi := { dst := some 61, op := Op.load 44 (Operand.tmp 60), type := 44, pos := "parts.go:532", after := #[{ on := 3, ground := Ground.data }], guard := none }) (v := ?_) rfl (by kernel_rfl) (by kernel_rfl) (by kernel_rfl) (fun _ _ _ h => h) (Or.inl ⟨by rfl, ?_⟩) hHeld ?_
        rotate_left
        · (intro w hSw; (try dsimp only at hSw); go_simp; try with_reducible rfl)
        try simp only [Act.put, List.setIfInBounds_toArray, List.set_cons_zero, List.set_cons_succ]
        refine wpAnyH_take (i := 8) (oi := { dst := some 65, op := Op.move (Operand.tmp 10), type := 32, pos := "parts.go:532", after := #[], guard := none }) (v := ?_) rfl (by kernel_rfl) (by kernel_rfl) (by kernel_rfl) (fun _ _ _ h => h) (Or.inl ⟨by rfl, ?_⟩) hHeld ?_
        rotate_left
        · (intro w hSw; (try dsimp only at hSw); go_simp; try with_reducible rfl)
        try simp only [Act.put, List.setIfInBounds_toArray, List.set_cons_zero, List.set_cons_succ]
        refine wpAnyH_take (i := 9) (oi := { dst := some 66, op := Op.move (Operand.tmp 1), type := 22, pos := "parts.go:532", after := #[], guard := none }) (v := ?_) rfl (by kernel_rfl) (by kernel_rfl) (by kernel_rfl) (fun _ _ _ h => h) (Or.inl ⟨by rfl, ?_⟩) hHeld ?_
        rotate_left
        · (intro w hSw; (try dsimp only at hSw); go_simp; try with_reducible rfl)
        try simp only [Act.put, List.setIfInBounds_toArray, List.set_cons_zero, List.set_cons_succ]
        refine wpAnyH_take (i := 10) (oi := { dst := some 67, op := Op.move (Operand.tmp 11), type := 3, pos := "parts.go:532", after := #[], guard := none }) (v := ?_) rfl (by kernel_rfl) (by kernel_rfl) (by kernel_rfl) (fun _ _ _ h => h) (Or.inl ⟨by rfl, ?_⟩) hHeld ?_
        rotate_left
        · (intro w hSw; (try dsimp only at hSw); go_simp; try with_reducible rfl)
        try simp only [Act.put, List.setIfInBounds_toArray, List.set_cons_zero, List.set_cons_succ]
        refine wpAnyH_take (i := 11) (oi := { dst := some 68, op := Op.indexAddr 22 (Operand.tmp 66) (Operand.tmp 67), type := 0, pos := "parts.go:532", after := #[{ on := 9, ground := Ground.data }, { on := 10, ground := Ground.data }], guard := none }) (v := ?_) rfl (by kernel_rfl) (by kernel_rfl) (by kernel_rfl) (fun _ _ _ h => h) (Or.inl ⟨by rfl, ?_⟩) hHeld ?_
        rotate_left
        · (intro w hSw; (try dsimp only at hSw); go_simp; try with_reducible rfl)
        try simp only [Act.put, List.setIfInBounds_toArray, List.set_cons_zero, List.set_cons_succ]
        refine wpAnyH_take (i := 12) (oi := { dst := some 69, op := Op.load 44 (Operand.tmp 68), type := 44, pos := "parts.go:532", after := #[{ on := 11, ground := Ground.data }], guard := none }) (v := ?_) rfl (by kernel_rfl) (by kernel_rfl) (by kernel_rfl) (fun _ _ _ h => h) (Or.inl ⟨by rfl, ?_⟩) hHeld ?_
        rotate_left
        · (intro w hSw; (try dsimp only at hSw); go_simp; try with_reducible rfl)
        try simp only [Act.put, List.setIfInBounds_toArray, List.set_cons_zero, List.set_cons_succ]
        refine wpAnyH_ready (rs := [5]) (by kernel_rfl) (by simp) ?_
        refine AllReadyH.cons (o := { dst := some 62, op := Op.call { callee := Callee.value (Operand.func 12), args := #[Operand.tmp 61], argTypes := #[44] }, type := 42, pos := "parts.go:532", after := #[{ on := 4, ground := Ground.data }], guard := none }) rfl (fun K hK => ?_) AllReadyH.nil
        go_simp
        (go_at_call 12; refine (HWO.out _ (by assumption) (by assumption)).mono ?_; rintro e v1 ⟨q1, d1, rfl, hT1, hS1⟩)
        first | (refine hK.out _ _ ?_ (fun hHeld => ?_)) | (go_wp2_with fail; refine hK.out _ _ ?_ (fun hHeld => ?_))
        · exact hS1
        clear hK K
        try simp only [Act.put, List.setIfInBounds_toArray, List.set_cons_zero, List.set_cons_succ]
        refine wpAnyH_ready (rs := [6]) (by kernel_rfl) (by simp) ?_
        refine AllReadyH.cons (o := { dst := some 63, op := Op.call { callee := Callee.value (Operand.func 11), args := #[Operand.tmp 57, Operand.tmp 62], argTypes := #[25, 42] }, type := 38, pos := "parts.go:532", after := #[{ on := 0, ground := Ground.data }, { on := 5, ground := Ground.data }, { on := 5, ground := Ground.chain }], guard := none }) rfl (fun K hK => ?_) AllReadyH.nil
        go_simp
        (go_at_call 11; refine (HHE.out _ _ _ (by assumption) (by assumption)).mono ?_; rintro e v2 ⟨p2, c2, rfl, hT2, hS2⟩)
        first | (refine hK.out _ _ ?_ (fun hHeld => ?_)) | (go_wp2_with fail; refine hK.out _ _ ?_ (fun hHeld => ?_))
        · exact hS2
        clear hK K
        try simp only [Act.put, List.setIfInBounds_toArray, List.set_cons_zero, List.set_cons_succ]
        refine wpAnyH_ready (rs := [7]) (by kernel_rfl) (by simp) ?_
        refine AllReadyH.cons (o := { dst := some 64, op := Op.call { callee := Callee.value (Operand.func 10), args := #[Operand.tmp 63], argTypes := #[38] }, type := 22, pos := "parts.go:532", after := #[{ on := 6, ground := Ground.data }, { on := 6, ground := Ground.chain }], guard := none }) rfl (fun K hK => ?_) AllReadyH.nil
        go_simp
        (go_at_call 10; refine (HBW.out _ _ _ (by assumption) (by assumption)).mono ?_; rintro e v3 ⟨p3, c3, rfl, hT3, hS3⟩)
        first | (refine hK.out _ _ ?_ (fun hHeld => ?_)) | (go_wp2_with fail; refine hK.out _ _ ?_ (fun hHeld => ?_))
        · exact hS3
        clear hK K
        try simp only [Act.put, List.setIfInBounds_toArray, List.set_cons_zero, List.set_cons_succ]
        refine wpAnyH_ready (rs := [13]) (by kernel_rfl) (by simp) ?_
        refine AllReadyH.cons (o := { dst := some 70, op := Op.call { callee := Callee.value (Operand.func 13), args := #[Operand.tmp 65, Operand.tmp 69], argTypes := #[32, 44] }, type := 22, pos := "parts.go:532", after := #[{ on := 8, ground := Ground.data }, { on := 12, ground := Ground.data }, { on := 7, ground := Ground.chain }], guard := none }) rfl (fun K hK => ?_) AllReadyH.nil
        go_simp
        (go_at_call 13; refine (HRH.out _ p3 (by assumption) (by assumption)).mono ?_; rintro e v4 ⟨q4, d4, rfl, hT4, hS4⟩)
        first | (refine hK.out _ _ ?_ (fun hHeld => ?_)) | (go_wp2_with fail; refine hK.out _ _ ?_ (fun hHeld => ?_))
        · exact hS4
        clear hK K
        try simp only [Act.put, List.setIfInBounds_toArray, List.set_cons_zero, List.set_cons_succ]
        refine wpAnyH_ready (rs := [14]) (by kernel_rfl) (by simp) ?_
        refine AllReadyH.cons (o := { dst := some 71, op := Op.call { callee := Callee.value (Operand.func 9), args := #[Operand.tmp 64, Operand.tmp 70], argTypes := #[22, 22] }, type := 4, pos := "parts.go:532", after := #[{ on := 7, ground := Ground.data }, { on := 13, ground := Ground.data }, { on := 13, ground := Ground.chain }], guard := none }) rfl (fun K hK => ?_) AllReadyH.nil
        go_simp
        (go_at_call 9; refine (HSA.out _ _ _ _ _ (by assumption) (by assumption)).mono ?_; rintro e v5 ⟨rfl, hT5, hS5⟩)
        first | (refine hK.out _ _ ?_ (fun hHeld => ?_)) | (go_wp2_with fail; refine hK.out _ _ ?_ (fun hHeld => ?_))
        · exact hS5
        clear hK K
        try simp only [Act.put, List.setIfInBounds_toArray, List.set_cons_zero, List.set_cons_succ]
        refine wpAnyH_take (i := 15) (oi := { dst := some 72, op := Op.unOp UnOp.not 4 (Operand.tmp 71), type := 4, pos := "parts.go:532", after := #[{ on := 14, ground := Ground.data }], guard := none }) (v := ?_) rfl (by kernel_rfl) (by kernel_rfl) (by kernel_rfl) (fun _ _ _ h => h) (Or.inl ⟨by rfl, ?_⟩) hS5 ?_
        rotate_left
        · (intro w hSw; (try dsimp only at hSw); go_simp; try with_reducible rfl)
        try simp only [Act.put, List.setIfInBounds_toArray, List.set_cons_zero, List.set_cons_succ]
        refine wpAnyH_done (by kernel_rfl) ?_ _
        clear HWO HHE HBW HRH HSA HS0 HSM20
        go_wp2_with fail
        go_meet
        exact ⟨rfl, hT5, hS5.2.2.2.2.2.2.2.2⟩
      case rest =>
        obtain ⟨rfl, HSR, hbr⟩ := hcut
        have HBR : Hid (Below w.heap.size w wc) := hbr
        clear hbr HWO HHE HBW HRH HSA HS0 HSM20 HSC
        go_wp2
        go_roundw
        case rel => exact ⟨i + 1, r1, by omega, by go_num, ⟨HR1.out.1, HR1.out.2.trans HF.out.2⟩, HSR, HBR.out⟩
        case measure => simp [intOf]; omega
    · have hie : i = l.length := by omega
      clear hil
      go_wp2
      have hF := HF.out.1
      have han : a.L.length ≤ 12 := hF.few
      obtain ⟨n, hn⟩ : ∃ n, n = a.L.length := ⟨_, rfl⟩
      have HN : Hid (n = a.L.length) := hn
      rw [← hn] at han
      have HFI : Hid a.Fine := hF
      clear hF hn hie
      go_loopw [12] (fun x wq => ∃ j : Nat, j ≤ n ∧ x = .int .i64 j ∧ Hid (∀ j', j' < j → (cfdAt a.L j').1 ≠ c) ∧ Hid (SMid Sv B h ab wq.heap.size wq a a) ∧ Below w.heap.size w wq) (fun x _ => n - (intOf x).toNat)
      case atStart => exact ⟨0, Nat.zero_le _, rfl, fun j' hj' => absurd hj' (Nat.not_lt_zero _), HSM.out, HBQ.out⟩
      case round =>
        obtain ⟨j, hj, rfl, HNO, HSM3, hb3⟩ := hrel
        obtain ⟨w30, rfl⟩ : ∃ w30, w30 = wr := ⟨_, rfl⟩
        have HB30 : Hid (Below w.heap.size w w30) := hb3
        clear hb3 HSM HBQ
        by_cases hjn : j < n
        · have hjL : j < a.L.length := by rw [← HN.out]; exact hjn
          obtain ⟨lb, lo, lc, c1, c2⟩ := smid_cells HSM3.out hjL
          have HHL := smid_hold HO.out HFI.out HSM3.out hjL
          rw [← HN.out] at c1 HHL
          have HJL : Hid (j < a.L.length) := hjL
          clear hjL
          generalize hcj : (cfdAt a.L j).1 = cj at *
          have HCJ : Hid ((cfdAt a.L j).1 = cj) := hcj
          clear hcj
          go_wp2_with fail
          refine HHL.mono ?_
          rintro e w31 ⟨hb, rfl, ⟨Sh, bb, lb1, lo1, lc1, k1, k4, hTw⟩, hSM31, hb31⟩
          have HAH := asHold_any HO.out.see B hb bb _ _ Sh w31 hTw
          have HB31 : Hid (Below w.heap.size w w31) := HB30.out.trans (hb31.mono HB30.out.size)
          have HS31 : Hid (SMid Sv B h ab w30.heap.size w31 a a) := hSM31
          clear hTw hSM31 hb31 HHL c1 c2 HSM3
          go_wp2_with fail
          refine HAH.mono ?_
          rintro e w32 ⟨rfl, hb32⟩
          have HB32 : Hid (Below w.heap.size w w32) := HB31.out.trans (hb32.mono HB31.out.size)
          have HS32 : Hid (SMid Sv B h ab w32.heap.size w32 a a) := (HS31.out.below HO.out hb32).up
          obtain ⟨lb2, lo2, lc2, c3, c4⟩ := smid_cells HS32.out HJL.out
          rw [HCJ.out] at c4
          rw [← HN.out] at c3
          clear hb32 HAH k1 k4 HS31 HB31
          by_cases hcc : cj = c
          · subst hcc
            have HWP := smid_wipe HO.out HS32.out HWB.out HB32.out
            clear HB32
            go_wp2_with fail
            refine HWP.mono ?_
            rintro e w33 ⟨rfl, HHN⟩
            have HH := HHN.out cj HCI.out
            clear HWP HHN c3 c4
            go_wp2_with fail
            refine HH.mono ?_
            rintro e w34 ⟨rfl, hb34⟩
            have HB34 : Hid (Below w.heap.size w w34) := hb34
            clear HH hb34
            go_wp2
            go_ret
            exact ⟨rfl, HB34.out⟩
          · have n2 : (cj == c) = false := by simpa using hcc
            have HCC : Hid (cj ≠ c) := hcc
            clear hcc
            go_wp2
            go_roundw
            case rel => exact ⟨j + 1, by omega, by go_num, fun j' hj' => by
              rcases Nat.lt_or_ge j' j with h9 | h9
              · exact HNO.out j' h9
              · obtain rfl : j' = j := by omega
                rw [HCJ.out]; exact HCC.out, HS32.out, HB32.out⟩
            case measure => simp [intOf]; omega
        · have hje : j = n := by omega
          obtain ⟨p, pc, c1⟩ := smid_row HSM3.out
          rw [← HN.out] at c1
          have HHL := smid_none (c := c) HO.out HSM3.out HCI.out (fun j' hj' => HNO.out j' (by rw [hje, HN.out]; exact hj'))
          clear hje
          go_wp2_with fail
          refine HHL.mono ?_
          rintro e w31 ⟨rfl, hb31⟩
          have HB31 : Hid (Below w.heap.size w w31) := HB30.out.trans (hb31.mono HB30.out.size)
          clear HHL hb31 c1
          go_wp2
          go_ret
          exact ⟨rfl, HB31.out⟩
/-- The law ServeHears is true. -/
theorem serveHears_any (hO : ServeOk ad X Hd Sv) (name : ByteArray) (l : List Msg) (lp : Option Addr) (lcap : Nat) (c : Int) (w : World) (hi : SvIn X l lp w) (hsent : ∀ V : World, Below w.heap.size w V → Sent V ad) (hc : CfIn c) : Calls Tryz.prog 3 #[.string name, .slice lp l.length lcap, .int .i64 c] w fun e w' => e = .returned (.bool true) ∧ Below w.heap.size w w' := by
  by_cases h1 : 100 < name.size
  · exact serveHears_long hO name l lp lcap c w hi h1
  · cases h2 : fitsX l with
    | false => exact serveHears_much hO name l lp lcap c w hi h1 h2
    | true =>
      cases h3 : isN name with
      | false => exact serveHears_name hO name l lp lcap c w hi hsent h1 h2 h3
      | true => exact serveHears_fine hO name l lp lcap c w hi hc h1 h2 h3
end Go.Proofs.YtcoecfpkihakoaaGreatDoor
