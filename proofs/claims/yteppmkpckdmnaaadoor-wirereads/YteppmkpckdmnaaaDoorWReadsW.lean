/- WireReads, walked over what package wire is asked. -/
import Derived.Test.YteppmkpckdmnaaaDoorWReadsB
namespace Go.Proofs.YteppmkpckdmnaaaDoor
open Go.RowKit
set_option maxRecDepth 10000 in
set_option maxHeartbeats 8000000 in
theorem wireReads_true {ad : Nat → Addr} {X : World → Prop} (hO : WireOk ad X) (s y : ByteArray) (w : World) (hs : s.size ≤ 4100) (hy : y.size ≤ 4104) (hS : ∀ W, Below w.heap.size w W → Sent W ad) (hX : ∀ W, Below w.heap.size w W → X W) (hE : ∀ W, Calls Tryd.prog 14 #[.string s] W fun e w' => e = .returned (.string y) ∧ Below W.heap.size W w') :
    Calls Tryd.prog 4 #[.string s, .bool true] w fun e w' => e = .returned (.bool true) ∧ Below w.heap.size w w' := by
  have HWD := wired_any hO w hS hX
  have HSN : Hid (∀ W, Below w.heap.size w W → Sent W ad) := hS
  have HXX : Hid (∀ W, Below w.heap.size w W → X W) := hX
  have HO : Hid (WireOk ad X) := hO
  have d0 : decide (4100 < (s.size : Int)) = false := decide_eq_false (by omega)
  have HDE : Hid (∀ W, Below w.heap.size w W → Calls Tryd.prog 11 #[.string y] W fun e w' => (∃ ev p c, e = .returned (.tuple #[msgA (msgOf (decE y)) (.slice p (msgOf (decE y)).L.length c), ev]) ∧ BareIs ad ev (decE y).1 ∧ Rec verE w' p (msgOf (decE y)).L ∧ (p = none → (msgOf (decE y)).L = [] ∧ c = 0)) ∧ Below W.heap.size W w') := fun W hW => (hO.decode y W (by omega) (hS W hW) (hX W hW)).mono fun e w' hp => ⟨decP_one hp.1, hp.2⟩
  have HUN : Hid (∀ W, Calls Tryd.prog 15 #[.string y] W fun e w' => (∃ p c, e = .returned (.tuple #[msgA (msgOf (decE y)) (.slice p (msgOf (decE y)).L.length c), .int .i64 (decE y).1]) ∧ Rec verE w' p (msgOf (decE y)).L) ∧ Below W.heap.size W w') := fun W => (runw_any y W (by omega)).mono fun e w' hp => ⟨decIs_one hp.1, hp.2⟩
  have hcs := dec_cases y
  generalize hcd : (decE y).1 = code at *
  generalize msgOf (decE y) = mm at *
  obtain ⟨m1, m2, m3, m4, m5, m6, m7, mL⟩ := mm
  have HCS : Hid ((code ≠ 0 ∧ 0 < code ∧ code ≤ 12 ∧ mL.length ≤ 1000000) ∨ (code = 0 ∧ encE ⟨m1, m2, m3, m4, m5, m6, m7, mL⟩ = (0, y) ∧ mL.length ≤ 1000000 ∧ (bulkN ⟨m1, m2, m3, m4, m5, m6, m7, mL⟩ ≤ 9000 ∧ MsgLe ⟨m1, m2, m3, m4, m5, m6, m7, mL⟩))) := hcs
  have hl : mL.length ≤ 1000000 := by rcases hcs with h | h; exact h.2.2.2; exact h.2.2.1
  unfold msgA at HDE HUN
  simp only [] at HDE HUN
  clear hcs hcd hO hS hX
  go_enter Tryd.func4, Tryd.ntmps4
  go_wp2_with fail
  refine HWD.mono ?_
  rintro e w1 ⟨rfl, hb1⟩
  have HB1 : Hid (Below w.heap.size w w1) := hb1
  clear hb1 HWD
  have HSE : Hid (∀ W, Calls Tryd.prog 14 #[.string s] W fun e w' => e = .returned (.string y) ∧ Below W.heap.size W w') := hE
  clear hE
  go_wp2_with fail
  refine (HSE.out w1).mono ?_
  rintro e w2 ⟨rfl, hb2⟩
  have HB2 : Hid (Below w.heap.size w w2) := HB1.out.trans (hb2.mono HB1.out.size)
  clear hb2 HB1 HSE
  go_wp2_with fail
  refine (HDE.out w2 HB2.out).mono ?_
  rintro e w3 ⟨⟨ev, p, c, rfl, hev, hr3, hn3⟩, hb3⟩
  have HB3 : Hid (Below w.heap.size w w3) := HB2.out.trans (hb3.mono HB2.out.size)
  obtain ⟨w4, hw4⟩ : ∃ w4, w4 = w3.alloc (.cells #[.string m1, .string m2, .string m3, .string m4, .int .i64 m5, .int .i64 m6, .bool m7, .slice p mL.length c] 31) := ⟨_, rfl⟩
  have HW4 : Hid (w4 = w3.alloc (.cells #[.string m1, .string m2, .string m3, .string m4, .int .i64 m5, .int .i64 m6, .bool m7, .slice p mL.length c] 31)) := hw4
  have hb4 : Below w3.heap.size w3 w4 := by rw [hw4]; exact (Below.refl _ _).alloc (Nat.le_refl _) _
  have e4 : w4.heap[w3.heap.size]? = some (.cells #[.string m1, .string m2, .string m3, .string m4, .int .i64 m5, .int .i64 m6, .bool m7, .slice p mL.length c] 31 (0, 0)) := by rw [hw4]; exact heap_alloc_new _ _
  have HF4 : Hid (w4.heap[w3.heap.size]? = some (.cells #[.string m1, .string m2, .string m3, .string m4, .int .i64 m5, .int .i64 m6, .bool m7, .slice p mL.length c] 31 (0, 0)) ∧ Rec verE w4 p mL ∧ (p = none → mL = [] ∧ c = 0) ∧ Below w.heap.size w w4 ∧ BareIs ad ev code) := ⟨e4, hr3.below hb4, hn3, HB3.out.trans (hb4.mono HB3.out.size), hev⟩
  clear hb3 HB2 hr3 hn3 hw4 hb4 e4 HB3 hev HDE
  go_wp2_with fail
  rw [← HW4.out]
  clear HW4
  refine (HUN.out w4).mono ?_
  rintro e w5 ⟨⟨p', c', rfl, hr5⟩, hb5⟩
  obtain ⟨w6, hw6⟩ : ∃ w6, w6 = w5.alloc (.cells #[.string m1, .string m2, .string m3, .string m4, .int .i64 m5, .int .i64 m6, .bool m7, .slice p' mL.length c'] 24) := ⟨_, rfl⟩
  have HW6 : Hid (w6 = w5.alloc (.cells #[.string m1, .string m2, .string m3, .string m4, .int .i64 m5, .int .i64 m6, .bool m7, .slice p' mL.length c'] 24)) := hw6
  have hb6 : Below w5.heap.size w5 w6 := by rw [hw6]; exact (Below.refl _ _).alloc (Nat.le_refl _) _
  have hb46 : Below w4.heap.size w4 w6 := hb5.trans (hb6.mono hb5.size)
  have hlt3 : w3.heap.size < w4.heap.size := (Array.getElem?_eq_some_iff.1 HF4.out.1).1
  have e6 : w6.heap[w5.heap.size]? = some (.cells #[.string m1, .string m2, .string m3, .string m4, .int .i64 m5, .int .i64 m6, .bool m7, .slice p' mL.length c'] 24 (0, 0)) := by rw [hw6]; exact heap_alloc_new _ _
  have e36 : w6.heap[w3.heap.size]? = some (.cells #[.string m1, .string m2, .string m3, .string m4, .int .i64 m5, .int .i64 m6, .bool m7, .slice p mL.length c] 31 (0, 0)) := (hb46.block _ hlt3).trans HF4.out.1
  have HF6 : Hid (Rec verE w6 p mL ∧ Rec verE w6 p' mL ∧ Below w.heap.size w w6) := ⟨HF4.out.2.1.below hb46, hr5.below hb6, HF4.out.2.2.2.1.trans (hb46.mono HF4.out.2.2.2.1.size)⟩
  have HALL : Hid (∀ W, Below w6.heap.size w6 W → (W.cell? ⟨w3.heap.size, 0, none⟩ = some (.string m1) ∧ W.cell? ⟨w3.heap.size, 1, none⟩ = some (.string m2) ∧ W.cell? ⟨w3.heap.size, 2, none⟩ = some (.string m3) ∧ W.cell? ⟨w3.heap.size, 3, none⟩ = some (.string m4) ∧ W.cell? ⟨w3.heap.size, 4, none⟩ = some (.int .i64 m5) ∧ W.cell? ⟨w3.heap.size, 5, none⟩ = some (.int .i64 m6) ∧ W.cell? ⟨w3.heap.size, 6, none⟩ = some (.bool m7) ∧ W.cell? ⟨w3.heap.size, 7, none⟩ = some (.slice p mL.length c) ∧ W.cell? ⟨w5.heap.size, 0, none⟩ = some (.string m1) ∧ W.cell? ⟨w5.heap.size, 1, none⟩ = some (.string m2) ∧ W.cell? ⟨w5.heap.size, 2, none⟩ = some (.string m3) ∧ W.cell? ⟨w5.heap.size, 3, none⟩ = some (.string m4) ∧ W.cell? ⟨w5.heap.size, 4, none⟩ = some (.int .i64 m5) ∧ W.cell? ⟨w5.heap.size, 5, none⟩ = some (.int .i64 m6) ∧ W.cell? ⟨w5.heap.size, 6, none⟩ = some (.bool m7) ∧ W.cell? ⟨w5.heap.size, 7, none⟩ = some (.slice p' mL.length c') ∧ Below w6.heap.size w6 W)) := fun W hW => by
    have a3 := (hW.block _ (Array.getElem?_eq_some_iff.1 e36).1).trans e36
    have a5 := (hW.block _ (Array.getElem?_eq_some_iff.1 e6).1).trans e6
    refine ⟨?_, ?_, ?_, ?_, ?_, ?_, ?_, ?_, ?_, ?_, ?_, ?_, ?_, ?_, ?_, ?_, hW⟩
    all_goals simp [World.cell?, a3, a5]
  have HCO : Hid (∀ W, (W.cell? ⟨w3.heap.size, 0, none⟩ = some (.string m1) ∧ W.cell? ⟨w3.heap.size, 1, none⟩ = some (.string m2) ∧ W.cell? ⟨w3.heap.size, 2, none⟩ = some (.string m3) ∧ W.cell? ⟨w3.heap.size, 3, none⟩ = some (.string m4) ∧ W.cell? ⟨w3.heap.size, 4, none⟩ = some (.int .i64 m5) ∧ W.cell? ⟨w3.heap.size, 5, none⟩ = some (.int .i64 m6) ∧ W.cell? ⟨w3.heap.size, 6, none⟩ = some (.bool m7) ∧ W.cell? ⟨w3.heap.size, 7, none⟩ = some (.slice p mL.length c) ∧ W.cell? ⟨w5.heap.size, 0, none⟩ = some (.string m1) ∧ W.cell? ⟨w5.heap.size, 1, none⟩ = some (.string m2) ∧ W.cell? ⟨w5.heap.size, 2, none⟩ = some (.string m3) ∧ W.cell? ⟨w5.heap.size, 3, none⟩ = some (.string m4) ∧ W.cell? ⟨w5.heap.size, 4, none⟩ = some (.int .i64 m5) ∧ W.cell? ⟨w5.heap.size, 5, none⟩ = some (.int .i64 m6) ∧ W.cell? ⟨w5.heap.size, 6, none⟩ = some (.bool m7) ∧ W.cell? ⟨w5.heap.size, 7, none⟩ = some (.slice p' mL.length c') ∧ Below w6.heap.size w6 W) → Calls Tryd.prog 10 #[ev, .int .i64 code] W fun e w' => e = .returned (.bool true) ∧ (w'.cell? ⟨w3.heap.size, 0, none⟩ = some (.string m1) ∧ w'.cell? ⟨w3.heap.size, 1, none⟩ = some (.string m2) ∧ w'.cell? ⟨w3.heap.size, 2, none⟩ = some (.string m3) ∧ w'.cell? ⟨w3.heap.size, 3, none⟩ = some (.string m4) ∧ w'.cell? ⟨w3.heap.size, 4, none⟩ = some (.int .i64 m5) ∧ w'.cell? ⟨w3.heap.size, 5, none⟩ = some (.int .i64 m6) ∧ w'.cell? ⟨w3.heap.size, 6, none⟩ = some (.bool m7) ∧ w'.cell? ⟨w3.heap.size, 7, none⟩ = some (.slice p mL.length c) ∧ w'.cell? ⟨w5.heap.size, 0, none⟩ = some (.string m1) ∧ w'.cell? ⟨w5.heap.size, 1, none⟩ = some (.string m2) ∧ w'.cell? ⟨w5.heap.size, 2, none⟩ = some (.string m3) ∧ w'.cell? ⟨w5.heap.size, 3, none⟩ = some (.string m4) ∧ w'.cell? ⟨w5.heap.size, 4, none⟩ = some (.int .i64 m5) ∧ w'.cell? ⟨w5.heap.size, 5, none⟩ = some (.int .i64 m6) ∧ w'.cell? ⟨w5.heap.size, 6, none⟩ = some (.bool m7) ∧ w'.cell? ⟨w5.heap.size, 7, none⟩ = some (.slice p' mL.length c') ∧ Below w6.heap.size w6 w')) := fun W hW => (coded2_any HF4.out.2.2.2.2 W (HSN.out W (HF6.out.2.2.trans (hW.2.2.2.2.2.2.2.2.2.2.2.2.2.2.2.2.mono HF6.out.2.2.size)))).mono fun e w' hp => ⟨hp.1, HALL.out w' (hW.2.2.2.2.2.2.2.2.2.2.2.2.2.2.2.2.trans (hp.2.mono hW.2.2.2.2.2.2.2.2.2.2.2.2.2.2.2.2.size))⟩
  have hbw := fun W => backWire_any ⟨m1, m2, m3, m4, m5, m6, m7, mL⟩ p mL.length c W
  have hsm := fun W (h1 : Below w6.heap.size w6 W) => sameMsg_yes ⟨m1, m2, m3, m4, m5, m6, m7, mL⟩ p p' c c' W hl (HF6.out.1.below h1) (HF6.out.2.1.below h1)
  unfold msgA at hbw hsm
  simp only [] at hbw hsm
  have HBW : Hid (∀ W, (W.cell? ⟨w3.heap.size, 0, none⟩ = some (.string m1) ∧ W.cell? ⟨w3.heap.size, 1, none⟩ = some (.string m2) ∧ W.cell? ⟨w3.heap.size, 2, none⟩ = some (.string m3) ∧ W.cell? ⟨w3.heap.size, 3, none⟩ = some (.string m4) ∧ W.cell? ⟨w3.heap.size, 4, none⟩ = some (.int .i64 m5) ∧ W.cell? ⟨w3.heap.size, 5, none⟩ = some (.int .i64 m6) ∧ W.cell? ⟨w3.heap.size, 6, none⟩ = some (.bool m7) ∧ W.cell? ⟨w3.heap.size, 7, none⟩ = some (.slice p mL.length c) ∧ W.cell? ⟨w5.heap.size, 0, none⟩ = some (.string m1) ∧ W.cell? ⟨w5.heap.size, 1, none⟩ = some (.string m2) ∧ W.cell? ⟨w5.heap.size, 2, none⟩ = some (.string m3) ∧ W.cell? ⟨w5.heap.size, 3, none⟩ = some (.string m4) ∧ W.cell? ⟨w5.heap.size, 4, none⟩ = some (.int .i64 m5) ∧ W.cell? ⟨w5.heap.size, 5, none⟩ = some (.int .i64 m6) ∧ W.cell? ⟨w5.heap.size, 6, none⟩ = some (.bool m7) ∧ W.cell? ⟨w5.heap.size, 7, none⟩ = some (.slice p' mL.length c') ∧ Below w6.heap.size w6 W) → Calls Tryd.prog 13 #[.agg #[.string m1, .string m2, .string m3, .string m4, .int .i64 m5, .int .i64 m6, .bool m7, .slice p mL.length c]] W fun e w' => e = .returned (.agg #[.string m1, .string m2, .string m3, .string m4, .int .i64 m5, .int .i64 m6, .bool m7, .slice p mL.length c]) ∧ (w'.cell? ⟨w3.heap.size, 0, none⟩ = some (.string m1) ∧ w'.cell? ⟨w3.heap.size, 1, none⟩ = some (.string m2) ∧ w'.cell? ⟨w3.heap.size, 2, none⟩ = some (.string m3) ∧ w'.cell? ⟨w3.heap.size, 3, none⟩ = some (.string m4) ∧ w'.cell? ⟨w3.heap.size, 4, none⟩ = some (.int .i64 m5) ∧ w'.cell? ⟨w3.heap.size, 5, none⟩ = some (.int .i64 m6) ∧ w'.cell? ⟨w3.heap.size, 6, none⟩ = some (.bool m7) ∧ w'.cell? ⟨w3.heap.size, 7, none⟩ = some (.slice p mL.length c) ∧ w'.cell? ⟨w5.heap.size, 0, none⟩ = some (.string m1) ∧ w'.cell? ⟨w5.heap.size, 1, none⟩ = some (.string m2) ∧ w'.cell? ⟨w5.heap.size, 2, none⟩ = some (.string m3) ∧ w'.cell? ⟨w5.heap.size, 3, none⟩ = some (.string m4) ∧ w'.cell? ⟨w5.heap.size, 4, none⟩ = some (.int .i64 m5) ∧ w'.cell? ⟨w5.heap.size, 5, none⟩ = some (.int .i64 m6) ∧ w'.cell? ⟨w5.heap.size, 6, none⟩ = some (.bool m7) ∧ w'.cell? ⟨w5.heap.size, 7, none⟩ = some (.slice p' mL.length c') ∧ Below w6.heap.size w6 w')) := fun W hW => (hbw W).mono fun e w' hp => ⟨hp.1, HALL.out w' (hW.2.2.2.2.2.2.2.2.2.2.2.2.2.2.2.2.trans (hp.2.mono hW.2.2.2.2.2.2.2.2.2.2.2.2.2.2.2.2.size))⟩
  have HSM : Hid (∀ W, (W.cell? ⟨w3.heap.size, 0, none⟩ = some (.string m1) ∧ W.cell? ⟨w3.heap.size, 1, none⟩ = some (.string m2) ∧ W.cell? ⟨w3.heap.size, 2, none⟩ = some (.string m3) ∧ W.cell? ⟨w3.heap.size, 3, none⟩ = some (.string m4) ∧ W.cell? ⟨w3.heap.size, 4, none⟩ = some (.int .i64 m5) ∧ W.cell? ⟨w3.heap.size, 5, none⟩ = some (.int .i64 m6) ∧ W.cell? ⟨w3.heap.size, 6, none⟩ = some (.bool m7) ∧ W.cell? ⟨w3.heap.size, 7, none⟩ = some (.slice p mL.length c) ∧ W.cell? ⟨w5.heap.size, 0, none⟩ = some (.string m1) ∧ W.cell? ⟨w5.heap.size, 1, none⟩ = some (.string m2) ∧ W.cell? ⟨w5.heap.size, 2, none⟩ = some (.string m3) ∧ W.cell? ⟨w5.heap.size, 3, none⟩ = some (.string m4) ∧ W.cell? ⟨w5.heap.size, 4, none⟩ = some (.int .i64 m5) ∧ W.cell? ⟨w5.heap.size, 5, none⟩ = some (.int .i64 m6) ∧ W.cell? ⟨w5.heap.size, 6, none⟩ = some (.bool m7) ∧ W.cell? ⟨w5.heap.size, 7, none⟩ = some (.slice p' mL.length c') ∧ Below w6.heap.size w6 W) → Calls Tryd.prog 12 #[.agg #[.string m1, .string m2, .string m3, .string m4, .int .i64 m5, .int .i64 m6, .bool m7, .slice p mL.length c], .agg #[.string m1, .string m2, .string m3, .string m4, .int .i64 m5, .int .i64 m6, .bool m7, .slice p' mL.length c']] W fun e w' => e = .returned (.bool true) ∧ (w'.cell? ⟨w3.heap.size, 0, none⟩ = some (.string m1) ∧ w'.cell? ⟨w3.heap.size, 1, none⟩ = some (.string m2) ∧ w'.cell? ⟨w3.heap.size, 2, none⟩ = some (.string m3) ∧ w'.cell? ⟨w3.heap.size, 3, none⟩ = some (.string m4) ∧ w'.cell? ⟨w3.heap.size, 4, none⟩ = some (.int .i64 m5) ∧ w'.cell? ⟨w3.heap.size, 5, none⟩ = some (.int .i64 m6) ∧ w'.cell? ⟨w3.heap.size, 6, none⟩ = some (.bool m7) ∧ w'.cell? ⟨w3.heap.size, 7, none⟩ = some (.slice p mL.length c) ∧ w'.cell? ⟨w5.heap.size, 0, none⟩ = some (.string m1) ∧ w'.cell? ⟨w5.heap.size, 1, none⟩ = some (.string m2) ∧ w'.cell? ⟨w5.heap.size, 2, none⟩ = some (.string m3) ∧ w'.cell? ⟨w5.heap.size, 3, none⟩ = some (.string m4) ∧ w'.cell? ⟨w5.heap.size, 4, none⟩ = some (.int .i64 m5) ∧ w'.cell? ⟨w5.heap.size, 5, none⟩ = some (.int .i64 m6) ∧ w'.cell? ⟨w5.heap.size, 6, none⟩ = some (.bool m7) ∧ w'.cell? ⟨w5.heap.size, 7, none⟩ = some (.slice p' mL.length c') ∧ Below w6.heap.size w6 w')) := fun W hW => (hsm W hW.2.2.2.2.2.2.2.2.2.2.2.2.2.2.2.2).mono fun e w' hp => ⟨hp.1, HALL.out w' (hW.2.2.2.2.2.2.2.2.2.2.2.2.2.2.2.2.trans (hp.2.mono hW.2.2.2.2.2.2.2.2.2.2.2.2.2.2.2.2.size))⟩
  have hS0 := HALL.out w6.drew (Below.refl _ _).drew
  clear hbw hsm hb5 hr5 hw6 hb6 hb46 hlt3 e6 e36 HUN
  go_wp2_with fail
  rw [← HW6.out]
  go_region_held3 (fun W => (W.cell? ⟨w3.heap.size, 0, none⟩ = some (.string m1) ∧ W.cell? ⟨w3.heap.size, 1, none⟩ = some (.string m2) ∧ W.cell? ⟨w3.heap.size, 2, none⟩ = some (.string m3) ∧ W.cell? ⟨w3.heap.size, 3, none⟩ = some (.string m4) ∧ W.cell? ⟨w3.heap.size, 4, none⟩ = some (.int .i64 m5) ∧ W.cell? ⟨w3.heap.size, 5, none⟩ = some (.int .i64 m6) ∧ W.cell? ⟨w3.heap.size, 6, none⟩ = some (.bool m7) ∧ W.cell? ⟨w3.heap.size, 7, none⟩ = some (.slice p mL.length c) ∧ W.cell? ⟨w5.heap.size, 0, none⟩ = some (.string m1) ∧ W.cell? ⟨w5.heap.size, 1, none⟩ = some (.string m2) ∧ W.cell? ⟨w5.heap.size, 2, none⟩ = some (.string m3) ∧ W.cell? ⟨w5.heap.size, 3, none⟩ = some (.string m4) ∧ W.cell? ⟨w5.heap.size, 4, none⟩ = some (.int .i64 m5) ∧ W.cell? ⟨w5.heap.size, 5, none⟩ = some (.int .i64 m6) ∧ W.cell? ⟨w5.heap.size, 6, none⟩ = some (.bool m7) ∧ W.cell? ⟨w5.heap.size, 7, none⟩ = some (.slice p' mL.length c') ∧ Below w6.heap.size w6 W)) (first | assumption | exact hS0) (first | (go_at_call 10; refine (HCO.out _ (by assumption)).mono ?_; rintro e w7 ⟨rfl, hS7⟩) | (go_at_call 13; refine (HBW.out _ (by assumption)).mono ?_; rintro e w8 ⟨rfl, hS8⟩) | (go_at_call 12; refine (HSM.out _ (by assumption)).mono ?_; rintro e w9 ⟨rfl, hS9⟩))
  obtain ⟨k0, k1, k2, k3, k4, k5, k6, k7, _, _, _, _, _, _, _, _, hb9⟩ := hS9
  have HB9 : Hid (Below w.heap.size w w9) := HF6.out.2.2.trans (hb9.mono HF6.out.2.2.size)
  rcases HCS.out with ⟨h0, h1, h2, _⟩ | ⟨h0, henc, _, hbk⟩
  · have d1 : decide (0 < code) = true := decide_eq_true h1
    clear hS0 hS7 hS8 hb9 HALL HCO HBW HSM HCS
    go_wp2
    go_ret
    exact ⟨rfl, HB9.out⟩
  · subst h0
    have hec := HO.out.encode ⟨m1, m2, m3, m4, m5, m6, m7, mL⟩ p c w9 (HF6.out.1.below hb9) HF4.out.2.2.1 hbk (HSN.out w9 HB9.out) (HXX.out w9 HB9.out)
    rw [henc] at hec
    unfold msgA at hec
    have HEC : Hid (Calls Tryd.prog 7 #[.agg #[.string m1, .string m2, .string m3, .string m4, .int .i64 m5, .int .i64 m6, .bool m7, .slice p mL.length c]] w9 fun e w' => e = .returned (.tuple #[.string y, .nilIface]) ∧ Below w9.heap.size w9 w') := hec.mono fun e w' hp => by
      obtain ⟨⟨ev', h1, h2⟩, h3⟩ := hp
      rcases h2 with ⟨rfl, _⟩ | ⟨i, _, _, h4⟩
      · exact ⟨h1, h3⟩
      · simp only [] at h4; omega
    clear hS0 hS7 hS8 hb9 HALL HCO HBW HSM HCS hec henc hbk
    go_wp2_with fail
    refine HEC.out.mono ?_
    rintro e wz ⟨rfl, hbz⟩
    have HBZ : Hid (Below w.heap.size w wz) := HB9.out.trans (hbz.mono HB9.out.size)
    clear hbz HEC
    go_wp2
    go_ret
    exact ⟨rfl, HBZ.out⟩
set_option maxRecDepth 10000 in
set_option maxHeartbeats 8000000 in
theorem wireReads_false {ad : Nat → Addr} {X : World → Prop} (hO : WireOk ad X) (s y : ByteArray) (w : World) (hs : s.size ≤ 4100) (hy : y.size ≤ 4104) (hS : ∀ W, Below w.heap.size w W → Sent W ad) (hX : ∀ W, Below w.heap.size w W → X W) (hyy : s = y) :
    Calls Tryd.prog 4 #[.string s, .bool false] w fun e w' => e = .returned (.bool true) ∧ Below w.heap.size w w' := by
  have HWD := wired_any hO w hS hX
  have HSN : Hid (∀ W, Below w.heap.size w W → Sent W ad) := hS
  have HXX : Hid (∀ W, Below w.heap.size w W → X W) := hX
  have HO : Hid (WireOk ad X) := hO
  have d0 : decide (4100 < (s.size : Int)) = false := decide_eq_false (by omega)
  have HDE : Hid (∀ W, Below w.heap.size w W → Calls Tryd.prog 11 #[.string y] W fun e w' => (∃ ev p c, e = .returned (.tuple #[msgA (msgOf (decE y)) (.slice p (msgOf (decE y)).L.length c), ev]) ∧ BareIs ad ev (decE y).1 ∧ Rec verE w' p (msgOf (decE y)).L ∧ (p = none → (msgOf (decE y)).L = [] ∧ c = 0)) ∧ Below W.heap.size W w') := fun W hW => (hO.decode y W (by omega) (hS W hW) (hX W hW)).mono fun e w' hp => ⟨decP_one hp.1, hp.2⟩
  have HUN : Hid (∀ W, Calls Tryd.prog 15 #[.string y] W fun e w' => (∃ p c, e = .returned (.tuple #[msgA (msgOf (decE y)) (.slice p (msgOf (decE y)).L.length c), .int .i64 (decE y).1]) ∧ Rec verE w' p (msgOf (decE y)).L) ∧ Below W.heap.size W w') := fun W => (runw_any y W (by omega)).mono fun e w' hp => ⟨decIs_one hp.1, hp.2⟩
  have hcs := dec_cases y
  generalize hcd : (decE y).1 = code at *
  generalize msgOf (decE y) = mm at *
  obtain ⟨m1, m2, m3, m4, m5, m6, m7, mL⟩ := mm
  have HCS : Hid ((code ≠ 0 ∧ 0 < code ∧ code ≤ 12 ∧ mL.length ≤ 1000000) ∨ (code = 0 ∧ encE ⟨m1, m2, m3, m4, m5, m6, m7, mL⟩ = (0, y) ∧ mL.length ≤ 1000000 ∧ (bulkN ⟨m1, m2, m3, m4, m5, m6, m7, mL⟩ ≤ 9000 ∧ MsgLe ⟨m1, m2, m3, m4, m5, m6, m7, mL⟩))) := hcs
  have hl : mL.length ≤ 1000000 := by rcases hcs with h | h; exact h.2.2.2; exact h.2.2.1
  unfold msgA at HDE HUN
  simp only [] at HDE HUN
  clear hcs hcd hO hS hX
  go_enter Tryd.func4, Tryd.ntmps4
  go_wp2_with fail
  refine HWD.mono ?_
  rintro e w1 ⟨rfl, hb1⟩
  have HB1 : Hid (Below w.heap.size w w1) := hb1
  clear hb1 HWD
  subst hyy
  obtain ⟨w2, rfl⟩ : ∃ w2, w2 = w1 := ⟨_, rfl⟩
  have HB2 : Hid (Below w.heap.size w w2) := HB1.out
  clear HB1
  go_wp2_with fail
  refine (HDE.out w2 HB2.out).mono ?_
  rintro e w3 ⟨⟨ev, p, c, rfl, hev, hr3, hn3⟩, hb3⟩
  have HB3 : Hid (Below w.heap.size w w3) := HB2.out.trans (hb3.mono HB2.out.size)
  obtain ⟨w4, hw4⟩ : ∃ w4, w4 = w3.alloc (.cells #[.string m1, .string m2, .string m3, .string m4, .int .i64 m5, .int .i64 m6, .bool m7, .slice p mL.length c] 31) := ⟨_, rfl⟩
  have HW4 : Hid (w4 = w3.alloc (.cells #[.string m1, .string m2, .string m3, .string m4, .int .i64 m5, .int .i64 m6, .bool m7, .slice p mL.length c] 31)) := hw4
  have hb4 : Below w3.heap.size w3 w4 := by rw [hw4]; exact (Below.refl _ _).alloc (Nat.le_refl _) _
  have e4 : w4.heap[w3.heap.size]? = some (.cells #[.string m1, .string m2, .string m3, .string m4, .int .i64 m5, .int .i64 m6, .bool m7, .slice p mL.length c] 31 (0, 0)) := by rw [hw4]; exact heap_alloc_new _ _
  have HF4 : Hid (w4.heap[w3.heap.size]? = some (.cells #[.string m1, .string m2, .string m3, .string m4, .int .i64 m5, .int .i64 m6, .bool m7, .slice p mL.length c] 31 (0, 0)) ∧ Rec verE w4 p mL ∧ (p = none → mL = [] ∧ c = 0) ∧ Below w.heap.size w w4 ∧ BareIs ad ev code) := ⟨e4, hr3.below hb4, hn3, HB3.out.trans (hb4.mono HB3.out.size), hev⟩
  clear hb3 HB2 hr3 hn3 hw4 hb4 e4 HB3 hev HDE
  go_wp2_with fail
  rw [← HW4.out]
  clear HW4
  refine (HUN.out w4).mono ?_
  rintro e w5 ⟨⟨p', c', rfl, hr5⟩, hb5⟩
  obtain ⟨w6, hw6⟩ : ∃ w6, w6 = w5.alloc (.cells #[.string m1, .string m2, .string m3, .string m4, .int .i64 m5, .int .i64 m6, .bool m7, .slice p' mL.length c'] 24) := ⟨_, rfl⟩
  have HW6 : Hid (w6 = w5.alloc (.cells #[.string m1, .string m2, .string m3, .string m4, .int .i64 m5, .int .i64 m6, .bool m7, .slice p' mL.length c'] 24)) := hw6
  have hb6 : Below w5.heap.size w5 w6 := by rw [hw6]; exact (Below.refl _ _).alloc (Nat.le_refl _) _
  have hb46 : Below w4.heap.size w4 w6 := hb5.trans (hb6.mono hb5.size)
  have hlt3 : w3.heap.size < w4.heap.size := (Array.getElem?_eq_some_iff.1 HF4.out.1).1
  have e6 : w6.heap[w5.heap.size]? = some (.cells #[.string m1, .string m2, .string m3, .string m4, .int .i64 m5, .int .i64 m6, .bool m7, .slice p' mL.length c'] 24 (0, 0)) := by rw [hw6]; exact heap_alloc_new _ _
  have e36 : w6.heap[w3.heap.size]? = some (.cells #[.string m1, .string m2, .string m3, .string m4, .int .i64 m5, .int .i64 m6, .bool m7, .slice p mL.length c] 31 (0, 0)) := (hb46.block _ hlt3).trans HF4.out.1
  have HF6 : Hid (Rec verE w6 p mL ∧ Rec verE w6 p' mL ∧ Below w.heap.size w w6) := ⟨HF4.out.2.1.below hb46, hr5.below hb6, HF4.out.2.2.2.1.trans (hb46.mono HF4.out.2.2.2.1.size)⟩
  have HALL : Hid (∀ W, Below w6.heap.size w6 W → (W.cell? ⟨w3.heap.size, 0, none⟩ = some (.string m1) ∧ W.cell? ⟨w3.heap.size, 1, none⟩ = some (.string m2) ∧ W.cell? ⟨w3.heap.size, 2, none⟩ = some (.string m3) ∧ W.cell? ⟨w3.heap.size, 3, none⟩ = some (.string m4) ∧ W.cell? ⟨w3.heap.size, 4, none⟩ = some (.int .i64 m5) ∧ W.cell? ⟨w3.heap.size, 5, none⟩ = some (.int .i64 m6) ∧ W.cell? ⟨w3.heap.size, 6, none⟩ = some (.bool m7) ∧ W.cell? ⟨w3.heap.size, 7, none⟩ = some (.slice p mL.length c) ∧ W.cell? ⟨w5.heap.size, 0, none⟩ = some (.string m1) ∧ W.cell? ⟨w5.heap.size, 1, none⟩ = some (.string m2) ∧ W.cell? ⟨w5.heap.size, 2, none⟩ = some (.string m3) ∧ W.cell? ⟨w5.heap.size, 3, none⟩ = some (.string m4) ∧ W.cell? ⟨w5.heap.size, 4, none⟩ = some (.int .i64 m5) ∧ W.cell? ⟨w5.heap.size, 5, none⟩ = some (.int .i64 m6) ∧ W.cell? ⟨w5.heap.size, 6, none⟩ = some (.bool m7) ∧ W.cell? ⟨w5.heap.size, 7, none⟩ = some (.slice p' mL.length c') ∧ Below w6.heap.size w6 W)) := fun W hW => by
    have a3 := (hW.block _ (Array.getElem?_eq_some_iff.1 e36).1).trans e36
    have a5 := (hW.block _ (Array.getElem?_eq_some_iff.1 e6).1).trans e6
    refine ⟨?_, ?_, ?_, ?_, ?_, ?_, ?_, ?_, ?_, ?_, ?_, ?_, ?_, ?_, ?_, ?_, hW⟩
    all_goals simp [World.cell?, a3, a5]
  have HCO : Hid (∀ W, (W.cell? ⟨w3.heap.size, 0, none⟩ = some (.string m1) ∧ W.cell? ⟨w3.heap.size, 1, none⟩ = some (.string m2) ∧ W.cell? ⟨w3.heap.size, 2, none⟩ = some (.string m3) ∧ W.cell? ⟨w3.heap.size, 3, none⟩ = some (.string m4) ∧ W.cell? ⟨w3.heap.size, 4, none⟩ = some (.int .i64 m5) ∧ W.cell? ⟨w3.heap.size, 5, none⟩ = some (.int .i64 m6) ∧ W.cell? ⟨w3.heap.size, 6, none⟩ = some (.bool m7) ∧ W.cell? ⟨w3.heap.size, 7, none⟩ = some (.slice p mL.length c) ∧ W.cell? ⟨w5.heap.size, 0, none⟩ = some (.string m1) ∧ W.cell? ⟨w5.heap.size, 1, none⟩ = some (.string m2) ∧ W.cell? ⟨w5.heap.size, 2, none⟩ = some (.string m3) ∧ W.cell? ⟨w5.heap.size, 3, none⟩ = some (.string m4) ∧ W.cell? ⟨w5.heap.size, 4, none⟩ = some (.int .i64 m5) ∧ W.cell? ⟨w5.heap.size, 5, none⟩ = some (.int .i64 m6) ∧ W.cell? ⟨w5.heap.size, 6, none⟩ = some (.bool m7) ∧ W.cell? ⟨w5.heap.size, 7, none⟩ = some (.slice p' mL.length c') ∧ Below w6.heap.size w6 W) → Calls Tryd.prog 10 #[ev, .int .i64 code] W fun e w' => e = .returned (.bool true) ∧ (w'.cell? ⟨w3.heap.size, 0, none⟩ = some (.string m1) ∧ w'.cell? ⟨w3.heap.size, 1, none⟩ = some (.string m2) ∧ w'.cell? ⟨w3.heap.size, 2, none⟩ = some (.string m3) ∧ w'.cell? ⟨w3.heap.size, 3, none⟩ = some (.string m4) ∧ w'.cell? ⟨w3.heap.size, 4, none⟩ = some (.int .i64 m5) ∧ w'.cell? ⟨w3.heap.size, 5, none⟩ = some (.int .i64 m6) ∧ w'.cell? ⟨w3.heap.size, 6, none⟩ = some (.bool m7) ∧ w'.cell? ⟨w3.heap.size, 7, none⟩ = some (.slice p mL.length c) ∧ w'.cell? ⟨w5.heap.size, 0, none⟩ = some (.string m1) ∧ w'.cell? ⟨w5.heap.size, 1, none⟩ = some (.string m2) ∧ w'.cell? ⟨w5.heap.size, 2, none⟩ = some (.string m3) ∧ w'.cell? ⟨w5.heap.size, 3, none⟩ = some (.string m4) ∧ w'.cell? ⟨w5.heap.size, 4, none⟩ = some (.int .i64 m5) ∧ w'.cell? ⟨w5.heap.size, 5, none⟩ = some (.int .i64 m6) ∧ w'.cell? ⟨w5.heap.size, 6, none⟩ = some (.bool m7) ∧ w'.cell? ⟨w5.heap.size, 7, none⟩ = some (.slice p' mL.length c') ∧ Below w6.heap.size w6 w')) := fun W hW => (coded2_any HF4.out.2.2.2.2 W (HSN.out W (HF6.out.2.2.trans (hW.2.2.2.2.2.2.2.2.2.2.2.2.2.2.2.2.mono HF6.out.2.2.size)))).mono fun e w' hp => ⟨hp.1, HALL.out w' (hW.2.2.2.2.2.2.2.2.2.2.2.2.2.2.2.2.trans (hp.2.mono hW.2.2.2.2.2.2.2.2.2.2.2.2.2.2.2.2.size))⟩
  have hbw := fun W => backWire_any ⟨m1, m2, m3, m4, m5, m6, m7, mL⟩ p mL.length c W
  have hsm := fun W (h1 : Below w6.heap.size w6 W) => sameMsg_yes ⟨m1, m2, m3, m4, m5, m6, m7, mL⟩ p p' c c' W hl (HF6.out.1.below h1) (HF6.out.2.1.below h1)
  unfold msgA at hbw hsm
  simp only [] at hbw hsm
  have HBW : Hid (∀ W, (W.cell? ⟨w3.heap.size, 0, none⟩ = some (.string m1) ∧ W.cell? ⟨w3.heap.size, 1, none⟩ = some (.string m2) ∧ W.cell? ⟨w3.heap.size, 2, none⟩ = some (.string m3) ∧ W.cell? ⟨w3.heap.size, 3, none⟩ = some (.string m4) ∧ W.cell? ⟨w3.heap.size, 4, none⟩ = some (.int .i64 m5) ∧ W.cell? ⟨w3.heap.size, 5, none⟩ = some (.int .i64 m6) ∧ W.cell? ⟨w3.heap.size, 6, none⟩ = some (.bool m7) ∧ W.cell? ⟨w3.heap.size, 7, none⟩ = some (.slice p mL.length c) ∧ W.cell? ⟨w5.heap.size, 0, none⟩ = some (.string m1) ∧ W.cell? ⟨w5.heap.size, 1, none⟩ = some (.string m2) ∧ W.cell? ⟨w5.heap.size, 2, none⟩ = some (.string m3) ∧ W.cell? ⟨w5.heap.size, 3, none⟩ = some (.string m4) ∧ W.cell? ⟨w5.heap.size, 4, none⟩ = some (.int .i64 m5) ∧ W.cell? ⟨w5.heap.size, 5, none⟩ = some (.int .i64 m6) ∧ W.cell? ⟨w5.heap.size, 6, none⟩ = some (.bool m7) ∧ W.cell? ⟨w5.heap.size, 7, none⟩ = some (.slice p' mL.length c') ∧ Below w6.heap.size w6 W) → Calls Tryd.prog 13 #[.agg #[.string m1, .string m2, .string m3, .string m4, .int .i64 m5, .int .i64 m6, .bool m7, .slice p mL.length c]] W fun e w' => e = .returned (.agg #[.string m1, .string m2, .string m3, .string m4, .int .i64 m5, .int .i64 m6, .bool m7, .slice p mL.length c]) ∧ (w'.cell? ⟨w3.heap.size, 0, none⟩ = some (.string m1) ∧ w'.cell? ⟨w3.heap.size, 1, none⟩ = some (.string m2) ∧ w'.cell? ⟨w3.heap.size, 2, none⟩ = some (.string m3) ∧ w'.cell? ⟨w3.heap.size, 3, none⟩ = some (.string m4) ∧ w'.cell? ⟨w3.heap.size, 4, none⟩ = some (.int .i64 m5) ∧ w'.cell? ⟨w3.heap.size, 5, none⟩ = some (.int .i64 m6) ∧ w'.cell? ⟨w3.heap.size, 6, none⟩ = some (.bool m7) ∧ w'.cell? ⟨w3.heap.size, 7, none⟩ = some (.slice p mL.length c) ∧ w'.cell? ⟨w5.heap.size, 0, none⟩ = some (.string m1) ∧ w'.cell? ⟨w5.heap.size, 1, none⟩ = some (.string m2) ∧ w'.cell? ⟨w5.heap.size, 2, none⟩ = some (.string m3) ∧ w'.cell? ⟨w5.heap.size, 3, none⟩ = some (.string m4) ∧ w'.cell? ⟨w5.heap.size, 4, none⟩ = some (.int .i64 m5) ∧ w'.cell? ⟨w5.heap.size, 5, none⟩ = some (.int .i64 m6) ∧ w'.cell? ⟨w5.heap.size, 6, none⟩ = some (.bool m7) ∧ w'.cell? ⟨w5.heap.size, 7, none⟩ = some (.slice p' mL.length c') ∧ Below w6.heap.size w6 w')) := fun W hW => (hbw W).mono fun e w' hp => ⟨hp.1, HALL.out w' (hW.2.2.2.2.2.2.2.2.2.2.2.2.2.2.2.2.trans (hp.2.mono hW.2.2.2.2.2.2.2.2.2.2.2.2.2.2.2.2.size))⟩
  have HSM : Hid (∀ W, (W.cell? ⟨w3.heap.size, 0, none⟩ = some (.string m1) ∧ W.cell? ⟨w3.heap.size, 1, none⟩ = some (.string m2) ∧ W.cell? ⟨w3.heap.size, 2, none⟩ = some (.string m3) ∧ W.cell? ⟨w3.heap.size, 3, none⟩ = some (.string m4) ∧ W.cell? ⟨w3.heap.size, 4, none⟩ = some (.int .i64 m5) ∧ W.cell? ⟨w3.heap.size, 5, none⟩ = some (.int .i64 m6) ∧ W.cell? ⟨w3.heap.size, 6, none⟩ = some (.bool m7) ∧ W.cell? ⟨w3.heap.size, 7, none⟩ = some (.slice p mL.length c) ∧ W.cell? ⟨w5.heap.size, 0, none⟩ = some (.string m1) ∧ W.cell? ⟨w5.heap.size, 1, none⟩ = some (.string m2) ∧ W.cell? ⟨w5.heap.size, 2, none⟩ = some (.string m3) ∧ W.cell? ⟨w5.heap.size, 3, none⟩ = some (.string m4) ∧ W.cell? ⟨w5.heap.size, 4, none⟩ = some (.int .i64 m5) ∧ W.cell? ⟨w5.heap.size, 5, none⟩ = some (.int .i64 m6) ∧ W.cell? ⟨w5.heap.size, 6, none⟩ = some (.bool m7) ∧ W.cell? ⟨w5.heap.size, 7, none⟩ = some (.slice p' mL.length c') ∧ Below w6.heap.size w6 W) → Calls Tryd.prog 12 #[.agg #[.string m1, .string m2, .string m3, .string m4, .int .i64 m5, .int .i64 m6, .bool m7, .slice p mL.length c], .agg #[.string m1, .string m2, .string m3, .string m4, .int .i64 m5, .int .i64 m6, .bool m7, .slice p' mL.length c']] W fun e w' => e = .returned (.bool true) ∧ (w'.cell? ⟨w3.heap.size, 0, none⟩ = some (.string m1) ∧ w'.cell? ⟨w3.heap.size, 1, none⟩ = some (.string m2) ∧ w'.cell? ⟨w3.heap.size, 2, none⟩ = some (.string m3) ∧ w'.cell? ⟨w3.heap.size, 3, none⟩ = some (.string m4) ∧ w'.cell? ⟨w3.heap.size, 4, none⟩ = some (.int .i64 m5) ∧ w'.cell? ⟨w3.heap.size, 5, none⟩ = some (.int .i64 m6) ∧ w'.cell? ⟨w3.heap.size, 6, none⟩ = some (.bool m7) ∧ w'.cell? ⟨w3.heap.size, 7, none⟩ = some (.slice p mL.length c) ∧ w'.cell? ⟨w5.heap.size, 0, none⟩ = some (.string m1) ∧ w'.cell? ⟨w5.heap.size, 1, none⟩ = some (.string m2) ∧ w'.cell? ⟨w5.heap.size, 2, none⟩ = some (.string m3) ∧ w'.cell? ⟨w5.heap.size, 3, none⟩ = some (.string m4) ∧ w'.cell? ⟨w5.heap.size, 4, none⟩ = some (.int .i64 m5) ∧ w'.cell? ⟨w5.heap.size, 5, none⟩ = some (.int .i64 m6) ∧ w'.cell? ⟨w5.heap.size, 6, none⟩ = some (.bool m7) ∧ w'.cell? ⟨w5.heap.size, 7, none⟩ = some (.slice p' mL.length c') ∧ Below w6.heap.size w6 w')) := fun W hW => (hsm W hW.2.2.2.2.2.2.2.2.2.2.2.2.2.2.2.2).mono fun e w' hp => ⟨hp.1, HALL.out w' (hW.2.2.2.2.2.2.2.2.2.2.2.2.2.2.2.2.trans (hp.2.mono hW.2.2.2.2.2.2.2.2.2.2.2.2.2.2.2.2.size))⟩
  have hS0 := HALL.out w6.drew (Below.refl _ _).drew
  clear hbw hsm hb5 hr5 hw6 hb6 hb46 hlt3 e6 e36 HUN
  go_wp2_with fail
  rw [← HW6.out]
  go_region_held3 (fun W => (W.cell? ⟨w3.heap.size, 0, none⟩ = some (.string m1) ∧ W.cell? ⟨w3.heap.size, 1, none⟩ = some (.string m2) ∧ W.cell? ⟨w3.heap.size, 2, none⟩ = some (.string m3) ∧ W.cell? ⟨w3.heap.size, 3, none⟩ = some (.string m4) ∧ W.cell? ⟨w3.heap.size, 4, none⟩ = some (.int .i64 m5) ∧ W.cell? ⟨w3.heap.size, 5, none⟩ = some (.int .i64 m6) ∧ W.cell? ⟨w3.heap.size, 6, none⟩ = some (.bool m7) ∧ W.cell? ⟨w3.heap.size, 7, none⟩ = some (.slice p mL.length c) ∧ W.cell? ⟨w5.heap.size, 0, none⟩ = some (.string m1) ∧ W.cell? ⟨w5.heap.size, 1, none⟩ = some (.string m2) ∧ W.cell? ⟨w5.heap.size, 2, none⟩ = some (.string m3) ∧ W.cell? ⟨w5.heap.size, 3, none⟩ = some (.string m4) ∧ W.cell? ⟨w5.heap.size, 4, none⟩ = some (.int .i64 m5) ∧ W.cell? ⟨w5.heap.size, 5, none⟩ = some (.int .i64 m6) ∧ W.cell? ⟨w5.heap.size, 6, none⟩ = some (.bool m7) ∧ W.cell? ⟨w5.heap.size, 7, none⟩ = some (.slice p' mL.length c') ∧ Below w6.heap.size w6 W)) (first | assumption | exact hS0) (first | (go_at_call 10; refine (HCO.out _ (by assumption)).mono ?_; rintro e w7 ⟨rfl, hS7⟩) | (go_at_call 13; refine (HBW.out _ (by assumption)).mono ?_; rintro e w8 ⟨rfl, hS8⟩) | (go_at_call 12; refine (HSM.out _ (by assumption)).mono ?_; rintro e w9 ⟨rfl, hS9⟩))
  obtain ⟨k0, k1, k2, k3, k4, k5, k6, k7, _, _, _, _, _, _, _, _, hb9⟩ := hS9
  have HB9 : Hid (Below w.heap.size w w9) := HF6.out.2.2.trans (hb9.mono HF6.out.2.2.size)
  rcases HCS.out with ⟨h0, h1, h2, _⟩ | ⟨h0, henc, _, hbk⟩
  · have d1 : decide (0 < code) = true := decide_eq_true h1
    clear hS0 hS7 hS8 hb9 HALL HCO HBW HSM HCS
    go_wp2
    go_ret
    exact ⟨rfl, HB9.out⟩
  · subst h0
    have hec := HO.out.encode ⟨m1, m2, m3, m4, m5, m6, m7, mL⟩ p c w9 (HF6.out.1.below hb9) HF4.out.2.2.1 hbk (HSN.out w9 HB9.out) (HXX.out w9 HB9.out)
    rw [henc] at hec
    unfold msgA at hec
    have HEC : Hid (Calls Tryd.prog 7 #[.agg #[.string m1, .string m2, .string m3, .string m4, .int .i64 m5, .int .i64 m6, .bool m7, .slice p mL.length c]] w9 fun e w' => e = .returned (.tuple #[.string s, .nilIface]) ∧ Below w9.heap.size w9 w') := hec.mono fun e w' hp => by
      obtain ⟨⟨ev', h1, h2⟩, h3⟩ := hp
      rcases h2 with ⟨rfl, _⟩ | ⟨i, _, _, h4⟩
      · exact ⟨h1, h3⟩
      · simp only [] at h4; omega
    clear hS0 hS7 hS8 hb9 HALL HCO HBW HSM HCS hec henc hbk
    go_wp2_with fail
    refine HEC.out.mono ?_
    rintro e wz ⟨rfl, hbz⟩
    have HBZ : Hid (Below w.heap.size w wz) := HB9.out.trans (hbz.mono HB9.out.size)
    clear hbz HEC
    go_wp2
    go_ret
    exact ⟨rfl, HBZ.out⟩
/-- WireReads holds. -/
theorem wireReads_any {ad : Nat → Addr} {X : World → Prop} (hO : WireOk ad X) (s : ByteArray) (sl : Bool) (w : World) (hs : s.size ≤ maxLen) (hS : ∀ W, Below w.heap.size w W → Sent W ad) (hX : ∀ W, Below w.heap.size w W → X W) (hE : s.size ≤ 4100 → ∀ W, Calls Tryd.prog 14 #[.string s] W fun e w' => e = .returned (.string (sealT s)) ∧ Below W.heap.size W w') :
    Calls Tryd.prog 4 #[.string s, .bool sl] w fun e w' => e = .returned (.bool true) ∧ Below w.heap.size w w' := by
  by_cases h : s.size ≤ 4100
  · cases sl with
    | true => exact wireReads_true hO s (sealT s) w h (by rw [sealT_size]; omega) hS hX (hE h)
    | false => exact wireReads_false hO s s w h (by omega) hS hX rfl
  · have HWD := wired_any hO w hS hX
    have hs' : s.size ≤ 9223372036854775807 := by unfold maxLen at hs; omega
    have d0 : decide (4100 < (s.size : Int)) = true := decide_eq_true (by omega)
    clear hE hS hX hO hs
    go_enter Tryd.func4, Tryd.ntmps4
    go_wp2_with fail
    refine HWD.mono ?_
    rintro e w1 ⟨rfl, hb1⟩
    clear HWD
    go_wp2
    go_ret
    exact ⟨rfl, hb1⟩
end Go.Proofs.YteppmkpckdmnaaaDoor
