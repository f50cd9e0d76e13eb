/- WireCodes, walked over what package wire is asked, and the model's Wire. -/
import Derived.Test.YteppmkpckdmnaaaDoorWReadsB
namespace Go.Proofs.YteppmkpckdmnaaaDoor
open Go.RowKit
theorem fits_of_neg {m : Msg} (h : negM m = false) (h1 : m.op ≤ 9223372036854775807 ∧ m.config ≤ 9223372036854775807) (h2 : ∀ v ∈ m.L, v.n ≤ 9223372036854775807 ∧ v.who ≤ 9223372036854775807 ∧ v.size ≤ 9223372036854775807 ∧ v.at_ ≤ 9223372036854775807 ∧ v.text.size ≤ 9223372036854775807) (hb : bulkN m ≤ 8000) : MsgFits m := by
  unfold negM at h
  simp only [Bool.or_eq_false_iff, decide_eq_false_iff_not, List.any_eq_false] at h
  obtain ⟨⟨ho, hc⟩, hv⟩ := h
  have hl := bulkV_len m.L
  unfold bulkN at hb
  refine ⟨⟨by omega, h1.1⟩, ⟨by omega, h1.2⟩, fun v hx => ?_, ⟨by omega, by omega, by omega, by omega⟩, by omega⟩
  have a := hv v hx
  obtain ⟨b1, b2, b3, b4, b5⟩ := h2 v hx
  simp at a
  exact ⟨⟨by omega, b1⟩, ⟨by omega, b2⟩, ⟨by omega, b3⟩, ⟨by omega, b4⟩, b5⟩
theorem encE_cases (m : Msg) : ((encE m).1 ≠ 0 ∧ 0 < (encE m).1 ∧ (encE m).2 = ⟨#[]⟩) ∨ ((encE m).1 = 0 ∧ (encE m).2 = sealT (ofL (encL m)) ∧ negM m = false ∧ (encL m).length ≤ 3996) := by
  unfold encE
  split
  · exact Or.inl ⟨by decide, by decide, rfl⟩
  · split
    · exact Or.inl ⟨by decide, by decide, rfl⟩
    · rename_i h1 h2
      exact Or.inr ⟨rfl, rfl, by simpa using h1, by omega⟩
set_option maxRecDepth 10000 in
set_option maxHeartbeats 8000000 in
theorem wireCodes_any {ad : Nat → Addr} {X : World → Prop} (hO : WireOk ad X) (m : Msg) (p : Option Addr) (c : Nat) (w : World) (hr : Rec verE w p m.L) (hn : p = none → m.L = [] ∧ c = 0) (hbig : bulkN m ≤ 9223372036854775807)
    (h1 : m.op ≤ 9223372036854775807 ∧ m.config ≤ 9223372036854775807) (h2 : ∀ v ∈ m.L, v.n ≤ 9223372036854775807 ∧ v.who ≤ 9223372036854775807 ∧ v.size ≤ 9223372036854775807 ∧ v.at_ ≤ 9223372036854775807 ∧ v.text.size ≤ 9223372036854775807)
    (hS : ∀ W, Below w.heap.size w W → Sent W ad) (hX : ∀ W, Below w.heap.size w W → X W)
    (hRW : bulkN m ≤ 8000 → ∀ W, Rec verE W p m.L → Calls Tryd.prog 9 #[msgA m (.slice p m.L.length c)] W fun e w' => e = .returned (.tuple #[.string (encE m).2, .int .i64 (encE m).1]) ∧ Below W.heap.size W w') :
    Calls Tryd.prog 3 #[msgA m (.slice p m.L.length c)] w fun e w' => e = .returned (.bool true) ∧ Below w.heap.size w w' := by
  have hcs := encE_cases m
  have hdec : (encE m).1 = 0 → bulkN m ≤ 8000 → decE (encE m).2 = (0, some m) := fun h0 hb => by
    rcases hcs with h | ⟨_, e2, e3, e4⟩
    · exact absurd h0 h.1
    · rw [e2]
      exact decE_enc (fits_of_neg e3 h1 h2 hb) e4
  have hszE : (encE m).2.size ≤ 4000 := by
    rcases hcs with h | ⟨_, e2, e3, e4⟩
    · rw [h.2.2]; decide
    · rw [e2, sealT_size, ofL_size]; omega
  have HEN : Hid (∀ W q d, Rec verE W q m.L → (q = none → m.L = [] ∧ d = 0) → bulkN m ≤ 8000 → Below w.heap.size w W → Calls Tryd.prog 7 #[msgA m (.slice q m.L.length d)] W fun e w' => (∃ ev, e = .returned (.tuple #[.string (encE m).2, ev]) ∧ BareIs ad ev (encE m).1) ∧ Below W.heap.size W w') := fun W q d g1 g2 h3 h4 => hO.encode m q d W g1 g2 ⟨by omega, h1, fun v hv => ⟨(h2 v hv).1, (h2 v hv).2.1, (h2 v hv).2.2.1, (h2 v hv).2.2.2.1⟩⟩ (hS W h4) (hX W h4)
  have HDE : Hid ((encE m).1 = 0 → bulkN m ≤ 8000 → ∀ W, Below w.heap.size w W → Calls Tryd.prog 11 #[.string (encE m).2] W fun e w' => (∃ r g, e = .returned (.tuple #[msgA m (.slice r m.L.length g), .nilIface]) ∧ Rec verE w' r m.L) ∧ Below W.heap.size W w') := fun h0 hb W hW => by
    have hd := hO.decode (encE m).2 W (by omega) (hS W hW) (hX W hW)
    rw [hdec h0 hb] at hd
    refine hd.mono fun e w' hp => ⟨?_, hp.2⟩
    obtain ⟨ev, g1, g2⟩ := hp.1
    have hev : ev = .nilIface := by
      rcases g1 with ⟨rfl, _⟩ | ⟨i, _, _, h4⟩
      · rfl
      · simp only [] at h4; omega
    subst hev
    rcases g2 with ⟨h4, _⟩ | ⟨m', lv, h4, h5, h6⟩
    · cases h4
    · obtain rfl := Option.some.inj h4
      obtain ⟨q, d, rfl, hq, _⟩ := h6.form
      exact ⟨q, d, h5, hq⟩
  have HWF : Hid (∀ W, Rec verE W p m.L → bulkN m ≤ 8000 → Calls Tryd.prog 8 #[msgA m (.slice p m.L.length c)] W fun e w' => (∃ q d, e = .returned (msgA m (.slice q m.L.length d)) ∧ Rec verE w' q m.L ∧ (q = none → m.L = [] ∧ d = 0)) ∧ Below W.heap.size W w') := fun W h3 hb => (wireOf_any m p c W (by have := bulkV_len m.L; unfold bulkN at hb; omega) h3 hn).mono fun e w' hp => by
    obtain ⟨⟨lv, g1, g2⟩, g3⟩ := hp
    obtain ⟨q, d, rfl, hq, _, hqn, _⟩ := g2.form
    exact ⟨⟨q, d, g1, hq, hqn⟩, g3⟩
  have HBK : Hid (∀ W, Rec verE W p m.L → Calls Tryd.prog 6 #[msgA m (.slice p m.L.length c)] W fun e w' => e = .returned (.int .i64 ((bulkN m : Nat) : Int)) ∧ Below W.heap.size W w') := fun W h3 => bulk_any m p c W h3 hbig
  have hll : bulkN m ≤ 8000 → m.L.length ≤ 1000000 := fun hb => by have := bulkV_len m.L; unfold bulkN at hb; omega
  have HRW : Hid (bulkN m ≤ 8000 → ∀ W, Rec verE W p m.L → Calls Tryd.prog 9 #[msgA m (.slice p m.L.length c)] W fun e w' => e = .returned (.tuple #[.string (encE m).2, .int .i64 (encE m).1]) ∧ Below W.heap.size W w') := hRW
  have HCS : Hid (((encE m).1 ≠ 0 ∧ 0 < (encE m).1 ∧ (encE m).2 = ⟨#[]⟩) ∨ (encE m).1 = 0) := by rcases hcs with h | h; exact Or.inl h; exact Or.inr h.1
  have HBW : Hid (∀ W r g, Calls Tryd.prog 13 #[msgA m (.slice r m.L.length g)] W fun e w' => e = .returned (msgA m (.slice r m.L.length g)) ∧ Below W.heap.size W w') := fun W r g => backWire_any m r m.L.length g W
  have HSM : Hid (bulkN m ≤ 8000 → ∀ W r g, Rec verE W r m.L → Rec verE W p m.L → Calls Tryd.prog 12 #[msgA m (.slice r m.L.length g), msgA m (.slice p m.L.length c)] W fun e w' => e = .returned (.bool true) ∧ Below W.heap.size W w') := fun hb W r g h3 h4 => sameMsg_yes m r p g c W (hll hb) h3 h4
  have HSN : Hid (∀ W, Below w.heap.size w W → Sent W ad) := hS
  obtain ⟨m1, m2, m3, m4, m5, m6, m7, mL⟩ := m
  unfold msgA at *
  simp only [] at *
  generalize hBN : bulkN ⟨m1, m2, m3, m4, m5, m6, m7, mL⟩ = bn at *
  generalize encE ⟨m1, m2, m3, m4, m5, m6, m7, mL⟩ = en at *
  obtain ⟨code, txt⟩ := en
  simp only [] at *
  obtain ⟨w0, hw0⟩ : ∃ w0, w0 = w.alloc (.cells #[.string m1, .string m2, .string m3, .string m4, .int .i64 m5, .int .i64 m6, .bool m7, .slice p mL.length c] 24) := ⟨_, rfl⟩
  have HW0 : Hid (w0 = w.alloc (.cells #[.string m1, .string m2, .string m3, .string m4, .int .i64 m5, .int .i64 m6, .bool m7, .slice p mL.length c] 24)) := hw0
  have hb0 : Below w.heap.size w w0 := by rw [hw0]; exact (Below.refl _ _).alloc (Nat.le_refl _) _
  have e0 : w0.heap[w.heap.size]? = some (.cells #[.string m1, .string m2, .string m3, .string m4, .int .i64 m5, .int .i64 m6, .bool m7, .slice p mL.length c] 24 (0, 0)) := by rw [hw0]; exact heap_alloc_new _ _
  have hlt0 : w.heap.size < w0.heap.size := (Array.getElem?_eq_some_iff.1 e0).1
  have HCL : Hid (∀ W, Below w0.heap.size w0 W → W.cell? ⟨w.heap.size, 0, none⟩ = some (.string m1) ∧ W.cell? ⟨w.heap.size, 1, none⟩ = some (.string m2) ∧ W.cell? ⟨w.heap.size, 2, none⟩ = some (.string m3) ∧ W.cell? ⟨w.heap.size, 3, none⟩ = some (.string m4) ∧ W.cell? ⟨w.heap.size, 4, none⟩ = some (.int .i64 m5) ∧ W.cell? ⟨w.heap.size, 5, none⟩ = some (.int .i64 m6) ∧ W.cell? ⟨w.heap.size, 6, none⟩ = some (.bool m7) ∧ W.cell? ⟨w.heap.size, 7, none⟩ = some (.slice p mL.length c)) := fun W hW => by
    have a := (hW.block _ hlt0).trans e0
    refine ⟨?_, ?_, ?_, ?_, ?_, ?_, ?_, ?_⟩ <;> simp [World.cell?, a]
  have HRC : Hid (∀ W, Below w0.heap.size w0 W → Rec verE W p mL) := fun W hW => (hr.below hb0).below hW
  have HLO : Hid (∀ W, Below w0.heap.size w0 W → Below w.heap.size w W) := fun W hW => hb0.trans (hW.mono hb0.size)
  have HWD : Hid (Calls Tryd.prog 5 #[] w0 fun e w' => e = .returned (.bool true) ∧ Below w0.heap.size w0 w') := wired_any hO w0 (fun W hW => hS W (hb0.trans (hW.mono hb0.size))) (fun W hW => hX W (hb0.trans (hW.mono hb0.size)))
  clear hw0 e0 hlt0 hr hn hS hX hO hRW hdec hcs h1 h2 hb0 hszE hll hBN
  go_enter Tryd.func3, Tryd.ntmps3
  go_wp2_with fail
  rw [← HW0.out]
  clear HW0
  refine HWD.out.mono ?_
  rintro e w1 ⟨rfl, hb1⟩
  have HB1 : Hid (Below w0.heap.size w0 w1) := hb1
  obtain ⟨k0, k1, k2, k3, k4, k5, k6, k7⟩ := HCL.out w1 hb1
  clear hb1 HWD
  go_wp2_with fail
  clear k0 k1 k2 k3 k4 k5 k6 k7
  refine (HBK.out w1 (HRC.out w1 HB1.out)).mono ?_
  rintro e w2 ⟨rfl, hb2⟩
  have HB2 : Hid (Below w0.heap.size w0 w2) := HB1.out.trans (hb2.mono HB1.out.size)
  clear hb2 HB1 HBK
  by_cases hbn : bn ≤ 8000
  · have d1 : decide (8000 < bn) = false := decide_eq_false (by omega)
    have d1' : decide (8000 < (bn : Int)) = false := decide_eq_false (by omega)
    obtain ⟨k0, k1, k2, k3, k4, k5, k6, k7⟩ := HCL.out w2 HB2.out
    go_wp2_with fail
    clear k0 k1 k2 k3 k4 k5 k6 k7
    refine (HWF.out w2 (HRC.out w2 HB2.out) hbn).mono ?_
    rintro e w3 ⟨⟨q, d, rfl, hq, hqn⟩, hb3⟩
    have HB3 : Hid (Below w0.heap.size w0 w3) := HB2.out.trans (hb3.mono HB2.out.size)
    have HQ : Hid (Rec verE w3 q mL ∧ (q = none → mL = [] ∧ d = 0)) := ⟨hq, hqn⟩
    clear hb3 HB2 hq hqn HWF d1 d1'
    go_wp2_with fail
    refine (HEN.out w3 q d HQ.out.1 HQ.out.2 hbn (HLO.out w3 HB3.out)).mono ?_
    rintro e w4 ⟨⟨ev, rfl, hev⟩, hb4⟩
    have HB4 : Hid (Below w0.heap.size w0 w4) := HB3.out.trans (hb4.mono HB3.out.size)
    have HEV : Hid (BareIs ad ev code) := hev
    obtain ⟨k0, k1, k2, k3, k4, k5, k6, k7⟩ := HCL.out w4 HB4.out
    clear hb4 HB3 hev HEN HQ
    go_wp2_with fail
    clear k0 k1 k2 k3 k4 k5 k6 k7
    refine (HRW.out hbn w4 (HRC.out w4 HB4.out)).mono ?_
    rintro e w5 ⟨rfl, hb5⟩
    have HB5 : Hid (Below w0.heap.size w0 w5) := HB4.out.trans (hb5.mono HB4.out.size)
    clear hb5 HB4 HRW
    rcases HCS.out with ⟨h0, h1, h2⟩ | h0
    · subst h2
      have d2 : decide (0 < code) = true := decide_eq_true h1
      have HCO := coded2_any HEV.out w5 (HSN.out w5 (HLO.out w5 HB5.out))
      clear HDE
      go_wp2_with fail
      refine HCO.mono ?_
      rintro e w6 ⟨rfl, hb6⟩
      have HB6 : Hid (Below w.heap.size w w6) := HLO.out w6 (HB5.out.trans (hb6.mono HB5.out.size))
      clear hb6 HCO
      go_wp2
      go_ret
      exact ⟨rfl, HB6.out⟩
    · subst h0
      obtain rfl : ev = .nilIface := by
        rcases HEV.out with ⟨h, _⟩ | ⟨i, _, _, h4⟩
        · exact h
        · omega
      have HDC := HDE.out rfl hbn w5 (HLO.out w5 HB5.out)
      clear HDE HEV HCS
      go_wp2_with fail
      refine HDC.mono ?_
      rintro e w6 ⟨⟨r, g, rfl, hr6⟩, hb6⟩
      have hb06 : Below w0.heap.size w0 w6 := HB5.out.trans (hb6.mono HB5.out.size)
      obtain ⟨w7, hw7⟩ : ∃ w7, w7 = w6.alloc (.cells #[.string m1, .string m2, .string m3, .string m4, .int .i64 m5, .int .i64 m6, .bool m7, .slice r mL.length g] 31) := ⟨_, rfl⟩
      have HW7 : Hid (w7 = w6.alloc (.cells #[.string m1, .string m2, .string m3, .string m4, .int .i64 m5, .int .i64 m6, .bool m7, .slice r mL.length g] 31)) := hw7
      have hb7 : Below w6.heap.size w6 w7 := by rw [hw7]; exact (Below.refl _ _).alloc (Nat.le_refl _) _
      have e7 : w7.heap[w6.heap.size]? = some (.cells #[.string m1, .string m2, .string m3, .string m4, .int .i64 m5, .int .i64 m6, .bool m7, .slice r mL.length g] 31 (0, 0)) := by rw [hw7]; exact heap_alloc_new _ _
      have hlt7 : w6.heap.size < w7.heap.size := (Array.getElem?_eq_some_iff.1 e7).1
      have hb07 : Below w0.heap.size w0 w7 := hb06.trans (hb7.mono hb06.size)
      have HALL : Hid (∀ W, Below w7.heap.size w7 W → (W.cell? ⟨w.heap.size, 0, none⟩ = some (.string m1) ∧ W.cell? ⟨w.heap.size, 1, none⟩ = some (.string m2) ∧ W.cell? ⟨w.heap.size, 2, none⟩ = some (.string m3) ∧ W.cell? ⟨w.heap.size, 3, none⟩ = some (.string m4) ∧ W.cell? ⟨w.heap.size, 4, none⟩ = some (.int .i64 m5) ∧ W.cell? ⟨w.heap.size, 5, none⟩ = some (.int .i64 m6) ∧ W.cell? ⟨w.heap.size, 6, none⟩ = some (.bool m7) ∧ W.cell? ⟨w.heap.size, 7, none⟩ = some (.slice p mL.length c) ∧ W.cell? ⟨w6.heap.size, 0, none⟩ = some (.string m1) ∧ W.cell? ⟨w6.heap.size, 1, none⟩ = some (.string m2) ∧ W.cell? ⟨w6.heap.size, 2, none⟩ = some (.string m3) ∧ W.cell? ⟨w6.heap.size, 3, none⟩ = some (.string m4) ∧ W.cell? ⟨w6.heap.size, 4, none⟩ = some (.int .i64 m5) ∧ W.cell? ⟨w6.heap.size, 5, none⟩ = some (.int .i64 m6) ∧ W.cell? ⟨w6.heap.size, 6, none⟩ = some (.bool m7) ∧ W.cell? ⟨w6.heap.size, 7, none⟩ = some (.slice r mL.length g) ∧ Below w7.heap.size w7 W)) := fun W hW => by
        have a := (hW.block _ hlt7).trans e7
        obtain ⟨k0, k1, k2, k3, k4, k5, k6, k7⟩ := HCL.out W (hb07.trans (hW.mono hb07.size))
        refine ⟨k0, k1, k2, k3, k4, k5, k6, k7, ?_, ?_, ?_, ?_, ?_, ?_, ?_, ?_, hW⟩ <;> simp [World.cell?, a]
      have HF7 : Hid (Rec verE w7 r mL ∧ Below w0.heap.size w0 w7) := ⟨hr6.below hb7, hb07⟩
      have HBX : Hid (∀ W, (W.cell? ⟨w.heap.size, 0, none⟩ = some (.string m1) ∧ W.cell? ⟨w.heap.size, 1, none⟩ = some (.string m2) ∧ W.cell? ⟨w.heap.size, 2, none⟩ = some (.string m3) ∧ W.cell? ⟨w.heap.size, 3, none⟩ = some (.string m4) ∧ W.cell? ⟨w.heap.size, 4, none⟩ = some (.int .i64 m5) ∧ W.cell? ⟨w.heap.size, 5, none⟩ = some (.int .i64 m6) ∧ W.cell? ⟨w.heap.size, 6, none⟩ = some (.bool m7) ∧ W.cell? ⟨w.heap.size, 7, none⟩ = some (.slice p mL.length c) ∧ W.cell? ⟨w6.heap.size, 0, none⟩ = some (.string m1) ∧ W.cell? ⟨w6.heap.size, 1, none⟩ = some (.string m2) ∧ W.cell? ⟨w6.heap.size, 2, none⟩ = some (.string m3) ∧ W.cell? ⟨w6.heap.size, 3, none⟩ = some (.string m4) ∧ W.cell? ⟨w6.heap.size, 4, none⟩ = some (.int .i64 m5) ∧ W.cell? ⟨w6.heap.size, 5, none⟩ = some (.int .i64 m6) ∧ W.cell? ⟨w6.heap.size, 6, none⟩ = some (.bool m7) ∧ W.cell? ⟨w6.heap.size, 7, none⟩ = some (.slice r mL.length g) ∧ Below w7.heap.size w7 W) → Calls Tryd.prog 13 #[.agg #[.string m1, .string m2, .string m3, .string m4, .int .i64 m5, .int .i64 m6, .bool m7, .slice r mL.length g]] W fun e w' => e = .returned (.agg #[.string m1, .string m2, .string m3, .string m4, .int .i64 m5, .int .i64 m6, .bool m7, .slice r mL.length g]) ∧ (w'.cell? ⟨w.heap.size, 0, none⟩ = some (.string m1) ∧ w'.cell? ⟨w.heap.size, 1, none⟩ = some (.string m2) ∧ w'.cell? ⟨w.heap.size, 2, none⟩ = some (.string m3) ∧ w'.cell? ⟨w.heap.size, 3, none⟩ = some (.string m4) ∧ w'.cell? ⟨w.heap.size, 4, none⟩ = some (.int .i64 m5) ∧ w'.cell? ⟨w.heap.size, 5, none⟩ = some (.int .i64 m6) ∧ w'.cell? ⟨w.heap.size, 6, none⟩ = some (.bool m7) ∧ w'.cell? ⟨w.heap.size, 7, none⟩ = some (.slice p mL.length c) ∧ w'.cell? ⟨w6.heap.size, 0, none⟩ = some (.string m1) ∧ w'.cell? ⟨w6.heap.size, 1, none⟩ = some (.string m2) ∧ w'.cell? ⟨w6.heap.size, 2, none⟩ = some (.string m3) ∧ w'.cell? ⟨w6.heap.size, 3, none⟩ = some (.string m4) ∧ w'.cell? ⟨w6.heap.size, 4, none⟩ = some (.int .i64 m5) ∧ w'.cell? ⟨w6.heap.size, 5, none⟩ = some (.int .i64 m6) ∧ w'.cell? ⟨w6.heap.size, 6, none⟩ = some (.bool m7) ∧ w'.cell? ⟨w6.heap.size, 7, none⟩ = some (.slice r mL.length g) ∧ Below w7.heap.size w7 w')) := fun W hW => (HBW.out W r g).mono fun e w' hp => ⟨hp.1, HALL.out w' (hW.2.2.2.2.2.2.2.2.2.2.2.2.2.2.2.2.trans (hp.2.mono hW.2.2.2.2.2.2.2.2.2.2.2.2.2.2.2.2.size))⟩
      have HSX : Hid (∀ W, (W.cell? ⟨w.heap.size, 0, none⟩ = some (.string m1) ∧ W.cell? ⟨w.heap.size, 1, none⟩ = some (.string m2) ∧ W.cell? ⟨w.heap.size, 2, none⟩ = some (.string m3) ∧ W.cell? ⟨w.heap.size, 3, none⟩ = some (.string m4) ∧ W.cell? ⟨w.heap.size, 4, none⟩ = some (.int .i64 m5) ∧ W.cell? ⟨w.heap.size, 5, none⟩ = some (.int .i64 m6) ∧ W.cell? ⟨w.heap.size, 6, none⟩ = some (.bool m7) ∧ W.cell? ⟨w.heap.size, 7, none⟩ = some (.slice p mL.length c) ∧ W.cell? ⟨w6.heap.size, 0, none⟩ = some (.string m1) ∧ W.cell? ⟨w6.heap.size, 1, none⟩ = some (.string m2) ∧ W.cell? ⟨w6.heap.size, 2, none⟩ = some (.string m3) ∧ W.cell? ⟨w6.heap.size, 3, none⟩ = some (.string m4) ∧ W.cell? ⟨w6.heap.size, 4, none⟩ = some (.int .i64 m5) ∧ W.cell? ⟨w6.heap.size, 5, none⟩ = some (.int .i64 m6) ∧ W.cell? ⟨w6.heap.size, 6, none⟩ = some (.bool m7) ∧ W.cell? ⟨w6.heap.size, 7, none⟩ = some (.slice r mL.length g) ∧ Below w7.heap.size w7 W) → Calls Tryd.prog 12 #[.agg #[.string m1, .string m2, .string m3, .string m4, .int .i64 m5, .int .i64 m6, .bool m7, .slice r mL.length g], .agg #[.string m1, .string m2, .string m3, .string m4, .int .i64 m5, .int .i64 m6, .bool m7, .slice p mL.length c]] W fun e w' => e = .returned (.bool true) ∧ (w'.cell? ⟨w.heap.size, 0, none⟩ = some (.string m1) ∧ w'.cell? ⟨w.heap.size, 1, none⟩ = some (.string m2) ∧ w'.cell? ⟨w.heap.size, 2, none⟩ = some (.string m3) ∧ w'.cell? ⟨w.heap.size, 3, none⟩ = some (.string m4) ∧ w'.cell? ⟨w.heap.size, 4, none⟩ = some (.int .i64 m5) ∧ w'.cell? ⟨w.heap.size, 5, none⟩ = some (.int .i64 m6) ∧ w'.cell? ⟨w.heap.size, 6, none⟩ = some (.bool m7) ∧ w'.cell? ⟨w.heap.size, 7, none⟩ = some (.slice p mL.length c) ∧ w'.cell? ⟨w6.heap.size, 0, none⟩ = some (.string m1) ∧ w'.cell? ⟨w6.heap.size, 1, none⟩ = some (.string m2) ∧ w'.cell? ⟨w6.heap.size, 2, none⟩ = some (.string m3) ∧ w'.cell? ⟨w6.heap.size, 3, none⟩ = some (.string m4) ∧ w'.cell? ⟨w6.heap.size, 4, none⟩ = some (.int .i64 m5) ∧ w'.cell? ⟨w6.heap.size, 5, none⟩ = some (.int .i64 m6) ∧ w'.cell? ⟨w6.heap.size, 6, none⟩ = some (.bool m7) ∧ w'.cell? ⟨w6.heap.size, 7, none⟩ = some (.slice r mL.length g) ∧ Below w7.heap.size w7 w')) := fun W hW => (HSM.out hbn W r g (HF7.out.1.below hW.2.2.2.2.2.2.2.2.2.2.2.2.2.2.2.2) (HRC.out W (HF7.out.2.trans (hW.2.2.2.2.2.2.2.2.2.2.2.2.2.2.2.2.mono HF7.out.2.size)))).mono fun e w' hp => ⟨hp.1, HALL.out w' (hW.2.2.2.2.2.2.2.2.2.2.2.2.2.2.2.2.trans (hp.2.mono hW.2.2.2.2.2.2.2.2.2.2.2.2.2.2.2.2.size))⟩
      have hS0 := HALL.out w7.drew (Below.refl _ _).drew
      clear hr6 hb6 hb06 hw7 hb7 e7 hlt7 hb07 HDC
      go_wp2_with fail
      rw [← HW7.out]
      go_region_held3 (fun W => (W.cell? ⟨w.heap.size, 0, none⟩ = some (.string m1) ∧ W.cell? ⟨w.heap.size, 1, none⟩ = some (.string m2) ∧ W.cell? ⟨w.heap.size, 2, none⟩ = some (.string m3) ∧ W.cell? ⟨w.heap.size, 3, none⟩ = some (.string m4) ∧ W.cell? ⟨w.heap.size, 4, none⟩ = some (.int .i64 m5) ∧ W.cell? ⟨w.heap.size, 5, none⟩ = some (.int .i64 m6) ∧ W.cell? ⟨w.heap.size, 6, none⟩ = some (.bool m7) ∧ W.cell? ⟨w.heap.size, 7, none⟩ = some (.slice p mL.length c) ∧ W.cell? ⟨w6.heap.size, 0, none⟩ = some (.string m1) ∧ W.cell? ⟨w6.heap.size, 1, none⟩ = some (.string m2) ∧ W.cell? ⟨w6.heap.size, 2, none⟩ = some (.string m3) ∧ W.cell? ⟨w6.heap.size, 3, none⟩ = some (.string m4) ∧ W.cell? ⟨w6.heap.size, 4, none⟩ = some (.int .i64 m5) ∧ W.cell? ⟨w6.heap.size, 5, none⟩ = some (.int .i64 m6) ∧ W.cell? ⟨w6.heap.size, 6, none⟩ = some (.bool m7) ∧ W.cell? ⟨w6.heap.size, 7, none⟩ = some (.slice r mL.length g) ∧ Below w7.heap.size w7 W)) (first | assumption | exact hS0) (first | (go_at_call 13; refine (HBX.out _ (by assumption)).mono ?_; rintro e w8 ⟨rfl, hS8⟩) | (go_at_call 12; refine (HSX.out _ (by assumption)).mono ?_; rintro e w9 ⟨rfl, hS9⟩))
      go_wp2
      go_ret
      exact ⟨rfl, HLO.out _ (HF7.out.2.trans (hS9.2.2.2.2.2.2.2.2.2.2.2.2.2.2.2.2.mono HF7.out.2.size))⟩
  · have d1 : decide (8000 < bn) = true := decide_eq_true (by omega)
    have d1' : decide (8000 < (bn : Int)) = true := decide_eq_true (by omega)
    go_wp2
    go_ret
    exact ⟨rfl, HLO.out w2 HB2.out⟩
end Go.Proofs.YteppmkpckdmnaaaDoor
