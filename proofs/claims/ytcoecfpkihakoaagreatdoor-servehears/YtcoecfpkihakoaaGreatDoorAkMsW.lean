/- The statements' BackWires, the document's SameMessages. -/
import Derived.Test.YtcoecfpkihakoaaGreatDoorGz6
import Derived.Test.YtcoecfpkihakoaaGreatDoorGz7
import Derived.Deep.QuietTactic
import Derived.BigQuiet
import Derived.StillTailTactics
namespace Go.Proofs.YtcoecfpkihakoaaGreatDoor
open Go.RowKit
set_option maxRecDepth 10000 in
set_option maxHeartbeats 4000000 in
theorem backWires_any (B : Nat) (p : Option Addr) (l : List Msg) (cap : Nat) (w : World) (hl : l.length ≤ 1000) (hB0 : B ≤ w.heap.size) (h : MsgsN B w p l) :
    Calls Tryz.prog 10 #[.slice p l.length cap] w fun e w' => (∃ p' c', e = .returned (.slice p' l.length c') ∧ MsgsN B w' p' l) ∧ Below w.heap.size w w' := by
  obtain ⟨ml, hml, hr, hh, _⟩ := h
  have hlen : l.length = ml.length := by rw [← hml, List.length_map]
  rw [hlen] at hl ⊢
  have HR : Hid (Rec mE w p ml) := hr
  have HH : Hid (∀ x ∈ ml, HasL w x ∧ ∀ b o, x.2.1 = some ⟨b, o, none⟩ → B ≤ b) := hh
  have HB0 : Hid (B ≤ w.heap.size) := hB0
  clear hB0
  have HML : Hid (ml.map Prod.fst = l) := hml
  have HBK : Hid (∀ (m : Msg) (h : Lv) W, Calls Tryz.prog 22 #[.agg #[.string m.from_, .string m.to_, .string m.kind, .string m.key, .int .i64 m.op, .int .i64 m.config, .bool m.shut, .slice h.1 h.2.1 h.2.2]] W fun e w' => e = .returned (.agg #[.string m.from_, .string m.to_, .string m.kind, .string m.key, .int .i64 m.op, .int .i64 m.config, .bool m.shut, .slice h.1 h.2.1 h.2.2]) ∧ Below W.heap.size W w') := fun m h W => backWire_any m h.1 h.2.1 h.2.2 W
  clear hr hh hml hlen
  go_enter Tryz.func10, Tryz.ntmps10
  go_wp2
  go_loopw [3, 4] (fun v x wr => ∃ i : Nat, i ≤ ml.length ∧ x = .int .i64 i ∧ OwnR mE 44 wr w.heap.size v (ml.take i) ∧ Below w.heap.size w wr) (fun _ x _ => ml.length - (intOf x).toNat)
  case atStart => exact ⟨0, Nat.zero_le _, rfl, OwnR.nil _ _ _, Below.refl _ _⟩
  case round =>
    obtain ⟨i, hi, rfl, hO, hB⟩ := hrel
    obtain ⟨w1, rfl⟩ : ∃ w1, w1 = wr := ⟨_, rfl⟩
    obtain ⟨pv, cv, rfl, hms, hcv, hpn, hpb⟩ := hO.form
    have HPB : Hid (∀ b o, pv = some ⟨b, o, none⟩ → w.heap.size ≤ b ∧ b < w1.heap.size) := hpb
    clear hpb
    have HO : Hid (OwnR mE 44 w1 w.heap.size (.slice pv (ml.take i).length cv) (ml.take i)) := hO
    have HB : Hid (Below w.heap.size w w1) := hB
    have HMS : Hid (Rec mE w1 pv (ml.take i)) := hms
    have htl : (ml.take i).length ≤ 1000 := by rw [List.length_take]; omega
    clear hO hms hpn
    by_cases hil : i < ml.length
    · have HT : Hid (ml.take (i + 1) = ml.take i ++ [msgAt ml i]) := msg_take hil
      obtain ⟨b, o, hpp, hblt, d0, d1, d2, d3, d4, d5, d6, d7⟩ := msg_cells (HR.out.below hB) hil
      subst hpp
      rw [msgAt_get hil] at d0 d1 d2 d3 d4 d5 d6 d7
      have HBX := HBK.out (msgAt ml i).1 (msgAt ml i).2
      clear hB
      generalize msgAt ml i = x at *
      generalize ml.take i = done at *
      obtain ⟨⟨m1, m2, m3, m4, m5, m6, m7, mL⟩, lp, ln, lc⟩ := x
      dsimp only at d0 d1 d2 d3 d4 d5 d6 d7 HBX
      have HBY : Hid (∀ W, Calls Tryz.prog 22 #[.agg #[.string m1, .string m2, .string m3, .string m4, .int .i64 m5, .int .i64 m6, .bool m7, .slice lp ln lc]] W fun e w' => e = .returned (.agg #[.string m1, .string m2, .string m3, .string m4, .int .i64 m5, .int .i64 m6, .bool m7, .slice lp ln lc]) ∧ Below W.heap.size W w') := HBX
      clear HBX
      go_wp2_with fail
      refine (HBY.out _).mono ?_
      rintro e w2 ⟨rfl, hb2⟩
      have HO2 : Hid (OwnR mE 44 w2 w.heap.size (.slice pv done.length cv) done) := HO.out.kept hb2
      have HB2 : Hid (Below w.heap.size w w2) := HB.out.trans (hb2.mono HB.out.size)
      have hz2 : w.heap.size ≤ w2.heap.size := HB2.out.size
      obtain ⟨w4, hw4⟩ : ∃ w4, w4 = (w2.alloc (.cells #[.string m1, .string m2, .string m3, .string m4, .int .i64 m5, .int .i64 m6, .bool m7, .slice lp ln lc] 44)).alloc (.cells #[.string m1, .string m2, .string m3, .string m4, .int .i64 m5, .int .i64 m6, .bool m7, .slice lp ln lc] 44) := ⟨_, rfl⟩
      have hb24 : Below w2.heap.size w2 w4 := by rw [hw4]; exact ((Below.refl _ _).alloc (Nat.le_refl _) _).alloc (by simp) _
      have HN4 : Hid (∀ j u, (mE.enc (⟨m1, m2, m3, m4, m5, m6, m7, mL⟩, lp, ln, lc))[j]? = some u → w4.cell? ⟨w2.heap.size + 1, 0 + j, none⟩ = some u) := fun j u hj => by
        rw [hw4, World.cell?_alloc_at _ _ _ _ (by simp), Nat.zero_add]
        simpa [mE, msgC] using hj
      have HW4 : Hid (w4 = (w2.alloc (.cells #[.string m1, .string m2, .string m3, .string m4, .int .i64 m5, .int .i64 m6, .bool m7, .slice lp ln lc] 44)).alloc (.cells #[.string m1, .string m2, .string m3, .string m4, .int .i64 m5, .int .i64 m6, .bool m7, .slice lp ln lc] 44)) := hw4
      have HO4 : Hid (OwnR mE 44 w4 w.heap.size (.slice pv done.length cv) done) := HO2.out.kept hb24
      have HB4 : Hid (Below w.heap.size w w4) := HB2.out.trans (hb24.mono HB2.out.size)
      have HS4 : Hid (w.heap.size ≤ w4.heap.size ∧ w2.heap.size + 1 < w4.heap.size) := by
        have e : w4.heap.size = w2.heap.size + 1 + 1 := by rw [hw4]; simp
        exact ⟨by omega, by omega⟩
      clear hb2 HO HB HBY d0 d1 d2 d3 d4 d5 d6 d7 hw4 hb24 HO2 HB2 HMS
      go_wp2_with (first | rw [← HW4.out] | (at_builtin; refine wpList_append_rec (E := mE) rfl (.tmp 17) (.tmp 19) 22 44 rfl (.agg #[.string ⟨#[]⟩, .string ⟨#[]⟩, .string ⟨#[]⟩, .string ⟨#[]⟩, .int .i64 0, .int .i64 0, .bool false, .slice none 0 0]) 112 Tryz.underlying22 minfoR rfl w.heap.size (.slice pv done.length cv) done rfl HO4.out (w2.heap.size + 1) 0 1 (⟨m1, m2, m3, m4, m5, m6, m7, mL⟩, lp, ln, lc) rfl HN4.out (by unfold maxLen; omega) (by omega) HS4.out.1 HS4.out.2 ?_; intro v5 w5 hO5 hb5))
      have HO5 : Hid (OwnR mE 44 w5 w.heap.size v5 (done ++ [(⟨m1, m2, m3, m4, m5, m6, m7, mL⟩, lp, ln, lc)])) := hO5
      have HB5 : Hid (Below w.heap.size w w5) := HB4.out.trans hb5
      clear hO5 hb5 HO4 HB4
      go_wp2
      go_roundw
      case rel => exact ⟨i + 1, by omega, by go_num, by rw [HT.out]; exact HO5.out, HB5.out⟩
      case measure => simp [intOf]; omega
    · have hie : i = ml.length := by omega
      have HE : Hid (ml.take i = ml) := by show _ = _; rw [hie, List.take_length]
      rw [HE.out] at HMS
      rw [HE.out]
      clear hie htl
      go_wp2
      go_ret
      exact ⟨⟨pv, cv, rfl, ml, HML.out, HMS.out, fun x hx => ⟨(HH.out x hx).1.below HB.out, (HH.out x hx).2⟩, fun b o e => Nat.le_trans HB0.out (HPB.out b o e).1⟩, HB.out⟩
set_option maxRecDepth 10000 in
set_option maxHeartbeats 4000000 in
theorem sameMsgs_yes (pa pb : Option Addr) (l : List Msg) (ca cb : Nat) (w : World) (hl : l.length ≤ 1000) (hv : ∀ m ∈ l, m.L.length ≤ 1000000) (ha : MsgsAt w pa l) (hb : MsgsAt w pb l) :
    Calls Tryz.prog 9 #[.slice pa l.length ca, .slice pb l.length cb] w fun e w' => e = .returned (.bool true) ∧ Below w.heap.size w w' := by
  obtain ⟨al, hal, har, hah⟩ := ha
  obtain ⟨bl, hbl, hbr, hbh⟩ := hb
  have hla : al.length = l.length := by rw [← hal, List.length_map]
  have hlb : bl.length = l.length := by rw [← hbl, List.length_map]
  have HAR : Hid (Rec mE w pa al) := har
  have HBR : Hid (Rec mE w pb bl) := hbr
  have HAH : Hid (∀ x ∈ al, HasL w x) := hah
  have HBH : Hid (∀ x ∈ bl, HasL w x) := hbh
  have HLA : Hid (al.length = l.length) := hla
  have HLB : Hid (bl.length = l.length) := hlb
  have HEQ : Hid (∀ i, i < l.length → (msgAt al i).1 = (msgAt bl i).1 ∧ (msgAt al i).1.L.length ≤ 1000000) := fun i hi => by
    have e1 : (msgAt al i).1 = l[i] := by rw [← msgAt_get (by omega)]; simp only [← hal, List.getElem_map]
    have e2 : (msgAt bl i).1 = l[i] := by rw [← msgAt_get (by omega)]; simp only [← hbl, List.getElem_map]
    exact ⟨e1.trans e2.symm, by rw [e1]; exact hv _ (List.getElem_mem hi)⟩
  have HSM : Hid (∀ (m : Msg) (p1 p2 : Option Addr) (c1 c2 : Nat) W, m.L.length ≤ 1000000 → Rec verE W p1 m.L → Rec verE W p2 m.L → Calls Tryz.prog 21 #[.agg #[.string m.from_, .string m.to_, .string m.kind, .string m.key, .int .i64 m.op, .int .i64 m.config, .bool m.shut, .slice p1 m.L.length c1], .agg #[.string m.from_, .string m.to_, .string m.kind, .string m.key, .int .i64 m.op, .int .i64 m.config, .bool m.shut, .slice p2 m.L.length c2]] W fun e w' => e = .returned (.bool true) ∧ Below W.heap.size W w') := fun m p1 p2 c1 c2 W h1 h2 h3 => sameMsg_yes m p1 p2 c1 c2 W h1 h2 h3
  clear har hah hbr hbh hla hlb hal hbl hv
  go_enter Tryz.func9, Tryz.ntmps9
  go_wp2
  go_loopw [5] (fun x wr => ∃ i : Nat, i ≤ l.length ∧ x = .int .i64 i ∧ Below w.heap.size w wr) (fun x _ => l.length - (intOf x).toNat)
  case atStart => exact ⟨0, Nat.zero_le _, rfl, Below.refl _ _⟩
  case round =>
    obtain ⟨i, hi, rfl, hB⟩ := hrel
    obtain ⟨w1, rfl⟩ : ∃ w1, w1 = wr := ⟨_, rfl⟩
    have HB : Hid (Below w.heap.size w w1) := hB
    by_cases hil : i < l.length
    · have hia : i < al.length := by rw [HLA.out]; exact hil
      have hib : i < bl.length := by rw [HLB.out]; exact hil
      obtain ⟨b1, o1, hp1, hlt1, a0, a1, a2, a3, a4, a5, a6, a7⟩ := msg_cells (HAR.out.below hB) hia
      obtain ⟨b2, o2, hp2, hlt2, c0, c1, c2, c3, c4, c5, c6, c7⟩ := msg_cells (HBR.out.below hB) hib
      rw [msgAt_get hia] at a0 a1 a2 a3 a4 a5 a6 a7
      rw [msgAt_get hib] at c0 c1 c2 c3 c4 c5 c6 c7
      obtain ⟨he, hle⟩ := HEQ.out i hil
      have hA := (HAH.out _ (msgAt_mem hia)).below hB
      have hC := (HBH.out _ (msgAt_mem hib)).below hB
      rw [← he] at c0 c1 c2 c3 c4 c5 c6
      have l1 := hA.len
      have l2 := hC.len
      have r1 := hA.recs
      have r2 := hC.recs
      rw [← he] at l2 r2
      rw [l1] at a7
      rw [l2] at c7
      have HX : Hid (∀ W, Below w1.heap.size w1 W → Calls Tryz.prog 21 #[.agg #[.string (msgAt al i).1.from_, .string (msgAt al i).1.to_, .string (msgAt al i).1.kind, .string (msgAt al i).1.key, .int .i64 (msgAt al i).1.op, .int .i64 (msgAt al i).1.config, .bool (msgAt al i).1.shut, .slice (msgAt al i).2.1 (msgAt al i).1.L.length (msgAt al i).2.2.2], .agg #[.string (msgAt al i).1.from_, .string (msgAt al i).1.to_, .string (msgAt al i).1.kind, .string (msgAt al i).1.key, .int .i64 (msgAt al i).1.op, .int .i64 (msgAt al i).1.config, .bool (msgAt al i).1.shut, .slice (msgAt bl i).2.1 (msgAt al i).1.L.length (msgAt bl i).2.2.2]] W fun e w' => e = .returned (.bool true) ∧ Below W.heap.size W w') := fun W hW => HSM.out (msgAt al i).1 _ _ _ _ W hle (r1.below hW) (r2.below hW)
      subst hp1 hp2
      clear hA hC l1 l2 r1 r2 he hle hB
      generalize (msgAt al i).1 = m at *
      generalize (msgAt al i).2 = ha at *
      generalize (msgAt bl i).2 = hb at *
      obtain ⟨m1, m2, m3, m4, m5, m6, m7, mL⟩ := m
      obtain ⟨p1, n1, k1⟩ := ha
      obtain ⟨p2, n2, k2⟩ := hb
      dsimp only at *
      go_wp2
      refine wp_region_still_tail 8 (by kernel_rfl) (by kernel_rfl) ?_
      simp only [List.take_succ_cons, List.take_zero, List.drop_succ_cons, List.drop_zero]
      still_step
      still_step
      still_step
      still_step
      still_step
      still_step
      still_step
      still_step
      refine wpStill_nil ?_
      go_wp2_with (go_at_call 21; refine (HX.out _ (Below.refl _ _).drew).mono ?_; rintro e w2 ⟨rfl, hb2⟩; have HB2 : Hid (Below w.heap.size w w2) := HB.out.trans (((Below.refl _ _).drew.trans hb2).mono HB.out.size); clear hb2)
      go_roundw
      case rel => exact ⟨i + 1, by omega, by go_num, HB2.out⟩
      case measure => simp [intOf]; omega
    · go_wp2
      go_ret
      exact ⟨rfl, HB.out⟩
end Go.Proofs.YtcoecfpkihakoaaGreatDoor
