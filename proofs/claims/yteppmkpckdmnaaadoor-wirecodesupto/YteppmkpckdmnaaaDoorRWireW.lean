/- The document's own Wire: a message as bytes. -/
import Derived.Test.YteppmkpckdmnaaaDoorRWireB
import Derived.Test.YteppmkpckdmnaaaDoorROpenW
import Derived.Deep.RegionHeld3
namespace Go.Proofs.YteppmkpckdmnaaaDoor
open Go.RowKit
set_option maxRecDepth 100000 in
set_option maxHeartbeats 16000000 in
theorem rwire_any (m : Msg) (p : Option Addr) (c : Nat) (w : World) (hr : Rec verE w p m.L) (hb : bulkN m ≤ 8000) (hle : MsgLe m) :
    Calls Tryd.prog 9 #[msgA m (.slice p m.L.length c)] w fun e w' => e = .returned (.tuple #[.string (encE m).2, .int .i64 (encE m).1]) ∧ Below w.heap.size w w' := by
  have hlen : m.L.length ≤ 200 := by have := bulkV_len m.L; unfold bulkN at hb; omega
  have HEI : Hid (∀ (n : Nat) (W : World), n ≤ 9223372036854775807 → Calls Tryd.prog 18 #[.int .i64 (n : Int)] W fun e w' => e = .returned (.string (ofL (eightL n))) ∧ Below W.heap.size W w') := fun n W hn => eight_any n W hn
  have HNG := numsL_neg m
  have HFT : Hid (negM m = false → (0 ≤ m.op ∧ 0 ≤ m.config) ∧ ∀ v ∈ m.L, 0 ≤ v.n ∧ 0 ≤ v.who ∧ 0 ≤ v.size ∧ 0 ≤ v.at_) := fun h => by
    unfold negM at h
    simp only [Bool.or_eq_false_iff, decide_eq_false_iff_not, List.any_eq_false] at h
    obtain ⟨⟨ho, hc⟩, hv⟩ := h
    refine ⟨⟨by omega, by omega⟩, fun v hx => ?_⟩
    have a := hv v hx
    simp at a
    omega
  have HSZ : Hid (∀ k, k ≤ m.L.length → ((m.L.take k).flatMap verL).length ≤ 8000) := fun k _ => by
    have h1 := flat_bulk (m.L.take k)
    have h2 := bulkV_le m.L k
    unfold bulkN at hb
    omega
  have HCAT : Hid (∀ (a b : ByteArray), a.size ≤ 1000000 → b.size ≤ 1000000 → ∀ W, Sem.run Tryd.prog (Op.stringOp .add a b) W = .ok (.string (a ++ b)) W) := fun a b ha hb W => run_string_add_sum W a b (by omega)
  have HE : Hid (encE m = if negM m = true then (2, ⟨#[]⟩) else if 3996 < (encL m).length then (7, ⟨#[]⟩) else (0, sealT (ofL (encL m)))) := by show _ = _; rfl
  have HEL : Hid (encL m = txsL m.from_ m.to_ m.kind m.key 4 ++ (eightL m.op.toNat ++ (eightL m.config.toNat ++ (eightL (if m.shut then 1 else 0) ++ (eightL m.L.length ++ m.L.flatMap verL))))) := by show _ = _; rw [txsL_four]; rfl
  generalize encE m = EE at *
  generalize encL m = EL at *
  generalize negM m = NG at *
  obtain ⟨m1, m2, m3, m4, m5, m6, m7, mL⟩ := m
  unfold msgA
  unfold MsgLe at hle
  unfold bulkN at hb
  simp only [] at *
  have HLE : Hid ((m5 ≤ 9223372036854775807 ∧ m6 ≤ 9223372036854775807) ∧ ∀ v ∈ mL, v.n ≤ 9223372036854775807 ∧ v.who ≤ 9223372036854775807 ∧ v.size ≤ 9223372036854775807 ∧ v.at_ ≤ 9223372036854775807) := hle
  have HNEG : Hid ((numsL m5 m6 mL).any negI = NG) := HNG
  have HRC : Hid (∀ W, Below w.heap.size w W → Rec verE W p mL) := fun W hW => hr.below hW
  have hz1 : m1.size ≤ 8000 := by omega
  have hz2 : m2.size ≤ 8000 := by omega
  have hz3 : m3.size ≤ 8000 := by omega
  have hz4 : m4.size ≤ 8000 := by omega
  clear hle HNG hr hb
  obtain ⟨w3, hw3⟩ : ∃ w3, w3 = ((w.alloc (.cells #[.string m1, .string m2, .string m3, .string m4, .int .i64 m5, .int .i64 m6, .bool m7, .slice p mL.length c] 24)).alloc (.cells #[.int .i64 m5, .int .i64 m6] 3)).alloc (.cells #[.string m1, .string m2, .string m3, .string m4] 9) := ⟨_, rfl⟩
  have HW3 : Hid (w3 = ((w.alloc (.cells #[.string m1, .string m2, .string m3, .string m4, .int .i64 m5, .int .i64 m6, .bool m7, .slice p mL.length c] 24)).alloc (.cells #[.int .i64 m5, .int .i64 m6] 3)).alloc (.cells #[.string m1, .string m2, .string m3, .string m4] 9)) := hw3
  have s1 : (w.alloc (.cells #[.string m1, .string m2, .string m3, .string m4, .int .i64 m5, .int .i64 m6, .bool m7, .slice p mL.length c] 24)).heap.size = w.heap.size + 1 := by simp
  have s2 : ((w.alloc (.cells #[.string m1, .string m2, .string m3, .string m4, .int .i64 m5, .int .i64 m6, .bool m7, .slice p mL.length c] 24)).alloc (.cells #[.int .i64 m5, .int .i64 m6] 3)).heap.size = w.heap.size + 2 := by simp
  have s3 : w3.heap.size = w.heap.size + 3 := by rw [hw3]; simp
  have hb3 : Below w.heap.size w w3 := by rw [hw3]; exact (((Below.refl _ _).alloc (Nat.le_refl _) _).alloc (by simp) _).alloc (by simp; omega) _
  have hx3 : w3.heap[w.heap.size]? = some (.cells #[.string m1, .string m2, .string m3, .string m4, .int .i64 m5, .int .i64 m6, .bool m7, .slice p mL.length c] 24 (0, 0)) := by
    rw [hw3, heap_alloc_old _ _ (by rw [s2]; omega), heap_alloc_old _ _ (by rw [s1]; omega)]
    exact heap_alloc_new _ _
  have ht3 : w3.heap[w.heap.size + 1 + 1]? = some (.cells #[.string m1, .string m2, .string m3, .string m4] 9 (0, 0)) := by
    rw [hw3, show w.heap.size + 1 + 1 = w.heap.size + 2 from rfl, ← s2]
    exact heap_alloc_new _ _
  have ho3 : OwnR intE 3 w3 (w.heap.size + 1) (.slice (some ⟨w.heap.size + 1, 0, none⟩) 2 2) [m5, m6] := by
    have h1 := int_two (w.alloc (.cells #[.string m1, .string m2, .string m3, .string m4, .int .i64 m5, .int .i64 m6, .bool m7, .slice p mL.length c] 24)) (w.heap.size + 1) m5 m6 (by rw [s1]; exact Nat.le_refl _)
    rw [s1] at h1
    rw [hw3]
    exact h1.kept ((Below.refl _ _).alloc (Nat.le_refl _) _)
  have HX3 : Hid (w3.heap[w.heap.size]? = some (.cells #[.string m1, .string m2, .string m3, .string m4, .int .i64 m5, .int .i64 m6, .bool m7, .slice p mL.length c] 24 (0, 0)) ∧ w3.heap[w.heap.size + 1 + 1]? = some (.cells #[.string m1, .string m2, .string m3, .string m4] 9 (0, 0)) ∧ OwnR intE 3 w3 (w.heap.size + 1) (.slice (some ⟨w.heap.size + 1, 0, none⟩) 2 2) [m5, m6] ∧ Below w.heap.size w w3 ∧ w3.heap.size = w.heap.size + 3) := ⟨hx3, ht3, ho3, hb3, s3⟩
  clear s1 s2 s3 hb3 hx3 ht3 ho3 hw3
  cases m7 with
  | true =>
    have HSV : Hid (∀ W, Calls Tryd.prog 18 #[.int .i64 1] W fun e w' => e = .returned (.string (ofL (eightL 1))) ∧ Below W.heap.size W w') := fun W => HEI.out 1 W (by omega)
    go_enter Tryd.func9, Tryd.ntmps9
    go_wp2
    rw [show ((w.alloc (.cells #[.string m1, .string m2, .string m3, .string m4, .int .i64 m5, .int .i64 m6, .bool true, .slice p mL.length c] 24)).alloc (.cells #[.int .i64 m5, .int .i64 m6] 3)).alloc (.cells #[.string m1, .string m2, .string m3, .string m4] 9) = w3 from HW3.out.symm]
    clear HW3
    have htb : w.heap.size + 1 + 1 < w3.heap.size := (Array.getElem?_eq_some_iff.1 HX3.out.2.1).1
    have HTX : Hid (∀ W k, Below w3.heap.size w3 W → k < 4 → W.cell? ⟨w.heap.size + 1 + 1, k, none⟩ = some (.string (txAt m1 m2 m3 m4 k))) := fun W k hW hk => txAt_cell ((hW.block _ htb).trans HX3.out.2.1) hk
    have HTS : Hid (∀ k, k < 4 → (txAt m1 m2 m3 m4 k).size ≤ 8000) := fun k hk => txAt_size hz1 hz2 hz3 hz4 hk
    have HOS : Hid (∀ k, k ≤ 4 → (ofL (txsL m1 m2 m3 m4 k)).size ≤ 40000) := fun k hk => by rw [ofL_size]; have := txsL_size hz1 hz2 hz3 hz4 k hk; omega
    have HON : Hid (∀ k, k < 4 → ofL (txsL m1 m2 m3 m4 k) ++ ofL (eightL (txAt m1 m2 m3 m4 k).size) ++ txAt m1 m2 m3 m4 k = ofL (txsL m1 m2 m3 m4 (k + 1))) := fun k hk => by rw [ofL_tx, txsL_succ _ _ _ _ hk]
    clear htb
    go_loopw [6, 8] (fun out i wr => ∃ k : Nat, k ≤ 4 ∧ i = .int .i64 k ∧ out = .string (ofL (txsL m1 m2 m3 m4 k)) ∧ Below w3.heap.size w3 wr) (fun _ i _ => 4 - (intOf i).toNat)
    case atStart => exact ⟨0, by decide, rfl, rfl, Below.refl _ _⟩
    case round =>
      obtain ⟨k, hk, rfl, rfl, hw⟩ := hrel
      obtain ⟨v0, rfl⟩ : ∃ v0, v0 = wr := ⟨_, rfl⟩
      have HV0 : Hid (Below w3.heap.size w3 v0) := hw
      clear hw
      by_cases hk4 : k < 4
      · have hc := HTX.out v0 k HV0.out hk4
        have hzs := HTS.out k hk4
        have hos := HOS.out k hk
        have HNX : Hid (ofL (txsL m1 m2 m3 m4 k) ++ ofL (eightL (txAt m1 m2 m3 m4 k).size) ++ txAt m1 m2 m3 m4 k = ofL (txsL m1 m2 m3 m4 (k + 1))) := HON.out k hk4
        have HKE : Hid (∀ W, Below w3.heap.size w3 W → W.cell? ⟨w.heap.size + 1 + 1, k, none⟩ = some (.string (txAt m1 m2 m3 m4 k)) ∧ Below w3.heap.size w3 W) := fun W hW => ⟨HTX.out W k hW hk4, hW⟩
        have he8 : (ofL (eightL (txAt m1 m2 m3 m4 k).size)).size = 8 := by rw [ofL_size, eightL_length]
        have HC1 : Hid (∀ W, (W.cell? ⟨w.heap.size + 1 + 1, k, none⟩ = some (.string (txAt m1 m2 m3 m4 k)) ∧ Below w3.heap.size w3 W) → Calls Tryd.prog 18 #[.int .i64 ((txAt m1 m2 m3 m4 k).size : Int)] W fun e w' => e = .returned (.string (ofL (eightL (txAt m1 m2 m3 m4 k).size))) ∧ (w'.cell? ⟨w.heap.size + 1 + 1, k, none⟩ = some (.string (txAt m1 m2 m3 m4 k)) ∧ Below w3.heap.size w3 w')) := fun W hW => (HEI.out _ W (by omega)).mono fun e w' hp => ⟨hp.1, HKE.out w' (hW.2.trans (hp.2.mono hW.2.size))⟩
        generalize ofL (txsL m1 m2 m3 m4 k) = s0 at *
        generalize ofL (eightL (txAt m1 m2 m3 m4 k).size) = s1 at *
        generalize txAt m1 m2 m3 m4 k = s2 at *
        have hS0 := HKE.out v0.drew HV0.out.drew
        have t1 := HCAT.out s0 s1 (by omega) (by omega)
        have t2 := HCAT.out (s0 ++ s1) s2 (by rw [ByteArray.size_append]; omega) (by omega)
        have i1 : (k : Int) < 4 := by omega
        have i0 : (0 : Int) ≤ (k : Int) := by omega
        clear hc
        go_wp2
        go_region_held3 (fun W => (W.cell? ⟨w.heap.size + 1 + 1, k, none⟩ = some (.string s2) ∧ Below w3.heap.size w3 W)) (first | assumption | exact hS0) (first | (go_at_call 18; refine (HC1.out _ (by assumption)).mono ?_; rintro e v1 ⟨rfl, hS1⟩))
        have HS1 : Hid (Below w3.heap.size w3 v1) := hS1.2
        clear hS0 hS1 HC1 HKE
        go_wp2
        go_roundw
        case rel => exact ⟨k + 1, by omega, by go_num, by rw [← HNX.out], HS1.out⟩
        case measure => simp [intOf]; omega
      · obtain rfl : k = 4 := by omega
        rw [show ((4 : Nat) : Int) = 4 from rfl]
        clear HTX HTS HOS HON
        obtain ⟨x1, x2, x3, x4, x5⟩ := HX3.out
        have hx0 := (HV0.out.block _ (by omega)).trans x1
        have ho0 := x3.kept HV0.out
        have q70 : v0.cell? ⟨w.heap.size, 7, none⟩ = some (.slice p mL.length c) := by simp [World.cell?, hx0]
        have hv0 : w.heap.size + 3 ≤ v0.heap.size := by have := HV0.out.size; omega
        have HX0 : Hid (v0.heap[w.heap.size]? = some (.cells #[.string m1, .string m2, .string m3, .string m4, .int .i64 m5, .int .i64 m6, .bool true, .slice p mL.length c] 24 (0, 0)) ∧ OwnR intE 3 v0 (w.heap.size + 1) (.slice (some ⟨w.heap.size + 1, 0, none⟩) 2 2) [m5, m6] ∧ Below w.heap.size w v0) := ⟨hx0, ho0, x4.trans (HV0.out.mono x4.size)⟩
        have HT4 : Hid ((ofL (txsL m1 m2 m3 m4 4)).size ≤ 40000) := by show _ ≤ _; rw [ofL_size]; have := txsL_size hz1 hz2 hz3 hz4 4 (by decide); omega
        generalize hTX : txsL m1 m2 m3 m4 4 = TX at *
        have HN0 : Hid (numsL m5 m6 (mL.take 0) = [m5, m6]) := by show _ = _; simp [numsL]
        have HNS : Hid (∀ k, k < mL.length → numsL m5 m6 (mL.take (k + 1)) = numsL m5 m6 (mL.take k) ++ verI (verAt mL k)) := fun k hk => numsL_take m5 m6 hk
        have HNL : Hid (∀ k, k ≤ mL.length → (numsL m5 m6 (mL.take k)).length ≤ 1000) := fun k hk => by rw [numsL_len, List.length_take]; omega
        have HNF : Hid (numsL m5 m6 (mL.take mL.length) = numsL m5 m6 mL) := by show _ = _; rw [List.take_length]
        clear x1 x2 x3 x4 x5 hx0 ho0 HX3 HV0 hz1 hz2 hz3 hz4 hk4 hk
        go_wp2
        clear q70
        go_loopw [5, 9] (fun lv i wr => ∃ k : Nat, k ≤ mL.length ∧ i = .int .i64 k ∧ OwnR intE 3 wr (w.heap.size + 1) lv (numsL m5 m6 (mL.take k)) ∧ Below (w.heap.size + 1) v0 wr) (fun _ i _ => mL.length - (intOf i).toNat)
        case atStart => exact ⟨0, Nat.zero_le _, rfl, by rw [HN0.out]; exact HX0.out.2.1, Below.refl _ _⟩
        case round =>
          obtain ⟨k, hk, rfl, hO, hB⟩ := hrel
          obtain ⟨u0, rfl⟩ : ∃ u0, u0 = wr := ⟨_, rfl⟩
          obtain ⟨lp, lc, hlv, hlr, _⟩ := hO.form
          subst hlv
          have HO : Hid (OwnR intE 3 u0 (w.heap.size + 1) (.slice lp (numsL m5 m6 (mL.take k)).length lc) (numsL m5 m6 (mL.take k))) := hO
          have HB : Hid (Below (w.heap.size + 1) v0 u0) := hB
          have hxu := (hB.block w.heap.size (by omega)).trans HX0.out.1
          have HBW : Hid (Below w.heap.size w u0) := HX0.out.2.2.trans (hB.mono (by omega))
          have q7 : u0.cell? ⟨w.heap.size, 7, none⟩ = some (.slice p mL.length c) := by simp [World.cell?, hxu]
          have HXU : Hid (u0.heap[w.heap.size]? = some (.cells #[.string m1, .string m2, .string m3, .string m4, .int .i64 m5, .int .i64 m6, .bool true, .slice p mL.length c] 24 (0, 0)) ∧ Rec intE u0 lp (numsL m5 m6 (mL.take k))) := ⟨hxu, hlr⟩
          have hus : w.heap.size + 3 ≤ u0.heap.size := by have := hB.size; omega
          clear hO hB hxu hlr
          by_cases hkl : k < mL.length
          · obtain ⟨b, off, hpp, hblt, c0, c1, c2, c3, c4⟩ := ver_cells (HRC.out u0 HBW.out) hkl
            subst hpp
            have HNX : Hid (numsL m5 m6 (mL.take (k + 1)) = numsL m5 m6 (mL.take k) ++ verI (verAt mL k)) := HNS.out k hkl
            have hln := HNL.out k hk
            generalize numsL m5 m6 (mL.take k) = NL at *
            generalize verAt mL k = x at *
            obtain ⟨xn, xw, xs, xa, xt⟩ := x
            simp only [] at *
            have e1 : (u0.alloc (.cells #[.int .i64 xn, .int .i64 xw, .int .i64 xs, .int .i64 xa, .string xt] 50)).heap.size = u0.heap.size + 1 := by simp
            have hbA : Below (w.heap.size + 1) u0 ((u0.alloc (.cells #[.int .i64 xn, .int .i64 xw, .int .i64 xs, .int .i64 xa, .string xt] 50)).alloc (.cells #[.int .i64 xn, .int .i64 xw, .int .i64 xs, .int .i64 xa] 3)) := ((Below.refl _ _).alloc (by omega) _).alloc (by rw [e1]; omega) _
            have hbF : Below u0.heap.size u0 ((u0.alloc (.cells #[.int .i64 xn, .int .i64 xw, .int .i64 xs, .int .i64 xa, .string xt] 50)).alloc (.cells #[.int .i64 xn, .int .i64 xw, .int .i64 xs, .int .i64 xa] 3)) := ((Below.refl _ _).alloc (Nat.le_refl _) _).alloc (by rw [e1]; omega) _
            have HOA : Hid (OwnR intE 3 ((u0.alloc (.cells #[.int .i64 xn, .int .i64 xw, .int .i64 xs, .int .i64 xa, .string xt] 50)).alloc (.cells #[.int .i64 xn, .int .i64 xw, .int .i64 xs, .int .i64 xa] 3)) (w.heap.size + 1) (.slice lp NL.length lc) NL) := HO.out.kept hbF
            have HQ : Hid (Rec intE ((u0.alloc (.cells #[.int .i64 xn, .int .i64 xw, .int .i64 xs, .int .i64 xa, .string xt] 50)).alloc (.cells #[.int .i64 xn, .int .i64 xw, .int .i64 xs, .int .i64 xa] 3)) (some ⟨u0.heap.size + 1, 0, none⟩) (verI ⟨xn, xw, xs, xa, xt⟩)) := by
              have h1 := int_four (u0.alloc (.cells #[.int .i64 xn, .int .i64 xw, .int .i64 xs, .int .i64 xa, .string xt] 50)) xn xw xs xa xt
              rw [e1] at h1
              exact h1
            have HBA : Hid (Below (w.heap.size + 1) u0 ((u0.alloc (.cells #[.int .i64 xn, .int .i64 xw, .int .i64 xs, .int .i64 xa, .string xt] 50)).alloc (.cells #[.int .i64 xn, .int .i64 xw, .int .i64 xs, .int .i64 xa] 3))) := hbA
            have hsA : w.heap.size + 1 ≤ ((u0.alloc (.cells #[.int .i64 xn, .int .i64 xw, .int .i64 xs, .int .i64 xa, .string xt] 50)).alloc (.cells #[.int .i64 xn, .int .i64 xw, .int .i64 xs, .int .i64 xa] 3)).heap.size := by simp; omega
            clear e1 hbA hbF
            go_wp2_with (first | (at_builtin; refine wpList_append_recs (E := intE) rfl (.tmp 59) (.tmp 71) 56 3 rfl (.int .i64 0) 8 Tryd.underlying56 intinfo rfl (w.heap.size + 1) (.slice lp NL.length lc) NL rfl HOA.out (some ⟨u0.heap.size + 1, 0, none⟩) (verI ⟨xn, xw, xs, xa, xt⟩) 4 rfl HQ.out (fun e => by cases e) (by unfold maxLen; show NL.length + 4 ≤ _; omega) (by show (NL.length + 4) * 8 ≤ _; omega) hsA ?_; intro v3 w9 hO3 hb3; obtain ⟨p3, c3, hv3, _⟩ := hO3.form; obtain ⟨n3, hn3⟩ : ∃ n3, n3 = (NL ++ verI ⟨xn, xw, xs, xa, xt⟩).length := ⟨_, rfl⟩; rw [← hn3] at hv3; subst hv3; clear hn3; have HO3 : Hid (OwnR intE 3 w9 (w.heap.size + 1) (.slice p3 n3 c3) (NL ++ verI ⟨xn, xw, xs, xa, xt⟩)) := hO3; have HB9 : Hid (Below (w.heap.size + 1) v0 w9) := HB.out.trans (HBA.out.trans hb3); clear hO3 hb3 HOA HQ HBA hsA))
            go_roundw
            case rel => exact ⟨k + 1, by omega, by go_num, by rw [HNX.out]; exact HO3.out, HB9.out⟩
            case measure => simp [intOf]; omega
          · obtain rfl : k = mL.length := by omega
            rw [HNF.out] at HO HXU ⊢
            have HLL : Hid ((numsL m5 m6 mL).length ≤ 1000) := by have := HNL.out mL.length (Nat.le_refl _); rw [HNF.out] at this; exact this
            have hnl : (numsL m5 m6 mL).length ≤ 1000 := HLL.out
            generalize numsL m5 m6 mL = NL at *
            have HAN : Hid (∀ i, i < NL.length → (NL.take (i + 1)).any negI = ((NL.take i).any negI || negI (NL.getD i 0))) := fun i hi => any_takeI hi
            have HAT : Hid (∀ i, i < NL.length → negI (NL.getD i 0) = true → NG = true) := fun i hi h => by
              rw [← HNEG.out]
              refine List.any_eq_true.2 ⟨_, List.mem_of_getElem? (i := i) ?_, h⟩
              rw [List.getD_eq_getElem?_getD, List.getElem?_eq_getElem hi]
              rfl
            have HAF : Hid ((NL.take NL.length).any negI = NG) := by show _ = _; rw [List.take_length]; exact HNEG.out
            have HA0 : Hid ((NL.take 0).any negI = false) := by show _ = _; simp
            clear HNS HN0 HNL HNF HO HNEG
            go_wp2
            go_loopw [11] (fun i wr => ∃ k : Nat, k ≤ NL.length ∧ i = .int .i64 k ∧ (NL.take k).any negI = false ∧ wr = u0) (fun i _ => NL.length - (intOf i).toNat)
            case atStart => exact ⟨0, Nat.zero_le _, rfl, HA0.out, rfl⟩
            case round =>
              obtain ⟨k, hk2, rfl, ha, hwr⟩ := hrel
              subst hwr
              have HA : Hid ((NL.take k).any negI = false) := ha
              clear ha HA0
              by_cases hkn : k < NL.length
              · obtain ⟨b, off, hpp, hblt, cI⟩ := int_cell HXU.out.2 hkn
                subst hpp
                have HAN1 := HAN.out k hkn
                rw [HA.out, Bool.false_or] at HAN1
                have HNX : Hid ((NL.take (k + 1)).any negI = negI (NL.getD k 0)) := HAN1
                have HTR : Hid (negI (NL.getD k 0) = true → NG = true) := HAT.out k hkn
                clear HAN1
                generalize NL.getD k 0 = x at *
                unfold negI at HTR
                by_cases hx : x < 0
                · have d1 : decide (x < 0) = true := decide_eq_true hx
                  have hng : NG = true := HTR.out d1
                  rw [hng, if_pos rfl] at HE
                  go_wp2
                  go_ret2
                  exact ⟨by rw [HE.out]; rfl, HBW.out⟩
                · have d1 : decide (x < 0) = false := decide_eq_false hx
                  have HNF : Hid ((NL.take (k + 1)).any negI = false) := by show _ = _; rw [HNX.out]; exact d1
                  go_wp2
                  go_roundw
                  case rel => exact ⟨k + 1, by omega, by go_num, HNF.out, trivial⟩
                  case measure => simp [intOf]; omega
              · obtain rfl : k = NL.length := by omega
                have hng : NG = false := by rw [← HAF.out, HA.out]
                rw [hng, if_neg (by decide)] at HE
                obtain ⟨⟨g5, g6⟩, gv⟩ := HFT.out hng
                obtain ⟨⟨l5, l6⟩, lv⟩ := HLE.out
                have HGV : Hid (∀ v ∈ mL, Fits64 v.n ∧ Fits64 v.who ∧ Fits64 v.size ∧ Fits64 v.at_) := fun v hv => ⟨⟨(gv v hv).1, (lv v hv).1⟩, ⟨(gv v hv).2.1, (lv v hv).2.1⟩, ⟨(gv v hv).2.2.1, (lv v hv).2.2.1⟩, ⟨(gv v hv).2.2.2, (lv v hv).2.2.2⟩⟩
                have HEF : Hid (∀ (n : Int) (W : World), Fits64 n → Calls Tryd.prog 18 #[.int .i64 n] W fun e w' => e = .returned (.string (ofL (eightL n.toNat))) ∧ Below W.heap.size W w') := fun n W hn => by
                  have h1 := HEI.out n.toNat W (by have := hn.1; have := hn.2; omega)
                  rw [Int.toNat_of_nonneg hn.1] at h1
                  exact h1
                have HKE : Hid (∀ W, Below wr.heap.size wr W → (W.cell? ⟨w.heap.size, 4, none⟩ = some (.int .i64 m5) ∧ W.cell? ⟨w.heap.size, 5, none⟩ = some (.int .i64 m6) ∧ W.cell? ⟨w.heap.size, 7, none⟩ = some (.slice p mL.length c) ∧ Below wr.heap.size wr W)) := fun W hW => by
                  have hx := (hW.block w.heap.size (by omega)).trans HXU.out.1
                  exact ⟨by simp [World.cell?, hx], by simp [World.cell?, hx], by simp [World.cell?, hx], hW⟩
                have HC5 : Hid (∀ W, (W.cell? ⟨w.heap.size, 4, none⟩ = some (.int .i64 m5) ∧ W.cell? ⟨w.heap.size, 5, none⟩ = some (.int .i64 m6) ∧ W.cell? ⟨w.heap.size, 7, none⟩ = some (.slice p mL.length c) ∧ Below wr.heap.size wr W) → Calls Tryd.prog 18 #[.int .i64 m5] W fun e w' => e = .returned (.string (ofL (eightL m5.toNat))) ∧ (w'.cell? ⟨w.heap.size, 4, none⟩ = some (.int .i64 m5) ∧ w'.cell? ⟨w.heap.size, 5, none⟩ = some (.int .i64 m6) ∧ w'.cell? ⟨w.heap.size, 7, none⟩ = some (.slice p mL.length c) ∧ Below wr.heap.size wr w')) := fun W hW => (HEF.out m5 W ⟨g5, l5⟩).mono fun e w' hp => ⟨hp.1, HKE.out w' (hW.2.2.2.trans (hp.2.mono hW.2.2.2.size))⟩
                have HC6 : Hid (∀ W, (W.cell? ⟨w.heap.size, 4, none⟩ = some (.int .i64 m5) ∧ W.cell? ⟨w.heap.size, 5, none⟩ = some (.int .i64 m6) ∧ W.cell? ⟨w.heap.size, 7, none⟩ = some (.slice p mL.length c) ∧ Below wr.heap.size wr W) → Calls Tryd.prog 18 #[.int .i64 m6] W fun e w' => e = .returned (.string (ofL (eightL m6.toNat))) ∧ (w'.cell? ⟨w.heap.size, 4, none⟩ = some (.int .i64 m5) ∧ w'.cell? ⟨w.heap.size, 5, none⟩ = some (.int .i64 m6) ∧ w'.cell? ⟨w.heap.size, 7, none⟩ = some (.slice p mL.length c) ∧ Below wr.heap.size wr w')) := fun W hW => (HEF.out m6 W ⟨g6, l6⟩).mono fun e w' hp => ⟨hp.1, HKE.out w' (hW.2.2.2.trans (hp.2.mono hW.2.2.2.size))⟩
                have HCS : Hid (∀ W, (W.cell? ⟨w.heap.size, 4, none⟩ = some (.int .i64 m5) ∧ W.cell? ⟨w.heap.size, 5, none⟩ = some (.int .i64 m6) ∧ W.cell? ⟨w.heap.size, 7, none⟩ = some (.slice p mL.length c) ∧ Below wr.heap.size wr W) → Calls Tryd.prog 18 #[.int .i64 1] W fun e w' => e = .returned (.string (ofL (eightL 1))) ∧ (w'.cell? ⟨w.heap.size, 4, none⟩ = some (.int .i64 m5) ∧ w'.cell? ⟨w.heap.size, 5, none⟩ = some (.int .i64 m6) ∧ w'.cell? ⟨w.heap.size, 7, none⟩ = some (.slice p mL.length c) ∧ Below wr.heap.size wr w')) := fun W hW => (HSV.out W).mono fun e w' hp => ⟨hp.1, HKE.out w' (hW.2.2.2.trans (hp.2.mono hW.2.2.2.size))⟩
                have HCL : Hid (∀ W, (W.cell? ⟨w.heap.size, 4, none⟩ = some (.int .i64 m5) ∧ W.cell? ⟨w.heap.size, 5, none⟩ = some (.int .i64 m6) ∧ W.cell? ⟨w.heap.size, 7, none⟩ = some (.slice p mL.length c) ∧ Below wr.heap.size wr W) → Calls Tryd.prog 18 #[.int .i64 (mL.length : Int)] W fun e w' => e = .returned (.string (ofL (eightL mL.length))) ∧ (w'.cell? ⟨w.heap.size, 4, none⟩ = some (.int .i64 m5) ∧ w'.cell? ⟨w.heap.size, 5, none⟩ = some (.int .i64 m6) ∧ w'.cell? ⟨w.heap.size, 7, none⟩ = some (.slice p mL.length c) ∧ Below wr.heap.size wr w')) := fun W hW => (HEI.out mL.length W (by omega)).mono fun e w' hp => ⟨hp.1, HKE.out w' (hW.2.2.2.trans (hp.2.mono hW.2.2.2.size))⟩
                obtain ⟨T21, hT21⟩ : ∃ T21, T21 = TX ++ (eightL m5.toNat ++ (eightL m6.toNat ++ (eightL 1 ++ eightL mL.length))) := ⟨_, rfl⟩
                have HEL2 : Hid (EL = T21 ++ mL.flatMap verL) := by show _ = _; rw [HEL.out, hT21]; simp only [if_true, List.append_assoc]
                have HQ21 : Hid (ofL TX ++ ofL (eightL m5.toNat) ++ ofL (eightL m6.toNat) ++ ofL (eightL 1) ++ ofL (eightL mL.length) = ofL (T21 ++ (mL.take 0).flatMap verL)) := by show _ = _; rw [hT21]; simp only [ofL_append, List.take_zero, List.flatMap_nil, List.append_nil, List.append_assoc]
                have HTL : Hid (T21.length ≤ 40032) := by
                  show _ ≤ _
                  have := HT4.out
                  rw [ofL_size] at this
                  rw [hT21]
                  simp only [List.length_append, eightL_length]
                  omega
                have z0 : (ofL TX).size ≤ 40000 := HT4.out
                have z5 : (ofL (eightL m5.toNat)).size = 8 := by rw [ofL_size, eightL_length]
                have z6 : (ofL (eightL m6.toNat)).size = 8 := by rw [ofL_size, eightL_length]
                have zs : (ofL (eightL 1)).size = 8 := by rw [ofL_size, eightL_length]
                have zl : (ofL (eightL mL.length)).size = 8 := by rw [ofL_size, eightL_length]
                clear HEL hT21 HT4 HFT HLE HAN HAT HAF HA gv lv g5 g6 l5 l6 HSV hTX
                generalize ofL TX = S0 at *
                generalize ofL (eightL m5.toNat) = S5 at *
                generalize ofL (eightL m6.toNat) = S6 at *
                generalize ofL (eightL 1) = SS at *
                generalize ofL (eightL mL.length) = SL at *
                have t1 := HCAT.out S0 S5 (by omega) (by omega)
                have t2 := HCAT.out (S0 ++ S5) S6 (by simp only [ByteArray.size_append]; omega) (by omega)
                have t3 := HCAT.out (S0 ++ S5 ++ S6) SS (by simp only [ByteArray.size_append]; omega) (by omega)
                have t4 := HCAT.out (S0 ++ S5 ++ S6 ++ SS) SL (by simp only [ByteArray.size_append]; omega) (by omega)
                have hS0 := HKE.out wr.drew (Below.refl _ _).drew
                go_wp2
                go_region_held3 (fun W => (W.cell? ⟨w.heap.size, 4, none⟩ = some (.int .i64 m5) ∧ W.cell? ⟨w.heap.size, 5, none⟩ = some (.int .i64 m6) ∧ W.cell? ⟨w.heap.size, 7, none⟩ = some (.slice p mL.length c) ∧ Below wr.heap.size wr W)) (first | assumption | exact hS0) (first | (go_at_call_of 18 (Value.int IntKind.i64 m5); refine (HC5.out _ (by assumption)).mono ?_; rintro e y1 ⟨rfl, hS1⟩) | (go_at_call_of 18 (Value.int IntKind.i64 m6); refine (HC6.out _ (by assumption)).mono ?_; rintro e y2 ⟨rfl, hS2⟩) | (go_at_call_of 18 (Value.int IntKind.i64 1); refine (HCS.out _ (by assumption)).mono ?_; rintro e y3 ⟨rfl, hS3⟩) | (go_at_call 18; refine (HCL.out _ (by assumption)).mono ?_; rintro e y4 ⟨rfl, hS4⟩))
                have HXY : Hid (Below w.heap.size w y4 ∧ y4.heap[w.heap.size]? = some (.cells #[.string m1, .string m2, .string m3, .string m4, .int .i64 m5, .int .i64 m6, .bool true, .slice p mL.length c] 24 (0, 0)) ∧ w.heap.size < y4.heap.size) := ⟨HBW.out.trans (hS4.2.2.2.mono HBW.out.size), (hS4.2.2.2.block w.heap.size (by omega)).trans HXU.out.1, by have := hS4.2.2.2.size; omega⟩
                have r7 := hS4.2.2.1
                have HNX4 : Hid (∀ k, k < mL.length → (mL.take (k + 1)).flatMap verL = (mL.take k).flatMap verL ++ verL (verAt mL k)) := fun k hk => verL_flat_take hk
                have HSO : Hid (∀ k, k ≤ mL.length → (ofL (T21 ++ (mL.take k).flatMap verL)).size ≤ 50000) := fun k hk => by
                  have h1 := HSZ.out k hk
                  have h2 := HTL.out
                  rw [ofL_size, List.length_append]
                  omega
                clear hS0 hS1 hS2 hS3 hS4 HKE HC5 HC6 HCS HCL t1 t2 t3 t4 HXU HBW HB HX0 q7 hkn hkl hk2 hk
                have HEND : Hid (ofL (T21 ++ (mL.take mL.length).flatMap verL) = ofL EL) := by show _ = _; rw [List.take_length, HEL2.out]
                clear HSZ HTL
                go_wp2
                clear r7
                go_loopw [6, 12] (fun out i wq => ∃ k : Nat, k ≤ mL.length ∧ i = .int .i64 k ∧ out = .string (ofL (T21 ++ (mL.take k).flatMap verL)) ∧ Below y4.heap.size y4 wq) (fun _ i _ => mL.length - (intOf i).toNat)
                case atStart => exact ⟨0, Nat.zero_le _, rfl, by rw [← HQ21.out], Below.refl _ _⟩
                case round =>
                  clear HQ21
                  obtain ⟨k, hk, rfl, rfl, hw⟩ := hrel
                  obtain ⟨u1, rfl⟩ : ∃ u1, u1 = wr := ⟨_, rfl⟩
                  have HU1 : Hid (Below y4.heap.size y4 u1) := hw
                  have HBU : Hid (Below w.heap.size w u1) := HXY.out.1.trans (hw.mono HXY.out.1.size)
                  have hxu := (hw.block w.heap.size HXY.out.2.2).trans HXY.out.2.1
                  have q7 : u1.cell? ⟨w.heap.size, 7, none⟩ = some (.slice p mL.length c) := by simp [World.cell?, hxu]
                  clear hw hxu
                  by_cases hkl : k < mL.length
                  · obtain ⟨b, off, hpp, hblt, c0, c1, c2, c3, c4⟩ := ver_cells (HRC.out u1 HBU.out) hkl
                    subst hpp
                    obtain ⟨f1, f2, f3, f4⟩ := HGV.out (verAt mL k) (List.mem_of_getElem? (verAt_get hkl))
                    have hos := HSO.out k hk
                    have hos1 := HSO.out (k + 1) (by omega)
                    rw [HNX4.out k hkl] at hos1
                    have hxt : (verAt mL k).text.size ≤ 50000 := by
                      rw [ofL_size] at hos1
                      simp only [List.length_append, verL, txL] at hos1
                      have e : (verAt mL k).text.data.toList.length = (verAt mL k).text.size := by simp
                      omega
                    have HNX : Hid (ofL (T21 ++ (mL.take (k + 1)).flatMap verL) = ofL (T21 ++ (mL.take k).flatMap verL) ++ ofL (eightL (verAt mL k).n.toNat) ++ ofL (eightL (verAt mL k).who.toNat) ++ ofL (eightL (verAt mL k).size.toNat) ++ ofL (eightL (verAt mL k).at_.toNat) ++ ofL (eightL (verAt mL k).text.size) ++ (verAt mL k).text) := by
                      show _ = _
                      rw [HNX4.out k hkl]
                      conv => rhs; rhs; rw [← ofL_self (verAt mL k).text]
                      simp only [ofL_append, verL, txL, List.append_assoc]
                    clear hos1
                    generalize ofL (T21 ++ (mL.take k).flatMap verL) = s0 at *
                    generalize verAt mL k = x at *
                    obtain ⟨xn, xw, xs, xa, xt⟩ := x
                    simp only [] at *
                    obtain ⟨U1, hU1⟩ : ∃ U1, U1 = u1.alloc (.cells #[.int .i64 xn, .int .i64 xw, .int .i64 xs, .int .i64 xa, .string xt] 50) := ⟨_, rfl⟩
                    have HU : Hid (U1 = u1.alloc (.cells #[.int .i64 xn, .int .i64 xw, .int .i64 xs, .int .i64 xa, .string xt] 50)) := hU1
                    have hb1 : Below u1.heap.size u1 U1 := by rw [hU1]; exact (Below.refl _ _).alloc (Nat.le_refl _) _
                    have hy1 : U1.heap[u1.heap.size]? = some (.cells #[.int .i64 xn, .int .i64 xw, .int .i64 xs, .int .i64 xa, .string xt] 50 (0, 0)) := by rw [hU1]; exact heap_alloc_new _ _
                    have hl1 : u1.heap.size < U1.heap.size := (Array.getElem?_eq_some_iff.1 hy1).1
                    have HKE : Hid (∀ W, Below U1.heap.size U1 W → (W.cell? ⟨u1.heap.size, 0, none⟩ = some (.int .i64 xn) ∧ W.cell? ⟨u1.heap.size, 1, none⟩ = some (.int .i64 xw) ∧ W.cell? ⟨u1.heap.size, 2, none⟩ = some (.int .i64 xs) ∧ W.cell? ⟨u1.heap.size, 3, none⟩ = some (.int .i64 xa) ∧ W.cell? ⟨u1.heap.size, 4, none⟩ = some (.string xt) ∧ Below U1.heap.size U1 W)) := fun W hW => by
                      have hx := (hW.block u1.heap.size hl1).trans hy1
                      exact ⟨by simp [World.cell?, hx], by simp [World.cell?, hx], by simp [World.cell?, hx], by simp [World.cell?, hx], by simp [World.cell?, hx], hW⟩
                    have HBX : Hid (Below y4.heap.size y4 U1) := HU1.out.trans (hb1.mono HU1.out.size)
                    have HD1 : Hid (∀ W, (W.cell? ⟨u1.heap.size, 0, none⟩ = some (.int .i64 xn) ∧ W.cell? ⟨u1.heap.size, 1, none⟩ = some (.int .i64 xw) ∧ W.cell? ⟨u1.heap.size, 2, none⟩ = some (.int .i64 xs) ∧ W.cell? ⟨u1.heap.size, 3, none⟩ = some (.int .i64 xa) ∧ W.cell? ⟨u1.heap.size, 4, none⟩ = some (.string xt) ∧ Below U1.heap.size U1 W) → Calls Tryd.prog 18 #[.int .i64 xn] W fun e w' => e = .returned (.string (ofL (eightL xn.toNat))) ∧ (w'.cell? ⟨u1.heap.size, 0, none⟩ = some (.int .i64 xn) ∧ w'.cell? ⟨u1.heap.size, 1, none⟩ = some (.int .i64 xw) ∧ w'.cell? ⟨u1.heap.size, 2, none⟩ = some (.int .i64 xs) ∧ w'.cell? ⟨u1.heap.size, 3, none⟩ = some (.int .i64 xa) ∧ w'.cell? ⟨u1.heap.size, 4, none⟩ = some (.string xt) ∧ Below U1.heap.size U1 w')) := fun W hW => (HEF.out xn W f1).mono fun e w' hp => ⟨hp.1, HKE.out w' (hW.2.2.2.2.2.trans (hp.2.mono hW.2.2.2.2.2.size))⟩
                    have HD2 : Hid (∀ W, (W.cell? ⟨u1.heap.size, 0, none⟩ = some (.int .i64 xn) ∧ W.cell? ⟨u1.heap.size, 1, none⟩ = some (.int .i64 xw) ∧ W.cell? ⟨u1.heap.size, 2, none⟩ = some (.int .i64 xs) ∧ W.cell? ⟨u1.heap.size, 3, none⟩ = some (.int .i64 xa) ∧ W.cell? ⟨u1.heap.size, 4, none⟩ = some (.string xt) ∧ Below U1.heap.size U1 W) → Calls Tryd.prog 18 #[.int .i64 xw] W fun e w' => e = .returned (.string (ofL (eightL xw.toNat))) ∧ (w'.cell? ⟨u1.heap.size, 0, none⟩ = some (.int .i64 xn) ∧ w'.cell? ⟨u1.heap.size, 1, none⟩ = some (.int .i64 xw) ∧ w'.cell? ⟨u1.heap.size, 2, none⟩ = some (.int .i64 xs) ∧ w'.cell? ⟨u1.heap.size, 3, none⟩ = some (.int .i64 xa) ∧ w'.cell? ⟨u1.heap.size, 4, none⟩ = some (.string xt) ∧ Below U1.heap.size U1 w')) := fun W hW => (HEF.out xw W f2).mono fun e w' hp => ⟨hp.1, HKE.out w' (hW.2.2.2.2.2.trans (hp.2.mono hW.2.2.2.2.2.size))⟩
                    have HD3 : Hid (∀ W, (W.cell? ⟨u1.heap.size, 0, none⟩ = some (.int .i64 xn) ∧ W.cell? ⟨u1.heap.size, 1, none⟩ = some (.int .i64 xw) ∧ W.cell? ⟨u1.heap.size, 2, none⟩ = some (.int .i64 xs) ∧ W.cell? ⟨u1.heap.size, 3, none⟩ = some (.int .i64 xa) ∧ W.cell? ⟨u1.heap.size, 4, none⟩ = some (.string xt) ∧ Below U1.heap.size U1 W) → Calls Tryd.prog 18 #[.int .i64 xs] W fun e w' => e = .returned (.string (ofL (eightL xs.toNat))) ∧ (w'.cell? ⟨u1.heap.size, 0, none⟩ = some (.int .i64 xn) ∧ w'.cell? ⟨u1.heap.size, 1, none⟩ = some (.int .i64 xw) ∧ w'.cell? ⟨u1.heap.size, 2, none⟩ = some (.int .i64 xs) ∧ w'.cell? ⟨u1.heap.size, 3, none⟩ = some (.int .i64 xa) ∧ w'.cell? ⟨u1.heap.size, 4, none⟩ = some (.string xt) ∧ Below U1.heap.size U1 w')) := fun W hW => (HEF.out xs W f3).mono fun e w' hp => ⟨hp.1, HKE.out w' (hW.2.2.2.2.2.trans (hp.2.mono hW.2.2.2.2.2.size))⟩
                    have HD4 : Hid (∀ W, (W.cell? ⟨u1.heap.size, 0, none⟩ = some (.int .i64 xn) ∧ W.cell? ⟨u1.heap.size, 1, none⟩ = some (.int .i64 xw) ∧ W.cell? ⟨u1.heap.size, 2, none⟩ = some (.int .i64 xs) ∧ W.cell? ⟨u1.heap.size, 3, none⟩ = some (.int .i64 xa) ∧ W.cell? ⟨u1.heap.size, 4, none⟩ = some (.string xt) ∧ Below U1.heap.size U1 W) → Calls Tryd.prog 18 #[.int .i64 xa] W fun e w' => e = .returned (.string (ofL (eightL xa.toNat))) ∧ (w'.cell? ⟨u1.heap.size, 0, none⟩ = some (.int .i64 xn) ∧ w'.cell? ⟨u1.heap.size, 1, none⟩ = some (.int .i64 xw) ∧ w'.cell? ⟨u1.heap.size, 2, none⟩ = some (.int .i64 xs) ∧ w'.cell? ⟨u1.heap.size, 3, none⟩ = some (.int .i64 xa) ∧ w'.cell? ⟨u1.heap.size, 4, none⟩ = some (.string xt) ∧ Below U1.heap.size U1 w')) := fun W hW => (HEF.out xa W f4).mono fun e w' hp => ⟨hp.1, HKE.out w' (hW.2.2.2.2.2.trans (hp.2.mono hW.2.2.2.2.2.size))⟩
                    have HD5 : Hid (∀ W, (W.cell? ⟨u1.heap.size, 0, none⟩ = some (.int .i64 xn) ∧ W.cell? ⟨u1.heap.size, 1, none⟩ = some (.int .i64 xw) ∧ W.cell? ⟨u1.heap.size, 2, none⟩ = some (.int .i64 xs) ∧ W.cell? ⟨u1.heap.size, 3, none⟩ = some (.int .i64 xa) ∧ W.cell? ⟨u1.heap.size, 4, none⟩ = some (.string xt) ∧ Below U1.heap.size U1 W) → Calls Tryd.prog 18 #[.int .i64 (xt.size : Int)] W fun e w' => e = .returned (.string (ofL (eightL xt.size))) ∧ (w'.cell? ⟨u1.heap.size, 0, none⟩ = some (.int .i64 xn) ∧ w'.cell? ⟨u1.heap.size, 1, none⟩ = some (.int .i64 xw) ∧ w'.cell? ⟨u1.heap.size, 2, none⟩ = some (.int .i64 xs) ∧ w'.cell? ⟨u1.heap.size, 3, none⟩ = some (.int .i64 xa) ∧ w'.cell? ⟨u1.heap.size, 4, none⟩ = some (.string xt) ∧ Below U1.heap.size U1 w')) := fun W hW => (HEI.out xt.size W (by omega)).mono fun e w' hp => ⟨hp.1, HKE.out w' (hW.2.2.2.2.2.trans (hp.2.mono hW.2.2.2.2.2.size))⟩
                    have z1 : (ofL (eightL xn.toNat)).size = 8 := by rw [ofL_size, eightL_length]
                    have z2 : (ofL (eightL xw.toNat)).size = 8 := by rw [ofL_size, eightL_length]
                    have z3 : (ofL (eightL xs.toNat)).size = 8 := by rw [ofL_size, eightL_length]
                    have z4 : (ofL (eightL xa.toNat)).size = 8 := by rw [ofL_size, eightL_length]
                    have z5 : (ofL (eightL xt.size)).size = 8 := by rw [ofL_size, eightL_length]
                    generalize ofL (eightL xn.toNat) = e1 at *
                    generalize ofL (eightL xw.toNat) = e2 at *
                    generalize ofL (eightL xs.toNat) = e3 at *
                    generalize ofL (eightL xa.toNat) = e4 at *
                    generalize ofL (eightL xt.size) = e5 at *
                    have t1 := HCAT.out s0 e1 (by omega) (by omega)
                    have t2 := HCAT.out (s0 ++ e1) e2 (by simp only [ByteArray.size_append]; omega) (by omega)
                    have t3 := HCAT.out (s0 ++ e1 ++ e2) e3 (by simp only [ByteArray.size_append]; omega) (by omega)
                    have t4 := HCAT.out (s0 ++ e1 ++ e2 ++ e3) e4 (by simp only [ByteArray.size_append]; omega) (by omega)
                    have t5 := HCAT.out (s0 ++ e1 ++ e2 ++ e3 ++ e4) e5 (by simp only [ByteArray.size_append]; omega) (by omega)
                    have t6 := HCAT.out (s0 ++ e1 ++ e2 ++ e3 ++ e4 ++ e5) xt (by simp only [ByteArray.size_append]; omega) (by omega)
                    have hS0 := HKE.out U1.drew (Below.refl _ _).drew
                    clear hU1 hb1 hy1 hl1 HU1 HBU f1 f2 f3 f4
                    go_wp2
                    rw [← HU.out]
                    go_region_held3 (fun W => (W.cell? ⟨u1.heap.size, 0, none⟩ = some (.int .i64 xn) ∧ W.cell? ⟨u1.heap.size, 1, none⟩ = some (.int .i64 xw) ∧ W.cell? ⟨u1.heap.size, 2, none⟩ = some (.int .i64 xs) ∧ W.cell? ⟨u1.heap.size, 3, none⟩ = some (.int .i64 xa) ∧ W.cell? ⟨u1.heap.size, 4, none⟩ = some (.string xt) ∧ Below U1.heap.size U1 W)) (first | assumption | exact hS0) (first | (go_at_call_of 18 (Value.int IntKind.i64 xn); refine (HD1.out _ (by assumption)).mono ?_; rintro e a1 ⟨rfl, hS1⟩) | (go_at_call_of 18 (Value.int IntKind.i64 xw); refine (HD2.out _ (by assumption)).mono ?_; rintro e a2 ⟨rfl, hS2⟩) | (go_at_call_of 18 (Value.int IntKind.i64 xs); refine (HD3.out _ (by assumption)).mono ?_; rintro e a3 ⟨rfl, hS3⟩) | (go_at_call_of 18 (Value.int IntKind.i64 xa); refine (HD4.out _ (by assumption)).mono ?_; rintro e a4 ⟨rfl, hS4⟩) | (go_at_call 18; refine (HD5.out _ (by assumption)).mono ?_; rintro e a5 ⟨rfl, hS5⟩))
                    have HE5 : Hid (Below y4.heap.size y4 a5) := HBX.out.trans (hS5.2.2.2.2.2.mono HBX.out.size)
                    clear hS0 hS1 hS2 hS3 hS4 hS5 HD1 HD2 HD3 HD4 HD5 HKE HU t1 t2 t3 t4 t5 t6 c0 c1 c2 c3 c4
                    go_wp2
                    go_roundw
                    case rel => exact ⟨k + 1, by omega, by go_num, by rw [HNX.out], HE5.out⟩
                    case measure => simp [intOf]; omega
                  · obtain rfl : k = mL.length := by omega
                    have hos := HSO.out mL.length (Nat.le_refl _)
                    rw [HEND.out] at hos ⊢
                    have hel : (ofL EL).size = EL.length := ofL_size _
                    have HCR : Hid (Calls Tryd.prog 20 #[.string (ofL EL)] u1 fun e w' => e = .returned (.int .i64 ((crcOf (ofL EL) : Nat) : Int)) ∧ w' = u1) := rcrc_any _ u1 (by omega)
                    have HFR : Hid (Calls Tryd.prog 19 #[.int .i64 ((crcOf (ofL EL) : Nat) : Int)] u1 fun e w' => e = .returned (.string (fourT (crcOf (ofL EL)))) ∧ Below u1.heap.size u1 w') := rfour_any _ u1
                    have hzf : (fourT (crcOf (ofL EL))).size = 4 := fourT_size _
                    have HSL : Hid (sealT (ofL EL) = ofL EL ++ fourT (crcOf (ofL EL))) := by show _ = _; rfl
                    clear HEND HSO HNX4 HU1 HEL2 hng
                    by_cases hbig : 3996 < EL.length
                    · rw [if_pos hbig] at HE
                      have d1 : decide (3996 < ((ofL EL).size : Int)) = true := decide_eq_true (by omega)
                      clear HCR HFR HSL
                      generalize ofL EL = sE at *
                      clear hel
                      go_wp2
                      go_ret2
                      exact ⟨by rw [HE.out]; rfl, HBU.out⟩
                    · rw [if_neg hbig] at HE
                      have d1 : decide (3996 < ((ofL EL).size : Int)) = false := decide_eq_false (by omega)
                      rw [HSL.out] at HE
                      generalize crcOf (ofL EL) = cr at *
                      generalize fourT cr = fr at *
                      generalize ofL EL = sE at *
                      clear hel HSL
                      go_wp2_with fail
                      refine HCR.out.mono ?_
                      rintro e u2 ⟨rfl, hu2⟩
                      rw [hu2]
                      clear hu2 u2 HCR
                      go_wp2_with fail
                      refine HFR.out.mono ?_
                      rintro e u3 ⟨rfl, hb3⟩
                      have HB3 : Hid (Below w.heap.size w u3) := HBU.out.trans (hb3.mono HBU.out.size)
                      clear hb3 HFR
                      go_wp2
                      go_ret2
                      exact ⟨by rw [HE.out]; rfl, HB3.out⟩
  | false =>
    have HSV : Hid (∀ W, Calls Tryd.prog 18 #[.int .i64 0] W fun e w' => e = .returned (.string (ofL (eightL 0))) ∧ Below W.heap.size W w') := fun W => HEI.out 0 W (by omega)
    go_enter Tryd.func9, Tryd.ntmps9
    go_wp2
    rw [show ((w.alloc (.cells #[.string m1, .string m2, .string m3, .string m4, .int .i64 m5, .int .i64 m6, .bool false, .slice p mL.length c] 24)).alloc (.cells #[.int .i64 m5, .int .i64 m6] 3)).alloc (.cells #[.string m1, .string m2, .string m3, .string m4] 9) = w3 from HW3.out.symm]
    clear HW3
    have htb : w.heap.size + 1 + 1 < w3.heap.size := (Array.getElem?_eq_some_iff.1 HX3.out.2.1).1
    have HTX : Hid (∀ W k, Below w3.heap.size w3 W → k < 4 → W.cell? ⟨w.heap.size + 1 + 1, k, none⟩ = some (.string (txAt m1 m2 m3 m4 k))) := fun W k hW hk => txAt_cell ((hW.block _ htb).trans HX3.out.2.1) hk
    have HTS : Hid (∀ k, k < 4 → (txAt m1 m2 m3 m4 k).size ≤ 8000) := fun k hk => txAt_size hz1 hz2 hz3 hz4 hk
    have HOS : Hid (∀ k, k ≤ 4 → (ofL (txsL m1 m2 m3 m4 k)).size ≤ 40000) := fun k hk => by rw [ofL_size]; have := txsL_size hz1 hz2 hz3 hz4 k hk; omega
    have HON : Hid (∀ k, k < 4 → ofL (txsL m1 m2 m3 m4 k) ++ ofL (eightL (txAt m1 m2 m3 m4 k).size) ++ txAt m1 m2 m3 m4 k = ofL (txsL m1 m2 m3 m4 (k + 1))) := fun k hk => by rw [ofL_tx, txsL_succ _ _ _ _ hk]
    clear htb
    go_loopw [6, 8] (fun out i wr => ∃ k : Nat, k ≤ 4 ∧ i = .int .i64 k ∧ out = .string (ofL (txsL m1 m2 m3 m4 k)) ∧ Below w3.heap.size w3 wr) (fun _ i _ => 4 - (intOf i).toNat)
    case atStart => exact ⟨0, by decide, rfl, rfl, Below.refl _ _⟩
    case round =>
      obtain ⟨k, hk, rfl, rfl, hw⟩ := hrel
      obtain ⟨v0, rfl⟩ : ∃ v0, v0 = wr := ⟨_, rfl⟩
      have HV0 : Hid (Below w3.heap.size w3 v0) := hw
      clear hw
      by_cases hk4 : k < 4
      · have hc := HTX.out v0 k HV0.out hk4
        have hzs := HTS.out k hk4
        have hos := HOS.out k hk
        have HNX : Hid (ofL (txsL m1 m2 m3 m4 k) ++ ofL (eightL (txAt m1 m2 m3 m4 k).size) ++ txAt m1 m2 m3 m4 k = ofL (txsL m1 m2 m3 m4 (k + 1))) := HON.out k hk4
        have HKE : Hid (∀ W, Below w3.heap.size w3 W → W.cell? ⟨w.heap.size + 1 + 1, k, none⟩ = some (.string (txAt m1 m2 m3 m4 k)) ∧ Below w3.heap.size w3 W) := fun W hW => ⟨HTX.out W k hW hk4, hW⟩
        have he8 : (ofL (eightL (txAt m1 m2 m3 m4 k).size)).size = 8 := by rw [ofL_size, eightL_length]
        have HC1 : Hid (∀ W, (W.cell? ⟨w.heap.size + 1 + 1, k, none⟩ = some (.string (txAt m1 m2 m3 m4 k)) ∧ Below w3.heap.size w3 W) → Calls Tryd.prog 18 #[.int .i64 ((txAt m1 m2 m3 m4 k).size : Int)] W fun e w' => e = .returned (.string (ofL (eightL (txAt m1 m2 m3 m4 k).size))) ∧ (w'.cell? ⟨w.heap.size + 1 + 1, k, none⟩ = some (.string (txAt m1 m2 m3 m4 k)) ∧ Below w3.heap.size w3 w')) := fun W hW => (HEI.out _ W (by omega)).mono fun e w' hp => ⟨hp.1, HKE.out w' (hW.2.trans (hp.2.mono hW.2.size))⟩
        generalize ofL (txsL m1 m2 m3 m4 k) = s0 at *
        generalize ofL (eightL (txAt m1 m2 m3 m4 k).size) = s1 at *
        generalize txAt m1 m2 m3 m4 k = s2 at *
        have hS0 := HKE.out v0.drew HV0.out.drew
        have t1 := HCAT.out s0 s1 (by omega) (by omega)
        have t2 := HCAT.out (s0 ++ s1) s2 (by rw [ByteArray.size_append]; omega) (by omega)
        have i1 : (k : Int) < 4 := by omega
        have i0 : (0 : Int) ≤ (k : Int) := by omega
        clear hc
        go_wp2
        go_region_held3 (fun W => (W.cell? ⟨w.heap.size + 1 + 1, k, none⟩ = some (.string s2) ∧ Below w3.heap.size w3 W)) (first | assumption | exact hS0) (first | (go_at_call 18; refine (HC1.out _ (by assumption)).mono ?_; rintro e v1 ⟨rfl, hS1⟩))
        have HS1 : Hid (Below w3.heap.size w3 v1) := hS1.2
        clear hS0 hS1 HC1 HKE
        go_wp2
        go_roundw
        case rel => exact ⟨k + 1, by omega, by go_num, by rw [← HNX.out], HS1.out⟩
        case measure => simp [intOf]; omega
      · obtain rfl : k = 4 := by omega
        rw [show ((4 : Nat) : Int) = 4 from rfl]
        clear HTX HTS HOS HON
        obtain ⟨x1, x2, x3, x4, x5⟩ := HX3.out
        have hx0 := (HV0.out.block _ (by omega)).trans x1
        have ho0 := x3.kept HV0.out
        have q70 : v0.cell? ⟨w.heap.size, 7, none⟩ = some (.slice p mL.length c) := by simp [World.cell?, hx0]
        have hv0 : w.heap.size + 3 ≤ v0.heap.size := by have := HV0.out.size; omega
        have HX0 : Hid (v0.heap[w.heap.size]? = some (.cells #[.string m1, .string m2, .string m3, .string m4, .int .i64 m5, .int .i64 m6, .bool false, .slice p mL.length c] 24 (0, 0)) ∧ OwnR intE 3 v0 (w.heap.size + 1) (.slice (some ⟨w.heap.size + 1, 0, none⟩) 2 2) [m5, m6] ∧ Below w.heap.size w v0) := ⟨hx0, ho0, x4.trans (HV0.out.mono x4.size)⟩
        have HT4 : Hid ((ofL (txsL m1 m2 m3 m4 4)).size ≤ 40000) := by show _ ≤ _; rw [ofL_size]; have := txsL_size hz1 hz2 hz3 hz4 4 (by decide); omega
        generalize hTX : txsL m1 m2 m3 m4 4 = TX at *
        have HN0 : Hid (numsL m5 m6 (mL.take 0) = [m5, m6]) := by show _ = _; simp [numsL]
        have HNS : Hid (∀ k, k < mL.length → numsL m5 m6 (mL.take (k + 1)) = numsL m5 m6 (mL.take k) ++ verI (verAt mL k)) := fun k hk => numsL_take m5 m6 hk
        have HNL : Hid (∀ k, k ≤ mL.length → (numsL m5 m6 (mL.take k)).length ≤ 1000) := fun k hk => by rw [numsL_len, List.length_take]; omega
        have HNF : Hid (numsL m5 m6 (mL.take mL.length) = numsL m5 m6 mL) := by show _ = _; rw [List.take_length]
        clear x1 x2 x3 x4 x5 hx0 ho0 HX3 HV0 hz1 hz2 hz3 hz4 hk4 hk
        go_wp2
        clear q70
        go_loopw [5, 9] (fun lv i wr => ∃ k : Nat, k ≤ mL.length ∧ i = .int .i64 k ∧ OwnR intE 3 wr (w.heap.size + 1) lv (numsL m5 m6 (mL.take k)) ∧ Below (w.heap.size + 1) v0 wr) (fun _ i _ => mL.length - (intOf i).toNat)
        case atStart => exact ⟨0, Nat.zero_le _, rfl, by rw [HN0.out]; exact HX0.out.2.1, Below.refl _ _⟩
        case round =>
          obtain ⟨k, hk, rfl, hO, hB⟩ := hrel
          obtain ⟨u0, rfl⟩ : ∃ u0, u0 = wr := ⟨_, rfl⟩
          obtain ⟨lp, lc, hlv, hlr, _⟩ := hO.form
          subst hlv
          have HO : Hid (OwnR intE 3 u0 (w.heap.size + 1) (.slice lp (numsL m5 m6 (mL.take k)).length lc) (numsL m5 m6 (mL.take k))) := hO
          have HB : Hid (Below (w.heap.size + 1) v0 u0) := hB
          have hxu := (hB.block w.heap.size (by omega)).trans HX0.out.1
          have HBW : Hid (Below w.heap.size w u0) := HX0.out.2.2.trans (hB.mono (by omega))
          have q7 : u0.cell? ⟨w.heap.size, 7, none⟩ = some (.slice p mL.length c) := by simp [World.cell?, hxu]
          have HXU : Hid (u0.heap[w.heap.size]? = some (.cells #[.string m1, .string m2, .string m3, .string m4, .int .i64 m5, .int .i64 m6, .bool false, .slice p mL.length c] 24 (0, 0)) ∧ Rec intE u0 lp (numsL m5 m6 (mL.take k))) := ⟨hxu, hlr⟩
          have hus : w.heap.size + 3 ≤ u0.heap.size := by have := hB.size; omega
          clear hO hB hxu hlr
          by_cases hkl : k < mL.length
          · obtain ⟨b, off, hpp, hblt, c0, c1, c2, c3, c4⟩ := ver_cells (HRC.out u0 HBW.out) hkl
            subst hpp
            have HNX : Hid (numsL m5 m6 (mL.take (k + 1)) = numsL m5 m6 (mL.take k) ++ verI (verAt mL k)) := HNS.out k hkl
            have hln := HNL.out k hk
            generalize numsL m5 m6 (mL.take k) = NL at *
            generalize verAt mL k = x at *
            obtain ⟨xn, xw, xs, xa, xt⟩ := x
            simp only [] at *
            have e1 : (u0.alloc (.cells #[.int .i64 xn, .int .i64 xw, .int .i64 xs, .int .i64 xa, .string xt] 50)).heap.size = u0.heap.size + 1 := by simp
            have hbA : Below (w.heap.size + 1) u0 ((u0.alloc (.cells #[.int .i64 xn, .int .i64 xw, .int .i64 xs, .int .i64 xa, .string xt] 50)).alloc (.cells #[.int .i64 xn, .int .i64 xw, .int .i64 xs, .int .i64 xa] 3)) := ((Below.refl _ _).alloc (by omega) _).alloc (by rw [e1]; omega) _
            have hbF : Below u0.heap.size u0 ((u0.alloc (.cells #[.int .i64 xn, .int .i64 xw, .int .i64 xs, .int .i64 xa, .string xt] 50)).alloc (.cells #[.int .i64 xn, .int .i64 xw, .int .i64 xs, .int .i64 xa] 3)) := ((Below.refl _ _).alloc (Nat.le_refl _) _).alloc (by rw [e1]; omega) _
            have HOA : Hid (OwnR intE 3 ((u0.alloc (.cells #[.int .i64 xn, .int .i64 xw, .int .i64 xs, .int .i64 xa, .string xt] 50)).alloc (.cells #[.int .i64 xn, .int .i64 xw, .int .i64 xs, .int .i64 xa] 3)) (w.heap.size + 1) (.slice lp NL.length lc) NL) := HO.out.kept hbF
            have HQ : Hid (Rec intE ((u0.alloc (.cells #[.int .i64 xn, .int .i64 xw, .int .i64 xs, .int .i64 xa, .string xt] 50)).alloc (.cells #[.int .i64 xn, .int .i64 xw, .int .i64 xs, .int .i64 xa] 3)) (some ⟨u0.heap.size + 1, 0, none⟩) (verI ⟨xn, xw, xs, xa, xt⟩)) := by
              have h1 := int_four (u0.alloc (.cells #[.int .i64 xn, .int .i64 xw, .int .i64 xs, .int .i64 xa, .string xt] 50)) xn xw xs xa xt
              rw [e1] at h1
              exact h1
            have HBA : Hid (Below (w.heap.size + 1) u0 ((u0.alloc (.cells #[.int .i64 xn, .int .i64 xw, .int .i64 xs, .int .i64 xa, .string xt] 50)).alloc (.cells #[.int .i64 xn, .int .i64 xw, .int .i64 xs, .int .i64 xa] 3))) := hbA
            have hsA : w.heap.size + 1 ≤ ((u0.alloc (.cells #[.int .i64 xn, .int .i64 xw, .int .i64 xs, .int .i64 xa, .string xt] 50)).alloc (.cells #[.int .i64 xn, .int .i64 xw, .int .i64 xs, .int .i64 xa] 3)).heap.size := by simp; omega
            clear e1 hbA hbF
            go_wp2_with (first | (at_builtin; refine wpList_append_recs (E := intE) rfl (.tmp 59) (.tmp 71) 56 3 rfl (.int .i64 0) 8 Tryd.underlying56 intinfo rfl (w.heap.size + 1) (.slice lp NL.length lc) NL rfl HOA.out (some ⟨u0.heap.size + 1, 0, none⟩) (verI ⟨xn, xw, xs, xa, xt⟩) 4 rfl HQ.out (fun e => by cases e) (by unfold maxLen; show NL.length + 4 ≤ _; omega) (by show (NL.length + 4) * 8 ≤ _; omega) hsA ?_; intro v3 w9 hO3 hb3; obtain ⟨p3, c3, hv3, _⟩ := hO3.form; obtain ⟨n3, hn3⟩ : ∃ n3, n3 = (NL ++ verI ⟨xn, xw, xs, xa, xt⟩).length := ⟨_, rfl⟩; rw [← hn3] at hv3; subst hv3; clear hn3; have HO3 : Hid (OwnR intE 3 w9 (w.heap.size + 1) (.slice p3 n3 c3) (NL ++ verI ⟨xn, xw, xs, xa, xt⟩)) := hO3; have HB9 : Hid (Below (w.heap.size + 1) v0 w9) := HB.out.trans (HBA.out.trans hb3); clear hO3 hb3 HOA HQ HBA hsA))
            go_roundw
            case rel => exact ⟨k + 1, by omega, by go_num, by rw [HNX.out]; exact HO3.out, HB9.out⟩
            case measure => simp [intOf]; omega
          · obtain rfl : k = mL.length := by omega
            rw [HNF.out] at HO HXU ⊢
            have HLL : Hid ((numsL m5 m6 mL).length ≤ 1000) := by have := HNL.out mL.length (Nat.le_refl _); rw [HNF.out] at this; exact this
            have hnl : (numsL m5 m6 mL).length ≤ 1000 := HLL.out
            generalize numsL m5 m6 mL = NL at *
            have HAN : Hid (∀ i, i < NL.length → (NL.take (i + 1)).any negI = ((NL.take i).any negI || negI (NL.getD i 0))) := fun i hi => any_takeI hi
            have HAT : Hid (∀ i, i < NL.length → negI (NL.getD i 0) = true → NG = true) := fun i hi h => by
              rw [← HNEG.out]
              refine List.any_eq_true.2 ⟨_, List.mem_of_getElem? (i := i) ?_, h⟩
              rw [List.getD_eq_getElem?_getD, List.getElem?_eq_getElem hi]
              rfl
            have HAF : Hid ((NL.take NL.length).any negI = NG) := by show _ = _; rw [List.take_length]; exact HNEG.out
            have HA0 : Hid ((NL.take 0).any negI = false) := by show _ = _; simp
            clear HNS HN0 HNL HNF HO HNEG
            go_wp2
            go_loopw [11] (fun i wr => ∃ k : Nat, k ≤ NL.length ∧ i = .int .i64 k ∧ (NL.take k).any negI = false ∧ wr = u0) (fun i _ => NL.length - (intOf i).toNat)
            case atStart => exact ⟨0, Nat.zero_le _, rfl, HA0.out, rfl⟩
            case round =>
              obtain ⟨k, hk2, rfl, ha, hwr⟩ := hrel
              subst hwr
              have HA : Hid ((NL.take k).any negI = false) := ha
              clear ha HA0
              by_cases hkn : k < NL.length
              · obtain ⟨b, off, hpp, hblt, cI⟩ := int_cell HXU.out.2 hkn
                subst hpp
                have HAN1 := HAN.out k hkn
                rw [HA.out, Bool.false_or] at HAN1
                have HNX : Hid ((NL.take (k + 1)).any negI = negI (NL.getD k 0)) := HAN1
                have HTR : Hid (negI (NL.getD k 0) = true → NG = true) := HAT.out k hkn
                clear HAN1
                generalize NL.getD k 0 = x at *
                unfold negI at HTR
                by_cases hx : x < 0
                · have d1 : decide (x < 0) = true := decide_eq_true hx
                  have hng : NG = true := HTR.out d1
                  rw [hng, if_pos rfl] at HE
                  go_wp2
                  go_ret2
                  exact ⟨by rw [HE.out]; rfl, HBW.out⟩
                · have d1 : decide (x < 0) = false := decide_eq_false hx
                  have HNF : Hid ((NL.take (k + 1)).any negI = false) := by show _ = _; rw [HNX.out]; exact d1
                  go_wp2
                  go_roundw
                  case rel => exact ⟨k + 1, by omega, by go_num, HNF.out, trivial⟩
                  case measure => simp [intOf]; omega
              · obtain rfl : k = NL.length := by omega
                have hng : NG = false := by rw [← HAF.out, HA.out]
                rw [hng, if_neg (by decide)] at HE
                obtain ⟨⟨g5, g6⟩, gv⟩ := HFT.out hng
                obtain ⟨⟨l5, l6⟩, lv⟩ := HLE.out
                have HGV : Hid (∀ v ∈ mL, Fits64 v.n ∧ Fits64 v.who ∧ Fits64 v.size ∧ Fits64 v.at_) := fun v hv => ⟨⟨(gv v hv).1, (lv v hv).1⟩, ⟨(gv v hv).2.1, (lv v hv).2.1⟩, ⟨(gv v hv).2.2.1, (lv v hv).2.2.1⟩, ⟨(gv v hv).2.2.2, (lv v hv).2.2.2⟩⟩
                have HEF : Hid (∀ (n : Int) (W : World), Fits64 n → Calls Tryd.prog 18 #[.int .i64 n] W fun e w' => e = .returned (.string (ofL (eightL n.toNat))) ∧ Below W.heap.size W w') := fun n W hn => by
                  have h1 := HEI.out n.toNat W (by have := hn.1; have := hn.2; omega)
                  rw [Int.toNat_of_nonneg hn.1] at h1
                  exact h1
                have HKE : Hid (∀ W, Below wr.heap.size wr W → (W.cell? ⟨w.heap.size, 4, none⟩ = some (.int .i64 m5) ∧ W.cell? ⟨w.heap.size, 5, none⟩ = some (.int .i64 m6) ∧ W.cell? ⟨w.heap.size, 7, none⟩ = some (.slice p mL.length c) ∧ Below wr.heap.size wr W)) := fun W hW => by
                  have hx := (hW.block w.heap.size (by omega)).trans HXU.out.1
                  exact ⟨by simp [World.cell?, hx], by simp [World.cell?, hx], by simp [World.cell?, hx], hW⟩
                have HC5 : Hid (∀ W, (W.cell? ⟨w.heap.size, 4, none⟩ = some (.int .i64 m5) ∧ W.cell? ⟨w.heap.size, 5, none⟩ = some (.int .i64 m6) ∧ W.cell? ⟨w.heap.size, 7, none⟩ = some (.slice p mL.length c) ∧ Below wr.heap.size wr W) → Calls Tryd.prog 18 #[.int .i64 m5] W fun e w' => e = .returned (.string (ofL (eightL m5.toNat))) ∧ (w'.cell? ⟨w.heap.size, 4, none⟩ = some (.int .i64 m5) ∧ w'.cell? ⟨w.heap.size, 5, none⟩ = some (.int .i64 m6) ∧ w'.cell? ⟨w.heap.size, 7, none⟩ = some (.slice p mL.length c) ∧ Below wr.heap.size wr w')) := fun W hW => (HEF.out m5 W ⟨g5, l5⟩).mono fun e w' hp => ⟨hp.1, HKE.out w' (hW.2.2.2.trans (hp.2.mono hW.2.2.2.size))⟩
                have HC6 : Hid (∀ W, (W.cell? ⟨w.heap.size, 4, none⟩ = some (.int .i64 m5) ∧ W.cell? ⟨w.heap.size, 5, none⟩ = some (.int .i64 m6) ∧ W.cell? ⟨w.heap.size, 7, none⟩ = some (.slice p mL.length c) ∧ Below wr.heap.size wr W) → Calls Tryd.prog 18 #[.int .i64 m6] W fun e w' => e = .returned (.string (ofL (eightL m6.toNat))) ∧ (w'.cell? ⟨w.heap.size, 4, none⟩ = some (.int .i64 m5) ∧ w'.cell? ⟨w.heap.size, 5, none⟩ = some (.int .i64 m6) ∧ w'.cell? ⟨w.heap.size, 7, none⟩ = some (.slice p mL.length c) ∧ Below wr.heap.size wr w')) := fun W hW => (HEF.out m6 W ⟨g6, l6⟩).mono fun e w' hp => ⟨hp.1, HKE.out w' (hW.2.2.2.trans (hp.2.mono hW.2.2.2.size))⟩
                have HCS : Hid (∀ W, (W.cell? ⟨w.heap.size, 4, none⟩ = some (.int .i64 m5) ∧ W.cell? ⟨w.heap.size, 5, none⟩ = some (.int .i64 m6) ∧ W.cell? ⟨w.heap.size, 7, none⟩ = some (.slice p mL.length c) ∧ Below wr.heap.size wr W) → Calls Tryd.prog 18 #[.int .i64 0] W fun e w' => e = .returned (.string (ofL (eightL 0))) ∧ (w'.cell? ⟨w.heap.size, 4, none⟩ = some (.int .i64 m5) ∧ w'.cell? ⟨w.heap.size, 5, none⟩ = some (.int .i64 m6) ∧ w'.cell? ⟨w.heap.size, 7, none⟩ = some (.slice p mL.length c) ∧ Below wr.heap.size wr w')) := fun W hW => (HSV.out W).mono fun e w' hp => ⟨hp.1, HKE.out w' (hW.2.2.2.trans (hp.2.mono hW.2.2.2.size))⟩
                have HCL : Hid (∀ W, (W.cell? ⟨w.heap.size, 4, none⟩ = some (.int .i64 m5) ∧ W.cell? ⟨w.heap.size, 5, none⟩ = some (.int .i64 m6) ∧ W.cell? ⟨w.heap.size, 7, none⟩ = some (.slice p mL.length c) ∧ Below wr.heap.size wr W) → Calls Tryd.prog 18 #[.int .i64 (mL.length : Int)] W fun e w' => e = .returned (.string (ofL (eightL mL.length))) ∧ (w'.cell? ⟨w.heap.size, 4, none⟩ = some (.int .i64 m5) ∧ w'.cell? ⟨w.heap.size, 5, none⟩ = some (.int .i64 m6) ∧ w'.cell? ⟨w.heap.size, 7, none⟩ = some (.slice p mL.length c) ∧ Below wr.heap.size wr w')) := fun W hW => (HEI.out mL.length W (by omega)).mono fun e w' hp => ⟨hp.1, HKE.out w' (hW.2.2.2.trans (hp.2.mono hW.2.2.2.size))⟩
                obtain ⟨T21, hT21⟩ : ∃ T21, T21 = TX ++ (eightL m5.toNat ++ (eightL m6.toNat ++ (eightL 0 ++ eightL mL.length))) := ⟨_, rfl⟩
                have HEL2 : Hid (EL = T21 ++ mL.flatMap verL) := by show _ = _; rw [HEL.out, hT21]; simp only [Bool.false_eq_true, if_false, List.append_assoc]
                have HQ21 : Hid (ofL TX ++ ofL (eightL m5.toNat) ++ ofL (eightL m6.toNat) ++ ofL (eightL 0) ++ ofL (eightL mL.length) = ofL (T21 ++ (mL.take 0).flatMap verL)) := by show _ = _; rw [hT21]; simp only [ofL_append, List.take_zero, List.flatMap_nil, List.append_nil, List.append_assoc]
                have HTL : Hid (T21.length ≤ 40032) := by
                  show _ ≤ _
                  have := HT4.out
                  rw [ofL_size] at this
                  rw [hT21]
                  simp only [List.length_append, eightL_length]
                  omega
                have z0 : (ofL TX).size ≤ 40000 := HT4.out
                have z5 : (ofL (eightL m5.toNat)).size = 8 := by rw [ofL_size, eightL_length]
                have z6 : (ofL (eightL m6.toNat)).size = 8 := by rw [ofL_size, eightL_length]
                have zs : (ofL (eightL 0)).size = 8 := by rw [ofL_size, eightL_length]
                have zl : (ofL (eightL mL.length)).size = 8 := by rw [ofL_size, eightL_length]
                clear HEL hT21 HT4 HFT HLE HAN HAT HAF HA gv lv g5 g6 l5 l6 HSV hTX
                generalize ofL TX = S0 at *
                generalize ofL (eightL m5.toNat) = S5 at *
                generalize ofL (eightL m6.toNat) = S6 at *
                generalize ofL (eightL 0) = SS at *
                generalize ofL (eightL mL.length) = SL at *
                have t1 := HCAT.out S0 S5 (by omega) (by omega)
                have t2 := HCAT.out (S0 ++ S5) S6 (by simp only [ByteArray.size_append]; omega) (by omega)
                have t3 := HCAT.out (S0 ++ S5 ++ S6) SS (by simp only [ByteArray.size_append]; omega) (by omega)
                have t4 := HCAT.out (S0 ++ S5 ++ S6 ++ SS) SL (by simp only [ByteArray.size_append]; omega) (by omega)
                have hS0 := HKE.out wr.drew (Below.refl _ _).drew
                go_wp2
                go_region_held3 (fun W => (W.cell? ⟨w.heap.size, 4, none⟩ = some (.int .i64 m5) ∧ W.cell? ⟨w.heap.size, 5, none⟩ = some (.int .i64 m6) ∧ W.cell? ⟨w.heap.size, 7, none⟩ = some (.slice p mL.length c) ∧ Below wr.heap.size wr W)) (first | assumption | exact hS0) (first | (go_at_call_of 18 (Value.int IntKind.i64 m5); refine (HC5.out _ (by assumption)).mono ?_; rintro e y1 ⟨rfl, hS1⟩) | (go_at_call_of 18 (Value.int IntKind.i64 m6); refine (HC6.out _ (by assumption)).mono ?_; rintro e y2 ⟨rfl, hS2⟩) | (go_at_call_of 18 (Value.int IntKind.i64 0); refine (HCS.out _ (by assumption)).mono ?_; rintro e y3 ⟨rfl, hS3⟩) | (go_at_call 18; refine (HCL.out _ (by assumption)).mono ?_; rintro e y4 ⟨rfl, hS4⟩))
                have HXY : Hid (Below w.heap.size w y4 ∧ y4.heap[w.heap.size]? = some (.cells #[.string m1, .string m2, .string m3, .string m4, .int .i64 m5, .int .i64 m6, .bool false, .slice p mL.length c] 24 (0, 0)) ∧ w.heap.size < y4.heap.size) := ⟨HBW.out.trans (hS4.2.2.2.mono HBW.out.size), (hS4.2.2.2.block w.heap.size (by omega)).trans HXU.out.1, by have := hS4.2.2.2.size; omega⟩
                have r7 := hS4.2.2.1
                have HNX4 : Hid (∀ k, k < mL.length → (mL.take (k + 1)).flatMap verL = (mL.take k).flatMap verL ++ verL (verAt mL k)) := fun k hk => verL_flat_take hk
                have HSO : Hid (∀ k, k ≤ mL.length → (ofL (T21 ++ (mL.take k).flatMap verL)).size ≤ 50000) := fun k hk => by
                  have h1 := HSZ.out k hk
                  have h2 := HTL.out
                  rw [ofL_size, List.length_append]
                  omega
                clear hS0 hS1 hS2 hS3 hS4 HKE HC5 HC6 HCS HCL t1 t2 t3 t4 HXU HBW HB HX0 q7 hkn hkl hk2 hk
                have HEND : Hid (ofL (T21 ++ (mL.take mL.length).flatMap verL) = ofL EL) := by show _ = _; rw [List.take_length, HEL2.out]
                clear HSZ HTL
                go_wp2
                clear r7
                go_loopw [6, 12] (fun out i wq => ∃ k : Nat, k ≤ mL.length ∧ i = .int .i64 k ∧ out = .string (ofL (T21 ++ (mL.take k).flatMap verL)) ∧ Below y4.heap.size y4 wq) (fun _ i _ => mL.length - (intOf i).toNat)
                case atStart => exact ⟨0, Nat.zero_le _, rfl, by rw [← HQ21.out], Below.refl _ _⟩
                case round =>
                  clear HQ21
                  obtain ⟨k, hk, rfl, rfl, hw⟩ := hrel
                  obtain ⟨u1, rfl⟩ : ∃ u1, u1 = wr := ⟨_, rfl⟩
                  have HU1 : Hid (Below y4.heap.size y4 u1) := hw
                  have HBU : Hid (Below w.heap.size w u1) := HXY.out.1.trans (hw.mono HXY.out.1.size)
                  have hxu := (hw.block w.heap.size HXY.out.2.2).trans HXY.out.2.1
                  have q7 : u1.cell? ⟨w.heap.size, 7, none⟩ = some (.slice p mL.length c) := by simp [World.cell?, hxu]
                  clear hw hxu
                  by_cases hkl : k < mL.length
                  · obtain ⟨b, off, hpp, hblt, c0, c1, c2, c3, c4⟩ := ver_cells (HRC.out u1 HBU.out) hkl
                    subst hpp
                    obtain ⟨f1, f2, f3, f4⟩ := HGV.out (verAt mL k) (List.mem_of_getElem? (verAt_get hkl))
                    have hos := HSO.out k hk
                    have hos1 := HSO.out (k + 1) (by omega)
                    rw [HNX4.out k hkl] at hos1
                    have hxt : (verAt mL k).text.size ≤ 50000 := by
                      rw [ofL_size] at hos1
                      simp only [List.length_append, verL, txL] at hos1
                      have e : (verAt mL k).text.data.toList.length = (verAt mL k).text.size := by simp
                      omega
                    have HNX : Hid (ofL (T21 ++ (mL.take (k + 1)).flatMap verL) = ofL (T21 ++ (mL.take k).flatMap verL) ++ ofL (eightL (verAt mL k).n.toNat) ++ ofL (eightL (verAt mL k).who.toNat) ++ ofL (eightL (verAt mL k).size.toNat) ++ ofL (eightL (verAt mL k).at_.toNat) ++ ofL (eightL (verAt mL k).text.size) ++ (verAt mL k).text) := by
                      show _ = _
                      rw [HNX4.out k hkl]
                      conv => rhs; rhs; rw [← ofL_self (verAt mL k).text]
                      simp only [ofL_append, verL, txL, List.append_assoc]
                    clear hos1
                    generalize ofL (T21 ++ (mL.take k).flatMap verL) = s0 at *
                    generalize verAt mL k = x at *
                    obtain ⟨xn, xw, xs, xa, xt⟩ := x
                    simp only [] at *
                    obtain ⟨U1, hU1⟩ : ∃ U1, U1 = u1.alloc (.cells #[.int .i64 xn, .int .i64 xw, .int .i64 xs, .int .i64 xa, .string xt] 50) := ⟨_, rfl⟩
                    have HU : Hid (U1 = u1.alloc (.cells #[.int .i64 xn, .int .i64 xw, .int .i64 xs, .int .i64 xa, .string xt] 50)) := hU1
                    have hb1 : Below u1.heap.size u1 U1 := by rw [hU1]; exact (Below.refl _ _).alloc (Nat.le_refl _) _
                    have hy1 : U1.heap[u1.heap.size]? = some (.cells #[.int .i64 xn, .int .i64 xw, .int .i64 xs, .int .i64 xa, .string xt] 50 (0, 0)) := by rw [hU1]; exact heap_alloc_new _ _
                    have hl1 : u1.heap.size < U1.heap.size := (Array.getElem?_eq_some_iff.1 hy1).1
                    have HKE : Hid (∀ W, Below U1.heap.size U1 W → (W.cell? ⟨u1.heap.size, 0, none⟩ = some (.int .i64 xn) ∧ W.cell? ⟨u1.heap.size, 1, none⟩ = some (.int .i64 xw) ∧ W.cell? ⟨u1.heap.size, 2, none⟩ = some (.int .i64 xs) ∧ W.cell? ⟨u1.heap.size, 3, none⟩ = some (.int .i64 xa) ∧ W.cell? ⟨u1.heap.size, 4, none⟩ = some (.string xt) ∧ Below U1.heap.size U1 W)) := fun W hW => by
                      have hx := (hW.block u1.heap.size hl1).trans hy1
                      exact ⟨by simp [World.cell?, hx], by simp [World.cell?, hx], by simp [World.cell?, hx], by simp [World.cell?, hx], by simp [World.cell?, hx], hW⟩
                    have HBX : Hid (Below y4.heap.size y4 U1) := HU1.out.trans (hb1.mono HU1.out.size)
                    have HD1 : Hid (∀ W, (W.cell? ⟨u1.heap.size, 0, none⟩ = some (.int .i64 xn) ∧ W.cell? ⟨u1.heap.size, 1, none⟩ = some (.int .i64 xw) ∧ W.cell? ⟨u1.heap.size, 2, none⟩ = some (.int .i64 xs) ∧ W.cell? ⟨u1.heap.size, 3, none⟩ = some (.int .i64 xa) ∧ W.cell? ⟨u1.heap.size, 4, none⟩ = some (.string xt) ∧ Below U1.heap.size U1 W) → Calls Tryd.prog 18 #[.int .i64 xn] W fun e w' => e = .returned (.string (ofL (eightL xn.toNat))) ∧ (w'.cell? ⟨u1.heap.size, 0, none⟩ = some (.int .i64 xn) ∧ w'.cell? ⟨u1.heap.size, 1, none⟩ = some (.int .i64 xw) ∧ w'.cell? ⟨u1.heap.size, 2, none⟩ = some (.int .i64 xs) ∧ w'.cell? ⟨u1.heap.size, 3, none⟩ = some (.int .i64 xa) ∧ w'.cell? ⟨u1.heap.size, 4, none⟩ = some (.string xt) ∧ Below U1.heap.size U1 w')) := fun W hW => (HEF.out xn W f1).mono fun e w' hp => ⟨hp.1, HKE.out w' (hW.2.2.2.2.2.trans (hp.2.mono hW.2.2.2.2.2.size))⟩
                    have HD2 : Hid (∀ W, (W.cell? ⟨u1.heap.size, 0, none⟩ = some (.int .i64 xn) ∧ W.cell? ⟨u1.heap.size, 1, none⟩ = some (.int .i64 xw) ∧ W.cell? ⟨u1.heap.size, 2, none⟩ = some (.int .i64 xs) ∧ W.cell? ⟨u1.heap.size, 3, none⟩ = some (.int .i64 xa) ∧ W.cell? ⟨u1.heap.size, 4, none⟩ = some (.string xt) ∧ Below U1.heap.size U1 W) → Calls Tryd.prog 18 #[.int .i64 xw] W fun e w' => e = .returned (.string (ofL (eightL xw.toNat))) ∧ (w'.cell? ⟨u1.heap.size, 0, none⟩ = some (.int .i64 xn) ∧ w'.cell? ⟨u1.heap.size, 1, none⟩ = some (.int .i64 xw) ∧ w'.cell? ⟨u1.heap.size, 2, none⟩ = some (.int .i64 xs) ∧ w'.cell? ⟨u1.heap.size, 3, none⟩ = some (.int .i64 xa) ∧ w'.cell? ⟨u1.heap.size, 4, none⟩ = some (.string xt) ∧ Below U1.heap.size U1 w')) := fun W hW => (HEF.out xw W f2).mono fun e w' hp => ⟨hp.1, HKE.out w' (hW.2.2.2.2.2.trans (hp.2.mono hW.2.2.2.2.2.size))⟩
                    have HD3 : Hid (∀ W, (W.cell? ⟨u1.heap.size, 0, none⟩ = some (.int .i64 xn) ∧ W.cell? ⟨u1.heap.size, 1, none⟩ = some (.int .i64 xw) ∧ W.cell? ⟨u1.heap.size, 2, none⟩ = some (.int .i64 xs) ∧ W.cell? ⟨u1.heap.size, 3, none⟩ = some (.int .i64 xa) ∧ W.cell? ⟨u1.heap.size, 4, none⟩ = some (.string xt) ∧ Below U1.heap.size U1 W) → Calls Tryd.prog 18 #[.int .i64 xs] W fun e w' => e = .returned (.string (ofL (eightL xs.toNat))) ∧ (w'.cell? ⟨u1.heap.size, 0, none⟩ = some (.int .i64 xn) ∧ w'.cell? ⟨u1.heap.size, 1, none⟩ = some (.int .i64 xw) ∧ w'.cell? ⟨u1.heap.size, 2, none⟩ = some (.int .i64 xs) ∧ w'.cell? ⟨u1.heap.size, 3, none⟩ = some (.int .i64 xa) ∧ w'.cell? ⟨u1.heap.size, 4, none⟩ = some (.string xt) ∧ Below U1.heap.size U1 w')) := fun W hW => (HEF.out xs W f3).mono fun e w' hp => ⟨hp.1, HKE.out w' (hW.2.2.2.2.2.trans (hp.2.mono hW.2.2.2.2.2.size))⟩
                    have HD4 : Hid (∀ W, (W.cell? ⟨u1.heap.size, 0, none⟩ = some (.int .i64 xn) ∧ W.cell? ⟨u1.heap.size, 1, none⟩ = some (.int .i64 xw) ∧ W.cell? ⟨u1.heap.size, 2, none⟩ = some (.int .i64 xs) ∧ W.cell? ⟨u1.heap.size, 3, none⟩ = some (.int .i64 xa) ∧ W.cell? ⟨u1.heap.size, 4, none⟩ = some (.string xt) ∧ Below U1.heap.size U1 W) → Calls Tryd.prog 18 #[.int .i64 xa] W fun e w' => e = .returned (.string (ofL (eightL xa.toNat))) ∧ (w'.cell? ⟨u1.heap.size, 0, none⟩ = some (.int .i64 xn) ∧ w'.cell? ⟨u1.heap.size, 1, none⟩ = some (.int .i64 xw) ∧ w'.cell? ⟨u1.heap.size, 2, none⟩ = some (.int .i64 xs) ∧ w'.cell? ⟨u1.heap.size, 3, none⟩ = some (.int .i64 xa) ∧ w'.cell? ⟨u1.heap.size, 4, none⟩ = some (.string xt) ∧ Below U1.heap.size U1 w')) := fun W hW => (HEF.out xa W f4).mono fun e w' hp => ⟨hp.1, HKE.out w' (hW.2.2.2.2.2.trans (hp.2.mono hW.2.2.2.2.2.size))⟩
                    have HD5 : Hid (∀ W, (W.cell? ⟨u1.heap.size, 0, none⟩ = some (.int .i64 xn) ∧ W.cell? ⟨u1.heap.size, 1, none⟩ = some (.int .i64 xw) ∧ W.cell? ⟨u1.heap.size, 2, none⟩ = some (.int .i64 xs) ∧ W.cell? ⟨u1.heap.size, 3, none⟩ = some (.int .i64 xa) ∧ W.cell? ⟨u1.heap.size, 4, none⟩ = some (.string xt) ∧ Below U1.heap.size U1 W) → Calls Tryd.prog 18 #[.int .i64 (xt.size : Int)] W fun e w' => e = .returned (.string (ofL (eightL xt.size))) ∧ (w'.cell? ⟨u1.heap.size, 0, none⟩ = some (.int .i64 xn) ∧ w'.cell? ⟨u1.heap.size, 1, none⟩ = some (.int .i64 xw) ∧ w'.cell? ⟨u1.heap.size, 2, none⟩ = some (.int .i64 xs) ∧ w'.cell? ⟨u1.heap.size, 3, none⟩ = some (.int .i64 xa) ∧ w'.cell? ⟨u1.heap.size, 4, none⟩ = some (.string xt) ∧ Below U1.heap.size U1 w')) := fun W hW => (HEI.out xt.size W (by omega)).mono fun e w' hp => ⟨hp.1, HKE.out w' (hW.2.2.2.2.2.trans (hp.2.mono hW.2.2.2.2.2.size))⟩
                    have z1 : (ofL (eightL xn.toNat)).size = 8 := by rw [ofL_size, eightL_length]
                    have z2 : (ofL (eightL xw.toNat)).size = 8 := by rw [ofL_size, eightL_length]
                    have z3 : (ofL (eightL xs.toNat)).size = 8 := by rw [ofL_size, eightL_length]
                    have z4 : (ofL (eightL xa.toNat)).size = 8 := by rw [ofL_size, eightL_length]
                    have z5 : (ofL (eightL xt.size)).size = 8 := by rw [ofL_size, eightL_length]
                    generalize ofL (eightL xn.toNat) = e1 at *
                    generalize ofL (eightL xw.toNat) = e2 at *
                    generalize ofL (eightL xs.toNat) = e3 at *
                    generalize ofL (eightL xa.toNat) = e4 at *
                    generalize ofL (eightL xt.size) = e5 at *
                    have t1 := HCAT.out s0 e1 (by omega) (by omega)
                    have t2 := HCAT.out (s0 ++ e1) e2 (by simp only [ByteArray.size_append]; omega) (by omega)
                    have t3 := HCAT.out (s0 ++ e1 ++ e2) e3 (by simp only [ByteArray.size_append]; omega) (by omega)
                    have t4 := HCAT.out (s0 ++ e1 ++ e2 ++ e3) e4 (by simp only [ByteArray.size_append]; omega) (by omega)
                    have t5 := HCAT.out (s0 ++ e1 ++ e2 ++ e3 ++ e4) e5 (by simp only [ByteArray.size_append]; omega) (by omega)
                    have t6 := HCAT.out (s0 ++ e1 ++ e2 ++ e3 ++ e4 ++ e5) xt (by simp only [ByteArray.size_append]; omega) (by omega)
                    have hS0 := HKE.out U1.drew (Below.refl _ _).drew
                    clear hU1 hb1 hy1 hl1 HU1 HBU f1 f2 f3 f4
                    go_wp2
                    rw [← HU.out]
                    go_region_held3 (fun W => (W.cell? ⟨u1.heap.size, 0, none⟩ = some (.int .i64 xn) ∧ W.cell? ⟨u1.heap.size, 1, none⟩ = some (.int .i64 xw) ∧ W.cell? ⟨u1.heap.size, 2, none⟩ = some (.int .i64 xs) ∧ W.cell? ⟨u1.heap.size, 3, none⟩ = some (.int .i64 xa) ∧ W.cell? ⟨u1.heap.size, 4, none⟩ = some (.string xt) ∧ Below U1.heap.size U1 W)) (first | assumption | exact hS0) (first | (go_at_call_of 18 (Value.int IntKind.i64 xn); refine (HD1.out _ (by assumption)).mono ?_; rintro e a1 ⟨rfl, hS1⟩) | (go_at_call_of 18 (Value.int IntKind.i64 xw); refine (HD2.out _ (by assumption)).mono ?_; rintro e a2 ⟨rfl, hS2⟩) | (go_at_call_of 18 (Value.int IntKind.i64 xs); refine (HD3.out _ (by assumption)).mono ?_; rintro e a3 ⟨rfl, hS3⟩) | (go_at_call_of 18 (Value.int IntKind.i64 xa); refine (HD4.out _ (by assumption)).mono ?_; rintro e a4 ⟨rfl, hS4⟩) | (go_at_call 18; refine (HD5.out _ (by assumption)).mono ?_; rintro e a5 ⟨rfl, hS5⟩))
                    have HE5 : Hid (Below y4.heap.size y4 a5) := HBX.out.trans (hS5.2.2.2.2.2.mono HBX.out.size)
                    clear hS0 hS1 hS2 hS3 hS4 hS5 HD1 HD2 HD3 HD4 HD5 HKE HU t1 t2 t3 t4 t5 t6 c0 c1 c2 c3 c4
                    go_wp2
                    go_roundw
                    case rel => exact ⟨k + 1, by omega, by go_num, by rw [HNX.out], HE5.out⟩
                    case measure => simp [intOf]; omega
                  · obtain rfl : k = mL.length := by omega
                    have hos := HSO.out mL.length (Nat.le_refl _)
                    rw [HEND.out] at hos ⊢
                    have hel : (ofL EL).size = EL.length := ofL_size _
                    have HCR : Hid (Calls Tryd.prog 20 #[.string (ofL EL)] u1 fun e w' => e = .returned (.int .i64 ((crcOf (ofL EL) : Nat) : Int)) ∧ w' = u1) := rcrc_any _ u1 (by omega)
                    have HFR : Hid (Calls Tryd.prog 19 #[.int .i64 ((crcOf (ofL EL) : Nat) : Int)] u1 fun e w' => e = .returned (.string (fourT (crcOf (ofL EL)))) ∧ Below u1.heap.size u1 w') := rfour_any _ u1
                    have hzf : (fourT (crcOf (ofL EL))).size = 4 := fourT_size _
                    have HSL : Hid (sealT (ofL EL) = ofL EL ++ fourT (crcOf (ofL EL))) := by show _ = _; rfl
                    clear HEND HSO HNX4 HU1 HEL2 hng
                    by_cases hbig : 3996 < EL.length
                    · rw [if_pos hbig] at HE
                      have d1 : decide (3996 < ((ofL EL).size : Int)) = true := decide_eq_true (by omega)
                      clear HCR HFR HSL
                      generalize ofL EL = sE at *
                      clear hel
                      go_wp2
                      go_ret2
                      exact ⟨by rw [HE.out]; rfl, HBU.out⟩
                    · rw [if_neg hbig] at HE
                      have d1 : decide (3996 < ((ofL EL).size : Int)) = false := decide_eq_false (by omega)
                      rw [HSL.out] at HE
                      generalize crcOf (ofL EL) = cr at *
                      generalize fourT cr = fr at *
                      generalize ofL EL = sE at *
                      clear hel HSL
                      go_wp2_with fail
                      refine HCR.out.mono ?_
                      rintro e u2 ⟨rfl, hu2⟩
                      rw [hu2]
                      clear hu2 u2 HCR
                      go_wp2_with fail
                      refine HFR.out.mono ?_
                      rintro e u3 ⟨rfl, hb3⟩
                      have HB3 : Hid (Below w.heap.size w u3) := HBU.out.trans (hb3.mono HBU.out.size)
                      clear hb3 HFR
                      go_wp2
                      go_ret2
                      exact ⟨by rw [HE.out]; rfl, HB3.out⟩
end Go.Proofs.YteppmkpckdmnaaaDoor
