/- The walk of the law RingPrefers: whatever the nodes, the key and the number, the call returns true; nothing that was there is written. -/
import Derived.Test.YtakfjkphmfblaaaGreatDoorRingCW
import Derived.Test.YtakfjkphmfblaaaGreatDoorRSameW
import Derived.Test.YtakfjkphmfblaaaGreatDoorRFaultW
import Derived.Test.YtakfjkphmfblaaaGreatDoorRPrefW
import Derived.Test.YtakfjkphmfblaaaGreatDoorFaultW
namespace Go.Proofs.YtakfjkphmfblaaaGreatDoor
open Go.RowKit Ring
set_option maxRecDepth 10000 in
set_option maxHeartbeats 4000000 in
theorem ringPref_pass (p : Option Addr) (l : List ByteArray) (c : Nat) (key : ByteArray) (n : Int) (ad : Nat → Addr) (w : World) (hl : l.length ≤ maxLen) (hx : ∀ x ∈ l, x.size ≤ maxLen) (hk : key.size ≤ maxLen) (hs : Strs w p l) (hR : RingOk ad) (hS : Sent w ad) (h : longL l = true ∨ 100 < key.size) :
    Calls Tryz.prog 3 #[.slice p l.length c, .string key, .int .i64 n] w fun e w' => e = .returned (.bool true) ∧ Below w.heap.size w w' := by
  have HU := round_any ad w hR hS.errs
  have HL : Hid (∀ W, Strs W p l → Calls Tryz.prog 6 #[.slice p l.length c] W fun e w' => e = .returned (.bool (longL l)) ∧ w' = W) := fun W hW => longTexts_any p l c W hl hx hW
  have HS : Hid (Strs w p l) := hs
  have HH : Hid (longL l = true ∨ longL l = false ∧ 100 < key.size) := by
    show _ ∨ _
    rcases h with h | h
    · exact Or.inl h
    · cases hb : longL l with
      | true => exact Or.inl rfl
      | false => exact Or.inr ⟨rfl, h⟩
  unfold maxLen at hl hk
  clear hs hx hR hS h
  generalize longL l = r at *
  rcases HH.out with rfl | ⟨rfl, h⟩
  · go_enter Tryz.func3, Tryz.ntmps3
    go_wp2_with fail
    refine HU.mono ?_
    rintro e w1 ⟨rfl, hb1⟩
    have HB1 : Hid (Below w.heap.size w w1) := hb1
    have HS1 := HS.out.below hb1
    clear hb1 HU
    go_wp2_with fail
    refine (HL.out _ HS1).mono ?_
    rintro e w2 ⟨rfl, hw2⟩
    rw [hw2]
    clear hw2 w2 HS1
    go_wp2
    go_ret
    exact ⟨rfl, HB1.out⟩
  · go_enter Tryz.func3, Tryz.ntmps3
    go_wp2_with fail
    refine HU.mono ?_
    rintro e w1 ⟨rfl, hb1⟩
    have HB1 : Hid (Below w.heap.size w w1) := hb1
    have HS1 := HS.out.below hb1
    clear hb1 HU
    go_wp2_with fail
    refine (HL.out _ HS1).mono ?_
    rintro e w2 ⟨rfl, hw2⟩
    rw [hw2]
    clear hw2 w2 HS1
    go_wp2
    go_ret
    exact ⟨rfl, HB1.out⟩
set_option maxRecDepth 10000 in
set_option maxHeartbeats 8000000 in
theorem ringPref_in (p : Option Addr) (l : List ByteArray) (c : Nat) (key : ByteArray) (n : Int) (ad : Nat → Addr) (w : World) (hlong : longL l = false) (hk : key.size ≤ 100) (hc : l.length ≤ c) (hn : p = none → l = [] ∧ c = 0) (hs : Strs w p l) (hR : RingOk ad) (hS : Sent w ad) :
    Calls Tryz.prog 3 #[.slice p l.length c, .string key, .int .i64 n] w fun e w' => e = .returned (.bool true) ∧ Below w.heap.size w w' := by
  obtain ⟨hl, hx⟩ := longL_fine hlong
  have HU := round_any ad w hR hS.errs
  have HL : Hid (∀ W, Strs W p l → Calls Tryz.prog 6 #[.slice p l.length c] W fun e w' => e = .returned (.bool (longL l)) ∧ w' = W) := fun W hW => longTexts_any p l c W (by unfold maxLen; omega) (fun x hxm => by have := hx x hxm; unfold maxLen; omega) hW
  rw [hlong] at HL
  have HOWN : Hid (∀ W, Strs W p l → Calls Tryz.prog 9 #[.slice p l.length c] W fun e w' => (∃ v, e = .returned v ∧ OwnT w' W.heap.size v l) ∧ Below W.heap.size W w') := fun W hW => ownTexts_any p l c W (by omega) hW hn
  have HNF : Hid (∀ W, Strs W p l → Calls Tryz.prog 10 #[.slice p l.length c] W fun e w' => e = .returned (.agg #[.int .i64 (nodesF l).1, .int .i64 (nodesF l).2]) ∧ Below W.heap.size W w') := fun W hW => nodesFault_any p l c W (by omega) hc (fun x hxm => by have := hx x hxm; omega) hW
  have HPF : Hid (∀ W, Strs W p l → Calls Tryz.prog 12 #[.slice p l.length c, .int .i64 n] W fun e w' => e = .returned (.agg #[.int .i64 (preferF l n).1, .int .i64 (preferF l n).2]) ∧ Below W.heap.size W w') := fun W hW => preferFault_any p l c n W (by omega) hc (fun x hxm => by have := hx x hxm; omega) hW
  have HCH : Hid (∀ p' c' W, l.length ≤ c' → Strs W p' l → Sent W ad → Calls Tryz.prog 8 #[.slice p' l.length c'] W fun e w' => (∃ ev, e = .returned ev ∧ ErrIs w' ad ev (nodesF l).1 (nodesF l).2) ∧ Below W.heap.size W w') := fun p' c' W h1 h2 h3 => hR.check p' l c' W (by omega) h1 (fun x hxm => by have := hx x hxm; omega) h2 h3.errs
  have HPR : Hid (∀ p' c' W, l.length ≤ c' → Strs W p' l → Sent W ad → Calls Tryz.prog 11 #[.slice p' l.length c', .string key, .int .i64 n] W fun e w' => PreferAns w' ad W.heap.size l (hashOf key) n e ∧ Below W.heap.size W w') := fun p' c' W h1 h2 h3 => hR.prefer p' l c' key n W (by omega) h1 (fun x hxm => by have := hx x hxm; omega) (by omega) h2 h3.errs
  have HFL : Hid (∀ ev x y W, Sent W ad → ErrIs W ad ev x y → Calls Tryz.prog 7 #[ev, .agg #[.int .i64 x, .int .i64 y]] W fun e w' => e = .returned (.bool true) ∧ Below W.heap.size W w') := fun ev x y W h1 h2 => faulted_any ad ev x y W h1 h2
  have HRP : Hid (¬ 0 < (preferF l n).1 → ∃ m : Nat, n = (m : Int) ∧ m ≤ l.length ∧ ∀ W, Strs W p l → Calls Tryz.prog 14 #[.slice p l.length c, .string key, .int .i64 n] W fun e w' => (∃ v out, e = .returned v ∧ OwnT w' W.heap.size v out ∧ out.length = m ∧ Pref (hashOf key) l out) ∧ Below W.heap.size W w') := fun hf => by
    obtain ⟨h1, h2, h3, h4⟩ := preferF_fine hf
    obtain ⟨m, rfl⟩ := Int.eq_ofNat_of_zero_le h2
    obtain ⟨h5, h6, h7⟩ := nodesF_zero h1
    obtain ⟨h8, h9⟩ := nodesF_fine h1
    exact ⟨m, rfl, by omega, fun W hW => rprefer_any p l c key m W h6 h7 (by omega) (by omega) (fun x hxm => (isN_size (h8 x hxm)).2) h9 hW⟩
  have HSM : Hid (∀ pa pb la lb ca cb W, la.length ≤ 1000000 → lb.length ≤ 1000000 → Strs W pa la → Strs W pb lb → Calls Tryz.prog 13 #[.slice pa la.length ca, .slice pb lb.length cb] W fun e w' => e = .returned (.bool (decide (la = lb))) ∧ Below W.heap.size W w') := fun pa pb la lb ca cb W h1 h2 h3 h4 => sameTexts_any pa pb la lb ca cb W h1 h2 h3 h4
  have HS : Hid (Strs w p l) := hs
  have HT : Hid (Sent w ad) := hS
  have HUQ : Hid (∀ a b, Pref (hashOf key) l a → Pref (hashOf key) l b → a.length = b.length → a = b) := fun a b h1 h2 h3 => Pref.unique h1 h2 h3
  unfold PreferAns at HPR
  clear hs hS hR hlong hx hn
  generalize preferF l n = F at *
  generalize nodesF l = G at *
  generalize hashOf key = hh at *
  go_enter Tryz.func3, Tryz.ntmps3
  go_wp2_with fail
  refine HU.mono ?_
  rintro e w1 ⟨rfl, hb1⟩
  have HB1 : Hid (Below w.heap.size w w1) := hb1
  clear hb1 HU
  go_wp2_with fail
  refine (HL.out _ (HS.out.below HB1.out)).mono ?_
  rintro e w2 ⟨rfl, hw2⟩
  rw [hw2]
  clear hw2 w2 HL
  go_wp2_with fail
  refine (HOWN.out _ (HS.out.below HB1.out)).mono ?_
  rintro e w2 ⟨⟨v2, rfl, hO2⟩, hb2⟩
  have HB2 : Hid (Below w.heap.size w w2) := HB1.out.trans (hb2.mono HB1.out.size)
  obtain ⟨p2, c2, rfl, hs2, hc2, _, _⟩ := hO2.form
  have HS2 : Hid (Strs w2 p2 l) := hs2
  clear hb2 hO2 hs2 HB1
  go_wp2_with fail
  refine (HCH.out p2 c2 _ hc2 HS2.out (HT.out.below HB2.out)).mono ?_
  rintro e w3 ⟨⟨ev3, rfl, hE3⟩, hb3⟩
  have HE3 : Hid (ErrIs w3 ad ev3 G.1 G.2) := hE3
  have HB3 : Hid (Below w.heap.size w w3) := HB2.out.trans (hb3.mono HB2.out.size)
  clear hb3 hE3 HB2 HS2 hc2 HCH
  go_wp2_with fail
  refine (HNF.out _ (HS.out.below HB3.out)).mono ?_
  rintro e w4 ⟨rfl, hb4⟩
  have HE4 : Hid (ErrIs w4 ad ev3 G.1 G.2) := HE3.out.below hb4
  have HB4 : Hid (Below w.heap.size w w4) := HB3.out.trans (hb4.mono HB3.out.size)
  clear hb4 HE3 HB3 HNF
  go_wp2_with fail
  refine (HFL.out _ _ _ _ (HT.out.below HB4.out) HE4.out).mono ?_
  rintro e w5 ⟨rfl, hb5⟩
  have HB5 : Hid (Below w.heap.size w w5) := HB4.out.trans (hb5.mono HB4.out.size)
  clear hb5 HE4 HB4
  go_wp2_with fail
  refine (HOWN.out _ (HS.out.below HB5.out)).mono ?_
  rintro e w6 ⟨⟨v6, rfl, hO6⟩, hb6⟩
  have HB6 : Hid (Below w.heap.size w w6) := HB5.out.trans (hb6.mono HB5.out.size)
  obtain ⟨p6, c6, rfl, hs6, hc6, _, _⟩ := hO6.form
  have HS6 : Hid (Strs w6 p6 l) := hs6
  clear hb6 hO6 hs6 HB5 HOWN
  go_wp2_with fail
  refine (HPR.out p6 c6 _ hc6 HS6.out (HT.out.below HB6.out)).mono ?_
  rintro e w7 ⟨hA, hb7⟩
  have HB7 : Hid (Below w.heap.size w w7) := HB6.out.trans (hb7.mono HB6.out.size)
  clear hb7 HS6 hc6 HPR
  rcases hA with ⟨hpos, q, cq, ev, rfl, hE⟩ | ⟨hneg, v, out, rfl, hO, hlen, hPf⟩
  · have HE7 : Hid (ErrIs w7 ad ev F.1 F.2) := hE
    clear hE HRP HSM HUQ
    go_wp2_with fail
    refine (HPF.out _ (HS.out.below HB7.out)).mono ?_
    rintro e w8 ⟨rfl, hb8⟩
    obtain ⟨w9, hw9⟩ : ∃ w9, w9 = w8.alloc (.cells #[.int .i64 F.1, .int .i64 F.2] 31) := ⟨_, rfl⟩
    have hb9 : Below w8.heap.size w8 w9 := by rw [hw9]; exact (Below.refl _ _).alloc (Nat.le_refl _) _
    have q1 : w9.cell? ⟨w8.heap.size, 0, none⟩ = some (.int .i64 F.1) := by rw [hw9, World.cell?_alloc_at _ _ _ _ rfl]; rfl
    have q2 : w9.cell? ⟨w8.heap.size, 1, none⟩ = some (.int .i64 F.2) := by rw [hw9, World.cell?_alloc_at _ _ _ _ rfl]; rfl
    have HE9 : Hid (ErrIs w9 ad ev F.1 F.2) := (HE7.out.below hb8).below hb9
    have HB8 : Hid (Below w.heap.size w w8) := HB7.out.trans (hb8.mono HB7.out.size)
    have HB9 : Hid (Below w.heap.size w w9) := HB8.out.trans (hb9.mono HB8.out.size)
    have HW9 : Hid (w9 = w8.alloc (.cells #[.int .i64 F.1, .int .i64 F.2] 31)) := hw9
    clear hb8 hb9 hw9 HE7 HB7 HPF HB8
    generalize F.1 = f1 at *
    generalize F.2 = f2 at *
    go_wp2_with (rw [← HW9.out])
    refine (HFL.out _ _ _ _ (HT.out.below HB9.out) HE9.out).mono ?_
    rintro e w10 ⟨rfl, hb10⟩
    clear HE9 HFL
    go_wp2
    go_ret
    exact ⟨rfl, HB9.out.trans (hb10.mono HB9.out.size)⟩
  · obtain ⟨m, hnm, hml, hRP⟩ := HRP.out hneg
    have HRP' : Hid (∀ W, Strs W p l → Calls Tryz.prog 14 #[.slice p l.length c, .string key, .int .i64 n] W fun e w' => (∃ v out, e = .returned v ∧ OwnT w' W.heap.size v out ∧ out.length = m ∧ Pref hh l out) ∧ Below W.heap.size W w') := hRP
    obtain ⟨q, cq, rfl, hsq, _, _, _⟩ := hO.form
    have HSQ : Hid (Strs w7 q out) := hsq
    have HLN : Hid (out.length = m) := by show _ = _; omega
    have HQF : Hid (Pref hh l out) := hPf
    clear hRP hO hsq hPf HRP hnm hlen
    go_wp2_with fail
    refine (HPF.out _ (HS.out.below HB7.out)).mono ?_
    rintro e w8 ⟨rfl, hb8⟩
    obtain ⟨w9, hw9⟩ : ∃ w9, w9 = w8.alloc (.cells #[.int .i64 F.1, .int .i64 F.2] 31) := ⟨_, rfl⟩
    have hb9 : Below w8.heap.size w8 w9 := by rw [hw9]; exact (Below.refl _ _).alloc (Nat.le_refl _) _
    have q1 : w9.cell? ⟨w8.heap.size, 0, none⟩ = some (.int .i64 F.1) := by rw [hw9, World.cell?_alloc_at _ _ _ _ rfl]; rfl
    have HSQ9 : Hid (Strs w9 q out) := (HSQ.out.below hb8).below hb9
    have HB8 : Hid (Below w.heap.size w w8) := HB7.out.trans (hb8.mono HB7.out.size)
    have HB9 : Hid (Below w.heap.size w w9) := HB8.out.trans (hb9.mono HB8.out.size)
    have HW9 : Hid (w9 = w8.alloc (.cells #[.int .i64 F.1, .int .i64 F.2] 31)) := hw9
    clear hb8 hb9 hw9 HSQ HB7 HPF HB8 HFL
    have hneg' : F.1 ≤ 0 := by omega
    clear hneg
    generalize F.1 = f1 at *
    generalize F.2 = f2 at *
    go_wp2_with (rw [← HW9.out])
    refine (HRP'.out _ (HS.out.below HB9.out)).mono ?_
    rintro e w10 ⟨⟨v10, out10, rfl, hO10, hl10, hP10⟩, hb10⟩
    have heq : out = out10 := HUQ.out _ _ HQF.out hP10 (by rw [HLN.out, hl10])
    obtain ⟨q10, c10, rfl, hs10, _, _, _⟩ := hO10.form
    have HSS := HSM.out q q10 out out10 cq c10 w10 (by have := HLN.out; omega) (by omega) (HSQ9.out.below hb10) hs10
    rw [decide_eq_true heq] at HSS
    have HB10 : Hid (Below w.heap.size w w10) := HB9.out.trans (hb10.mono HB9.out.size)
    clear hO10 hl10 hP10 hb10 heq hs10 HSM HUQ HRP'
    go_wp2_with fail
    refine HSS.mono ?_
    rintro e w11 ⟨rfl, hb11⟩
    clear HSS
    go_wp2
    go_ret
    exact ⟨rfl, HB10.out.trans (hb11.mono HB10.out.size)⟩
theorem ringPref_any (p : Option Addr) (l : List ByteArray) (c : Nat) (key : ByteArray) (n : Int) (ad : Nat → Addr) (w : World) (hl : l.length ≤ maxLen) (hx : ∀ x ∈ l, x.size ≤ maxLen) (hk : key.size ≤ maxLen) (hc : l.length ≤ c) (hn : p = none → l = [] ∧ c = 0) (hs : Strs w p l) (hR : RingOk ad) (hS : Sent w ad) :
    Calls Tryz.prog 3 #[.slice p l.length c, .string key, .int .i64 n] w fun e w' => e = .returned (.bool true) ∧ Below w.heap.size w w' := by
  by_cases h1 : longL l = true
  · exact ringPref_pass p l c key n ad w hl hx hk hs hR hS (Or.inl h1)
  by_cases h2 : 100 < key.size
  · exact ringPref_pass p l c key n ad w hl hx hk hs hR hS (Or.inr h2)
  · exact ringPref_in p l c key n ad w (Bool.eq_false_iff.2 h1) (by omega) hc hn hs hR hS
end Go.Proofs.YtakfjkphmfblaaaGreatDoor
