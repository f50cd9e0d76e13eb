/- The walk of the law RingComes: whatever the nodes, one more, the key and the number, the call returns true; nothing that was there is written. -/
import Derived.Test.YtakfjkphmfblaaaDoorRingCW
import Derived.Test.YtakfjkphmfblaaaDoorRSameW
import Derived.Test.YtakfjkphmfblaaaDoorStrsSlW
namespace Go.Proofs.YtakfjkphmfblaaaDoor
open Go.RowKit Ring
/-- Those of the first i that are not x. -/
def restL (b : List ByteArray) (x : ByteArray) (i : Nat) : List ByteArray := (b.take i).filter fun z => decide (z ≠ x)
theorem restL_take {b : List ByteArray} {i : Nat} (hi : i < b.length) : b.take (i + 1) = b.take i ++ [txt b i] := by
  rw [List.take_add_one, List.getElem?_eq_getElem hi, txt_getElem b i hi]
  rfl
theorem restL_keep {b : List ByteArray} {x : ByteArray} {i : Nat} (hi : i < b.length) (h : txt b i ≠ x) : restL b x (i + 1) = restL b x i ++ [txt b i] := by
  unfold restL
  rw [restL_take hi, List.filter_append, List.filter_cons_of_pos (by simpa using h), List.filter_nil]
theorem restL_skip {b : List ByteArray} {x : ByteArray} {i : Nat} (hi : i < b.length) (h : txt b i = x) : restL b x (i + 1) = restL b x i := by
  unfold restL
  rw [restL_take hi, List.filter_append, List.filter_cons_of_neg (by simpa using h), List.filter_nil, List.append_nil]
theorem restL_le (b : List ByteArray) (x : ByteArray) (i : Nat) : (restL b x i).length ≤ i := by
  unfold restL
  exact Nat.le_trans (List.length_filter_le _ _) (by rw [List.length_take]; omega)
set_option maxRecDepth 10000 in
set_option maxHeartbeats 8000000 in
theorem ringComes_pass (p : Option Addr) (l : List ByteArray) (c : Nat) (more key : ByteArray) (n : Int) (ad : Nat → Addr) (w : World) (hl : l.length ≤ maxLen) (hx : ∀ x ∈ l, x.size ≤ maxLen) (hm : more.size ≤ maxLen) (hk : key.size ≤ maxLen) (hs : Strs w p l) (hR : RingOk ad) (hS : Errs w ad) (h : ¬ (longL l = false ∧ more.size ≤ 100 ∧ key.size ≤ 100)) :
    Calls Tryd.prog 3 #[.slice p l.length c, .string more, .string key, .int .i64 n] w fun e w' => e = .returned (.bool true) ∧ Below w.heap.size w w' := by
  have HU := round_any ad w hR hS
  have HL : Hid (∀ W, Strs W p l → Calls Tryd.prog 6 #[.slice p l.length c] W fun e w' => e = .returned (.bool (longL l)) ∧ w' = W) := fun W hW => longTexts_any p l c W hl hx hW
  have HS : Hid (Strs w p l) := hs
  have HH : Hid (¬ (longL l = false ∧ more.size ≤ 100 ∧ key.size ≤ 100)) := h
  unfold maxLen at hl hk hm
  clear hs hx hR hS h
  generalize longL l = r at *
  have walk : r = true ∨ r = false ∧ (100 < more.size ∨ ¬ 100 < more.size ∧ 100 < key.size) := by
    cases r with
    | true => exact Or.inl rfl
    | false =>
      refine Or.inr ⟨rfl, ?_⟩
      have h2 : ¬ (more.size ≤ 100 ∧ key.size ≤ 100) := fun h => HH.out ⟨rfl, h⟩
      omega
  clear HH
  rcases walk with rfl | ⟨rfl, h | ⟨h1, h⟩⟩
  all_goals
    go_enter Tryd.func3, Tryd.ntmps3
    go_wp2_with fail
    refine HU.mono ?_
    rintro e w1 ⟨rfl, hb1⟩
    have HB1 : Hid (Below w.heap.size w w1) := hb1
    have HS1 := HS.out.below hb1
    clear hb1 HU
    go_wp2_with fail
    refine (HL.out _ HS1).mono ?_
    rintro e w2 ⟨rfl, hw2⟩
    rw [hw2]
    clear hw2 w2 HS1
    go_wp2
    go_ret
    exact ⟨rfl, HB1.out⟩
set_option maxRecDepth 10000 in
set_option maxHeartbeats 8000000 in
theorem ringComes_in (p : Option Addr) (l : List ByteArray) (c : Nat) (more key : ByteArray) (n : Int) (ad : Nat → Addr) (w : World) (hlong : longL l = false) (hm : more.size ≤ 100) (hk : key.size ≤ 100) (_hc : l.length ≤ c) (hn : p = none → l = [] ∧ c = 0) (hs : Strs w p l) (hR : RingOk ad) (hS : Errs w ad) :
    Calls Tryd.prog 3 #[.slice p l.length c, .string more, .string key, .int .i64 n] w fun e w' => e = .returned (.bool true) ∧ Below w.heap.size w w' := by
  obtain ⟨hl, hx⟩ := longL_fine hlong
  have HU := round_any ad w hR hS
  have HL : Hid (∀ W, Strs W p l → Calls Tryd.prog 6 #[.slice p l.length c] W fun e w' => e = .returned (.bool (longL l)) ∧ w' = W) := fun W hW => longTexts_any p l c W (by unfold maxLen; omega) (fun x hxm => by have := hx x hxm; unfold maxLen; omega) hW
  rw [hlong] at HL
  have HOWN : Hid (∀ W, Strs W p l → Calls Tryd.prog 8 #[.slice p l.length c] W fun e w' => (∃ v, e = .returned v ∧ OwnT w' W.heap.size v l) ∧ Below W.heap.size W w') := fun W hW => ownTexts_any p l c W (by omega) hW hn
  have HPR : Hid (∀ p' c' W, l.length ≤ c' → Strs W p' l → Errs W ad → Calls Tryd.prog 7 #[.slice p' l.length c', .string key, .int .i64 n] W fun e w' => PreferAns w' ad W.heap.size l (hashOf key) n e ∧ Below W.heap.size W w') := fun p' c' W h1 h2 h3 => hR.prefer p' l c' key n W (by omega) h1 (fun x hxm => by have := hx x hxm; omega) (by omega) h2 h3
  have HPO : Hid (∀ p' c' W, (l ++ [more]).length ≤ c' → Strs W p' (l ++ [more]) → Errs W ad → Calls Tryd.prog 7 #[.slice p' (l ++ [more]).length c', .string key, .int .i64 n] W fun e w' => PreferAns w' ad W.heap.size (l ++ [more]) (hashOf key) n e ∧ Below W.heap.size W w') := fun p' c' W h1 h2 h3 => hR.prefer p' (l ++ [more]) c' key n W (by rw [List.length_append]; show _ + 1 ≤ _; omega) h1 (fun x hxm => by
    rcases List.mem_append.1 hxm with h | h
    · have := hx x h; omega
    · rw [List.mem_singleton.1 h]; omega) (by omega) h2 h3
  have HFN : Hid (¬ 0 < (preferF l n).1 → 0 ≤ n ∧ n ≤ l.length) := fun hf => ⟨(preferF_fine hf).2.1, (preferF_fine hf).2.2.1⟩
  have HMO : Hid (¬ 0 < (preferF (l ++ [more]) n).1 → more ∉ l) := fun hf hmem => by
    have h9 := (nodesF_fine (preferF_fine hf).1).2
    rw [List.nodup_append] at h9
    exact h9.2.2 more hmem more (List.mem_singleton.2 rfl) rfl
  have HKA : Hid (∀ a b, more ∉ l → Pref (hashOf key) l a → Pref (hashOf key) (l ++ [more]) b → a.length = b.length → restL b more b.length = a.take (restL b more b.length).length ∧ b.length ≤ (restL b more b.length).length + 1) := fun a b h1 h2 h3 h4 => by
    have := karger h1 h2 h3 h4
    unfold restL
    rw [List.take_length]
    exact this
  have HSM : Hid (∀ pa pb la lb ca cb W, la.length ≤ 1000000 → lb.length ≤ 1000000 → Strs W pa la → Strs W pb lb → Calls Tryd.prog 9 #[.slice pa la.length ca, .slice pb lb.length cb] W fun e w' => e = .returned (.bool (decide (la = lb))) ∧ Below W.heap.size W w') := fun pa pb la lb ca cb W h1 h2 h3 h4 => sameTexts_any pa pb la lb ca cb W h1 h2 h3 h4
  have HS : Hid (Strs w p l) := hs
  have HT : Hid (Errs w ad) := hS
  have HNN : Hid (p = none → l = [] ∧ c = 0) := hn
  unfold PreferAns at HPR HPO
  clear hs hS hR hlong hx hn
  generalize preferF l n = F at *
  generalize preferF (l ++ [more]) n = G at *
  generalize hashOf key = hh at *
  go_enter Tryd.func3, Tryd.ntmps3
  go_wp2_with fail
  refine HU.mono ?_
  rintro e w1 ⟨rfl, hb1⟩
  have HB1 : Hid (Below w.heap.size w w1) := hb1
  clear hb1 HU
  go_wp2_with fail
  refine (HL.out _ (HS.out.below HB1.out)).mono ?_
  rintro e w2 ⟨rfl, hw2⟩
  rw [hw2]
  clear hw2 w2 HL
  go_wp2_with (first | (at_builtin; refine wpList_append_strs rfl (.tmp 34) (.tmp 35) rfl w1.heap.size (.slice none 0 0) [] rfl (OwnT.nil _ _) p l c rfl (HS.out.below HB1.out) HNN.out (by show 0 + l.length ≤ _; omega) (Nat.le_refl _) ?_; intro v2 w2 hO2 hb2; rw [List.nil_append] at hO2) | (at_builtin; refine wpList_append_str rfl (.tmp 37) (.tmp 39) rfl w1.heap.size v2 l rfl (hO2.kept ((Below.refl _ _).alloc (Nat.le_refl _) _)) ⟨w2.heap.size, 0, none⟩ more 1 rfl (by rw [World.cell?_alloc_at _ _ _ _ rfl]; rfl) (by omega) (by have := hb2.size; simp; omega) ?_; intro v3 w3 hO3 hb3))
  have HB3 : Hid (Below w.heap.size w w3) := HB1.out.trans (((hb2.alloc hb2.size _).trans hb3).mono HB1.out.size)
  obtain ⟨p3, c3, rfl, hs3, hc3, _, _⟩ := hO3.form
  have HS3 : Hid (Strs w3 p3 (l ++ [more])) := hs3
  clear hO3 hs3 hO2 hb2 hb3 HB1 HNN
  generalize l ++ [more] = lm at *
  refine (HOWN.out _ (HS.out.below HB3.out)).mono ?_
  rintro e w4 ⟨⟨v4, rfl, hO4⟩, hb4⟩
  obtain ⟨p4, c4, rfl, hs4, hc4, _, _⟩ := hO4.form
  have HS4 : Hid (Strs w4 p4 l) := hs4
  have HS34 : Hid (Strs w4 p3 lm) := HS3.out.below hb4
  have HB4 : Hid (Below w.heap.size w w4) := HB3.out.trans (hb4.mono HB3.out.size)
  clear hO4 hs4 hb4 HS3 HB3 HOWN
  go_wp2_with fail
  refine (HPR.out p4 c4 _ hc4 HS4.out (HT.out.below HB4.out)).mono ?_
  rintro e w5 ⟨hA, hb5⟩
  have HB5 : Hid (Below w.heap.size w w5) := HB4.out.trans (hb5.mono HB4.out.size)
  have HS35 : Hid (Strs w5 p3 lm) := HS34.out.below hb5
  clear hb5 HS4 hc4 HPR HS34 HB4
  rcases hA with ⟨hpos, q, cq, ev, rfl, hE⟩ | ⟨hneg, v, out, rfl, hO, hlen, hPf⟩
  · obtain ⟨te, ve, rfl⟩ := hE.some hpos
    clear hE HPO HSM HKA
    go_wp2
    go_ret
    exact ⟨rfl, HB5.out⟩
  · obtain ⟨hn0, hnl⟩ := HFN.out hneg
    obtain ⟨m, rfl⟩ := Int.eq_ofNat_of_zero_le hn0
    obtain ⟨q, cq, rfl, hsq, hcq, _, _⟩ := hO.form
    have HSQ : Hid (Strs w5 q out) := hsq
    have HQF : Hid (Pref hh l out) := hPf
    have HOM : Hid (out.length = m) := by show _ = _; omega
    clear hO hsq hPf hlen HFN
    go_wp2_with fail
    refine (HPO.out p3 c3 _ hc3 HS35.out (HT.out.below HB5.out)).mono ?_
    rintro e w6 ⟨hA, hb6⟩
    have HB6 : Hid (Below w.heap.size w w6) := HB5.out.trans (hb6.mono HB5.out.size)
    have HSQ6 : Hid (Strs w6 q out) := HSQ.out.below hb6
    clear hb6 HPO HS35 HB5 HSQ
    rcases hA with ⟨hpos, q6, cq6, ev, rfl, hE⟩ | ⟨hneg6, v6, b, rfl, hO6, hlen6, hPf6⟩
    · obtain ⟨te, ve, rfl⟩ := hE.some hpos
      clear hE HSM HKA
      go_wp2
      go_ret
      exact ⟨rfl, HB6.out⟩
    · obtain ⟨q6, cq6, rfl, hsq6, _, _, hblk6⟩ := hO6.form
      have HSB6 : Hid (Strs w6 q6 b) := hsq6
      have HBM : Hid (b.length = m) := by show _ = _; omega
      have HKK : Hid (restL b more b.length = out.take (restL b more b.length).length ∧ b.length ≤ (restL b more b.length).length + 1) := HKA.out out b (HMO.out hneg6) HQF.out hPf6 (by have := HOM.out; have := HBM.out; omega)
      have hem : ((out.length : Int) != (m : Int)) = false := by
        rw [bne_eq_false_iff_eq]
        have := HOM.out
        omega
      have hem6 : ((b.length : Int) != (m : Int)) = false := by
        rw [bne_eq_false_iff_eq]
        have := HBM.out
        omega
      clear hO6 hsq6 hPf6 hlen6 HKA HMO hblk6
      go_wp2
      go_loopw [14, 15] (fun v x wq => ∃ i : Nat, i ≤ m ∧ x = .int .i64 i ∧ OwnT wq w6.heap.size v (restL b more i) ∧ Below w6.heap.size w6 wq) (fun _ x _ => m - (intOf x).toNat)
      case atStart => exact ⟨0, Nat.zero_le _, rfl, by unfold restL; rw [List.take_zero]; exact OwnT.nil _ _, Below.refl _ _⟩
      case round =>
        obtain ⟨i, hi, rfl, hO, hB⟩ := hrel
        obtain ⟨w7, rfl⟩ : ∃ w7, w7 = wr := ⟨_, rfl⟩
        obtain ⟨v7, rfl⟩ : ∃ v7, v7 = u14 := ⟨_, rfl⟩
        have HO7 : Hid (OwnT w7 w6.heap.size v7 (restL b more i)) := hO
        have HB67 : Hid (Below w6.heap.size w6 w7) := hB
        have hz7 : w6.heap.size ≤ w7.heap.size := hB.size
        have hrl := restL_le b more i
        clear hO hB
        by_cases hil : i < m
        · have hib : i < b.length := by have := HBM.out; omega
          rcases HSB6.out.below HB67.out with h0 | ⟨bb, oo, rfl, hlt, hcell⟩
          · rw [h0] at hib; exact absurd hib (Nat.not_lt_zero _)
          have q1 := hcell i hib
          clear hcell
          have hbl : (i : Int) < (b.length : Int) := by omega
          by_cases he : txt b i = more
          · have HNX : Hid (restL b more (i + 1) = restL b more i) := restL_skip hib he
            rw [he] at q1
            clear he
            go_wp2
            go_roundw
            case rel => exact ⟨i + 1, by omega, by go_num, by rw [HNX.out]; exact HO7.out, HB67.out⟩
            case measure => simp [intOf]; omega
          · have HNX : Hid (restL b more (i + 1) = restL b more i ++ [txt b i]) := restL_keep hib he
            have d1 := toList_ne he
            have d2 := toList_beq he
            have d3 := bytes_beq he
            clear he
            generalize txt b i = t at *
            generalize restL b more i = rs at *
            go_wp2_with (first | (at_builtin; refine wpList_append_str rfl (.tmp 87) (.tmp 92) rfl w6.heap.size v7 rs rfl (HO7.out.kept ((Below.refl _ _).alloc (Nat.le_refl _) _)) ⟨w7.heap.size, 0, none⟩ t 1 rfl (by rw [World.cell?_alloc_at _ _ _ _ rfl]; rfl) (by omega) (by simp; omega) ?_; intro v8 w8 hO8 hb8))
            have HO8 : Hid (OwnT w8 w6.heap.size v8 (rs ++ [t])) := hO8
            have HB8 : Hid (Below w6.heap.size w6 w8) := (HB67.out.alloc hz7 _).trans hb8
            clear hO8 hb8
            go_wp2
            go_roundw
            case rel => exact ⟨i + 1, by omega, by go_num, by rw [HNX.out]; exact HO8.out, HB8.out⟩
            case measure => simp [intOf]; omega
        · have hie : i = m := by omega
          subst hie
          have hbi := HBM.out
          rw [hbi] at HKK
          obtain ⟨hk1, hk2⟩ := HKK.out
          obtain ⟨p7, c7, rfl, hs7, _, _, _⟩ := HO7.out.form
          have HB7 : Hid (Below w.heap.size w w7) := HB6.out.trans (HB67.out.mono HB6.out.size)
          have hsl3 := run_strs_to q out cq (restL b more i).length (by have := HOM.out; omega) hcq
          have HSS := HSM.out p7 q (restL b more i) (out.take (restL b more i).length) c7 cq w7 (by omega) (by have := HOM.out; rw [List.length_take]; omega) hs7 ((HSQ6.out.below HB67.out).take _)
          rw [decide_eq_true hk1] at HSS
          have hge : decide ((i : Int) - 1 ≤ ((restL b more i).length : Int)) = true := decide_eq_true (by omega)
          clear hk1 hk2 HO7 hs7 HSM HSB6 HSQ6 HKK HB67 hbi HBM
          generalize out.take (restL b more i).length = ot at *
          generalize restL b more i = rs at *
          go_wp2_with fail
          refine HSS.mono ?_
          rintro e w9 ⟨rfl, hb9⟩
          clear HSS
          go_wp2
          go_ret
          exact ⟨rfl, HB7.out.trans (hb9.mono HB7.out.size)⟩
theorem ringComes_any (p : Option Addr) (l : List ByteArray) (c : Nat) (more key : ByteArray) (n : Int) (ad : Nat → Addr) (w : World) (hl : l.length ≤ maxLen) (hx : ∀ x ∈ l, x.size ≤ maxLen) (hm : more.size ≤ maxLen) (hk : key.size ≤ maxLen) (hc : l.length ≤ c) (hn : p = none → l = [] ∧ c = 0) (hs : Strs w p l) (hR : RingOk ad) (hS : Errs w ad) :
    Calls Tryd.prog 3 #[.slice p l.length c, .string more, .string key, .int .i64 n] w fun e w' => e = .returned (.bool true) ∧ Below w.heap.size w w' := by
  by_cases h : longL l = false ∧ more.size ≤ 100 ∧ key.size ≤ 100
  · exact ringComes_in p l c more key n ad w h.1 h.2.1 h.2.2 hc hn hs hR hS
  · exact ringComes_pass p l c more key n ad w hl hx hm hk hs hR hS h
end Go.Proofs.YtakfjkphmfblaaaDoor
