/- The walk of the law RingTurned: whatever the nodes, the turn, the key and the numbers, the call returns true; nothing that was there is written. -/
import Derived.Test.YtakfjkphmfblaaaDoorRingCW
import Derived.Test.YtakfjkphmfblaaaDoorRSameW
import Derived.Test.YtakfjkphmfblaaaDoorStrsSlW
namespace Go.Proofs.YtakfjkphmfblaaaDoor
open Go.RowKit Ring
/-- Nodes turned by k. -/
def turnL (l : List ByteArray) (k : Nat) : List ByteArray := l.drop k ++ l.take k
theorem turnL_length (l : List ByteArray) (k : Nat) : (turnL l k).length = l.length := by unfold turnL; simp; omega
theorem turnL_mem (l : List ByteArray) (k : Nat) (x : ByteArray) : x ∈ turnL l k ↔ x ∈ l := by
  unfold turnL
  rw [List.mem_append]
  conv => rhs; rw [← List.take_append_drop k l, List.mem_append]
  exact Or.comm
theorem turnL_nodup {l : List ByteArray} (k : Nat) (h : l.Nodup) : (turnL l k).Nodup := by
  unfold turnL
  have h2 := h
  rw [← List.take_append_drop k l, List.nodup_append] at h2
  obtain ⟨ha, hb, hab⟩ := h2
  rw [List.nodup_append]
  exact ⟨hb, ha, fun x hx y hy e => hab y hy x hx e.symm⟩
set_option maxRecDepth 10000 in
set_option maxHeartbeats 8000000 in
theorem ringTurn_pass (p : Option Addr) (l : List ByteArray) (c : Nat) (by_ : Int) (key : ByteArray) (n less : Int) (ad : Nat → Addr) (w : World) (hl : l.length ≤ maxLen) (hx : ∀ x ∈ l, x.size ≤ maxLen) (hk : key.size ≤ maxLen) (hs : Strs w p l) (hR : RingOk ad) (hS : Errs w ad) (h : ¬ (longL l = false ∧ key.size ≤ 100 ∧ 0 ≤ by_ ∧ by_ ≤ l.length ∧ 0 ≤ less ∧ less ≤ n)) :
    Calls Tryd.prog 4 #[.slice p l.length c, .int .i64 by_, .string key, .int .i64 n, .int .i64 less] w fun e w' => e = .returned (.bool true) ∧ Below w.heap.size w w' := by
  have HU := round_any ad w hR hS
  have HL : Hid (∀ W, Strs W p l → Calls Tryd.prog 6 #[.slice p l.length c] W fun e w' => e = .returned (.bool (longL l)) ∧ w' = W) := fun W hW => longTexts_any p l c W hl hx hW
  have HS : Hid (Strs w p l) := hs
  have HH : Hid (¬ (longL l = false ∧ key.size ≤ 100 ∧ 0 ≤ by_ ∧ by_ ≤ l.length ∧ 0 ≤ less ∧ less ≤ n)) := h
  unfold maxLen at hl hk
  clear hs hx hR hS h
  generalize longL l = r at *
  have walk : (r = true ∨ r = false ∧ (100 < key.size ∨ ¬ 100 < key.size ∧ (by_ < 0 ∨ ¬ by_ < 0 ∧ ((l.length : Int) < by_ ∨ ¬ (l.length : Int) < by_ ∧ (less < 0 ∨ ¬ less < 0 ∧ n < less))))) := by
    cases r with
    | true => exact Or.inl rfl
    | false =>
      refine Or.inr ⟨rfl, ?_⟩
      have h2 : ¬ (key.size ≤ 100 ∧ 0 ≤ by_ ∧ by_ ≤ l.length ∧ 0 ≤ less ∧ less ≤ n) := fun h => HH.out ⟨rfl, h⟩
      omega
  clear HH
  rcases walk with rfl | ⟨rfl, h | ⟨h1, h | ⟨h2, h | ⟨h3, h | ⟨h4, h⟩⟩⟩⟩⟩
  all_goals
    go_enter Tryd.func4, Tryd.ntmps4
    go_wp2_with fail
    refine HU.mono ?_
    rintro e w1 ⟨rfl, hb1⟩
    have HB1 : Hid (Below w.heap.size w w1) := hb1
    have HS1 := HS.out.below hb1
    clear hb1 HU
    go_wp2_with fail
    refine (HL.out _ HS1).mono ?_
    rintro e w2 ⟨rfl, hw2⟩
    rw [hw2]
    clear hw2 w2 HS1
    go_wp2
    go_ret
    exact ⟨rfl, HB1.out⟩
set_option maxRecDepth 10000 in
set_option maxHeartbeats 8000000 in
theorem ringTurn_in (p : Option Addr) (l : List ByteArray) (c : Nat) (k : Nat) (key : ByteArray) (n : Int) (less : Nat) (ad : Nat → Addr) (w : World) (hlong : longL l = false) (hk : key.size ≤ 100) (hkl : k ≤ l.length) (hle : (less : Int) ≤ n) (hc : l.length ≤ c) (hn : p = none → l = [] ∧ c = 0) (hs : Strs w p l) (hR : RingOk ad) (hS : Errs w ad) :
    Calls Tryd.prog 4 #[.slice p l.length c, .int .i64 (k : Int), .string key, .int .i64 n, .int .i64 (less : Int)] w fun e w' => e = .returned (.bool true) ∧ Below w.heap.size w w' := by
  obtain ⟨hl, hx⟩ := longL_fine hlong
  have HU := round_any ad w hR hS
  have HL : Hid (∀ W, Strs W p l → Calls Tryd.prog 6 #[.slice p l.length c] W fun e w' => e = .returned (.bool (longL l)) ∧ w' = W) := fun W hW => longTexts_any p l c W (by unfold maxLen; omega) (fun x hxm => by have := hx x hxm; unfold maxLen; omega) hW
  rw [hlong] at HL
  have HOWN : Hid (∀ W, Strs W p l → Calls Tryd.prog 8 #[.slice p l.length c] W fun e w' => (∃ v, e = .returned v ∧ OwnT w' W.heap.size v l) ∧ Below W.heap.size W w') := fun W hW => ownTexts_any p l c W (by omega) hW hn
  have HPR : Hid (∀ p' c' W, l.length ≤ c' → Strs W p' l → Errs W ad → Calls Tryd.prog 7 #[.slice p' l.length c', .string key, .int .i64 n] W fun e w' => PreferAns w' ad W.heap.size l (hashOf key) n e ∧ Below W.heap.size W w') := fun p' c' W h1 h2 h3 => hR.prefer p' l c' key n W (by omega) h1 (fun x hxm => by have := hx x hxm; omega) (by omega) h2 h3
  have HPO : Hid (∀ m p' c' W, (turnL l k).length ≤ c' → Strs W p' (turnL l k) → Errs W ad → Calls Tryd.prog 7 #[.slice p' (turnL l k).length c', .string key, .int .i64 m] W fun e w' => PreferAns w' ad W.heap.size (turnL l k) (hashOf key) m e ∧ Below W.heap.size W w') := fun m p' c' W h1 h2 h3 => hR.prefer p' (turnL l k) c' key m W (by rw [turnL_length]; omega) h1 (fun x hxm => by have := hx x ((turnL_mem l k x).1 hxm); omega) (by omega) h2 h3
  have HFI : Hid (¬ 0 < (preferF l n).1 → ∀ m : Int, 0 ≤ m → m ≤ n → preferF (turnL l k) m = (0, -1)) := fun hf m h0 hm => by
    obtain ⟨h1, h2, h3, h4⟩ := preferF_fine hf
    obtain ⟨h5, h6, h7⟩ := nodesF_zero h1
    obtain ⟨h8, h9⟩ := nodesF_fine h1
    exact preferF_of (nodesF_of (by rw [turnL_length]; exact h6) (by rw [turnL_length]; exact h7) (fun x hxm => h8 x ((turnL_mem l k x).1 hxm)) (turnL_nodup k h9)) h0 (by rw [turnL_length]; omega)
  have HPM : Hid (∀ out, Pref (hashOf key) (turnL l k) out → Pref (hashOf key) l out) := fun out h => h.congr (turnL_mem l k)
  have HSM : Hid (∀ pa pb la lb ca cb W, la.length ≤ 1000000 → lb.length ≤ 1000000 → Strs W pa la → Strs W pb lb → Calls Tryd.prog 9 #[.slice pa la.length ca, .slice pb lb.length cb] W fun e w' => e = .returned (.bool (decide (la = lb))) ∧ Below W.heap.size W w') := fun pa pb la lb ca cb W h1 h2 h3 h4 => sameTexts_any pa pb la lb ca cb W h1 h2 h3 h4
  have HTL : Hid ((turnL l k).length = l.length) := turnL_length l k
  have HTE : Hid (l.drop k ++ l.take k = turnL l k) := by show _ = _; rfl
  have HS : Hid (Strs w p l) := hs
  have HT : Hid (Errs w ad) := hS
  have HNL : Hid (preferF l n = preferF l n) := by show _ = _; rfl
  have HFN : Hid (¬ 0 < (preferF l n).1 → 0 ≤ n ∧ n ≤ l.length) := fun hf => ⟨(preferF_fine hf).2.1, (preferF_fine hf).2.2.1⟩
  have hsl1 := run_strs_from p l c k hkl
  have hsl2 := run_strs_to p l c k hkl hc
  have HSUB : Hid (∀ W, Strs W p l → Strs W (if c = k then p else p.map (·.add k)) (l.drop k) ∧ ((if c = k then p else p.map (·.add k)) = none → l.drop k = [] ∧ c - k = 0)) := fun W hW => strs_from hW hkl hc hn
  have HTK : Hid (p = none → l.take k = [] ∧ c = 0) := fun h => ⟨by rw [(hn h).1, List.take_nil], (hn h).2⟩
  have hd1 : (l.drop k).length ≤ 40 := by rw [List.length_drop]; omega
  have hd2 : (l.take k).length ≤ 40 := by rw [List.length_take]; omega
  have HTKS : Hid (∀ W, Strs W p l → Strs W p (l.take k)) := fun W hW => hW.take k
  have hkl' : (k : Int) ≤ (l.length : Int) := by omega
  unfold PreferAns at HPR HPO
  clear hs hS hR hlong hx hn HNL
  generalize hq1 : (if c = k then p else p.map (·.add k)) = q1 at *
  clear hq1
  generalize c - k = c1 at *
  generalize turnL l k = ot at *
  generalize l.drop k = ld at *
  generalize l.take k = lt at *
  generalize hashOf key = hh at *
  have g1 : decide ((k : Int) < 0) = false := decide_eq_false (by omega)
  have g2 : decide (l.length < k) = false := decide_eq_false (by omega)
  have g3 : decide ((less : Int) < 0) = false := decide_eq_false (by omega)
  have g4 : decide (n < (less : Int)) = false := decide_eq_false (by omega)
  go_enter Tryd.func4, Tryd.ntmps4
  go_wp2_with fail
  refine HU.mono ?_
  rintro e w1 ⟨rfl, hb1⟩
  have HB1 : Hid (Below w.heap.size w w1) := hb1
  clear hb1 HU
  go_wp2_with fail
  refine (HL.out _ (HS.out.below HB1.out)).mono ?_
  rintro e w2 ⟨rfl, hw2⟩
  rw [hw2]
  clear hw2 w2 HL
  have HQ1 := HSUB.out w1 (HS.out.below HB1.out)
  have HQ1' : Hid (Strs w1 q1 ld) := HQ1.1
  have HQ2' : Hid (q1 = none → ld = [] ∧ c1 = 0) := HQ1.2
  clear HQ1
  go_wp2_with (first | (at_builtin; refine wpList_append_strs rfl (.tmp 51) (.tmp 54) rfl w1.heap.size (.slice none 0 0) [] rfl (OwnT.nil _ _) q1 ld c1 rfl HQ1'.out HQ2'.out (by show 0 + ld.length ≤ _; omega) (Nat.le_refl _) ?_; intro v2 w2 hO2 hb2; rw [List.nil_append] at hO2) | (at_builtin; refine wpList_append_strs rfl (.tmp 56) (.tmp 59) rfl w1.heap.size v2 ld rfl hO2 p lt c rfl (HTKS.out _ ((HS.out.below HB1.out).below hb2)) HTK.out (by omega) hb2.size ?_; intro v3 w3 hO3 hb3))
  rw [HTE.out] at hO3
  obtain ⟨p3, c3, rfl, hs3, hc3, _, _⟩ := hO3.form
  have HS3 : Hid (Strs w3 p3 ot) := hs3
  have HB13 : Hid (Below w1.heap.size w1 w3) := hb2.trans hb3
  have HB3 : Hid (Below w.heap.size w w3) := HB1.out.trans (HB13.out.mono HB1.out.size)
  clear hO3 hs3 hO2 hb2 hb3 HQ1' HQ2' HB1 HTKS HTK HSUB HB13
  refine (HOWN.out _ (HS.out.below HB3.out)).mono ?_
  rintro e w4 ⟨⟨v4, rfl, hO4⟩, hb4⟩
  obtain ⟨p4, c4, rfl, hs4, hc4, _, _⟩ := hO4.form
  have HS4 : Hid (Strs w4 p4 l) := hs4
  have HS34 : Hid (Strs w4 p3 ot) := HS3.out.below hb4
  have HB4 : Hid (Below w.heap.size w w4) := HB3.out.trans (hb4.mono HB3.out.size)
  clear hO4 hs4 hb4 HS3 HB3 HOWN
  go_wp2_with fail
  refine (HPR.out p4 c4 _ hc4 HS4.out (HT.out.below HB4.out)).mono ?_
  rintro e w5 ⟨hA, hb5⟩
  have HB5 : Hid (Below w.heap.size w w5) := HB4.out.trans (hb5.mono HB4.out.size)
  have HS35 : Hid (Strs w5 p3 ot) := HS34.out.below hb5
  clear hb5 HS4 hc4 HPR HS34 HB4
  rcases hA with ⟨hpos, q, cq, ev, rfl, hE⟩ | ⟨hneg, v, out, rfl, hO, hlen, hPf⟩
  · obtain ⟨te, ve, rfl⟩ := hE.some hpos
    clear hE HPO HFI HPM HSM
    go_wp2
    go_ret
    exact ⟨rfl, HB5.out⟩
  · obtain ⟨hn0, hnl⟩ := HFN.out hneg
    obtain ⟨m, rfl⟩ := Int.eq_ofNat_of_zero_le hn0
    have HF1 : Hid (preferF ot (m : Int) = (0, -1)) := HFI.out hneg _ (by omega) (by omega)
    have HF2 : Hid (preferF ot (less : Int) = (0, -1)) := HFI.out hneg _ (by omega) hle
    obtain ⟨q, cq, rfl, hsq, hcq, _, _⟩ := hO.form
    have HSQ : Hid (Strs w5 q out) := hsq
    have hom : out.length = m := by omega
    have HQF : Hid (Pref hh l out) := hPf
    have HOM : Hid (out.length = m) := hom
    clear hO hsq hPf hlen HFI HFN hom
    go_wp2_with fail
    refine (HPO.out (m : Int) p3 c3 _ hc3 HS35.out (HT.out.below HB5.out)).mono ?_
    rintro e w6 ⟨hA, hb6⟩
    rcases hA with ⟨hp6, _⟩ | ⟨_, v6, out6, rfl, hO6, hl6, hP6⟩
    · rw [HF1.out] at hp6; exact absurd hp6 (by decide)
    obtain ⟨q6, cq6, rfl, hsq6, _, _, _⟩ := hO6.form
    have heq : out = out6 := Pref.unique HQF.out (HPM.out _ hP6) (by have := HOM.out; omega)
    subst heq
    have HSQ6 : Hid (Strs w6 q6 out) := hsq6
    have HSQ' : Hid (Strs w6 q out) := HSQ.out.below hb6
    have HS36 : Hid (Strs w6 p3 ot) := HS35.out.below hb6
    have HB6 : Hid (Below w.heap.size w w6) := HB5.out.trans (hb6.mono HB5.out.size)
    clear hO6 hl6 hP6 hsq6 hb6 HSQ HS35 HB5
    go_wp2_with fail
    refine (HPO.out (less : Int) p3 c3 _ hc3 HS36.out (HT.out.below HB6.out)).mono ?_
    rintro e w7 ⟨hA, hb7⟩
    rcases hA with ⟨hp7, _⟩ | ⟨_, v7, out7, rfl, hO7, hl7, hP7⟩
    · rw [HF2.out] at hp7; exact absurd hp7 (by decide)
    obtain ⟨q7, cq7, rfl, hsq7, _, _, _⟩ := hO7.form
    have heq : out7 = out.take less := Pref.unique (HPM.out _ hP7) (HQF.out.take less) (by have := HOM.out; rw [List.length_take]; omega)
    subst heq
    have hsl3 := run_strs_to q out cq less (by have := HOM.out; omega) hcq
    have HS1 := HSM.out q q6 out out cq cq6 w7 (by have := HOM.out; omega) (by have := HOM.out; omega) (HSQ'.out.below hb7) (HSQ6.out.below hb7)
    rw [decide_eq_true rfl] at HS1
    have HS2 : Hid (∀ W, Below w7.heap.size w7 W → Calls Tryd.prog 9 #[.slice q7 (out.take less).length cq7, .slice q (out.take less).length cq] W fun e w' => e = .returned (.bool true) ∧ Below W.heap.size W w') := fun W hW => by
      have h := HSM.out q7 q (out.take less) (out.take less) cq7 cq W (by have := HOM.out; rw [List.length_take]; omega) (by have := HOM.out; rw [List.length_take]; omega) (hsq7.below hW) (((HSQ'.out.below hb7).below hW).take less)
      rw [decide_eq_true rfl] at h
      exact h
    have HB7 : Hid (Below w.heap.size w w7) := HB6.out.trans (hb7.mono HB6.out.size)
    clear hO7 hl7 hP7 hb7 hsq7 HSQ' HSQ6 HS36 HB6 HSM HPO HPM
    generalize out.take less = o7 at *
    have hem : ((out.length : Int) == (m : Int)) = true := by
      rw [beq_iff_eq]
      have := HOM.out
      omega
    go_wp2_with fail
    refine HS1.mono ?_
    rintro e w8 ⟨rfl, hb8⟩
    have HB8 : Hid (Below w.heap.size w w8) := HB7.out.trans (hb8.mono HB7.out.size)
    have HS2' := HS2.out w8 hb8
    clear HS1 hb8 HS2
    go_wp2_with fail
    refine HS2'.mono ?_
    rintro e w9 ⟨rfl, hb9⟩
    clear HS2'
    go_wp2
    go_ret
    exact ⟨rfl, HB8.out.trans (hb9.mono HB8.out.size)⟩
theorem ringTurn_any (p : Option Addr) (l : List ByteArray) (c : Nat) (by_ : Int) (key : ByteArray) (n less : Int) (ad : Nat → Addr) (w : World) (hl : l.length ≤ maxLen) (hx : ∀ x ∈ l, x.size ≤ maxLen) (hk : key.size ≤ maxLen) (hc : l.length ≤ c) (hn : p = none → l = [] ∧ c = 0) (hs : Strs w p l) (hR : RingOk ad) (hS : Errs w ad) :
    Calls Tryd.prog 4 #[.slice p l.length c, .int .i64 by_, .string key, .int .i64 n, .int .i64 less] w fun e w' => e = .returned (.bool true) ∧ Below w.heap.size w w' := by
  by_cases h : longL l = false ∧ key.size ≤ 100 ∧ 0 ≤ by_ ∧ by_ ≤ l.length ∧ 0 ≤ less ∧ less ≤ n
  · obtain ⟨h1, h2, h3, h4, h5, h6⟩ := h
    obtain ⟨k, rfl⟩ := Int.eq_ofNat_of_zero_le h3
    obtain ⟨m, rfl⟩ := Int.eq_ofNat_of_zero_le h5
    exact ringTurn_in p l c k key n m ad w h1 h2 (by omega) h6 hc hn hs hR hS
  · exact ringTurn_pass p l c by_ key n less ad w hl hx hk hs hR hS h
end Go.Proofs.YtakfjkphmfblaaaDoor
