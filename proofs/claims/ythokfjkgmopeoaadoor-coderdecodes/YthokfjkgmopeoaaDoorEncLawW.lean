/- The walk of the law CoderEncodes: whatever the numbers and the text, the call returns true; nothing that was there is written. -/
import Derived.Test.YthokfjkgmopeoaaDoorSingleW
import Derived.Test.YthokfjkgmopeoaaDoorG3
import Derived.Test.YthokfjkgmopeoaaDoorG4
import Derived.Test.YthokfjkgmopeoaaDoorSameShW
namespace Go.Proofs.YthokfjkgmopeoaaDoor
open Go.RowKit
theorem encN_rsum (s : ByteArray) (k wd i c : Nat) : ∀ j, encN (bytesOf s) k wd i c j = rsumN (fun i j => Gf.shareOf (upToL k) j i) (objN s wd) i c j
  | 0 => rfl
  | j + 1 => by
    show (if j * wd + c < (bytesOf s).length then encN (bytesOf s) k wd i c j ^^^ _ else encN (bytesOf s) k wd i c j) = rsumN _ _ i c j ^^^ Gf.mul _ (objN s wd j c)
    rw [encN_rsum s k wd i c j]
    have hl : (bytesOf s).length = s.size := by simp [bytesOf]
    by_cases h : j * wd + c < s.size
    · rw [if_pos (by omega)]
      rfl
    · rw [if_neg (by omega), objN_past h, Gf.mul_zero, Nat.xor_zero]
theorem encT_eq (k : Nat) (s : ByteArray) (i : Nat) : strOf (encRow (bytesOf s) k (wideN k s.size) i) = encT k s i := by
  unfold encT encRow rowT
  rw [rowFn_congr _ _ _ (fun c _ => encN_rsum s k (wideN k s.size) i c k)]
theorem shCells_vals (l : List (Nat × List Nat)) : shCells l = shVals (l.map fun x => ((x.1 : Int), strOf x.2)) := by
  unfold shCells shVals
  rw [List.flatMap_map]
theorem encL_length (n k : Nat) (s : ByteArray) : (encL n k s).length = n := by simp [encL]
/-- The document's own shards are these. -/
theorem rencode_shs (n k : Nat) (s : ByteArray) (w : World) (hk1 : 1 ≤ k) (hkn : k ≤ n) (hn : n ≤ 12) (hs : s.size ≤ 3000) :
    Calls Tryd.prog 13 #[.int .i64 (n : Int), .int .i64 (k : Int), .string s] w fun e w' => (∃ p c, e = .returned (.slice p n c) ∧ Shs w' p (encL n k s)) ∧ Below w.heap.size w w' := by
  refine (rencode_any n k s w hk1 hkn hn hs).mono ?_
  rintro e w' ⟨⟨v, rfl, hv⟩, hb⟩
  refine ⟨?_, hb⟩
  unfold OwnSh at hv
  rw [shCells_vals, List.map_map, List.length_map, List.length_range] at hv
  have hl : (List.range n).map ((fun x : Nat × List Nat => ((x.1 : Int), strOf x.2)) ∘ fun i => (i, encRow (bytesOf s) k (wideN k s.size) i)) = encL n k s := by
    unfold encL
    refine List.map_congr_left fun i _ => ?_
    show ((i : Int), strOf (encRow (bytesOf s) k (wideN k s.size) i)) = encS k s i
    rw [encT_eq]
    rfl
  rw [hl] at hv
  have hv' : w'.ownsRow w.heap.size 34 2 v (encL n k s).length (shVals (encL n k s)) := by rw [encL_length]; exact hv
  obtain ⟨p, c, rfl, h⟩ := shs_of_own hv'
  exact ⟨p, c, by rw [encL_length], h⟩
set_option maxRecDepth 10000 in
set_option maxHeartbeats 2000000 in
theorem encLaw_pass (n k : Int) (s : ByteArray) (ad : Nat → Addr) (w : World) (hsz : s.size ≤ maxLen) (h : 100 < s.size ∧ s.size ≤ 1000 ∨ 3000 < s.size) (hS : Sent w ad) :
    Calls Tryd.prog 3 #[.int .i64 n, .int .i64 k, .string s] w fun e w' => e = .returned (.bool true) ∧ Below w.heap.size w w' := by
  unfold maxLen at hsz
  have HU := single_any (ad 11) w hS.c11
  clear hS
  rcases h with ⟨h1, h2⟩ | h1
  · go_enter Tryd.func3, Tryd.ntmps3
    go_wp2_with fail
    refine HU.mono ?_
    rintro e w1 ⟨rfl, hb1⟩
    clear HU
    go_wp2
    go_ret
    exact ⟨rfl, hb1⟩
  · have h2 : 100 < s.size := by omega
    have h3 : ¬ s.size ≤ 1000 := by omega
    go_enter Tryd.func3, Tryd.ntmps3
    go_wp2_with fail
    refine HU.mono ?_
    rintro e w1 ⟨rfl, hb1⟩
    clear HU
    go_wp2
    go_ret
    exact ⟨rfl, hb1⟩
set_option maxRecDepth 10000 in
set_option maxHeartbeats 2000000 in
theorem encLaw_bad (n k : Int) (s : ByteArray) (ad : Nat → Addr) (w : World) (hp : s.size ≤ 100 ∨ 1000 < s.size) (hsz : s.size ≤ 3000) (h : ¬ (1 ≤ k ∧ k ≤ n ∧ n ≤ 12 ∧ s.size ≤ 1000)) (hS : Sent w ad) :
    Calls Tryd.prog 3 #[.int .i64 n, .int .i64 k, .string s] w fun e w' => e = .returned (.bool true) ∧ Below w.heap.size w w' := by
  have HU := single_any (ad 11) w hS.c11
  have H0 : Hid (StillS w w ad) := ⟨hS, Below.refl _ _⟩
  have HH : Hid (¬ (1 ≤ k ∧ k ≤ n ∧ n ≤ 12 ∧ s.size ≤ 1000)) := h
  clear h hS
  rcases hp with hp | hp
  · have hno : ¬ (1 ≤ k ∧ k ≤ n ∧ n ≤ 12) := fun hh => HH.out ⟨hh.1, hh.2.1, hh.2.2, by omega⟩
    have HNO : Hid (¬ (1 ≤ k ∧ k ≤ n ∧ n ≤ 12)) := hno
    clear hno
    go_enter Tryd.func3, Tryd.ntmps3
    go_wp2_with fail
    refine HU.mono ?_
    rintro e w1 ⟨rfl, hb1⟩
    have H1 : Hid (StillS w w1 ad) := H0.out.next hb1
    clear hb1 HU
    go_wp2_with fail
    refine (encode_bad n k s (ad 1) _ (by omega) HH.out H1.out.sent.c1).mono ?_
    rintro e w2 ⟨rfl, hb2⟩
    have H2 : Hid (StillS w w2 ad) := H1.out.next hb2
    clear hb2 H1
    go_wp2_with fail
    refine (isSpread_no n k _ HNO.out).mono ?_
    rintro e w' ⟨rfl, hww⟩
    rw [hww]
    clear hww w'
    go_wp2_with fail
    refine (coded_bound ad _ H2.out.sent).mono ?_
    rintro e w4 ⟨rfl, hb4⟩
    have H4 : Hid (StillS w w4 ad) := H2.out.next hb4
    clear hb4 H2
    go_wp2
    go_ret
    exact ⟨rfl, H4.out.below⟩
  · have hp2 : 100 < s.size := by omega
    have hp3 : ¬ s.size ≤ 1000 := by omega
    go_enter Tryd.func3, Tryd.ntmps3
    go_wp2_with fail
    refine HU.mono ?_
    rintro e w1 ⟨rfl, hb1⟩
    have H1 : Hid (StillS w w1 ad) := H0.out.next hb1
    clear hb1 HU
    go_wp2_with fail
    refine (encode_bad n k s (ad 1) _ (by omega) HH.out H1.out.sent.c1).mono ?_
    rintro e w2 ⟨rfl, hb2⟩
    have H2 : Hid (StillS w w2 ad) := H1.out.next hb2
    clear hb2 H1
    by_cases hno : 1 ≤ k ∧ k ≤ n ∧ n ≤ 12
    · obtain ⟨k1, k2, k3⟩ := hno
      go_wp2_with fail
      refine (isSpread_yes n k _ k1 k2 k3).mono ?_
      rintro e w' ⟨rfl, hww⟩
      rw [hww]
      clear hww w'
      go_wp2_with fail
      refine (coded_bound ad _ H2.out.sent).mono ?_
      rintro e w4 ⟨rfl, hb4⟩
      have H4 : Hid (StillS w w4 ad) := H2.out.next hb4
      clear hb4 H2
      go_wp2
      go_ret
      exact ⟨rfl, H4.out.below⟩
    · have HNO : Hid (¬ (1 ≤ k ∧ k ≤ n ∧ n ≤ 12)) := hno
      clear hno
      go_wp2_with fail
      refine (isSpread_no n k _ HNO.out).mono ?_
      rintro e w' ⟨rfl, hww⟩
      rw [hww]
      clear hww w'
      go_wp2_with fail
      refine (coded_bound ad _ H2.out.sent).mono ?_
      rintro e w4 ⟨rfl, hb4⟩
      have H4 : Hid (StillS w w4 ad) := H2.out.next hb4
      clear hb4 H2
      go_wp2
      go_ret
      exact ⟨rfl, H4.out.below⟩
set_option maxRecDepth 10000 in
set_option maxHeartbeats 2000000 in
theorem encLaw_in (n k : Nat) (s : ByteArray) (ad : Nat → Addr) (w : World) (hk1 : 1 ≤ k) (hkn : k ≤ n) (hn : n ≤ 12) (hp : s.size ≤ 100) (hS : Sent w ad) :
    Calls Tryd.prog 3 #[.int .i64 (n : Int), .int .i64 (k : Int), .string s] w fun e w' => e = .returned (.bool true) ∧ Below w.heap.size w w' := by
  have HU := single_any (ad 11) w hS.c11
  have H0 : Hid (StillS w w ad) := ⟨hS, Below.refl _ _⟩
  clear hS
  go_enter Tryd.func3, Tryd.ntmps3
  go_wp2_with fail
  refine HU.mono ?_
  rintro e w1 ⟨rfl, hb1⟩
  have H1 : Hid (StillS w w1 ad) := H0.out.next hb1
  clear hb1 HU
  go_wp2_with fail
  refine (encode_ok n k s (ad 11) _ hk1 hkn hn (by omega) H1.out.sent.c11).mono ?_
  rintro e w2 ⟨⟨g, hg, rfl, hr⟩, hb2⟩
  have H2 : Hid (StillS w w2 ad) := H1.out.next hb2
  have HR2 : Hid (Shs w2 (some ⟨g, 0, none⟩) (encL n k s)) := hr.shs
  clear hb2 H1 hr
  go_wp2_with fail
  refine (isSpread_yes n k _ (by omega) (by omega) (by omega)).mono ?_
  rintro e w' ⟨rfl, hww⟩
  rw [hww]
  clear hww w'
  go_wp2_with fail
  refine (rencode_shs n k s _ hk1 hkn hn (by omega)).mono ?_
  rintro e w3 ⟨⟨p3, c3, rfl, hs3⟩, hb3⟩
  have H3 : Hid (StillS w w3 ad) := H2.out.next hb3
  have HSS := sameShards_any (some ⟨g, 0, none⟩) p3 (encL n k s) n c3 w3 (by rw [encL_length]; omega) (HR2.out.below hb3) hs3
  rw [encL_length] at HSS
  clear hb3 H2 hs3 HR2
  go_wp2_with fail
  refine HSS.mono ?_
  rintro e w4 ⟨rfl, hb4⟩
  have H4 : Hid (StillS w w4 ad) := H3.out.next hb4
  clear hb4 H3 HSS
  go_wp2
  go_ret
  exact ⟨rfl, H4.out.below⟩
theorem encLaw_any (n k : Int) (s : ByteArray) (ad : Nat → Addr) (w : World) (hsz : s.size ≤ maxLen) (hS : Sent w ad) :
    Calls Tryd.prog 3 #[.int .i64 n, .int .i64 k, .string s] w fun e w' => e = .returned (.bool true) ∧ Below w.heap.size w w' := by
  by_cases h : 100 < s.size ∧ s.size ≤ 1000 ∨ 3000 < s.size
  · exact encLaw_pass n k s ad w hsz h hS
  · by_cases h2 : 1 ≤ k ∧ k ≤ n ∧ n ≤ 12 ∧ s.size ≤ 1000
    · obtain ⟨k', rfl⟩ := Int.eq_ofNat_of_zero_le (show 0 ≤ k by omega)
      obtain ⟨n', rfl⟩ := Int.eq_ofNat_of_zero_le (show 0 ≤ n by omega)
      exact encLaw_in n' k' s ad w (by omega) (by omega) (by omega) (by omega) hS
    · exact encLaw_bad n k s ad w (by omega) (by omega) h2 hS
end Go.Proofs.YthokfjkgmopeoaaDoor
