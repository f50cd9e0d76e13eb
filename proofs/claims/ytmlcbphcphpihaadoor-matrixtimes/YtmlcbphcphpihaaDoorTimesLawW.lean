/- The walk of the law MatrixTimes: whatever the rows, the call returns true; nothing that was there is written. -/
import Derived.Test.YtmlcbphcphpihaaDoorTBad1W
import Derived.Test.YtmlcbphcphpihaaDoorTBad2W
import Derived.Test.YtmlcbphcphpihaaDoorTBad3W
import Derived.Test.YtmlcbphcphpihaaDoorRTBadW
import Derived.Test.YtmlcbphcphpihaaDoorSameMatW
namespace Go.Proofs.YtmlcbphcphpihaaDoor
open Go.RowKit
/-- What stays as it was, from one call to the next. -/
structure Still4 (w0 w : World) (a : Option Addr) (A : List (List Nat)) (b : Option Addr) (B : List (List Nat)) (ad : Nat → Addr) : Prop where
  matA : Mat w a A
  matB : Mat w b B
  sent : Sent w ad
  below : Below w0.heap.size w0 w
theorem Still4.next {w0 w w' : World} {a b : Option Addr} {A B : List (List Nat)} {ad : Nat → Addr} (h : Still4 w0 w a A b B ad) (hb : Below w.heap.size w w') : Still4 w0 w' a A b B ad := ⟨h.matA.below hb, h.matB.below hb, h.sent.below hb, h.below.trans (hb.mono h.below.size)⟩
set_option maxRecDepth 10000 in
theorem timesLaw_wide (a b : Option Addr) (A B : List (List Nat)) (ca cb : Nat) (ad : Nat → Addr) (w : World) (la : A.length < 2 ^ 63) (ra : ∀ i, (rowOf A i).length < 2 ^ 63) (lb : B.length < 2 ^ 63) (rb : ∀ i, (rowOf B i).length < 2 ^ 63) (hw : wideB A = true ∨ (wideB A = false ∧ wideB B = true)) (mA : Mat w a A) (mB : Mat w b B) (hS : Sent w ad) :
    Calls Tryd.prog 3 #[.slice a A.length ca, .slice b B.length cb] w fun e w' => e = .returned (.bool true) ∧ Below w.heap.size w w' := by
  have HU := unit_any (ad 11) w hS.c11
  have MA : Hid (Mat w a A) := mA
  have MB : Hid (Mat w b B) := mB
  clear hS mA mB
  go_enter Tryd.func3, Tryd.ntmps3
  go_wp2_with fail
  refine HU.mono ?_
  rintro e w1 ⟨rfl, hb1⟩
  go_wp2_with fail
  refine (wide_any a A ca _ la ra (MA.out.below hb1)).mono ?_
  rintro e w' ⟨rfl, hww⟩
  rw [hww]
  clear hww w'
  rcases hw with hw | ⟨hw, hw2⟩
  · rw [hw]
    go_wp2
    go_ret
    exact ⟨rfl, hb1⟩
  · rw [hw]
    go_wp2_with fail
    refine (wide_any b B cb _ lb rb (MB.out.below hb1)).mono ?_
    rintro e w' ⟨rfl, hww⟩
    rw [hww, hw2]
    clear hww w'
    go_wp2
    go_ret
    exact ⟨rfl, hb1⟩
set_option maxRecDepth 10000 in
set_option maxHeartbeats 8000000 in
theorem timesLaw_none (a b : Option Addr) (A B : List (List Nat)) (ca cb : Nat) (ad : Nat → Addr) (w : World) (hwa : wideB A = false) (hwb : wideB B = false) (hA : ¬ IsMat A) (mA : Mat w a A) (mB : Mat w b B) (hS : Sent w ad) :
    Calls Tryd.prog 3 #[.slice a A.length ca, .slice b B.length cb] w fun e w' => e = .returned (.bool true) ∧ Below w.heap.size w w' := by
  have HU := unit_any (ad 11) w hS.c11
  obtain ⟨la, ra⟩ := not_wide hwa
  obtain ⟨lb, rb⟩ := not_wide hwb
  have H0 : Hid (Still4 w w a A b B ad) := ⟨mA, mB, hS, Below.refl _ _⟩
  have ra1 : Hid (∀ i, (rowOf A i).length < 2 ^ 63) := fun i => by have := ra i; omega
  have ra2 : Hid (∀ i, (rowOf A i).length < 2 ^ 62) := fun i => by have := ra i; omega
  have ra3 : Hid (∀ i, (rowOf A i).length ≤ 1000) := fun i => by have := ra i; omega
  have rb1 : Hid (∀ i, (rowOf B i).length < 2 ^ 63) := fun i => by have := rb i; omega
  have rb2 : Hid (∀ i, (rowOf B i).length < 2 ^ 62) := fun i => by have := rb i; omega
  have rb3 : Hid (∀ i, (rowOf B i).length ≤ 1000) := fun i => by have := rb i; omega
  have HA : Hid (¬ IsMat A) := hA
  have HBAD : Hid (¬ (IsMat A ∧ IsMat B ∧ (rowOf A 0).length = B.length)) := fun h => hA h.1
  have HTB : Hid (∀ (p q : Option Addr) (c d : Nat) (W : World), Mat W p A → Mat W q B → Sent W ad → Calls Tryd.prog 13 #[.slice p A.length c, .slice q B.length d] W fun e w' => e = .returned (.tuple #[.slice none 0 0, .iface 106 (.pointer (some (ad 2)))]) ∧ Below W.heap.size W w') := by
    intro p q c d W h1 h2 h3
    exact mtimes_bad1 p q A B c d (ad 2) W hA (by omega) ra2.out h1 h2 h3.c2
  clear hA
  clear hS mA mB ra rb
  go_enter Tryd.func3, Tryd.ntmps3
  go_wp2_with fail
  refine HU.mono ?_
  rintro e w1 ⟨rfl, hb1⟩
  have H1 : Hid (Still4 w w1 a A b B ad) := H0.out.next hb1
  clear hb1 HU
  go_wp2_with fail
  refine (wide_any a A ca _ (by omega) ra1.out H1.out.matA).mono ?_
  rintro e w' ⟨rfl, hww⟩
  rw [hwa, hww]
  clear hww w'
  go_wp2_with fail
  refine (wide_any b B cb _ (by omega) rb1.out H1.out.matB).mono ?_
  rintro e w' ⟨rfl, hww⟩
  rw [hwb, hww]
  clear hww w'
  go_wp2_with fail
  refine (isMatrix_no a A ca _ (by omega) ra1.out H1.out.matA HA.out).mono ?_
  rintro e w2 ⟨rfl, hb2⟩
  have H2 : Hid (Still4 w w2 a A b B ad) := H1.out.next hb2
  clear hb2 H1
  go_wp2_with fail
  refine (own_any a A ca _ (by omega) ra3.out H2.out.matA).mono ?_
  rintro e w3 ⟨⟨p3, c3, rfl, hm3⟩, hb3⟩
  have H3 : Hid (Still4 w w3 a A b B ad) := H2.out.next hb3
  have HC := check_bad p3 A c3 (ad 2) w3 (by omega) ra2.out HA.out hm3 H3.out.sent.c2
  clear hb3 hm3 H2
  go_wp2_with fail
  refine HC.mono ?_
  rintro e w' ⟨rfl, hww⟩
  rw [hww]
  clear hww w' HC
  go_wp2_with fail
  refine (coded_shape ad _ H3.out.sent).mono ?_
  rintro e w4 ⟨rfl, hb4⟩
  have H4 : Hid (Still4 w w4 a A b B ad) := H3.out.next hb4
  clear H3 hb4
  go_wp2_with fail
  refine (own_any a A ca _ (by omega) ra3.out H4.out.matA).mono ?_
  rintro e w5 ⟨⟨p5, c5, rfl, hm5⟩, hb5⟩
  have H5 : Hid (Still4 w w5 a A b B ad) := H4.out.next hb5
  have HM5 : Hid (Mat w5 p5 A) := hm5
  clear hb5 hm5 H4
  go_wp2_with fail
  refine (own_any b B cb _ (by omega) rb3.out H5.out.matB).mono ?_
  rintro e w6 ⟨⟨p6, c6, rfl, hm6⟩, hb6⟩
  have H6 : Hid (Still4 w w6 a A b B ad) := H5.out.next hb6
  have HM6 : Hid (Mat w6 p6 B) := hm6
  have HN6 : Hid (Mat w6 p5 A) := HM5.out.below hb6
  clear hb6 hm6 H5 HM5
  have HT := HTB.out p5 p6 c5 c6 w6 HN6.out HM6.out H6.out.sent
  go_wp2_with fail
  refine HT.mono ?_
  rintro e w7 ⟨rfl, hb7⟩
  have H7 : Hid (Still4 w w7 a A b B ad) := H6.out.next hb7
  clear hb7 H6 HT HM6 HN6
  go_wp2_with fail
  refine (rtimes_bad a b A B ca cb _ (by omega) ra2.out (by omega) rb2.out HBAD.out H7.out.matA H7.out.matB).mono ?_
  rintro e w8 ⟨rfl, hb8⟩
  have H8 : Hid (Still4 w w8 a A b B ad) := H7.out.next hb8
  clear hb8 H7
  go_wp2_with fail
  refine (coded_shape ad _ H8.out.sent).mono ?_
  rintro e w9 ⟨rfl, hb9⟩
  have H9 : Hid (Still4 w w9 a A b B ad) := H8.out.next hb9
  clear hb9 H8
  go_wp2
  go_ret
  exact ⟨rfl, H9.out.below⟩
set_option maxRecDepth 10000 in
set_option maxHeartbeats 8000000 in
theorem timesLaw_apart (a b : Option Addr) (A B : List (List Nat)) (ca cb : Nat) (ad : Nat → Addr) (w : World) (hwa : wideB A = false) (hwb : wideB B = false) (hA : IsMat A) (hbad : ¬ (IsMat A ∧ IsMat B ∧ (rowOf A 0).length = B.length)) (mA : Mat w a A) (mB : Mat w b B) (hS : Sent w ad) :
    Calls Tryd.prog 3 #[.slice a A.length ca, .slice b B.length cb] w fun e w' => e = .returned (.bool true) ∧ Below w.heap.size w w' := by
  have HU := unit_any (ad 11) w hS.c11
  obtain ⟨la, ra⟩ := not_wide hwa
  obtain ⟨lb, rb⟩ := not_wide hwb
  have H0 : Hid (Still4 w w a A b B ad) := ⟨mA, mB, hS, Below.refl _ _⟩
  have ra1 : Hid (∀ i, (rowOf A i).length < 2 ^ 63) := fun i => by have := ra i; omega
  have ra2 : Hid (∀ i, (rowOf A i).length < 2 ^ 62) := fun i => by have := ra i; omega
  have ra3 : Hid (∀ i, (rowOf A i).length ≤ 1000) := fun i => by have := ra i; omega
  have rb1 : Hid (∀ i, (rowOf B i).length < 2 ^ 63) := fun i => by have := rb i; omega
  have rb2 : Hid (∀ i, (rowOf B i).length < 2 ^ 62) := fun i => by have := rb i; omega
  have rb3 : Hid (∀ i, (rowOf B i).length ≤ 1000) := fun i => by have := rb i; omega
  have HA : Hid (IsMat A) := hA
  have HBAD : Hid (¬ (IsMat A ∧ IsMat B ∧ (rowOf A 0).length = B.length)) := hbad
  have HTB : Hid (∀ (p q : Option Addr) (c d : Nat) (W : World), Mat W p A → Mat W q B → Sent W ad → Calls Tryd.prog 13 #[.slice p A.length c, .slice q B.length d] W fun e w' => e = .returned (.tuple #[.slice none 0 0, .iface 106 (.pointer (some (ad 2)))]) ∧ Below W.heap.size W w') := by
    intro p q c d W h1 h2 h3
    by_cases hB : IsMat B
    · exact mtimes_bad3 p q A B c d (ad 2) W hA hB (fun h => hbad ⟨hA, hB, h⟩) h1 h2 h3.c2
    · exact mtimes_bad2 p q A B c d (ad 2) W hA hB (by omega) rb2.out h1 h2 h3.c2
  clear hA hbad
  clear hS mA mB ra rb
  go_enter Tryd.func3, Tryd.ntmps3
  go_wp2_with fail
  refine HU.mono ?_
  rintro e w1 ⟨rfl, hb1⟩
  have H1 : Hid (Still4 w w1 a A b B ad) := H0.out.next hb1
  clear hb1 HU
  go_wp2_with fail
  refine (wide_any a A ca _ (by omega) ra1.out H1.out.matA).mono ?_
  rintro e w' ⟨rfl, hww⟩
  rw [hwa, hww]
  clear hww w'
  go_wp2_with fail
  refine (wide_any b B cb _ (by omega) rb1.out H1.out.matB).mono ?_
  rintro e w' ⟨rfl, hww⟩
  rw [hwb, hww]
  clear hww w'
  go_wp2_with fail
  refine (isMatrix_yes a A ca _ (by omega) ra1.out H1.out.matA HA.out).mono ?_
  rintro e w2 ⟨rfl, hb2⟩
  have H2 : Hid (Still4 w w2 a A b B ad) := H1.out.next hb2
  clear hb2 H1
  go_wp2_with fail
  refine (own_any a A ca _ (by omega) ra3.out H2.out.matA).mono ?_
  rintro e w3 ⟨⟨p3, c3, rfl, hm3⟩, hb3⟩
  have H3 : Hid (Still4 w w3 a A b B ad) := H2.out.next hb3
  have HC := check_ok p3 A c3 w3 HA.out hm3
  clear hb3 hm3 H2
  go_wp2_with fail
  refine HC.mono ?_
  rintro e w' ⟨rfl, hww⟩
  rw [hww]
  clear hww w' HC
  go_wp2_with fail
  refine (coded_nil _).mono ?_
  rintro e w' ⟨rfl, hww⟩
  rw [hww]
  clear hww w'
  have H4 := H3
  obtain ⟨w4, hw4⟩ : ∃ w4, w4 = w3 := ⟨_, rfl⟩
  rw [← hw4] at H4 ⊢
  clear H3 hw4
  go_wp2_with fail
  refine (own_any a A ca _ (by omega) ra3.out H4.out.matA).mono ?_
  rintro e w5 ⟨⟨p5, c5, rfl, hm5⟩, hb5⟩
  have H5 : Hid (Still4 w w5 a A b B ad) := H4.out.next hb5
  have HM5 : Hid (Mat w5 p5 A) := hm5
  clear hb5 hm5 H4
  go_wp2_with fail
  refine (own_any b B cb _ (by omega) rb3.out H5.out.matB).mono ?_
  rintro e w6 ⟨⟨p6, c6, rfl, hm6⟩, hb6⟩
  have H6 : Hid (Still4 w w6 a A b B ad) := H5.out.next hb6
  have HM6 : Hid (Mat w6 p6 B) := hm6
  have HN6 : Hid (Mat w6 p5 A) := HM5.out.below hb6
  clear hb6 hm6 H5 HM5
  have HT := HTB.out p5 p6 c5 c6 w6 HN6.out HM6.out H6.out.sent
  go_wp2_with fail
  refine HT.mono ?_
  rintro e w7 ⟨rfl, hb7⟩
  have H7 : Hid (Still4 w w7 a A b B ad) := H6.out.next hb7
  clear hb7 H6 HT HM6 HN6
  go_wp2_with fail
  refine (rtimes_bad a b A B ca cb _ (by omega) ra2.out (by omega) rb2.out HBAD.out H7.out.matA H7.out.matB).mono ?_
  rintro e w8 ⟨rfl, hb8⟩
  have H8 : Hid (Still4 w w8 a A b B ad) := H7.out.next hb8
  clear hb8 H7
  go_wp2_with fail
  refine (coded_shape ad _ H8.out.sent).mono ?_
  rintro e w9 ⟨rfl, hb9⟩
  have H9 : Hid (Still4 w w9 a A b B ad) := H8.out.next hb9
  clear hb9 H8
  go_wp2
  go_ret
  exact ⟨rfl, H9.out.below⟩
set_option maxRecDepth 10000 in
set_option maxHeartbeats 8000000 in
theorem timesLaw_in (a b : Option Addr) (A B : List (List Nat)) (ca cb : Nat) (ad : Nat → Addr) (w : World) (hwa : wideB A = false) (hwb : wideB B = false) (hA : IsMat A) (hB : IsMat B) (hk : (rowOf A 0).length = B.length) (bA : BytesM A) (bB : BytesM B) (mA : Mat w a A) (mB : Mat w b B) (hS : Sent w ad) :
    Calls Tryd.prog 3 #[.slice a A.length ca, .slice b B.length cb] w fun e w' => e = .returned (.bool true) ∧ Below w.heap.size w w' := by
  have HU := unit_any (ad 11) w hS.c11
  obtain ⟨la, ra⟩ := not_wide hwa
  obtain ⟨lb, rb⟩ := not_wide hwb
  have H0 : Hid (Still4 w w a A b B ad) := ⟨mA, mB, hS, Below.refl _ _⟩
  have ra1 : Hid (∀ i, (rowOf A i).length < 2 ^ 63) := fun i => by have := ra i; omega
  have ra2 : Hid (∀ i, (rowOf A i).length < 2 ^ 62) := fun i => by have := ra i; omega
  have ra3 : Hid (∀ i, (rowOf A i).length ≤ 1000) := fun i => by have := ra i; omega
  have rb1 : Hid (∀ i, (rowOf B i).length < 2 ^ 63) := fun i => by have := rb i; omega
  have rb2 : Hid (∀ i, (rowOf B i).length < 2 ^ 62) := fun i => by have := rb i; omega
  have rb3 : Hid (∀ i, (rowOf B i).length ≤ 1000) := fun i => by have := rb i; omega
  have HA : Hid (IsMat A) := hA
  have HBm : Hid (IsMat B) := hB
  have HK : Hid ((rowOf A 0).length = B.length) := hk
  have BA : Hid (BytesM A) := bA
  have BB : Hid (BytesM B) := bB
  clear hA hB hk bA bB
  clear hS mA mB ra rb
  go_enter Tryd.func3, Tryd.ntmps3
  go_wp2_with fail
  refine HU.mono ?_
  rintro e w1 ⟨rfl, hb1⟩
  have H1 : Hid (Still4 w w1 a A b B ad) := H0.out.next hb1
  clear hb1 HU
  go_wp2_with fail
  refine (wide_any a A ca _ (by omega) ra1.out H1.out.matA).mono ?_
  rintro e w' ⟨rfl, hww⟩
  rw [hwa, hww]
  clear hww w'
  go_wp2_with fail
  refine (wide_any b B cb _ (by omega) rb1.out H1.out.matB).mono ?_
  rintro e w' ⟨rfl, hww⟩
  rw [hwb, hww]
  clear hww w'
  go_wp2_with fail
  refine (isMatrix_yes a A ca _ (by omega) ra1.out H1.out.matA HA.out).mono ?_
  rintro e w2 ⟨rfl, hb2⟩
  have H2 : Hid (Still4 w w2 a A b B ad) := H1.out.next hb2
  clear hb2 H1
  go_wp2_with fail
  refine (own_any a A ca _ (by omega) ra3.out H2.out.matA).mono ?_
  rintro e w3 ⟨⟨p3, c3, rfl, hm3⟩, hb3⟩
  have H3 : Hid (Still4 w w3 a A b B ad) := H2.out.next hb3
  have HC := check_ok p3 A c3 w3 HA.out hm3
  clear hb3 hm3 H2
  go_wp2_with fail
  refine HC.mono ?_
  rintro e w' ⟨rfl, hww⟩
  rw [hww]
  clear hww w' HC
  go_wp2_with fail
  refine (coded_nil _).mono ?_
  rintro e w' ⟨rfl, hww⟩
  rw [hww]
  clear hww w'
  have H4 := H3
  obtain ⟨w4, hw4⟩ : ∃ w4, w4 = w3 := ⟨_, rfl⟩
  rw [← hw4] at H4 ⊢
  clear H3 hw4
  go_wp2_with fail
  refine (own_any a A ca _ (by omega) ra3.out H4.out.matA).mono ?_
  rintro e w5 ⟨⟨p5, c5, rfl, hm5⟩, hb5⟩
  have H5 : Hid (Still4 w w5 a A b B ad) := H4.out.next hb5
  have HM5 : Hid (Mat w5 p5 A) := hm5
  clear hb5 hm5 H4
  go_wp2_with fail
  refine (own_any b B cb _ (by omega) rb3.out H5.out.matB).mono ?_
  rintro e w6 ⟨⟨p6, c6, rfl, hm6⟩, hb6⟩
  have H6 : Hid (Still4 w w6 a A b B ad) := H5.out.next hb6
  have HM6 : Hid (Mat w6 p6 B) := hm6
  have HN6 : Hid (Mat w6 p5 A) := HM5.out.below hb6
  clear hb6 hm6 H5 HM5
  have HT := mtimes_ok p5 p6 A B c5 c6 w6 HA.out HBm.out HK.out BA.out BB.out HN6.out HM6.out
  go_wp2_with fail
  refine HT.mono ?_
  rintro e w7 ⟨⟨gm, rfl, hm7⟩, hb7⟩
  have H7 : Hid (Still4 w w7 a A b B ad) := H6.out.next hb7
  have HM7 : Hid (Mat w7 (some ⟨gm, 0, none⟩) (prodM A B A.length)) := hm7
  clear hb7 hm7 H6 HT HM6 HN6
  go_wp2_with fail
  refine (times_any a b A B ca cb _ HA.out HBm.out HK.out BA.out BB.out H7.out.matA H7.out.matB).mono ?_
  rintro e w8 ⟨⟨p8, c8, rfl, hm8⟩, hb8⟩
  have H8 : Hid (Still4 w w8 a A b B ad) := H7.out.next hb8
  have HSM := sameMatrix_any (some ⟨gm, 0, none⟩) p8 (prodM A B A.length) A.length c8 w8 (by rw [prodM_length]; omega) (HM7.out.below hb8) hm8
  rw [prodM_length] at HSM
  clear hb8 H7 hm8 HM7
  go_wp2_with fail
  refine HSM.mono ?_
  rintro e w9 ⟨rfl, n9, hn9⟩
  have hb9 : Below w8.heap.size w8 w9 := by rw [hn9]; exact below_drewN (Below.refl _ _) n9
  have H9 : Hid (Still4 w w9 a A b B ad) := H8.out.next hb9
  clear hn9 hb9 HSM H8
  go_wp2
  go_ret
  exact ⟨rfl, H9.out.below⟩
end Go.Proofs.YtmlcbphcphpihaaDoor
