/- The walk of the law MatrixInverts: whatever the rows, the call returns true; nothing that was there is written. -/
import Derived.Test.YtmlcbphcphpihaaDoorUnitW
import Derived.Test.YtmlcbphcphpihaaDoorRefTimesW
import Derived.Test.YtmlcbphcphpihaaDoorRefRankW
namespace Go.Proofs.YtmlcbphcphpihaaDoor
open Go.RowKit
theorem not_wide {M : List (List Nat)} (h : wideB M = false) : M.length ≤ 40 ∧ ∀ i, (rowOf M i).length ≤ 40 := by
  unfold wideB at h
  rw [Bool.or_eq_false_iff] at h
  have h1 := of_decide_eq_false h.1
  have h2 : ∀ i, i < M.length → (rowOf M i).length ≤ 40 := of_decide_eq_true (by simpa using h.2)
  refine ⟨by omega, fun i => ?_⟩
  by_cases hi : i < M.length
  · exact h2 i hi
  · unfold rowOf; rw [List.getD_eq_getElem?_getD, List.getElem?_eq_none (by omega)]; decide
theorem dotN_fsum {A B : List (List Nat)} (hA : BytesM A) (hB : BytesM B) (i j : Nat) : ∀ k, toF (dotN A B i j k) = Lin.fsum k (fun t => Lin.mu (vec A i t) (vec B t j))
  | 0 => rfl
  | k + 1 => by
    show toF (dotN A B i j k ^^^ Gf.mul (Gf.nth (rowOf A i) k) (Gf.nth (rowOf B k) j)) = Lin.ad _ _
    rw [toF_ad (dotN_lt A B hA i j k) (Gf.mul_lt (hA i k) _), toF_mu (hA i k) (hB k j), dotN_fsum hA hB i j k]
    rfl
theorem toF_inj {x y : Nat} (hx : x < 256) (hy : y < 256) (h : toF x = toF y) : x = y := by
  have := congrArg Fin.val h
  rw [toF_val hx, toF_val hy] at this
  exact this
theorem prod_one {A B : List (List Nat)} (hA : BytesM A) (hB : BytesM B) (r i j : Nat) (h : Lin.mm r (vec A) (vec B) i j = Lin.one i j) : dotN A B i j r = if i = j then 1 else 0 := by
  refine toF_inj (dotN_lt A B hA i j r) (by split <;> decide) ?_
  rw [dotN_fsum hA hB]
  refine Eq.trans h ?_
  unfold Lin.one
  by_cases e : i = j
  · rw [if_pos e, if_pos e]; rfl
  · rw [if_neg e, if_neg e]; rfl
theorem matFn_bytes {r n : Nat} {f : Nat → Nat → Nat} (h : ∀ i j, f i j < 256) : BytesM (matFn r n f) := fun i => by
  by_cases hi : i < r
  · rw [rowOf_matFn r n f i hi]; exact rowFn_bytes _ _ (h i)
  · intro j
    have : rowOf (matFn r n f) i = [] := by unfold rowOf; rw [List.getD_eq_getElem?_getD, List.getElem?_eq_none (by rw [matFn_length]; omega)]; rfl
    rw [this]
    show ([] : List Nat).getD j 0 < 256
    simp
theorem vec_matFn {r n : Nat} {f : Nat → Nat → Nat} {i j : Nat} (hi : i < r) (hj : j < n) : vec (matFn r n f) i j = vecF f i j := by
  unfold vec vecF
  rw [rowOf_matFn r n f i hi, nth_rowFn _ _ j hj]
theorem isMat_matFn {r n : Nat} {f : Nat → Nat → Nat} (h1 : 1 ≤ r) (h2 : r ≤ 16) (h3 : 1 ≤ n) (h4 : n ≤ 16) : IsMat (matFn r n f) := by
  refine ⟨by rw [matFn_length]; exact h1, by rw [matFn_length]; exact h2, fun i hi => ?_⟩
  rw [matFn_length] at hi
  rw [rowOf_matFn r n f i hi, rowOf_matFn r n f 0 (by omega), rowFn_length, rowFn_length]
  exact ⟨h3, h4, rfl⟩
theorem prodM_fn (A B : List (List Nat)) (m : Nat) : prodM A B m = matFn m (rowOf B 0).length (fun i j => dotN A B i j B.length) := rfl
theorem coded_shape (ad : Nat → Addr) (w : World) (hS : Sent w ad) :
    Calls Tryd.prog 10 #[.iface 106 (.pointer (some (ad 2))), .int .i64 3] w fun e w' => e = .returned (.bool true) ∧ Below w.heap.size w w' := coded_sent ad 2 (by decide) w hS
theorem coded_zero (ad : Nat → Addr) (w : World) (hS : Sent w ad) :
    Calls Tryd.prog 10 #[.iface 106 (.pointer (some (ad 11))), .int .i64 12] w fun e w' => e = .returned (.bool true) ∧ Below w.heap.size w w' := coded_sent ad 11 (by decide) w hS
theorem isMatrix_yes (p : Option Addr) (M : List (List Nat)) (cap : Nat) (w : World) (hl : M.length < 2 ^ 63) (hm : ∀ i, (rowOf M i).length < 2 ^ 63) (h : Mat w p M) (hM : IsMat M) :
    Calls Tryd.prog 9 #[.slice p M.length cap] w fun e w' => e = .returned (.bool true) ∧ Below w.heap.size w w' := by
  refine (isMatrix_any p M cap w hl hm h).mono ?_
  rintro e w' ⟨rfl, n, rfl⟩
  exact ⟨by rw [(isMatB_iff M).2 hM], below_drewN (Below.refl _ _) n⟩
theorem isMatrix_no (p : Option Addr) (M : List (List Nat)) (cap : Nat) (w : World) (hl : M.length < 2 ^ 63) (hm : ∀ i, (rowOf M i).length < 2 ^ 63) (h : Mat w p M) (hM : ¬ IsMat M) :
    Calls Tryd.prog 9 #[.slice p M.length cap] w fun e w' => e = .returned (.bool false) ∧ Below w.heap.size w w' := by
  refine (isMatrix_any p M cap w hl hm h).mono ?_
  rintro e w' ⟨rfl, n, rfl⟩
  exact ⟨by rw [isMatB_false hM], below_drewN (Below.refl _ _) n⟩
theorem mat_cells {w : World} {p : Option Addr} {r n : Nat} {f : Nat → Nat → Nat} (h : Mat w p (matFn r n f)) (hr : 1 ≤ r) (hn : 1 ≤ n) : ∃ b o, p = some ⟨b, o, none⟩ ∧ ∀ i, i < r → ∃ b1 o1 c, w.cell? ⟨b, o + i, none⟩ = some (.slice (some ⟨b1, o1, none⟩) n c) ∧ ∀ j, j < n → w.cell? ⟨b1, o1 + j, none⟩ = some (.int .u8 ((f i j : Nat) : Int)) := by
  have ln : ∀ i, i < r → (rowOf (matFn r n f) i).length = n := fun i hi => by rw [rowOf_matFn r n f i hi, rowFn_length]
  obtain ⟨b, o, _, _, _, hp, _, _, _, _⟩ := h.row (i := 0) (by rw [matFn_length]; omega) (by rw [ln 0 (by omega)]; omega)
  refine ⟨b, o, hp, fun i hi => ?_⟩
  obtain ⟨b', o', b1, o1, c, hp', _, _, h1, h2⟩ := h.row (i := i) (by rw [matFn_length]; omega) (by rw [ln i hi]; omega)
  rw [hp] at hp'
  injection hp' with hp'
  injection hp' with e1 e2 _
  subst e1 e2
  rw [ln i hi] at h1
  refine ⟨b1, o1, c, h1, fun j hj => ?_⟩
  rw [h2 j (by rw [ln i hi]; exact hj), rowOf_matFn r n f i hi, nth_rowFn _ _ j hj]
/-- What stays as it was, from one call to the next. -/
structure Still3 (w0 w : World) (p : Option Addr) (M : List (List Nat)) (ad : Nat → Addr) : Prop where
  mat : Mat w p M
  sent : Sent w ad
  below : Below w0.heap.size w0 w
theorem Still3.next {w0 w w' : World} {p : Option Addr} {M : List (List Nat)} {ad : Nat → Addr} (h : Still3 w0 w p M ad) (hb : Below w.heap.size w w') : Still3 w0 w' p M ad := ⟨h.mat.below hb, h.sent.below hb, h.below.trans (hb.mono h.below.size)⟩
set_option maxRecDepth 10000 in
theorem invLaw_wide (p : Option Addr) (M : List (List Nat)) (cap : Nat) (ad : Nat → Addr) (w : World) (hl : M.length < 2 ^ 63) (hm : ∀ i, (rowOf M i).length < 2 ^ 63) (hw : wideB M = true) (h : Mat w p M) (hS : Sent w ad) :
    Calls Tryd.prog 4 #[.slice p M.length cap] w fun e w' => e = .returned (.bool true) ∧ Below w.heap.size w w' := by
  have HU := unit_any (ad 11) w hS.c11
  have HH : Hid (Mat w p M) := h
  clear hS h
  go_enter Tryd.func4, Tryd.ntmps4
  go_wp2_with fail
  refine HU.mono ?_
  rintro e w1 ⟨rfl, hb1⟩
  go_wp2_with fail
  refine (wide_any p M cap _ hl hm (HH.out.below hb1)).mono ?_
  rintro e w' ⟨rfl, rfl⟩
  rw [hw]
  go_wp2
  go_ret
  exact ⟨rfl, hb1⟩
set_option maxRecDepth 10000 in
set_option maxHeartbeats 8000000 in
theorem invLaw_none (p : Option Addr) (M : List (List Nat)) (cap : Nat) (ad : Nat → Addr) (w : World) (hw : wideB M = false) (hM : ¬ IsMat M) (h : Mat w p M) (hS : Sent w ad) :
    Calls Tryd.prog 4 #[.slice p M.length cap] w fun e w' => e = .returned (.bool true) ∧ Below w.heap.size w w' := by
  have HU := unit_any (ad 11) w hS.c11
  obtain ⟨hl, hm⟩ := not_wide hw
  have H0 : Hid (Still3 w w p M ad) := ⟨h, hS, Below.refl _ _⟩
  have HM : Hid (¬ IsMat M) := hM
  have m1 : Hid (∀ i, (rowOf M i).length < 2 ^ 63) := fun i => by have := hm i; omega
  have m2 : Hid (∀ i, (rowOf M i).length < 2 ^ 62) := fun i => by have := hm i; omega
  have m3 : Hid (∀ i, (rowOf M i).length ≤ 1000) := fun i => by have := hm i; omega
  clear hS h hM hm
  go_enter Tryd.func4, Tryd.ntmps4
  go_wp2_with fail
  refine HU.mono ?_
  rintro e w1 ⟨rfl, hb1⟩
  have H1 : Hid (Still3 w w1 p M ad) := H0.out.next hb1
  clear hb1 HU
  go_wp2_with fail
  refine (wide_any p M cap _ (by omega) m1.out H1.out.mat).mono ?_
  rintro e w' ⟨rfl, hww⟩
  rw [hw, hww]
  clear hww w'
  go_wp2_with fail
  refine (own_any p M cap _ (by omega) m3.out H1.out.mat).mono ?_
  rintro e w2 ⟨⟨p2, c2, rfl, hm2⟩, hb2⟩
  have H2 : Hid (Still3 w w2 p M ad) := H1.out.next hb2
  have HI := invert_none p2 M c2 (ad 2) w2 (by omega) m2.out HM.out hm2 H2.out.sent.c2
  clear hb2 hm2 H1
  go_wp2_with fail
  refine HI.mono ?_
  rintro e w3 ⟨rfl, hb3⟩
  have H3 : Hid (Still3 w w3 p M ad) := H2.out.next hb3
  clear hb3 HI H2
  go_wp2_with fail
  refine (own_any p M cap _ (by omega) m3.out H3.out.mat).mono ?_
  rintro e w4 ⟨⟨p4, c4, rfl, hm4⟩, hb4⟩
  have H4 : Hid (Still3 w w4 p M ad) := H3.out.next hb4
  have HI := rank_bad p4 M c4 (ad 2) w4 (by omega) m2.out HM.out hm4 H4.out.sent.c2
  clear hb4 hm4 H3
  go_wp2_with fail
  refine HI.mono ?_
  rintro e w5 ⟨rfl, hb5⟩
  have H5 : Hid (Still3 w w5 p M ad) := H4.out.next hb5
  clear hb5 HI H4
  go_wp2_with fail
  refine (isMatrix_no p M cap _ (by omega) m1.out H5.out.mat HM.out).mono ?_
  rintro e w6 ⟨rfl, hb6⟩
  have H6 : Hid (Still3 w w6 p M ad) := H5.out.next hb6
  clear hb6 H5
  go_wp2_with fail
  refine (coded_shape ad _ H6.out.sent).mono ?_
  rintro e w7 ⟨rfl, hb7⟩
  have H7 : Hid (Still3 w w7 p M ad) := H6.out.next hb7
  clear hb7 H6
  go_wp2_with fail
  refine (coded_shape ad _ H7.out.sent).mono ?_
  rintro e w8 ⟨rfl, hb8⟩
  have H8 : Hid (Still3 w w8 p M ad) := H7.out.next hb8
  clear hb8 H7
  go_wp2
  go_ret
  exact ⟨rfl, H8.out.below⟩
set_option maxRecDepth 10000 in
set_option maxHeartbeats 8000000 in
theorem invLaw_in (p : Option Addr) (M : List (List Nat)) (cap : Nat) (ad : Nat → Addr) (w : World) (hw : wideB M = false) (hM : IsMat M) (hby : BytesM M) (h : Mat w p M) (hS : Sent w ad) :
    Calls Tryd.prog 4 #[.slice p M.length cap] w fun e w' => e = .returned (.bool true) ∧ Below w.heap.size w w' := by
  have HU := unit_any (ad 11) w hS.c11
  obtain ⟨hl, hm⟩ := not_wide hw
  have H0 : Hid (Still3 w w p M ad) := ⟨h, hS, Below.refl _ _⟩
  have HM : Hid (IsMat M) := hM
  have HBY : Hid (BytesM M) := hby
  have m1 : Hid (∀ i, (rowOf M i).length < 2 ^ 63) := fun i => by have := hm i; omega
  have m3 : Hid (∀ i, (rowOf M i).length ≤ 1000) := fun i => by have := hm i; omega
  have l1 : 1 ≤ M.length := hM.1
  have l2 : M.length ≤ 16 := hM.2.1
  have n1 : 1 ≤ (rowOf M 0).length := (hM.2.2 0 (by omega)).1
  have n2 : (rowOf M 0).length ≤ 16 := (hM.2.2 0 (by omega)).2.1
  have HRK : Hid (Lin.IsRank (rowOf M 0).length M.length (vec M) (keptOf (rowOf M 0).length M M.length).length) := keptOf_rank _ M hby (fun i hi => (hM.2.2 i hi).2.2)
  have HRL : Hid (∀ i, i < M.length → (rowOf M i).length = (rowOf M 0).length) := fun i hi => (hM.2.2 i hi).2.2
  clear hS h hM hm hby
  go_enter Tryd.func4, Tryd.ntmps4
  go_wp2_with fail
  refine HU.mono ?_
  rintro e w1 ⟨rfl, hb1⟩
  have H1 : Hid (Still3 w w1 p M ad) := H0.out.next hb1
  clear hb1 HU
  go_wp2_with fail
  refine (wide_any p M cap _ (by omega) m1.out H1.out.mat).mono ?_
  rintro e w' ⟨rfl, hww⟩
  rw [hw, hww]
  clear hww w'
  go_wp2_with fail
  refine (own_any p M cap _ (by omega) m3.out H1.out.mat).mono ?_
  rintro e w2 ⟨⟨p2, c2, rfl, hm2⟩, hb2⟩
  have H2 : Hid (Still3 w w2 p M ad) := H1.out.next hb2
  clear hb2 H1
  have HT : Hid (∀ (q : Option Addr) (c : Nat) (W : World), Mat W q M → Sent W ad → Calls Tryd.prog 17 #[.slice q M.length c] W fun e w' => e = .returned (.tuple #[.int .i64 (((keptOf (rowOf M 0).length M M.length).length : Nat) : Int), .nilIface]) ∧ Below W.heap.size W w') := by
    intro q c W hq hs
    refine (rank_ok q M c (ad 11) W HM.out HBY.out hq hs.c11).mono ?_
    rintro e w' ⟨⟨d, rfl, hd⟩, hb⟩
    rw [Lin.rank_unique hd HRK.out]
    exact ⟨rfl, hb⟩
  have HQ : Hid (∀ W : World, Mat W p M → Calls Tryd.prog 18 #[.slice p M.length cap] W fun e w' => e = .returned (.int .i64 (((keptOf (rowOf M 0).length M M.length).length : Nat) : Int)) ∧ Below W.heap.size W w') := fun W hW => rrank_any p M cap (rowOf M 0).length W (by omega) n1 (by omega) HRL.out HBY.out hW
  have hkl := keptOf_length (rowOf M 0).length M M.length
  by_cases hsq : (rowOf M 0).length = M.length
  · have HI := invert_ok p2 M c2 (ad 11) w2 HM.out hsq HBY.out hm2 H2.out.sent.c11
    have HSQ : Hid ((rowOf M 0).length = M.length) := hsq
    have HRK2 : Hid (Lin.IsRank M.length M.length (vec M) (keptOf (rowOf M 0).length M M.length).length) := by have := HRK.out; rw [hsq] at this ⊢; exact this
    clear hm2 hsq
    generalize (keptOf (rowOf M 0).length M M.length).length = rk at *
    go_wp2_with fail
    refine HI.mono ?_
    rintro e w3 ⟨⟨d, hd, hcase⟩, hb3⟩
    have hde := Lin.rank_unique hd HRK2.out
    subst hde
    have H3 : Hid (Still3 w w3 p M ad) := H2.out.next hb3
    clear HI H2 hd HRK HRK2
    rcases hcase with ⟨hlt, rfl⟩ | ⟨hfull, gm, x, rfl, hmx, hxl, hinv⟩
    · clear hb3
      go_wp2_with fail
      refine (own_any p M cap _ (by omega) m3.out H3.out.mat).mono ?_
      rintro e w4 ⟨⟨p4, c4, rfl, hm4⟩, hb4⟩
      have H4 : Hid (Still3 w w4 p M ad) := H3.out.next hb4
      have HI := HT.out p4 c4 w4 hm4 H4.out.sent
      clear hb4 hm4 H3
      go_wp2_with fail
      refine HI.mono ?_
      rintro e w5 ⟨rfl, hb5⟩
      have H5 : Hid (Still3 w w5 p M ad) := H4.out.next hb5
      clear hb5 HI H4
      go_wp2_with fail
      refine (isMatrix_yes p M cap _ (by omega) m1.out H5.out.mat HM.out).mono ?_
      rintro e w6 ⟨rfl, hb6⟩
      have H6 : Hid (Still3 w w6 p M ad) := H5.out.next hb6
      clear hb6 H5
      go_wp2_with fail
      refine (HQ.out _ H6.out.mat).mono ?_
      rintro e w7 ⟨rfl, hb7⟩
      have H7 : Hid (Still3 w w7 p M ad) := H6.out.next hb7
      clear hb7 H6
      obtain ⟨b, o, b1, o1, c1, hpe, _, _, hc1, _⟩ := H7.out.mat.row (i := 0) (by omega) (by omega)
      subst hpe
      have hc0 : w7.cell? ⟨b, o, none⟩ = some (.slice (some ⟨b1, o1, none⟩) M.length c1) := by rw [← HSQ.out]; exact hc1
      have i0 : 0 < M.length := by omega
      clear hc1
      go_wp2_with fail
      refine (coded_zero ad _ H7.out.sent).mono ?_
      rintro e w8 ⟨rfl, hb8⟩
      have H8 : Hid (Still3 w w8 (some ⟨b, o, none⟩) M ad) := H7.out.next hb8
      clear hb8 H7 hc0
      go_wp2
      go_ret
      exact ⟨rfl, H8.out.below⟩
    · subst hfull
      have HX3 : Hid (Mat w3 (some ⟨gm, 0, none⟩) (matFn M.length M.length x)) := hmx
      have HXL : Hid (BytesM (matFn M.length M.length x)) := matFn_bytes hxl
      have HXM : Hid (IsMat (matFn M.length M.length x)) := isMat_matFn l1 l2 l1 l2
      have HX0 : Hid ((rowOf (matFn M.length M.length x) 0).length = M.length) := by show _ = _; rw [rowOf_matFn _ _ _ 0 (by omega), rowFn_length]
      have HLE : Hid (∀ i j, i < M.length → j < M.length → Lin.mm M.length (vec (matFn M.length M.length x)) (vec M) i j = Lin.one i j) := fun i j hi hj => by
        rw [← hinv i j hi hj]
        exact Lin.fsum_congr fun t ht => by rw [vec_matFn hi ht]
      have HRI : Hid (∀ i j, i < M.length → j < M.length → Lin.mm M.length (vec M) (vec (matFn M.length M.length x)) i j = Lin.one i j) := Lin.right_of_left HLE.out
      have hXl : (matFn M.length M.length x).length = M.length := matFn_length _ _ _
      generalize matFn M.length M.length x = X at *
      have HV1 : Hid (∀ i j, i < M.length → j < M.length → dotN M X i j X.length = if i = j then 1 else 0) := fun i j hi hj => by rw [hXl]; exact prod_one HBY.out HXL.out M.length i j (HRI.out i j hi hj)
      have HV2 : Hid (∀ i j, i < M.length → j < M.length → dotN X M i j M.length = if i = j then 1 else 0) := fun i j hi hj => prod_one HXL.out HBY.out M.length i j (HLE.out i j hi hj)
      have HXl : Hid (X.length = M.length) := hXl
      clear hmx hxl hinv hXl HLE HRI hb3
      go_wp2_with fail
      refine (own_any p M cap _ (by omega) m3.out H3.out.mat).mono ?_
      rintro e w4 ⟨⟨p4, c4, rfl, hm4⟩, hb4⟩
      have H4 : Hid (Still3 w w4 p M ad) := H3.out.next hb4
      have HX4 : Hid (Mat w4 (some ⟨gm, 0, none⟩) X) := HX3.out.below hb4
      have HI := HT.out p4 c4 w4 hm4 H4.out.sent
      clear hb4 hm4 H3 HX3
      go_wp2_with fail
      refine HI.mono ?_
      rintro e w5 ⟨rfl, hb5⟩
      have H5 : Hid (Still3 w w5 p M ad) := H4.out.next hb5
      have HX5 : Hid (Mat w5 (some ⟨gm, 0, none⟩) X) := HX4.out.below hb5
      clear hb5 HI H4 HX4
      go_wp2_with fail
      refine (isMatrix_yes p M cap _ (by omega) m1.out H5.out.mat HM.out).mono ?_
      rintro e w6 ⟨rfl, hb6⟩
      have H6 : Hid (Still3 w w6 p M ad) := H5.out.next hb6
      have HX6 : Hid (Mat w6 (some ⟨gm, 0, none⟩) X) := HX5.out.below hb6
      clear hb6 H5 HX5
      go_wp2_with fail
      refine (HQ.out _ H6.out.mat).mono ?_
      rintro e w7 ⟨rfl, hb7⟩
      have H7 : Hid (Still3 w w7 p M ad) := H6.out.next hb7
      have HX7 : Hid (Mat w7 (some ⟨gm, 0, none⟩) X) := HX6.out.below hb7
      clear hb7 H6 HX6
      obtain ⟨b, o, b1, o1, c1, hpe, _, _, hc1, _⟩ := H7.out.mat.row (i := 0) (by omega) (by omega)
      subst hpe
      have hc0 : w7.cell? ⟨b, o, none⟩ = some (.slice (some ⟨b1, o1, none⟩) M.length c1) := by rw [← HSQ.out]; exact hc1
      have i0 : 0 < M.length := by omega
      clear hc1
      go_wp2_with fail
      have HT1 := times_any (some ⟨b, o, none⟩) (some ⟨gm, 0, none⟩) M X cap M.length w7 HM.out HXM.out (by rw [HXl.out]; exact HSQ.out) HBY.out HXL.out H7.out.mat HX7.out
      rw [HXl.out] at HT1
      refine HT1.mono ?_
      rintro e w8 ⟨⟨pa, ca, rfl, ha8⟩, hb8⟩
      have H8 : Hid (Still3 w w8 (some ⟨b, o, none⟩) M ad) := H7.out.next hb8
      have HX8 : Hid (Mat w8 (some ⟨gm, 0, none⟩) X) := HX7.out.below hb8
      have HA8 : Hid (Mat w8 pa (prodM M X M.length)) := ha8
      clear hb8 H7 HX7 ha8 HT1 hc0
      go_wp2_with fail
      have HT2 := times_any (some ⟨gm, 0, none⟩) (some ⟨b, o, none⟩) X M M.length cap w8 HXM.out HM.out HX0.out HXL.out HBY.out HX8.out H8.out.mat
      rw [HXl.out] at HT2
      refine HT2.mono ?_
      rintro e w9 ⟨⟨pb, cb, rfl, hb9⟩, hbb9⟩
      have H9 : Hid (Still3 w w9 (some ⟨b, o, none⟩) M ad) := H8.out.next hbb9
      have hA9 := HA8.out.below hbb9
      rw [prodM_fn, HX0.out] at hA9
      rw [prodM_fn, HSQ.out] at hb9
      obtain ⟨a1, a2, rfl, hA9'⟩ := mat_cells hA9 l1 l1
      obtain ⟨d1, d2, rfl, hB9'⟩ := mat_cells hb9 l1 l1
      have HA9 : Hid (∀ i, i < M.length → ∃ b1 o1 c, w9.cell? ⟨a1, a2 + i, none⟩ = some (.slice (some ⟨b1, o1, none⟩) M.length c) ∧ ∀ j, j < M.length → w9.cell? ⟨b1, o1 + j, none⟩ = some (.int .u8 ((dotN M X i j X.length : Nat) : Int))) := hA9'
      have HB9 : Hid (∀ i, i < M.length → ∃ b1 o1 c, w9.cell? ⟨d1, d2 + i, none⟩ = some (.slice (some ⟨b1, o1, none⟩) M.length c) ∧ ∀ j, j < M.length → w9.cell? ⟨b1, o1 + j, none⟩ = some (.int .u8 ((dotN X M i j M.length : Nat) : Int))) := hB9'
      clear hbb9 H8 HX8 HA8 hA9 hb9 hA9' hB9' HT2
      go_wp2
      go_loop [13] (fun u => ∃ i : Nat, i ≤ M.length ∧ u = .int .i64 i) (fun u => M.length - (intOf u).toNat)
      case atStart => exact ⟨0, by omega, rfl⟩
      case round =>
        obtain ⟨i, hi, rfl⟩ := hrel
        by_cases hil : i < M.length
        · obtain ⟨e1, e2, e3, e4, e5⟩ := HA9.out i hil
          obtain ⟨g1, g2, g3, g4, g5⟩ := HB9.out i hil
          have HE5 : Hid (∀ j, j < M.length → w9.cell? ⟨e1, e2 + j, none⟩ = some (.int .u8 ((dotN M X i j X.length : Nat) : Int))) := e5
          have HG5 : Hid (∀ j, j < M.length → w9.cell? ⟨g1, g2 + j, none⟩ = some (.int .u8 ((dotN X M i j M.length : Nat) : Int))) := g5
          clear e5 g5
          go_wp2
          go_loop [14] (fun u => ∃ j : Nat, j ≤ M.length ∧ u = .int .i64 j) (fun u => M.length - (intOf u).toNat)
          case atStart => exact ⟨0, by omega, rfl⟩
          case round =>
            obtain ⟨j, hj, rfl⟩ := hrel
            by_cases hjl : j < M.length
            · have k1 := HE5.out j hjl
              have k2 := HG5.out j hjl
              rw [HV1.out i j hil hjl] at k1
              rw [HV2.out i j hil hjl] at k2
              by_cases hij : i = j
              · rw [if_pos hij] at k1 k2
                have ht : ((i : Int) == (j : Int)) = true := by simp; omega
                clear hij
                go_wp2
                go_round
                case rel => exact ⟨j + 1, by omega, by go_num⟩
                case measure => simp [intOf]; omega
              · rw [if_neg hij] at k1 k2
                have ht : ((i : Int) == (j : Int)) = false := by simp; omega
                clear hij
                go_wp2
                go_round
                case rel => exact ⟨j + 1, by omega, by go_num⟩
                case measure => simp [intOf]; omega
            · go_wp2
              go_round
              case rel => exact ⟨i + 1, by omega, by go_num⟩
              case measure => simp [intOf]; omega
        · go_wp2
          go_ret
          exact ⟨rfl, H9.out.below⟩
  · have HI := invert_wide p2 M c2 (ad 2) w2 HM.out hsq hm2 H2.out.sent.c2
    have ht : ((M.length : Int) != ((rowOf M 0).length : Int)) = true := by simp; omega
    clear hm2 hsq
    generalize (keptOf (rowOf M 0).length M M.length).length = rk at *
    go_wp2_with fail
    refine HI.mono ?_
    rintro e w3 ⟨rfl, hb3⟩
    have H3 : Hid (Still3 w w3 p M ad) := H2.out.next hb3
    clear HI H2 HRK hb3
    go_wp2_with fail
    refine (own_any p M cap _ (by omega) m3.out H3.out.mat).mono ?_
    rintro e w4 ⟨⟨p4, c4, rfl, hm4⟩, hb4⟩
    have H4 : Hid (Still3 w w4 p M ad) := H3.out.next hb4
    have HI := HT.out p4 c4 w4 hm4 H4.out.sent
    clear hb4 hm4 H3
    go_wp2_with fail
    refine HI.mono ?_
    rintro e w5 ⟨rfl, hb5⟩
    have H5 : Hid (Still3 w w5 p M ad) := H4.out.next hb5
    clear hb5 HI H4
    go_wp2_with fail
    refine (isMatrix_yes p M cap _ (by omega) m1.out H5.out.mat HM.out).mono ?_
    rintro e w6 ⟨rfl, hb6⟩
    have H6 : Hid (Still3 w w6 p M ad) := H5.out.next hb6
    clear hb6 H5
    go_wp2_with fail
    refine (HQ.out _ H6.out.mat).mono ?_
    rintro e w7 ⟨rfl, hb7⟩
    have H7 : Hid (Still3 w w7 p M ad) := H6.out.next hb7
    clear hb7 H6
    obtain ⟨b, o, b1, o1, c1, hpe, _, _, hc1, _⟩ := H7.out.mat.row (i := 0) (by omega) (by omega)
    subst hpe
    have hc0 : w7.cell? ⟨b, o, none⟩ = some (.slice (some ⟨b1, o1, none⟩) (rowOf M 0).length c1) := hc1
    have i0 : 0 < M.length := by omega
    clear hc1
    go_wp2_with fail
    refine (coded_shape ad _ H7.out.sent).mono ?_
    rintro e w8 ⟨rfl, hb8⟩
    have H8 : Hid (Still3 w w8 (some ⟨b, o, none⟩) M ad) := H7.out.next hb8
    clear hb8 H7 hc0
    go_wp2
    go_ret
    exact ⟨rfl, H8.out.below⟩
end Go.Proofs.YtmlcbphcphpihaaDoor
