/- The document's own product of two matrices: each place is the sum of products; new memory. -/
import Derived.Test.YtmlcbphcphpihaaDoorOwnNB
import Derived.Test.YtmlcbphcphpihaaDoorRefMulW
import Derived.StillTailTactics
import Derived.Deep.OwnRows
namespace Go.Proofs.YtmlcbphcphpihaaDoor
open Go.RowKit
set_option maxRecDepth 10000 in
set_option maxHeartbeats 4000000 in
theorem times_any (pa pb : Option Addr) (A B : List (List Nat)) (ca cb : Nat) (w : World) (hA : IsMat A) (hB : IsMat B) (hk : (rowOf A 0).length = B.length) (hAb : BytesM A) (hBb : BytesM B) (mA : Mat w pa A) (mB : Mat w pb B) :
    Calls Tryd.prog 14 #[.slice pa A.length ca, .slice pb B.length cb] w fun e w' => (∃ p' c', e = .returned (.tuple #[.slice p' A.length c', .bool true]) ∧ Mat w' p' (prodM A B A.length)) ∧ Below w.heap.size w w' := by
  obtain ⟨i1, hi1, hy0, hy1, hy2⟩ := info_parts rowinfo
  obtain ⟨i0, hi0, hz0, hz1, hzb⟩ := info_parts u8info
  have HA : Hid (IsMat A) := hA
  have HBm : Hid (IsMat B) := hB
  have tA : Hid (isMatB A = true) := (isMatB_iff A).2 hA
  have tB : Hid (isMatB B = true) := (isMatB_iff B).2 hB
  have rl : ∀ M : List (List Nat), IsMat M → ∀ i, (rowOf M i).length < 2 ^ 63 := fun M hM i => by
    by_cases hi : i < M.length
    · have := hM.2.2 i hi; omega
    · unfold rowOf; rw [List.getD_eq_getElem?_getD, List.getElem?_eq_none (by omega)]; decide
  have la : A.length ≤ 16 := hA.2.1
  have lb : B.length ≤ 16 := hB.2.1
  have lb1 : 1 ≤ B.length := hB.1
  have la1 : 1 ≤ A.length := hA.1
  have nb1 : 1 ≤ (rowOf B 0).length := (hB.2.2 0 (by omega)).1
  have nb2 : (rowOf B 0).length ≤ 16 := (hB.2.2 0 (by omega)).2.1
  go_enter Tryd.func14, Tryd.ntmps14
  go_wp2_with fail
  refine (isMatrix_any pa A ca _ (by omega) (rl A HA.out) mA).mono ?_
  rintro e w1 ⟨rfl, hw1⟩
  have hb1 : Below w.heap.size w w1 := by obtain ⟨n, hn⟩ := hw1; rw [hn]; exact below_drewN (Below.refl _ _) n
  rw [tA.out]
  have mA1 := mA.below hb1
  have mB1 := mB.below hb1
  clear hw1 mA mB
  go_wp2_with fail
  refine (isMatrix_any pb B cb _ (by omega) (rl B HBm.out) mB1).mono ?_
  rintro e w2 ⟨rfl, hw2⟩
  have hb2 : Below w1.heap.size w1 w2 := by obtain ⟨n, hn⟩ := hw2; rw [hn]; exact below_drewN (Below.refl _ _) n
  rw [tB.out]
  have mA2 := mA1.below hb2
  have mB2 := mB1.below hb2
  have HB2 : Hid (Below w.heap.size w w2) := hb1.trans (hb2.mono hb1.size)
  clear hw2 mA1 mB1 hb1 hb2 hA hB
  obtain ⟨ba, oa, xa, ya, c0, rfl, hba, hxa, hca, hda⟩ := mA2.row (i := 0) (by omega) (by rw [hk]; omega)
  obtain ⟨bb, ob, xb, yb, d0, rfl, hbb, hxb, hcb, hdb⟩ := mB2.row (i := 0) (by omega) (by omega)
  rw [hk] at hca
  have hca0 : w2.cell? ⟨ba, oa, none⟩ = some (.slice (some ⟨xa, ya, none⟩) B.length c0) := hca
  have hcb0 : w2.cell? ⟨bb, ob, none⟩ = some (.slice (some ⟨xb, yb, none⟩) (rowOf B 0).length d0) := hcb
  clear hca hcb hda hdb
  have HK : Hid ((rowOf A 0).length = B.length) := hk
  have rlA : ∀ i, i < A.length → (rowOf A i).length = (rowOf A 0).length := fun i hi => (HA.out.2.2 i hi).2.2
  have rlB : ∀ i, i < B.length → (rowOf B i).length = (rowOf B 0).length := fun i hi => (HBm.out.2.2 i hi).2.2
  have RLA : Hid (∀ i, i < A.length → (rowOf A i).length = (rowOf A 0).length) := rlA
  have RLB : Hid (∀ i, i < B.length → (rowOf B i).length = (rowOf B 0).length) := rlB
  clear hk rl rlA rlB
  go_wp2
  clear hca0
  have HCB : Hid (w2.cell? ⟨bb, ob, none⟩ = some (.slice (some ⟨xb, yb, none⟩) (rowOf B 0).length d0)) := hcb0
  clear hcb0
  have hzw : w.heap.size ≤ w2.heap.size := HB2.out.size
  go_loopw [7, 8] (fun v j wr => ∃ i : Nat, i ≤ A.length ∧ j = .int .i64 i ∧ OwnMat w2.heap.size wr 39 v (prodM A B i) ∧ Below w2.heap.size w2 wr) (fun _ j _ => A.length - (intOf j).toNat)
  case atStart => exact ⟨0, by omega, rfl, OwnMat.nil _ _ _, Below.refl _ _⟩
  case round =>
    obtain ⟨i, hi, rfl, hO, hBr⟩ := hrel
    have HO : Hid (OwnMat w2.heap.size wr 39 u7 (prodM A B i)) := hO
    have HBr : Hid (Below w2.heap.size w2 wr) := hBr
    have hz2 : w2.heap.size ≤ wr.heap.size := hBr.size
    clear hO hBr
    by_cases hil : i < A.length
    · have hcb1 : wr.cell? ⟨bb, ob, none⟩ = some (.slice (some ⟨xb, yb, none⟩) (rowOf B 0).length d0) := (HBr.out.cell (p := ⟨bb, ob, none⟩) hbb).trans HCB.out
      go_wp2_with (first | (at_make; refine wpList_make_row _ rfl (.tmp 38) (.tmp 38) 39 rfl 5 i0 (byteV 0) Tryd.underlying39 hi0 hz0 hz1 rfl .i64 .i64 (rowOf B 0).length rfl rfl (by rw [hzb]; omega) (by omega) ?_))
      obtain ⟨w3, rfl⟩ : ∃ w3, w3 = wr := ⟨_, rfl⟩
      have hmk : OwnN (w3.alloc (.cells (madeCells #[byteV 0] (rowOf B 0).length) 5)) w3.heap.size 5 w3.heap.size (rowOf B 0).length (rowFn (rowOf B 0).length (fun c => if c < 0 then dotN A B i c B.length else 0)) := by
        have := OwnN.made w3 w3.heap.size 5 (rowOf B 0).length (Nat.le_refl _) (by omega)
        rw [rowFn_congr (rowOf B 0).length _ (fun c => if c < 0 then dotN A B i c B.length else 0) (fun c _ => by rw [if_neg (Nat.not_lt_zero _)])] at this
        exact this
      have hbk : Below w3.heap.size w3 (w3.alloc (.cells (madeCells #[byteV 0] (rowOf B 0).length) 5)) := (Below.refl _ _).alloc (Nat.le_refl _) _
      generalize w3.alloc (.cells (madeCells #[byteV 0] (rowOf B 0).length) 5) = w4 at hmk hbk ⊢
      have HMK : Hid (OwnN w4 w3.heap.size 5 w3.heap.size (rowOf B 0).length (rowFn (rowOf B 0).length (fun c => if c < 0 then dotN A B i c B.length else 0))) := hmk
      have HBK : Hid (Below w3.heap.size w3 w4) := hbk
      have hz4 : w3.heap.size ≤ w4.heap.size := hbk.size
      clear hmk hbk hcb1
      go_loopw [10] (fun x wq => ∃ j : Nat, j ≤ (rowOf B 0).length ∧ x = .int .i64 j ∧ OwnN wq w3.heap.size 5 w3.heap.size (rowOf B 0).length (rowFn (rowOf B 0).length (fun c => if c < j then dotN A B i c B.length else 0)) ∧ Below w3.heap.size w3 wq) (fun x _ => (rowOf B 0).length - (intOf x).toNat)
      case atStart => exact ⟨0, by omega, rfl, HMK.out, HBK.out⟩
      case round =>
        obtain ⟨j, hj, rfl, hON, hBq⟩ := hrel
        obtain ⟨w5, rfl⟩ : ∃ w5, w5 = wr := ⟨_, rfl⟩
        have HON : Hid (OwnN w5 w3.heap.size 5 w3.heap.size (rowOf B 0).length (rowFn (rowOf B 0).length (fun c => if c < j then dotN A B i c B.length else 0))) := hON
        have HBq : Hid (Below w3.heap.size w3 w5) := hBq
        clear hON hBq HMK HBK hz4
        by_cases hjl : j < (rowOf B 0).length
        · go_wp2
          go_loopw [11] (fun x wq => ∃ k : Nat, k ≤ B.length ∧ x = .int .i64 k ∧ OwnN wq w3.heap.size 5 w3.heap.size (rowOf B 0).length (rowFn (rowOf B 0).length (fun c => if c < j then dotN A B i c B.length else if c = j then dotN A B i j k else 0)) ∧ Below w3.heap.size w3 wq) (fun x _ => B.length - (intOf x).toNat)
          case atStart =>
            refine ⟨0, by omega, rfl, ?_, HBq.out⟩
            rw [rowFn_congr (rowOf B 0).length _ (fun c => if c < j then dotN A B i c B.length else 0) (fun c _ => by by_cases e : c = j <;> simp [e, dotN])]
            exact HON.out
          case round =>
            obtain ⟨k, hkk, rfl, hON2, hBq2⟩ := hrel
            obtain ⟨w6, rfl⟩ : ∃ w6, w6 = wr := ⟨_, rfl⟩
            have HON2 : Hid (OwnN w6 w3.heap.size 5 w3.heap.size (rowOf B 0).length (rowFn (rowOf B 0).length (fun c => if c < j then dotN A B i c B.length else if c = j then dotN A B i j k else 0))) := hON2
            have HBq2 : Hid (Below w3.heap.size w3 w6) := hBq2
            clear hON2 hBq2 HON HBq
            by_cases hkl : k < B.length
            · obtain ⟨ba', oa', b1, o1, c1, hpa, _, hb1, hcA, hdA⟩ := mA2.row hil (by rw [RLA.out i hil, HK.out]; omega)
              obtain ⟨bb', ob', b2, o2, c2, hpb, _, hb2, hcB, hdB⟩ := mB2.row hkl (by rw [RLB.out k hkl]; omega)
              injection hpa with hpa; injection hpa with ha1 ha2 _; subst ha1 ha2
              injection hpb with hpb; injection hpb with hb1' hb2' _; subst hb1' hb2'
              have toW6 : ∀ b o, b < w2.heap.size → w6.cell? ⟨b, o, none⟩ = w2.cell? ⟨b, o, none⟩ := fun b o hb => (HBq2.out.cell (p := ⟨b, o, none⟩) (by show b < _; omega)).trans (HBr.out.cell (p := ⟨b, o, none⟩) hb)
              have q1 : w6.cell? ⟨ba, oa + i, none⟩ = some (.slice (some ⟨b1, o1, none⟩) B.length c1) := by rw [toW6 _ _ hba, hcA, RLA.out i hil, HK.out]
              have q2 : w6.cell? ⟨b1, o1 + k, none⟩ = some (.int .u8 ((Gf.nth (rowOf A i) k : Nat) : Int)) := by rw [toW6 _ _ hb1]; exact hdA k (by rw [RLA.out i hil, HK.out]; exact hkl)
              have q3 : w6.cell? ⟨bb, ob + k, none⟩ = some (.slice (some ⟨b2, o2, none⟩) (rowOf B 0).length c2) := by rw [toW6 _ _ hbb, hcB, RLB.out k hkl]
              have q4 : w6.cell? ⟨b2, o2 + j, none⟩ = some (.int .u8 ((Gf.nth (rowOf B k) j : Nat) : Int)) := by rw [toW6 _ _ hb2]; exact hdB j (by rw [RLB.out k hkl]; exact hjl)
              have q5 : w6.cell? ⟨w3.heap.size, j, none⟩ = some (.int .u8 ((dotN A B i j k : Nat) : Int)) := by
                rw [HON2.out.cell j hjl (rowFn_length _ _), nth_rowFn _ _ j hjl, if_neg (Nat.lt_irrefl _), if_pos rfl]
              have q6 : w6.frozen? ⟨w3.heap.size, j, none⟩ = false := HON2.out.free j
              have lx := hAb i k
              have ly := hBb k j
              have ls := dotN_lt A B hAb i j k
              have lm := Gf.mul_lt lx (Gf.nth (rowOf B k) j)
              have HX : Hid (bits .xor .u8 ((dotN A B i j k : Nat) : Int) ((Gf.mul (Gf.nth (rowOf A i) k) (Gf.nth (rowOf B k) j) : Nat) : Int) = ((dotN A B i j (k + 1) : Nat) : Int)) := u8_xor_nat _ _ ls lm
              have n1 : w3.heap.size ≠ ba := by omega
              have n2 : w3.heap.size ≠ b1 := by omega
              have n3 : w3.heap.size ≠ bb := by omega
              have n4 : w3.heap.size ≠ b2 := by omega
              clear toW6 hcA hdA hcB hdB
              generalize Gf.nth (rowOf A i) k = x at q2 lx lm HX
              generalize Gf.nth (rowOf B k) j = y at q4 ly lm HX
              have HON2' : Hid (OwnN w6 w3.heap.size 5 w3.heap.size (rowOf B 0).length (rowFn (rowOf B 0).length (fun c => if c < j then dotN A B i c B.length else if c = j then dotN A B i j k else 0))) := HON2.out
              generalize dotN A B i j k = sacc at q5 ls HX HON2'
              go_wp2
              refine wp_region_still_tail 23 (by kernel_rfl) (by kernel_rfl) ?_
              simp only [List.take_succ_cons, List.take_zero, List.drop_succ_cons, List.drop_zero]
              repeat still_step
              still_call (rmul_any x y _ lx ly)
              repeat still_step
              refine wpStill_nil ?_
              rw [HX.out]
              have HO7 : Hid (OwnN (w6.drewN 1) w3.heap.size 5 w3.heap.size (rowOf B 0).length (rowFn (rowOf B 0).length (fun c => if c < j then dotN A B i c B.length else if c = j then sacc else 0))) := HON2'.out.drewN 1
              have HB7 : Hid (Below w3.heap.size w3 (w6.drewN 1)) := below_drewN HBq2.out 1
              have q5' : (w6.drewN 1).cell? ⟨w3.heap.size, j, none⟩ = some (.int .u8 (sacc : Int)) := q5
              have q6' : (w6.drewN 1).frozen? ⟨w3.heap.size, j, none⟩ = false := q6
              change wpList _ _ _ _ _ (w6.drewN 1)
              generalize w6.drewN 1 = w7 at HO7 HB7 q5' q6' ⊢
              clear q1 q2 q3 q4 q5 q6 HON2 HON2' HBq2
              go_wp2
              go_roundw
              case rel =>
                refine ⟨k + 1, by omega, by go_num, ?_, HB7.out.setCell (Nat.le_refl _) _⟩
                have := HO7.out.set j (dotN A B i j (k + 1))
                rw [rowFn_congr (rowOf B 0).length (fun c => if c < j then dotN A B i c B.length else if c = j then dotN A B i j (k + 1) else 0) (fun c => if c = j then dotN A B i j (k + 1) else if c < j then dotN A B i c B.length else if c = j then sacc else 0) (fun c _ => by
                  by_cases e : c = j
                  · subst e; rw [if_neg (Nat.lt_irrefl _), if_pos rfl, if_pos rfl]
                  · rw [if_neg e, if_neg e, if_neg e])]
                exact this
              case measure => simp [intOf]; omega
            · have hke : k = B.length := by omega
              subst hke
              go_wp2
              go_roundw
              case rel =>
                refine ⟨j + 1, by omega, by go_num, ?_, HBq2.out⟩
                rw [rowFn_congr (rowOf B 0).length _ (fun c => if c < j then dotN A B i c B.length else if c = j then dotN A B i j B.length else 0) (fun c _ => by
                  by_cases e : c < j
                  · rw [if_pos (by omega), if_pos e]
                  · by_cases e' : c = j
                    · subst e'; rw [if_pos (by omega), if_neg e, if_pos rfl]
                    · rw [if_neg (by omega), if_neg e, if_neg e'])]
                exact HON2.out
              case measure => simp [intOf]; omega
        · have hje : j = (rowOf B 0).length := by omega
          subst hje
          obtain ⟨vs, hmv⟩ := HO.out
          have HMV : Hid (OwnMatV w2.heap.size w3 39 u7 vs (prodM A B i)) := hmv
          have HV : Hid (OwnV w3 w2.heap.size 39 u7 vs) := hmv.1
          have HVL : Hid (vs.length = i) := hmv.2.1.trans (prodM_length A B i)
          have hr : Hid (Own w5 w3.heap.size 5 (.slice (some ⟨w3.heap.size, 0, none⟩) (rowOf B 0).length (rowOf B 0).length) (rowFn (rowOf B 0).length fun c => dotN A B i c B.length)) := by
            refine OwnN.own ?_ (rowFn_length _ _)
            rw [rowFn_congr (rowOf B 0).length _ (fun c => if c < (rowOf B 0).length then dotN A B i c B.length else 0) (fun c hc => by rw [if_pos hc])]
            exact HON.out
          have hz5 : w3.heap.size ≤ w5.heap.size := HBq.out.size
          clear hmv HON
          go_wp2_with (first | (at_builtin; refine wpList_append_val rfl (.tmp 75) (.tmp 77) 22 rfl w2.heap.size 39 i1 (.slice none 0 0) 24 Tryd.underlying22 hi1 hy0 rfl hy1 hy2 (by decide) u7 vs rfl (((HV.out.kept (row := none) ⟨HBq.out.os, HBq.out.tape, HBq.out.output, HBq.out.size, fun k hk _ => HBq.out.block k hk⟩ (by cases hv : u7.ownBlock <;> simp))).kept (World.grownBy_alloc w5 _ none) (by cases hv : u7.ownBlock <;> simp)) ⟨w5.heap.size, 0, none⟩ 1 (.slice (some ⟨w3.heap.size, 0, none⟩) (rowOf B 0).length (rowOf B 0).length) rfl rfl (by simp) (by have := HVL.out; omega) (by simp; omega) ?_; intro v' w8 hV' hg' hw'))
          have hmv3 := HMV.out.snoc hz2 hr.out (rowFn_bytes _ _ fun c => dotN_lt A B hAb i c _) HBq.out hV' hg' hw'
          have hb8 : Below w2.heap.size w2 w8 := ((HBr.out.trans (HBq.out.mono hz2)).alloc (by omega) _).grown hg' (by simp; omega) (fun k' hk' => (HV.out.block hk').1)
          go_roundw
          case rel => exact ⟨i + 1, by omega, by go_num, ⟨_, by rw [prodM_succ]; exact hmv3⟩, hb8⟩
          case measure => simp [intOf]; omega
    · have hie : i = A.length := by omega
      subst hie
      obtain ⟨p', c', hv, hmat⟩ := HO.out.mat
      rw [prodM_length] at hv
      subst hv
      clear HO
      go_wp2
      go_ret2
      exact ⟨⟨p', c', rfl, hmat⟩, HB2.out.trans (HBr.out.mono hzw)⟩
end Go.Proofs.YtmlcbphcphpihaaDoor
