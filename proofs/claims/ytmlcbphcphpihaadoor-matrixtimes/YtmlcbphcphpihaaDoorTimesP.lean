/- The law MatrixTimes returns true for all rows of bytes and changes nothing: whether they are a matrix, and the product of any two, are the document's, errors included. Condition: package-level variables hold what the program's own text lays (the card ties it). -/
import Derived.Test.YtmlcbphcphpihaaDoorTie
import Derived.Test.YtmlcbphcphpihaaDoorCards
import Derived.Test.YtmlcbphcphpihaaDoorSentP
import Derived.Test.YtmlcbphcphpihaaDoorMatP
import Derived.Test.YtmlcbphcphpihaaDoorTimesLawW
import Derived.ProofKit
import Derived.LaidMore
import Derived.OpenShut
import Derived.ChangeOld
import Derived.Stop.Joined
import Derived.SevenTiedAt
namespace Go.Proofs.YtmlcbphcphpihaaDoor
open Go.ChangeShapes Go.WideShapes Go.ChangeAt Go.WideMaps Go.WideElems Go.RowKit
theorem matrixTimes_own : ownKnob Tryd.prog.godebug = none := by kernel_rfl
theorem matrixTimes_door (os : Os) (args : Array Value) : laidMetH Tryd.prog Rows.matrixTimesRow.laid ((World.doorLaid Tryd.prog 244 os).forCall (fun _ _ => 0) ⟨#[], args, []⟩).memory :=
  laidMetH_of_parts3 (fuel := 8) (laidMet_of_run' 8 (by kernel_rfl) (by kernel_rfl)) (by kernel_rfl) (by kernel_rfl)
set_option maxRecDepth 100000 in
theorem matrixTimes_lifted (os : Os) (started : os.Started) (H : Type) (enc : TypeId × Value → H) :
    ReturnsInHanded {} Tryd.checked os 3 .any (fun w args => (Rows.matrixTimesSpec.pre enc Tryd.prog Tryd.f3 [] false w args ∧ laidMetH Tryd.prog Rows.matrixTimesRow.laid w) ∧ sizedMet enc Tryd.prog Tryd.f3 (OpenSpec.ofChange Rows.matrixTimesSpec) false w args)
      (Rows.matrixTimesSpec.post enc Tryd.prog Tryd.f3 false true false false) := by
  refine returnsInHanded_of_change_and (C := Tryd.checked) (X := fun w _ => laidMetH Tryd.prog Rows.matrixTimesRow.laid w) (fun _ _ _ hh h => h.of_heap hh) matrixTimes_own started (by kernel_rfl) Tryd.func3
    (ChangeSpec.witness_shaped (enc := enc) (C := Tryd.checked) (os := os) (X := fun w _ => laidMetH Tryd.prog Rows.matrixTimesRow.laid w) false (World.doorLaid Tryd.prog 244 os) #[.slice none 0 0, .slice none 0 0] 8 rfl (World.shaped_of_RefB (by kernel_rfl) (by kernel_rfl)) (by kernel_rfl) (by kernel_rfl) (by kernel_rfl) (matrixTimes_door os _)) ?_
  intro W base args ds gs before hval0 hW _ _ hL _
  have hval : ∀ (j : Nat) t v, Tryd.f3.params[j]? = some t → args[j]? = some v → Value.okWide Tryd.prog W .any base t v := hval0
  have hW' := hW
  obtain ⟨p, q, hA0, hV, rfl, hfz, hnd⟩ := hW
  have hA : DataW.TrodAll enc Tryd.prog W 0 (fun _ => true) true Tryd.f3.params.toList args.toList ds p := hA0
  rw [Tryd.params3] at hA hval
  obtain ⟨v0, vs0, d0, ds0, p0, q0, hargs, rfl, rfl, h0, r0⟩ := trodAll_cons hA
  obtain ⟨v1, vs1, d1, ds1, p1, q1, rfl, rfl, rfl, h1, r1⟩ := trodAll_cons r0
  obtain ⟨rfl, rfl, rfl⟩ := trodAll_nil r1
  obtain rfl : args = #[v0, v1] := by cases args; simp_all
  obtain ⟨rfl, rfl⟩ := trodVars_none hV
  have k0 := h0
  have lt0 : ∀ x ∈ p0, x.block < W.heap.size := by obtain ⟨m, hm⟩ := k0; exact DataW.trod_lt m _ _ _ hm
  obtain ⟨pA, A, cA, rfl, hsA, hyA, hlA, hrA⟩ := mat_arg (hval 0 22 v0 rfl rfl) h0
  have k1 := h1
  have lt1 : ∀ x ∈ p1, x.block < W.heap.size := by obtain ⟨m, hm⟩ := k1; exact DataW.trod_lt m _ _ _ hm
  obtain ⟨pB, B, cB, rfl, hsB, hyB, hlB, hrB⟩ := mat_arg (hval 1 22 v1 rfl rfl) h1
  clear hA0 hval0
  unfold maxLen at hlA hlB
  have hrA' : ∀ i, (rowOf A i).length < 2 ^ 63 := fun i => by have := hrA i; unfold maxLen at this; omega
  have hrB' : ∀ i, (rowOf B i).length < 2 ^ 63 := fun i => by have := hrB i; unfold maxLen at this; omega
  obtain ⟨ad, hS⟩ := sent_of_laid hL
  have all : Calls Tryd.prog 3 #[.slice pA A.length cA, .slice pB B.length cB] W fun e w' => e = .returned (.bool true) ∧ Below W.heap.size W w' := by
    cases hwa : wideB A with
    | true => exact timesLaw_wide pA pB A B cA cB ad W (by omega) hrA' (by omega) hrB' (Or.inl hwa) hsA hsB hS
    | false =>
      cases hwb : wideB B with
      | true => exact timesLaw_wide pA pB A B cA cB ad W (by omega) hrA' (by omega) hrB' (Or.inr ⟨hwa, hwb⟩) hsA hsB hS
      | false =>
        by_cases hMA : IsMat A
        · by_cases hall : IsMat A ∧ IsMat B ∧ (rowOf A 0).length = B.length
          · exact timesLaw_in pA pB A B cA cB ad W hwa hwb hMA hall.2.1 hall.2.2 hyA hyB hsA hsB hS
          · exact timesLaw_apart pA pB A B cA cB ad W hwa hwb hMA hall hsA hsB hS
        · exact timesLaw_none pA pB A B cA cB ad W hwa hwb hMA hsA hsB hS
  refine (all).mono fun e W' ⟨he, hb⟩ => ?_
  subst he
  exact ⟨_, rfl, _, _, _, [], _, [], hW', trodAll_mk1 (shut_bool Tryd.underlying4 _), (trodAll_cons_mk (Below.trod matLaidOut (by kernel_rfl) (of_decide_eq_true (by kernel_rfl)) k0 hb lt0) (trodAll_cons_mk (Below.trod matLaidOut (by kernel_rfl) (of_decide_eq_true (by kernel_rfl)) k1 hb lt1) trodAll_mk0)), rfl, hb.frame _, fun h => by cases h⟩
theorem matrixTimes_row : Rows.MatrixTimesSaid :=
  OpenClaim.holds_of_wide 3 Tryd.f3 rfl rfl rfl rfl rfl rfl rfl ⟨rfl, rfl, rfl, rfl, rfl⟩ rfl rfl rfl rfl rfl (by kernel_rfl) Tryd.func3 (by kernel_rfl)
    (of_decide_eq_true (by kernel_rfl)) (by unfold Func.isWrapper; rw [if_neg (of_decide_eq_false (by kernel_rfl))]; exact ⟨rfl, rfl⟩)
    (fun os started H enc _ => matrixTimes_lifted os started H enc)
theorem matrixTimes_holds : Rows.MatrixTimesCardSaid :=
  Claim7.holds_tied_plain_at .later [] [.handle, .sentinel, .sentinel, .sentinel, .sentinel, .sentinel, .sentinel, .sentinel, .sentinel, .sentinel, .sentinel, .sentinel, .sentinel] true (true, "f98b02cde066f180898afd06601573bd35961da2b789b4a744a1dfee66addc6b") true
    matrixTimes_row (fun _ h => by cases h) (by kernel_rfl) (fun _ h => by cases h) matrixTimes_row_tie rfl ⟨rfl, rfl⟩ (by kernel_rfl) rfl
    (fun f fn hf hfn => by
      obtain rfl : f = 3 := Option.some.inj ((show _ = some 3 by kernel_rfl).symm.trans hf) |>.symm
      obtain rfl : fn = Tryd.f3 := (Option.some.inj (Tryd.func3.symm.trans hfn)).symm
      exact ⟨by kernel_rfl, fun j t ht => by
        rw [Tryd.params3] at ht
        have hm : t ∈ [22, 22] := by simpa using Array.mem_of_getElem? ht
        have hall : ([22, 22].all fun u => !Tryd.prog.wantsStandIn u) = true := by kernel_rfl
        exact (show Tryd.prog.wantsStandIn t = false by simpa using List.all_eq_true.1 hall t hm)⟩)
    (by kernel_rfl)
#print axioms matrixTimes_holds
end Go.Proofs.YtmlcbphcphpihaaDoor
