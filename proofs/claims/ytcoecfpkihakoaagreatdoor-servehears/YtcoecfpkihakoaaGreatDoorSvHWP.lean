/- The law ServeHears returns true for every name, all messages and every configuration's number, and changes nothing: what a member answers to any messages, and what it holds then, is the document's own answer. Condition: package-level variables hold what the program's own text lays (the card ties it). -/
import Derived.Test.YtcoecfpkihakoaaGreatDoorTie
import Derived.Test.YtcoecfpkihakoaaGreatDoorCards
import Derived.Test.YtcoecfpkihakoaaGreatDoorGz3
import Derived.Test.YtcoecfpkihakoaaGreatDoorSvLW
import Derived.Test.YtcoecfpkihakoaaGreatDoorGz37
import Derived.Test.YtcoecfpkihakoaaGreatDoorMgWtP
import Derived.ProofKit
import Derived.LaidMore
import Derived.OpenShut
import Derived.ChangeOld
import Derived.Stop.Joined
import Derived.SevenTiedAt
import Derived.ChangeMaps5
namespace Go.Proofs.YtcoecfpkihakoaaGreatDoor
open Go.ChangeShapes Go.WideShapes Go.ChangeAt Go.WideMaps Go.WideElems Go.RowKit
theorem serveHears_own : ownKnob Tryz.prog.godebug = none := by kernel_rfl
theorem serveHears_door (os : Os) (args : Array Value) : laidMetH Tryz.prog Rows.serveHearsRow.laid ((World.doorLaid Tryz.prog 244 os).forCall (fun _ _ => 0) ⟨#[], args, []⟩).memory :=
  laidMetH_of_parts3 (fuel := 8) (laidMet_of_run' 8 (by kernel_rfl) (by kernel_rfl)) (by kernel_rfl) (by kernel_rfl)
theorem aLaidOut : laidOutB Tryz.prog = true := by kernel_rfl
set_option maxRecDepth 100000 in
theorem serveHears_lifted (os : Os) (started : os.Started) (H : Type) (enc : TypeId × Value → H) :
    ReturnsInHanded {} Tryz.checked os 3 .any (fun w args => (Rows.serveHearsSpec.pre enc Tryz.prog Tryz.f3 [] false w args ∧ laidMetH Tryz.prog Rows.serveHearsRow.laid w) ∧ sizedMet enc Tryz.prog Tryz.f3 (OpenSpec.ofChange Rows.serveHearsSpec) false w args)
      (Rows.serveHearsSpec.post enc Tryz.prog Tryz.f3 false true false false) := by
  refine returnsInHanded_of_change_and (C := Tryz.checked) (X := fun w _ => laidMetH Tryz.prog Rows.serveHearsRow.laid w) (fun _ _ _ hh h => h.of_heap hh) serveHears_own started (by kernel_rfl) Tryz.func3
    (ChangeSpec.witness_shaped (enc := enc) (C := Tryz.checked) (os := os) (X := fun w _ => laidMetH Tryz.prog Rows.serveHearsRow.laid w) false (World.doorLaid Tryz.prog 244 os) #[.string ⟨#[]⟩, .slice none 0 0, .int .i64 0] 8 rfl (World.shaped_of_RefB (by kernel_rfl) (by kernel_rfl)) (by kernel_rfl) (by kernel_rfl) (by kernel_rfl) (serveHears_door os _)) ?_
  intro W base args ds gs before hval0 hW _ hWt hL _
  have hval : ∀ (j : Nat) t v, Tryz.f3.params[j]? = some t → args[j]? = some v → Value.okWide Tryz.prog W .any base t v := hval0
  have hW' := hW
  obtain ⟨p, q, hA0, hV, rfl, hfz, hnd⟩ := hW
  have hA : DataW.TrodAll enc Tryz.prog W 0 (fun _ => true) true Tryz.f3.params.toList args.toList ds p := hA0
  rw [Tryz.params3] at hA hval
  obtain ⟨v0, vs0, d0, ds0, p0, q0, hargs, rfl, rfl, h0, r0⟩ := trodAll_cons hA
  obtain ⟨v1, vs1, d1, ds1, p1, q1, rfl, rfl, rfl, h1, r1⟩ := trodAll_cons r0
  obtain ⟨v2, vs2, d2, ds2, p2, q2, rfl, rfl, rfl, h2, r2⟩ := trodAll_cons r1
  obtain ⟨rfl, rfl, rfl⟩ := trodAll_nil r2
  obtain rfl : args = #[v0, v1, v2] := by cases args; simp_all
  obtain ⟨rfl, rfl⟩ := trodVars_none hV
  have k1 := h1
  have lt1 : ∀ x ∈ p1, x.block < W.heap.size := by obtain ⟨m, hm⟩ := k1; exact DataW.trod_lt m _ _ _ hm
  obtain ⟨name, rfl, rfl, rfl, wsn⟩ := ChangeMaps.open_string Tryz.underlying9 (hval 0 9 v0 rfl rfl) h0
  obtain ⟨cf, rfl, rfl, rfl, wx2⟩ := open_int Tryz.underlying3 (hval 2 3 v2 rfl rfl) h2
  obtain ⟨a1, len1, cap1, rfl⟩ := okWide_slice Tryz.underlying22 (hval 1 22 v1 rfl rfl)
  obtain ⟨fuel, hf⟩ := h1
  obtain ⟨pl, l, cl, hvv, hms, hvi, hwt⟩ := msgs_argW hf
  rw [hvv]
  have hWm : WtOk 22 d1 := by
    have hWt' := hWt
    rw [Tryz.params3] at hWt'
    simp only [List.cons_append, DataW.weightsEach, List.all_append, Bool.and_eq_true] at hWt'
    exact hWt'.2.1
  clear hA0 hval0
  obtain ⟨ad, hS⟩ := sent_of_laid hL
  rw [hvv] at hW' k1
  have hsn : ∀ V : World, W.heap.size ≤ V.heap.size → (∀ k, k < W.heap.size → V.heap[k]? = W.heap[k]?) → Sent V ad := fun V _ hk => hS.keepBlocks hk
  have hci : CfIn cf := by
    simp [Lit.wf, IntKind.min, IntKind.max, IntKind.bits, IntKind.signed] at wx2
    exact wx2
  have hin : SvIn (fun w => Sent w ad) l pl W := ⟨hsn, (hwt hWm).1, (hwt hWm).2, hms, fun x hx => (hvi x hx).2⟩
  refine (serveHears_any (serveOk ad) name l pl cl cf W hin (fun V hb => hsn V hb.size (fun k hk => hb.block k hk)) hci).mono fun e W' ⟨he, hb⟩ => ?_
  subst he
  exact ⟨_, rfl, _, _, _, [], _, [], hW', trodAll_mk1 (shut_bool Tryz.underlying4 _), (trodAll_cons_mk (ChangeMaps.shut_string Tryz.underlying9 wsn) (trodAll_cons_mk (Below.trod aLaidOut (by kernel_rfl) (of_decide_eq_true (by kernel_rfl)) k1 hb lt1) (trodAll_cons_mk (shut_int Tryz.underlying3 wx2) trodAll_mk0))), rfl, hb.frame _, fun h => by cases h⟩
theorem serveHears_row : Rows.ServeHearsSaid :=
  OpenClaim.holds_of_wide 3 Tryz.f3 rfl rfl rfl rfl rfl rfl rfl ⟨rfl, rfl, rfl, rfl, rfl⟩ rfl rfl rfl rfl rfl (by kernel_rfl) Tryz.func3 (by kernel_rfl)
    (of_decide_eq_true (by kernel_rfl)) (by unfold Func.isWrapper; rw [if_neg (of_decide_eq_false (by kernel_rfl))]; exact ⟨rfl, rfl⟩)
    (fun os started H enc _ => serveHears_lifted os started H enc)
theorem serveHears_holds : Rows.ServeHearsCardSaid :=
  Claim7.holds_tied_plain_at .later [] [.handle, .sentinel, .sentinel, .sentinel, .sentinel, .sentinel, .sentinel, .sentinel, .sentinel, .sentinel, .sentinel, .sentinel, .sentinel] true (true, "65c4fee33ec1398eefd63027bb84c7a7632117734250e609fdd0b91ab5d986dd") true
    serveHears_row (fun _ h => by cases h) (by kernel_rfl) (fun _ h => by cases h) serveHears_row_tie rfl ⟨rfl, rfl⟩ (by kernel_rfl) rfl
    (fun f fn hf hfn => by
      obtain rfl : f = 3 := Option.some.inj ((show _ = some 3 by kernel_rfl).symm.trans hf) |>.symm
      obtain rfl : fn = Tryz.f3 := (Option.some.inj (Tryz.func3.symm.trans hfn)).symm
      exact ⟨by kernel_rfl, fun j t ht => by
        rw [Tryz.params3] at ht
        have hm : t ∈ [9, 22, 3] := by simpa using Array.mem_of_getElem? ht
        have hall : ([9, 22, 3].all fun u => !Tryz.prog.wantsStandIn u) = true := by kernel_rfl
        exact (show Tryz.prog.wantsStandIn t = false by simpa using List.all_eq_true.1 hall t hm)⟩)
    (by kernel_rfl)
#print axioms serveHears_holds
end Go.Proofs.YtcoecfpkihakoaaGreatDoor
