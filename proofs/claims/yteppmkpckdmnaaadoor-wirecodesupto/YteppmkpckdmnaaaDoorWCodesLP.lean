/- The law WireCodes returns true for every message that holds together, with all that it reaches, at most 1048576 values and letters, and changes nothing: Encode answers as the document does, errors included, and what is encoded is decoded as the message that it was. Condition: package-level variables hold what the program's own text lays (the card ties it). -/
import Derived.Test.YteppmkpckdmnaaaDoorTie
import Derived.Test.YteppmkpckdmnaaaDoorCards
import Derived.Test.YteppmkpckdmnaaaDoorSentP
import Derived.Test.YteppmkpckdmnaaaDoorWireOkW
import Derived.Test.YteppmkpckdmnaaaDoorWCodesW
import Derived.Test.YteppmkpckdmnaaaDoorRWireW
import Derived.Test.YteppmkpckdmnaaaDoorMsgArgP
import Derived.ProofKit
import Derived.LaidMore
import Derived.OpenShut
import Derived.ChangeOld
import Derived.Stop.Joined
import Derived.SevenTiedAt
import Derived.ChangeMaps5
import Derived.Deep.DeepHandedRow
import Derived.Deep.DeepWitnessRowRef
namespace Go.Proofs.YteppmkpckdmnaaaDoor
open Go.ChangeShapes Go.WideShapes Go.ChangeAt Go.WideMaps Go.WideElems Go.RowKit
theorem wireCodes_own : ownKnob Tryd.prog.godebug = none := by kernel_rfl
/-- A message of nothing, for the witness. -/
def noArg : Value := .agg #[.string ⟨#[]⟩, .string ⟨#[]⟩, .string ⟨#[]⟩, .string ⟨#[]⟩, .int .i64 0, .int .i64 0, .bool false, .slice none 0 0]
theorem wireCodes_door (os : Os) (args : Array Value) : laidMetH Tryd.prog Rows.wireCodesUptoRow.laid ((World.doorLaid Tryd.prog 244 os).forCall (fun _ _ => 0) ⟨#[], args, []⟩).memory :=
  laidMetH_of_parts3 (fuel := 8) (laidMet_of_run' 8 (by kernel_rfl) (by kernel_rfl)) (by kernel_rfl) (by kernel_rfl)
theorem wireCodes_reads (os : Os) {H : Type} (enc : TypeId × Value → H) : DataW.whole enc Tryd.prog ((World.doorLaid Tryd.prog 244 os).forCall (fun _ _ => 0) ⟨#[], #[noArg], []⟩).memory Tryd.f3.params.toList Rows.wireCodesSpec.vars false #[noArg].toList 8 =
    some ([.agg [.lit (.string []), .lit (.string []), .lit (.string []), .lit (.string []), .lit (.int .i64 0), .lit (.int .i64 0), .lit (.bool false), .nil]], [], []) := by kernel_rfl
set_option maxRecDepth 100000 in
theorem wireCodes_contract (H : Type) (enc : TypeId × Value → H) (W : World) (base : Nat) (args : Array Value) (ds gs : List (DataW H)) (before : List MemPlace)
    (hval0 : ∀ (j : Nat) t v, Tryd.f3.params[j]? = some t → args[j]? = some v → Value.okWide Tryd.prog W .any base t v)
    (hW : DataW.Whole enc Tryd.prog Tryd.f3.params.toList Rows.wireCodesSpec.vars false W args.toList ds gs before) (hL : laidMetH Tryd.prog Rows.wireCodesUptoRow.laid W) (hk : Rows.uptoSmall H (ds ++ gs) = true) :
    Calls Tryd.prog 3 args W fun e W' => ∃ v, e = .returned v ∧ Rows.wireCodesSpec.post enc Tryd.prog Tryd.f3 false true false false W args v W' := by
  have hval : ∀ (j : Nat) t v, Tryd.f3.params[j]? = some t → args[j]? = some v → Value.okWide Tryd.prog W .any base t v := hval0
  have hW' := hW
  obtain ⟨p, q, hA0, hV, rfl, hfz, hnd⟩ := hW
  have hA : DataW.TrodAll enc Tryd.prog W 0 (fun _ => true) true Tryd.f3.params.toList args.toList ds p := hA0
  rw [Tryd.params3] at hA hval
  obtain ⟨v0, vs0, d0, ds0, p0, q0, hargs, rfl, rfl, h0, r0⟩ := trodAll_cons hA
  obtain ⟨rfl, rfl, rfl⟩ := trodAll_nil r0
  obtain rfl : args = #[v0] := by cases args; simp_all
  obtain ⟨rfl, rfl⟩ := trodVars_none hV
  have k0 := h0
  have lt0 : ∀ x ∈ p0, x.block < W.heap.size := by obtain ⟨m, hm⟩ := k0; exact DataW.trod_lt m _ _ _ hm
  obtain ⟨m, pl, c, rfl, hrec, hn, hle, hvs, z1, z2, z3, z4, z5, z6⟩ := msg_arg (hval 0 24 v0 rfl rfl) h0
  have hB : Rows.uptoBulk d0 ≤ 1048576 := by
    have h1 : Rows.uptoBulkAll ([d0] ++ ([] : List (DataW H))) ≤ 1048576 := of_decide_eq_true hk
    have h2 : Rows.uptoBulk d0 ≤ Rows.uptoBulkAll ([d0] ++ ([] : List (DataW H))) := bulk_part (by simp)
    omega
  have hbig : bulkN m ≤ 9223372036854775807 := by
    have h1 := bulkV_max m.L z6
    have h2 : m.L.length * (40 + Rows.uptoBulk d0) ≤ 1048576 * (40 + 1048576) := Nat.mul_le_mul (by omega) (by omega)
    unfold bulkN
    omega
  clear hA0 hval0
  obtain ⟨ad, hS⟩ := sent_of_laid hL
  refine (wireCodes_any (wireOk ad) m pl c W hrec hn hbig hle hvs (fun W' hb => hS.below hb) (fun _ _ => trivial) (fun hb W' hr => rwire_any m pl c W' hr hb ⟨hle, fun v hv => ⟨(hvs v hv).1, (hvs v hv).2.1, (hvs v hv).2.2.1, (hvs v hv).2.2.2.1⟩⟩)).mono fun e W' ⟨he, hb⟩ => ?_
  subst he
  exact ⟨_, rfl, _, _, _, [], _, [], hW', trodAll_mk1 (shut_bool Tryd.underlying4 _), (trodAll_cons_mk (Below.trod msgLaidOut (by kernel_rfl) (of_decide_eq_true (by kernel_rfl)) k0 hb lt0) trodAll_mk0), rfl, hb.frame _, fun h => by cases h⟩
set_option maxRecDepth 100000 in
theorem wireCodes_lifted (os : Os) (started : os.Started) (H : Type) (enc : TypeId × Value → H) (F : Stop.Interp) :
    ReturnsInHanded {} Tryd.checked os 3 .any ((Rows.OpenSpec.upto Rows.wireCodesSpec).preRow enc Tryd.prog Tryd.f3 Rows.wireCodesUptoRow.domain false Rows.wireCodesUptoRow.laid) (((Rows.OpenSpec.upto Rows.wireCodesSpec).at F).post enc Tryd.prog Tryd.f3 false true false false) := by
  refine returnsInHanded_of_row (C := Tryd.checked) (s := Rows.OpenSpec.upto Rows.wireCodesSpec) wireCodes_own started (by kernel_rfl) Tryd.func3
    (witness_row_atRef (enc := enc) (C := Tryd.checked) false (World.doorLaid Tryd.prog 244 os) #[noArg] rfl (by kernel_rfl) (by kernel_rfl) (by kernel_rfl)
      (OpenSpec.preRow_of_cond 8 (wireCodes_reads os enc) (by kernel_rfl) (fun k hk => by cases hk; kernel_rfl) (by kernel_rfl) (wireCodes_door os _))) ?_
  intro W base args ds gs before hval hW _ hcond _ hL _ _
  exact wireCodes_contract H enc W base args ds gs before hval hW hL (hcond _ rfl)
theorem wireCodes_row : Rows.WireCodesUptoSaid :=
  OpenClaim.holds_of_cond 3 Tryd.f3 rfl rfl rfl rfl rfl rfl rfl ⟨rfl, rfl, rfl, rfl, rfl⟩ rfl rfl rfl rfl rfl (by kernel_rfl) Tryd.func3 (by kernel_rfl)
    (of_decide_eq_true (by kernel_rfl)) (by unfold Func.isWrapper; rw [if_neg (of_decide_eq_false (by kernel_rfl))]; exact ⟨rfl, rfl⟩)
    (fun os started H enc _ F => by rw [OpenClaim.pre_eq_preRow]; exact wireCodes_lifted os started H enc F)
theorem wireCodesUpto_holds : Rows.WireCodesUptoCardSaid :=
  Claim7.holds_tied_plain_at .later [] [.handle, .sentinel, .sentinel, .sentinel, .sentinel, .sentinel, .sentinel, .sentinel, .sentinel, .sentinel, .sentinel, .sentinel, .sentinel] true (true, "8b5377774533304d8f1ebb377234022fa89599976be4705ed39c7ad155a77acd") true
    wireCodes_row (fun _ h => by cases h) (by kernel_rfl) (fun _ h => by cases h) wireCodesUpto_row_tie rfl ⟨rfl, rfl⟩ (by kernel_rfl) rfl
    (fun f fn hf hfn => by
      obtain rfl : f = 3 := Option.some.inj ((show _ = some 3 by kernel_rfl).symm.trans hf) |>.symm
      obtain rfl : fn = Tryd.f3 := (Option.some.inj (Tryd.func3.symm.trans hfn)).symm
      exact ⟨by kernel_rfl, fun j t ht => by
        rw [Tryd.params3] at ht
        have hm : t ∈ [24] := by simpa using Array.mem_of_getElem? ht
        have hall : ([24].all fun u => !Tryd.prog.wantsStandIn u) = true := by kernel_rfl
        exact (show Tryd.prog.wantsStandIn t = false by simpa using List.all_eq_true.1 hall t hm)⟩)
    (by kernel_rfl)
#print axioms wireCodesUpto_holds
end Go.Proofs.YteppmkpckdmnaaaDoor
