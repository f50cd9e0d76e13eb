import Derived.Test.YtobmckfcipeanaaGreatDoorZE
import Derived.Test.YtobmckfcipeanaaGreatDoorZA
import Derived.Deep.QuietTactic
import Derived.BigQuiet
import Derived.WalkSmall
namespace Go.Proofs.YtobmckfcipeanaaGreatDoor
open Go.RowKit Go.Extern.Stop Go.Stop Go.Extern
theorem noIsF (v : Value) (xT : TypeId) (w : World) : (Instr.typeAssert (.iface 114 v) xT 200 true).run Tryz.prog w = .ok (.tuple #[.nilIface, .bool false]) w := run_typeAssert_lacksB Tryz.underlying200 (by kernel_rfl) (by kernel_rfl) v xT w
theorem hasUnwrapF (v : Value) (xT : TypeId) (w : World) : (Instr.typeAssert (.iface 114 v) xT 196 true).run Tryz.prog w = .ok (.tuple #[.iface 114 v, .bool true]) w := run_typeAssert_hasB Tryz.underlying196 (by kernel_rfl) v xT w
theorem methodUnwrapF (v : Value) (w : World) : (Go.method 365 114 v "Unwrap").run Tryz.prog w = .ok (190, v) w := by kernel_rfl
set_option maxRecDepth 10000 in
set_option maxHeartbeats 1000000 in
theorem is_wrap_same (pb : Nat) (b : Addr) (w : World) (h1 : w.cell? ⟨pb, 1, none⟩ = some (.iface 234 (.pointer (some b)))) :
 Calls Tryz.prog 62 #[.iface 114 (.pointer (some ⟨pb, 0, none⟩)), .iface 234 (.pointer (some b))] w fun e w' => e = .returned (.bool true) /\ w' = w := by
 obtain ⟨i, hi, hcmp⟩ := Option.map_eq_some_iff.1 isComp
 obtain ⟨j, hj, hjs⟩ := Option.map_eq_some_iff.1 isSize
 have h8 := @run_callFunc_extern Tryz.prog 98 _ Extern.ReflectliteType.typeOf Tryz.func98 (by kernel_rfl) (by kernel_rfl) (by kernel_rfl) (by kernel_rfl)
 have h32 := @run_callFunc_extern Tryz.prog 197 _ cmpEntry Tryz.func197 (by kernel_rfl) (by kernel_rfl) (by kernel_rfl) (by kernel_rfl)
 have tT := isTypeOf
 have cT := isComparable
 have mR := isMethodComparable
 have nW := noIsF
 have uW := hasUnwrapF
 have mU := methodUnwrapF
 have heq := run_eql_iface_ptr_same (P := Tryz.prog) w b Tryz.underlying33 Tryz.underlying234 hi hcmp hj
 have hty := run_eql_iface_types (P := Tryz.prog) 114 234 (.pointer (some ⟨pb, 0, none⟩)) (.pointer (some b)) Tryz.underlying33 (by decide) w
 go_enter Tryz.func62, Tryz.ntmps62
 go_wp2
 refine wp_loop_rounds 2 ?_
 rw [rounds_succ]
 go_wp2
 rw [rounds_succ]
 go_wp2
 go_ret
 exact ⟨rfl, rfl⟩
set_option maxRecDepth 10000 in
set_option maxHeartbeats 1000000 in
theorem is_wrap_other (pb : Nat) (a b : Addr) (ca cb : Array Value) (ta tb : TypeId) (w : World) (h1 : w.cell? ⟨pb, 1, none⟩ = some (.iface 234 (.pointer (some a)))) (hne : a ≠ b) (ha : w.heap[a.block]? = some (.cells ca ta (0, 0))) (hb : w.heap[b.block]? = some (.cells cb tb (0, 0))) :
 Calls Tryz.prog 62 #[.iface 114 (.pointer (some ⟨pb, 0, none⟩)), .iface 234 (.pointer (some b))] w fun e w' => e = .returned (.bool false) /\ w' = w := by
 obtain ⟨i, hi, hcmp⟩ := Option.map_eq_some_iff.1 isComp
 obtain ⟨j, hj, hjs⟩ := Option.map_eq_some_iff.1 isSize
 have h8 := @run_callFunc_extern Tryz.prog 98 _ Extern.ReflectliteType.typeOf Tryz.func98 (by kernel_rfl) (by kernel_rfl) (by kernel_rfl) (by kernel_rfl)
 have h32 := @run_callFunc_extern Tryz.prog 197 _ cmpEntry Tryz.func197 (by kernel_rfl) (by kernel_rfl) (by kernel_rfl) (by kernel_rfl)
 have tT := isTypeOf
 have cT := isComparable
 have mR := isMethodComparable
 have nE := noIsE
 have uE := noUnwrapE
 have vE := noUnwrapsE
 have nW := noIsF
 have uW := hasUnwrapF
 have mU := methodUnwrapF
 have heq := run_eql_iface_ptr_other (P := Tryz.prog) w Tryz.underlying33 Tryz.underlying234 hi hcmp hj (by rw [hjs]; decide) hne ha hb
 have hty := run_eql_iface_types (P := Tryz.prog) 114 234 (.pointer (some ⟨pb, 0, none⟩)) (.pointer (some b)) Tryz.underlying33 (by decide) w
 go_enter Tryz.func62, Tryz.ntmps62
 go_wp2
 refine wp_loop_rounds 2 ?_
 rw [rounds_succ]
 go_wp2
 rw [rounds_succ]
 go_wp2
 go_ret
 exact ⟨rfl, rfl⟩
theorem typeOfF (v : Value) (w : World) : (ReflectliteType.typeOf #[.iface 114 v]).run Tryz.prog w = .ok (.iface 189 (.agg #[.pointer (some ⟨17, 114, none⟩)])) w := by kernel_rfl
theorem assignableF (w : World) : (ReflectliteType.relation "AssignableTo" ReflectliteType.assignableTo #[.agg #[.pointer (some ⟨17, 114, none⟩)], .iface 189 (.agg #[.pointer (some ⟨17, 114, none⟩)])]).run Tryz.prog w = .ok (.bool true) w := by kernel_rfl
theorem valueOfF (e : Addr) (w : World) : (ReflectliteValue.unpack (.iface 114 (.pointer (some e)))).run Tryz.prog w
 = .ok (.agg #[.pointer (some ⟨17, 114, none⟩), .pointer (some ⟨w.heap.size, 0, none⟩), .int .u64 150]) (w.alloc (.cells #[.pointer (some e)] 114)) := by kernel_rfl
theorem elemOfFF (w : World) : (Rtype.elem? 116).run Tryz.prog w = .ok (some 114) w := by kernel_rfl
theorem mkF (p : Addr) (w : World) : (ReflectliteValue.mk 114 p ReflectliteValue.flagAddr).run Tryz.prog w = .ok (.agg #[.pointer (some ⟨17, 114, none⟩), .pointer (some p), .int .u64 406]) w := by kernel_rfl
theorem elemVFF (a p : Addr) (W : World) (ha : W.cell? a = some (.pointer (some p))) :
 (ReflectliteValue.method (ReflectliteValue.valueError "reflectlite.Value.Elem" 0) ReflectliteValue.elem #[.agg #[.pointer (some ⟨17, 116, none⟩), .pointer (some a), .int .u64 150]]).run Tryz.prog W
  = .ok (.agg #[.pointer (some ⟨17, 114, none⟩), .pointer (some p), .int .u64 406]) W := by
 rw [rlm]
 simp only [Sem.run_bind, partsFF, Result.andThen]
 simp [ReflectliteValue.elem, loadVar, isAgg, underlying, Tryz.underlying116, ha, Result.andThen, elemOfFF, mkF]
theorem partsFa (a : Addr) (w : World) : (ReflectliteValue.parts (.agg #[.pointer (some ⟨17, 114, none⟩), .pointer (some a), .int .u64 406])).run Tryz.prog w = .ok (some (114, a, 406)) w := by kernel_rfl
theorem partsF (a : Addr) (w : World) : (ReflectliteValue.parts (.agg #[.pointer (some ⟨17, 114, none⟩), .pointer (some a), .int .u64 150])).run Tryz.prog w = .ok (some (114, a, 150)) w := by kernel_rfl
theorem directF (w : World) : (Rtype.directlyAssignable 114 114).run Tryz.prog w = .ok true w := by kernel_rfl
theorem setF (ta b e : Addr) (old : Value) (W : World) (hb : W.cell? b = some (.pointer (some e))) (ht : W.cell? ta = some old) (hf : W.frozen? ta = false) :
 (ReflectliteValue.set #[.agg #[.pointer (some ⟨17, 114, none⟩), .pointer (some ta), .int .u64 406], .agg #[.pointer (some ⟨17, 114, none⟩), .pointer (some b), .int .u64 150]]).run Tryz.prog W
  = .ok (.tuple #[]) (W.setCell ta (.pointer (some e))) := by
 delta ReflectliteValue.set ReflectliteValue.set.match_3
 dsimp only [Array.casesOn, Array.rec]
 rw [dif_pos (show (#[_, _] : Array Value).size = 2 from rfl)]
 simp only [Array.getLit, List.getElem_toArray, List.getElem_cons_zero, List.getElem_cons_succ, Sem.run_bind, partsFa, partsF, Result.andThen]
 simp [ReflectliteValue.flagAddr, loadVar, isAgg, underlying, Tryz.underlying114, hb, Result.andThen, directF, storeVar, Value.cells, storeCells, Addr.add]
 rw [run_store Tryz.prog W ta _ _ (by rfl)]
 simp [ht, hf]
set_option maxRecDepth 10000 in
set_option maxHeartbeats 4000000 in
theorem as_hit (e t : Addr) (old : Value) (w : World) (hg : w.cell? ⟨12, 0, none⟩ = some (.iface 189 (.agg #[.pointer (some ⟨17, 33, none⟩)]))) (ht0 : w.cell? t = some old) (hf0 : w.frozen? t = false) :
 Calls Tryz.prog 61 #[.iface 114 (.pointer (some e)), .iface 116 (.pointer (some t))] w fun ev w' => ev = .returned (.bool true) /\ ∃ w1, Below w.heap.size w w1 /\ w' = w1.setCell t (.pointer (some e)) := by
 have h6 := @run_callFunc_extern Tryz.prog 94 _ (fun args => ReflectliteValue.unpack (args.getD 0 (.tuple #[]))) Tryz.func94 (by kernel_rfl) (by kernel_rfl) (by kernel_rfl) (by kernel_rfl)
 have h7 := @run_callFunc_extern Tryz.prog 95 _ (ReflectliteValue.methodAny (ReflectliteValue.valueError "reflectlite.Value.Type" 0) (fun t _ _ _ => ReflectliteType.toType t)) Tryz.func95 (by kernel_rfl) (by kernel_rfl) (by kernel_rfl) (by kernel_rfl)
 have h8 := @run_callFunc_extern Tryz.prog 96 _ (ReflectliteValue.method (ReflectliteValue.valueError "reflectlite.Value.IsNil" 0) ReflectliteValue.isNil) Tryz.func96 (by kernel_rfl) (by kernel_rfl) (by kernel_rfl) (by kernel_rfl)
 have h27 := @run_callFunc_extern Tryz.prog 186 _ (ReflectliteType.abiMethod fun t => do pure (.int .u8 (<- Rtype.kind t))) Tryz.func186 (by kernel_rfl) (by kernel_rfl) (by kernel_rfl) (by kernel_rfl)
 have h37 := @run_callFunc_extern Tryz.prog 198 _ (ReflectliteType.method ReflectliteType.elem) Tryz.func198 (by kernel_rfl) (by kernel_rfl) (by kernel_rfl) (by kernel_rfl)
 have h38 := @run_callFunc_extern Tryz.prog 199 _ (ReflectliteType.relation "Implements" ReflectliteType.implements_) Tryz.func199 (by kernel_rfl) (by kernel_rfl) (by kernel_rfl) (by kernel_rfl)
 have h10 := @run_callFunc_extern Tryz.prog 98 _ ReflectliteType.typeOf Tryz.func98 (by kernel_rfl) (by kernel_rfl) (by kernel_rfl) (by kernel_rfl)
 have h35 := @run_callFunc_extern Tryz.prog 196 _ (ReflectliteType.relation "AssignableTo" ReflectliteType.assignableTo) Tryz.func196 (by kernel_rfl) (by kernel_rfl) (by kernel_rfl) (by kernel_rfl)
 have h11 := @run_callFunc_extern Tryz.prog 130 _ (ReflectliteValue.method (ReflectliteValue.valueError "reflectlite.Value.Elem" 0) ReflectliteValue.elem) Tryz.func130 (by kernel_rfl) (by kernel_rfl) (by kernel_rfl) (by kernel_rfl)
 have h12 := @run_callFunc_extern Tryz.prog 131 _ ReflectliteValue.set Tryz.func131 (by kernel_rfl) (by kernel_rfl) (by kernel_rfl) (by kernel_rfl)
 have tO := typeOfF
 have mA := methodAssignableTo
 have aF := assignableF
 have vF := valueOfF
 have f6 := valueOfFF
 have f7 := typeFF
 have mK := methodKind
 have mE := methodElem
 have mI := methodImplements
 have kFF := kindFF
 have kF := kindF
 have eFF := elemFF
 have iF := implementsF
 have n8 := isNilFF ⟨w.heap.size, 0, none⟩ t ((w.alloc (.cells #[.pointer (some t)] 116)).alloc (.cells #[.pointer (some ⟨17, 116, none⟩), .pointer (some ⟨w.heap.size, 0, none⟩), .int .u64 150] 154)) (by simp)
 have hlt := lt_of_cell hg
 have hg2 : ((w.alloc (.cells #[.pointer (some t)] 116)).alloc (.cells #[.pointer (some ⟨17, 116, none⟩), .pointer (some ⟨w.heap.size, 0, none⟩), .int .u64 150] 154)).cell? ⟨12, 0, none⟩ = some (.iface 189 (.agg #[.pointer (some ⟨17, 33, none⟩)])) := by
  rw [World.cell?_alloc_lt _ _ ⟨12, 0, none⟩ (by simp; omega), World.cell?_alloc_lt _ _ ⟨12, 0, none⟩ hlt]; exact hg
 have htl : t.block < w.heap.size := by
  rcases Nat.lt_or_ge t.block w.heap.size with h | h
  ·exact h
  ·simp [World.cell?, Array.getElem?_eq_none h] at ht0
 have el := elemVFF ⟨w.heap.size, 0, none⟩ t (((w.alloc (.cells #[.pointer (some t)] 116)).alloc (.cells #[.pointer (some ⟨17, 116, none⟩), .pointer (some ⟨w.heap.size, 0, none⟩), .int .u64 150] 154)).alloc (.cells #[.pointer (some ⟨17, 116, none⟩), .pointer (some ⟨w.heap.size, 0, none⟩), .int .u64 150] 154)) (by rw [World.cell?_alloc_lt _ _ ⟨w.heap.size, 0, none⟩ (by simp; omega)]; simp)
 have st := setF t ⟨w.heap.size + 1 + 1 + 1, 0, none⟩ e old ((((w.alloc (.cells #[.pointer (some t)] 116)).alloc (.cells #[.pointer (some ⟨17, 116, none⟩), .pointer (some ⟨w.heap.size, 0, none⟩), .int .u64 150] 154)).alloc (.cells #[.pointer (some ⟨17, 116, none⟩), .pointer (some ⟨w.heap.size, 0, none⟩), .int .u64 150] 154)).alloc (.cells #[.pointer (some e)] 114))
  (by rw [World.cell?_alloc_at _ _ _ _ (by simp)]; rfl)
  (by rw [World.cell?_alloc_lt _ _ t (by simp; omega), World.cell?_alloc_lt _ _ t (by simp; omega), World.cell?_alloc_lt _ _ t (by simp; omega), World.cell?_alloc_lt _ _ t htl]; exact ht0)
  (by rw [World.frozen?_alloc_old _ _ t (by simp; omega), World.frozen?_alloc_old _ _ t (by simp; omega), World.frozen?_alloc_old _ _ t (by simp; omega), World.frozen?_alloc_old _ _ t (Nat.ne_of_lt htl)]; exact hf0)
 go_enter Tryz.func61, Tryz.ntmps61
 go_wp2
 refine wp_loop_rounds 1 ?_
 rw [rounds_succ]
 go_wp2
 go_ret
 exact ⟨rfl, _, ((((Below.refl _ _).alloc (Nat.le_refl _) _).alloc (by simp) _).alloc (by simp; omega) _).alloc (by simp; omega) _, rfl⟩
end Go.Proofs.YtobmckfcipeanaaGreatDoor
namespace Go.Proofs.YtobmckfcipeanaaGreatDoor
open Go.RowKit Go.Extern.Stop Go.Stop Go.Extern
set_option maxRecDepth 10000 in
set_option maxHeartbeats 4000000 in
theorem code_faultAt (ad : Nat -> Addr) (i fb : Nat) (at_ : Int) (hi : i < 12) (w : World) (hS : Sent w ad) (h0 : w.cell? ⟨fb, 0, none⟩ = some (.int .i64 at_)) (h1 : w.cell? ⟨fb, 1, none⟩ = some (.iface 234 (.pointer (some (ad i))))) :
 Calls Tryz.prog 32 #[.iface 114 (.pointer (some ⟨fb, 0, none⟩))] w fun e w' => e = .returned (.tuple #[.int .i64 ((i + 1 : Nat) : Int), .int .i64 at_]) /\ Below w.heap.size w w' := by
 have hfb : fb < w.heap.size := lt_of_cell h0
 have hb1 : Below w.heap.size w (w.alloc (.cells #[.pointer none] 114)) := (Below.refl _ _).alloc (Nat.le_refl _) _
 have hS1 := hS.below hb1
 have ht0 : (w.alloc (.cells #[.pointer none] 114)).cell? ⟨w.heap.size, 0, none⟩ = some (.pointer none) := by simp
 have hf0 : (w.alloc (.cells #[.pointer none] 114)).frozen? ⟨w.heap.size, 0, none⟩ = false := by simp
 go_enter Tryz.func32, Tryz.ntmps32
 go_wp2_with fail
 refine (as_hit ⟨fb, 0, none⟩ ⟨w.heap.size, 0, none⟩ (.pointer none) _ hS1.typ ht0 hf0).mono ?_
 rintro e w2 ⟨rfl, wx, hbx, hw2⟩
 have hb2 : Below w.heap.size w w2 := by rw [hw2]; exact (hb1.trans (hbx.mono (by simp))).setCell (Nat.le_refl _) _
 have hS2 := hS.below hb2
 have ht2 : w2.cell? ⟨w.heap.size, 0, none⟩ = some (.pointer (some ⟨fb, 0, none⟩)) := by
  rw [hw2]
  exact World.cell?_setCell_same wx ⟨w.heap.size, 0, none⟩ _ ((hbx.cell (p := ⟨w.heap.size, 0, none⟩) (by simp)).trans ht0)
 have h02 : w2.cell? ⟨fb, 0, none⟩ = some (.int .i64 at_) := (hb2.cell (p := ⟨fb, 0, none⟩) hfb).trans h0
 have h12 : w2.cell? ⟨fb, 1, none⟩ = some (.iface 234 (.pointer (some (ad i)))) := (hb2.cell (p := ⟨fb, 1, none⟩) hfb).trans h1
 have hfb2 : fb < w2.heap.size := Nat.lt_of_lt_of_le hfb hb2.size
 have HB2 : Hid (Below w.heap.size w w2) := hb2
 clear hw2 hbx wx hb2 hS1 hb1 ht0 hf0 h0 h1 hS hfb
 have hS2' := hS2
 obtain ⟨c0, c1, c2, c3, c4, c5, c6, c7, c8, c9, c10, c11, _, _, _⟩ := hS2'
 go_wp2
 clear c0 c1 c2 c3 c4 c5 c6 c7 c8 c9 c10 c11 ht2 h02
 have hb3 : Below w2.heap.size w2 (w2.alloc (.cells (sentRow ad) 33)) := (Below.refl _ _).alloc (Nat.le_refl _) _
 have hS3 := hS2.below hb3
 have hrow := sentRow_cell ad w2
 have h13 := (hb3.cell (p := ⟨fb, 1, none⟩) hfb2).trans h12
 have hb4 : Hid (Below w.heap.size w (w2.alloc (.cells (sentRow ad) 33))) := HB2.out.trans (hb3.mono HB2.out.size)
 unfold sentRow at hS3 hrow hb4 h13
 generalize w2.alloc (.cells _ 33) = w3 at hS3 hrow hb4 h13 ⊢
 clear hb3 hS2 HB2 h12 hfb2
 go_loop [3, 30] (fun y x => y = .int .i64 at_ /\ ∃ k : Nat, k <= i /\ x = .int .i64 k) (fun _ x => 12 - (intOf x).toNat)
 case atStart => exact ⟨rfl, 0, by omega, rfl⟩
 case round =>
  obtain ⟨rfl, k, hk, rfl⟩ := hrel
  have hk12 : k < 12 := by omega
  have hc := hrow k hk12
  obtain ⟨ca, ta, hra⟩ := hS3.row i hi
  obtain ⟨cb, tb, hrb⟩ := hS3.row k hk12
  have H13 : Hid (w3.cell? ⟨fb, 1, none⟩ = some (.iface 234 (.pointer (some (ad i))))) := h13
  clear hrow h13
  by_cases hki : k = i
  ·subst hki
   go_wp2_with (go_at_call 62; refine (is_wrap_same fb (ad k) _ H13.out).mono ?_; rintro e w' ⟨rfl, rfl⟩)
   go_ret2
   exact ⟨by simp, hb4.out⟩
  ·have hne := hS3.ne i k hi hk12 (fun h => hki h.symm)
   have HN : Hid (ad i ≠ ad k) := hne
   have HA : Hid (w3.heap[(ad i).block]? = some (.cells ca ta (0, 0))) := hra
   have HB : Hid (w3.heap[(ad k).block]? = some (.cells cb tb (0, 0))) := hrb
   clear hne hra hrb
   go_wp2_with (go_at_call 62; refine (is_wrap_other fb (ad i) (ad k) ca cb ta tb _ H13.out HN.out HA.out HB.out).mono ?_; rintro e w' ⟨rfl, rfl⟩)
   go_round
   case rel => exact ⟨rfl, k + 1, by omega, by go_num⟩
   case measure => simp [intOf]; omega
theorem code_is (ad : Nat -> Addr) (ev : Value) (c at_ : Int) (w : World) (hS : Sent w ad) (he : ErrIs w ad ev c at_) :
 Calls Tryz.prog 32 #[ev] w fun e w' => e = .returned (.tuple #[.int .i64 c, .int .i64 at_]) /\ Below w.heap.size w w' := by
 rcases he with ⟨rfl, rfl, rfl⟩ | ⟨i, hi, rfl, rfl, rfl⟩ | ⟨i, fb, hi, rfl, rfl, h0, h1⟩
 ·refine (code_nil w).mono ?_
  rintro e w' ⟨rfl, rfl⟩
  exact ⟨rfl, Below.refl _ _⟩
 ·exact code_sent ad i hi w hS
 ·exact code_faultAt ad i fb at_ hi w hS h0 h1
end Go.Proofs.YtobmckfcipeanaaGreatDoor
namespace Go.Proofs.YtobmckfcipeanaaGreatDoor
open Go.RowKit Go.Extern.Stop Go.Stop Go.Extern
set_option maxRecDepth 10000 in
set_option maxHeartbeats 2000000 in
theorem faulted2_any (ad : Nat -> Addr) (ev : Value) (c at_ : Int) (w : World) (hS : Sent w ad) (he : ErrIs w ad ev c at_) :
 Calls Tryz.prog 11 #[ev, .agg #[.int .i64 c, .int .i64 at_]] w fun e w' => e = .returned (.bool true) /\ Below w.heap.size w w' := by
 obtain ⟨w0, hw0⟩ : ∃ w0, w0 = w.alloc (.cells #[.int .i64 c, .int .i64 at_] 39) := ⟨_, rfl⟩
 have hb0 : Below w.heap.size w w0 := by rw [hw0]; exact (Below.refl _ _).alloc (Nat.le_refl _) _
 have q1 : w0.cell? ⟨w.heap.size, 0, none⟩ = some (.int .i64 c) := by rw [hw0, World.cell?_alloc_at _ _ _ _ rfl]; rfl
 have q2 : w0.cell? ⟨w.heap.size, 1, none⟩ = some (.int .i64 at_) := by rw [hw0, World.cell?_alloc_at _ _ _ _ rfl]; rfl
 have HC := code_is ad ev c at_ w0 (hS.below hb0) (he.below hb0)
 have HW0 : Hid (w0 = w.alloc (.cells #[.int .i64 c, .int .i64 at_] 39)) := hw0
 have HB0 : Hid (Below w.heap.size w w0) := hb0
 have HQ : Hid (w0.cell? ⟨w.heap.size, 0, none⟩ = some (.int .i64 c) /\ w0.cell? ⟨w.heap.size, 1, none⟩ = some (.int .i64 at_) /\ w.heap.size < w0.heap.size) := ⟨q1, q2, by rw [hw0]; simp⟩
 have HZ : Hid (c = 0 ∨ c ≠ 0) := by
  show c = 0 ∨ c ≠ 0
  omega
 clear hw0 hb0 q1 q2 hS he
 go_enter Tryz.func11, Tryz.ntmps11
 go_wp2_with fail
 rw [<- HW0.out]
 refine HC.mono ?_
 rintro e w1 ⟨rfl, hb1⟩
 obtain ⟨q1, q2, hlt⟩ := HQ.out
 have r1 := (hb1.cell (p := ⟨w.heap.size, 0, none⟩) hlt).trans q1
 have r2 := (hb1.cell (p := ⟨w.heap.size, 1, none⟩) hlt).trans q2
 have HB1 : Hid (Below w.heap.size w w1) := HB0.out.trans (hb1.mono HB0.out.size)
 clear HC hb1 q1 q2 HQ HB0 hlt HW0
 rcases HZ.out with hz | hz
 ·subst hz
  go_wp2
  go_ret
  exact ⟨rfl, HB1.out⟩
 ·have hz2 : (c == 0) = false := by
   rw [beq_eq_false_iff_ne]
   exact hz
  go_wp2
  go_ret
  exact ⟨rfl, HB1.out⟩
end Go.Proofs.YtobmckfcipeanaaGreatDoor
namespace Go.Proofs.YtobmckfcipeanaaGreatDoor
open Go.RowKit
theorem ErrIs.setInt {w : World} {ad : Nat -> Addr} {ev : Value} {c at_ : Int} {b : Nat} {z : Int} (h : ErrIs w ad ev c at_) (hz : w.cell? ⟨b, 1, none⟩ = Option.some (Value.int .i64 z)) (i : Nat) (v : Value) : ErrIs (w.setCell ⟨b, i, none⟩ v) ad ev c at_ := by
 rcases h with h | h | ⟨k, fb, hk, he, hc, h0, h1⟩
 ·exact Or.inl h
 ·exact Or.inr (Or.inl h)
 ·have hne : fb ≠ b := fun e => by
   subst e
   rw [hz] at h1
   cases h1
  exact Or.inr (Or.inr ⟨k, fb, hk, he, hc, (World.cell?_setCell_other _ _ _ _ (fun e => hne (congrArg Addr.block e).symm)).trans h0, (World.cell?_setCell_other _ _ _ _ (fun e => hne (congrArg Addr.block e).symm)).trans h1⟩)
structure TxsIn (w : World) (l : List ByteArray) (p : Option Addr) (cap : Nat) : Prop where
 strs : Strs w p l
 room : l.length <= cap
 empty : p = none -> l = [] /\ cap = 0
 len : l.length <= maxLen
 size : ∀ x ∈ l, x.size <= maxLen
end Go.Proofs.YtobmckfcipeanaaGreatDoor
