import Derived.Test.YtobmckfcipeanaaGreatDoorProg
import Derived.WalkKit
import Derived.LaidEql
import Derived.Stop.Asserts
import Derived.RowKitTokens
import Derived.Test.YtobmckfcipeanaaGreatDoorZD
import Derived.Deep.QuietTactic
import Derived.BigQuiet
import Derived.WalkSmall
namespace Go.Proofs.YtobmckfcipeanaaGreatDoor
open Go.RowKit Go.Extern.Stop Go.Stop Go.Extern
theorem isTypeOf (v : Value) (w : World) : (Extern.ReflectliteType.typeOf #[.iface 234 v]).run Tryz.prog w = .ok (.iface 189 (.agg #[.pointer (some ⟨17, 234, none⟩)])) w := by kernel_rfl
def cmpEntry : Array Value -> Sem Value := Extern.ReflectliteType.method fun t => do Rtype.noPackHeld "Comparable" t; pure (.bool (<- typeInfo t).comparable)
theorem isComparable (w : World) : (cmpEntry #[.agg #[.pointer (some ⟨17, 234, none⟩)]]).run Tryz.prog w = .ok (.bool true) w := by kernel_rfl
theorem isMethodComparable (v : Value) (w : World) : (Go.method 365 189 v "Comparable").run Tryz.prog w = .ok (197, v) w := by kernel_rfl
theorem isComp : (Tryz.prog.info? 234).map (·.comparable) = some true := by kernel_rfl
theorem isSize : (Tryz.prog.info? 253).map (·.size) = some 1 := by kernel_rfl
theorem noIsE (v : Value) (xT : TypeId) (w : World) : (Instr.typeAssert (.iface 234 v) xT 200 true).run Tryz.prog w = .ok (.tuple #[.nilIface, .bool false]) w := run_typeAssert_lacksB Tryz.underlying200 (by kernel_rfl) (by kernel_rfl) v xT w
theorem noAsE (v : Value) (xT : TypeId) (w : World) : (Instr.typeAssert (.iface 234 v) xT 193 true).run Tryz.prog w = .ok (.tuple #[.nilIface, .bool false]) w := run_typeAssert_lacksB Tryz.underlying193 (by kernel_rfl) (by kernel_rfl) v xT w
theorem noUnwrapE (v : Value) (xT : TypeId) (w : World) : (Instr.typeAssert (.iface 234 v) xT 196 true).run Tryz.prog w = .ok (.tuple #[.nilIface, .bool false]) w := run_typeAssert_lacksB Tryz.underlying196 (by kernel_rfl) (by kernel_rfl) v xT w
theorem noUnwrapsE (v : Value) (xT : TypeId) (w : World) : (Instr.typeAssert (.iface 234 v) xT 198 true).run Tryz.prog w = .ok (.tuple #[.nilIface, .bool false]) w := run_typeAssert_lacksB Tryz.underlying198 (by kernel_rfl) (by kernel_rfl) v xT w
set_option maxRecDepth 10000 in
theorem is_same (a : Addr) (w : World) :
 Calls Tryz.prog 62 #[.iface 234 (.pointer (some a)), .iface 234 (.pointer (some a))] w fun e w' => e = .returned (.bool true) /\ w' = w := by
 obtain ⟨i, hi, hcmp⟩ := Option.map_eq_some_iff.1 isComp
 obtain ⟨j, hj, hjs⟩ := Option.map_eq_some_iff.1 isSize
 have h8 := @run_callFunc_extern Tryz.prog 98 _ Extern.ReflectliteType.typeOf Tryz.func98 (by kernel_rfl) (by kernel_rfl) (by kernel_rfl) (by kernel_rfl)
 have h32 := @run_callFunc_extern Tryz.prog 197 _ cmpEntry Tryz.func197 (by kernel_rfl) (by kernel_rfl) (by kernel_rfl) (by kernel_rfl)
 have tT := isTypeOf
 have cT := isComparable
 have mR := isMethodComparable
 have heq := run_eql_iface_ptr_same (P := Tryz.prog) w a Tryz.underlying33 Tryz.underlying234 hi hcmp hj
 go_enter Tryz.func62, Tryz.ntmps62
 go_wp2
 refine wp_loop_rounds 1 ?_
 rw [rounds_succ]
 go_wp2
 go_ret
 exact ⟨rfl, rfl⟩
set_option maxRecDepth 10000 in
theorem is_other (a b : Addr) (ca cb : Array Value) (ta tb : TypeId) (w : World) (hne : a ≠ b) (ha : w.heap[a.block]? = some (.cells ca ta (0, 0))) (hb : w.heap[b.block]? = some (.cells cb tb (0, 0))) :
 Calls Tryz.prog 62 #[.iface 234 (.pointer (some a)), .iface 234 (.pointer (some b))] w fun e w' => e = .returned (.bool false) /\ w' = w := by
 obtain ⟨i, hi, hcmp⟩ := Option.map_eq_some_iff.1 isComp
 obtain ⟨j, hj, hjs⟩ := Option.map_eq_some_iff.1 isSize
 have h8 := @run_callFunc_extern Tryz.prog 98 _ Extern.ReflectliteType.typeOf Tryz.func98 (by kernel_rfl) (by kernel_rfl) (by kernel_rfl) (by kernel_rfl)
 have h32 := @run_callFunc_extern Tryz.prog 197 _ cmpEntry Tryz.func197 (by kernel_rfl) (by kernel_rfl) (by kernel_rfl) (by kernel_rfl)
 have tT := isTypeOf
 have cT := isComparable
 have mR := isMethodComparable
 have nE := noIsE
 have uE := noUnwrapE
 have vE := noUnwrapsE
 have heq := run_eql_iface_ptr_other (P := Tryz.prog) w Tryz.underlying33 Tryz.underlying234 hi hcmp hj (by rw [hjs]; decide) hne ha hb
 go_enter Tryz.func62, Tryz.ntmps62
 go_wp2
 refine wp_loop_rounds 1 ?_
 rw [rounds_succ]
 go_wp2
 go_ret
 exact ⟨rfl, rfl⟩
theorem valueOfFF (t : Addr) (w : World) : (ReflectliteValue.unpack (.iface 116 (.pointer (some t)))).run Tryz.prog w
 = .ok (.agg #[.pointer (some ⟨17, 116, none⟩), .pointer (some ⟨w.heap.size, 0, none⟩), .int .u64 150]) (w.alloc (.cells #[.pointer (some t)] 116)) := by kernel_rfl
theorem typeFF (a : Addr) (w : World) : (ReflectliteValue.methodAny (ReflectliteValue.valueError "reflectlite.Value.Type" 0) (fun t _ _ _ => ReflectliteType.toType t) #[.agg #[.pointer (some ⟨17, 116, none⟩), .pointer (some a), .int .u64 150]]).run Tryz.prog w
 = .ok (.iface 189 (.agg #[.pointer (some ⟨17, 116, none⟩)])) w := by kernel_rfl
theorem methodKind (h : Value) (w : World) : (Go.method 365 189 (.agg #[h]) "Kind").run Tryz.prog w = .ok (186, h) w := by kernel_rfl
theorem kindFF (w : World) : ((ReflectliteType.abiMethod fun t => (fun a : Nat => Value.int IntKind.u8 (a : Int)) <$> Rtype.kind t) #[.pointer (some ⟨17, 116, none⟩)]).run Tryz.prog w = .ok (.int .u8 22) w := by kernel_rfl
theorem kindF (w : World) : ((ReflectliteType.abiMethod fun t => (fun a : Nat => Value.int IntKind.u8 (a : Int)) <$> Rtype.kind t) #[.pointer (some ⟨17, 114, none⟩)]).run Tryz.prog w = .ok (.int .u8 22) w := by kernel_rfl
theorem rlm (z : Sem Value) (f : TypeId -> Addr -> Nat -> Nat -> Sem Value) (v : Value) :
 ReflectliteValue.method z f #[v] = (do match <- ReflectliteValue.parts v with | none => z | some (t, a, fl) => f t a fl (fl % 32)) := rfl
theorem partsFF (a : Addr) (w : World) : (ReflectliteValue.parts (.agg #[.pointer (some ⟨17, 116, none⟩), .pointer (some a), .int .u64 150])).run Tryz.prog w = .ok (some (116, a, 150)) w := by kernel_rfl
theorem isNilFF (a p : Addr) (W : World) (ha : W.cell? a = some (.pointer (some p))) :
 (ReflectliteValue.method (ReflectliteValue.valueError "reflectlite.Value.IsNil" 0) ReflectliteValue.isNil #[.agg #[.pointer (some ⟨17, 116, none⟩), .pointer (some a), .int .u64 150]]).run Tryz.prog W = .ok (.bool false) W := by
 rw [rlm]
 simp only [Sem.run_bind, partsFF, Result.andThen]
 simp [ReflectliteValue.isNil, loadVar, isAgg, underlying, Tryz.underlying116, ha, Result.andThen]
theorem methodElem (h : Value) (w : World) : (Go.method 365 189 (.agg #[h]) "Elem").run Tryz.prog w = .ok (198, .agg #[h]) w := by kernel_rfl
theorem methodImplements (h : Value) (w : World) : (Go.method 365 189 (.agg #[h]) "Implements").run Tryz.prog w = .ok (199, .agg #[h]) w := by kernel_rfl
theorem methodAssignableTo (h : Value) (w : World) : (Go.method 365 189 (.agg #[h]) "AssignableTo").run Tryz.prog w = .ok (196, .agg #[h]) w := by kernel_rfl
theorem elemFF (w : World) : (ReflectliteType.method ReflectliteType.elem #[.agg #[.pointer (some ⟨17, 116, none⟩)]]).run Tryz.prog w = .ok (.iface 189 (.agg #[.pointer (some ⟨17, 114, none⟩)])) w := by kernel_rfl
theorem implementsF (w : World) : (ReflectliteType.relation "Implements" ReflectliteType.implements_ #[.agg #[.pointer (some ⟨17, 114, none⟩)], .iface 189 (.agg #[.pointer (some ⟨17, 33, none⟩)])]).run Tryz.prog w = .ok (.bool true) w := by kernel_rfl
theorem assignableE (w : World) : (ReflectliteType.relation "AssignableTo" ReflectliteType.assignableTo #[.agg #[.pointer (some ⟨17, 234, none⟩)], .iface 189 (.agg #[.pointer (some ⟨17, 114, none⟩)])]).run Tryz.prog w = .ok (.bool false) w := by kernel_rfl
set_option maxRecDepth 10000 in
set_option maxHeartbeats 4000000 in
theorem as_miss (e t : Addr) (w : World) (hg : w.cell? ⟨12, 0, none⟩ = some (.iface 189 (.agg #[.pointer (some ⟨17, 33, none⟩)]))) :
 Calls Tryz.prog 61 #[.iface 234 (.pointer (some e)), .iface 116 (.pointer (some t))] w fun ev w' => ev = .returned (.bool false) /\ Below w.heap.size w w' := by
 have h6 := @run_callFunc_extern Tryz.prog 94 _ (fun args => ReflectliteValue.unpack (args.getD 0 (.tuple #[]))) Tryz.func94 (by kernel_rfl) (by kernel_rfl) (by kernel_rfl) (by kernel_rfl)
 have h7 := @run_callFunc_extern Tryz.prog 95 _ (ReflectliteValue.methodAny (ReflectliteValue.valueError "reflectlite.Value.Type" 0) (fun t _ _ _ => ReflectliteType.toType t)) Tryz.func95 (by kernel_rfl) (by kernel_rfl) (by kernel_rfl) (by kernel_rfl)
 have h8 := @run_callFunc_extern Tryz.prog 96 _ (ReflectliteValue.method (ReflectliteValue.valueError "reflectlite.Value.IsNil" 0) ReflectliteValue.isNil) Tryz.func96 (by kernel_rfl) (by kernel_rfl) (by kernel_rfl) (by kernel_rfl)
 have h27 := @run_callFunc_extern Tryz.prog 186 _ (ReflectliteType.abiMethod fun t => do pure (.int .u8 (<- Rtype.kind t))) Tryz.func186 (by kernel_rfl) (by kernel_rfl) (by kernel_rfl) (by kernel_rfl)
 have h37 := @run_callFunc_extern Tryz.prog 198 _ (ReflectliteType.method ReflectliteType.elem) Tryz.func198 (by kernel_rfl) (by kernel_rfl) (by kernel_rfl) (by kernel_rfl)
 have h38 := @run_callFunc_extern Tryz.prog 199 _ (ReflectliteType.relation "Implements" ReflectliteType.implements_) Tryz.func199 (by kernel_rfl) (by kernel_rfl) (by kernel_rfl) (by kernel_rfl)
 have h10 := @run_callFunc_extern Tryz.prog 98 _ ReflectliteType.typeOf Tryz.func98 (by kernel_rfl) (by kernel_rfl) (by kernel_rfl) (by kernel_rfl)
 have h35 := @run_callFunc_extern Tryz.prog 196 _ (ReflectliteType.relation "AssignableTo" ReflectliteType.assignableTo) Tryz.func196 (by kernel_rfl) (by kernel_rfl) (by kernel_rfl) (by kernel_rfl)
 have tO := isTypeOf
 have mA := methodAssignableTo
 have aE := assignableE
 have f6 := valueOfFF
 have f7 := typeFF
 have mK := methodKind
 have mE := methodElem
 have mI := methodImplements
 have kFF := kindFF
 have kF := kindF
 have eFF := elemFF
 have iF := implementsF
 have xA := noAsE
 have xU := noUnwrapE
 have xV := noUnwrapsE
 have n8 := isNilFF ⟨w.heap.size, 0, none⟩ t ((w.alloc (.cells #[.pointer (some t)] 116)).alloc (.cells #[.pointer (some ⟨17, 116, none⟩), .pointer (some ⟨w.heap.size, 0, none⟩), .int .u64 150] 154)) (by simp)
 have hlt : 12 < w.heap.size := by
  rcases Nat.lt_or_ge 12 w.heap.size with h | h
  ·exact h
  ·simp [World.cell?, Array.getElem?_eq_none h] at hg
 have hg2 : ((w.alloc (.cells #[.pointer (some t)] 116)).alloc (.cells #[.pointer (some ⟨17, 116, none⟩), .pointer (some ⟨w.heap.size, 0, none⟩), .int .u64 150] 154)).cell? ⟨12, 0, none⟩ = some (.iface 189 (.agg #[.pointer (some ⟨17, 33, none⟩)])) := by
  rw [World.cell?_alloc_lt _ _ ⟨12, 0, none⟩ (by simp; omega), World.cell?_alloc_lt _ _ ⟨12, 0, none⟩ hlt]; exact hg
 go_enter Tryz.func61, Tryz.ntmps61
 go_wp2
 refine wp_loop_rounds 1 ?_
 rw [rounds_succ]
 go_wp2
 go_ret
 exact ⟨rfl, (((Below.refl _ _).alloc (Nat.le_refl _) _).alloc (by simp) _).alloc (by simp; omega) _⟩
end Go.Proofs.YtobmckfcipeanaaGreatDoor
namespace Go.Proofs.YtobmckfcipeanaaGreatDoor
open Go.RowKit Go.Extern.Stop Go.Stop Go.Extern
structure Sent (w : World) (ad : Nat -> Addr) : Prop where
 c0 : w.cell? ⟨3, 0, none⟩ = some (.iface 234 (.pointer (some (ad 0))))
 c1 : w.cell? ⟨0, 0, none⟩ = some (.iface 234 (.pointer (some (ad 1))))
 c2 : w.cell? ⟨2, 0, none⟩ = some (.iface 234 (.pointer (some (ad 2))))
 c3 : w.cell? ⟨1, 0, none⟩ = some (.iface 234 (.pointer (some (ad 3))))
 c4 : w.cell? ⟨4, 0, none⟩ = some (.iface 234 (.pointer (some (ad 4))))
 c5 : w.cell? ⟨5, 0, none⟩ = some (.iface 234 (.pointer (some (ad 5))))
 c6 : w.cell? ⟨6, 0, none⟩ = some (.iface 234 (.pointer (some (ad 6))))
 c7 : w.cell? ⟨7, 0, none⟩ = some (.iface 234 (.pointer (some (ad 7))))
 c8 : w.cell? ⟨8, 0, none⟩ = some (.iface 234 (.pointer (some (ad 8))))
 c9 : w.cell? ⟨9, 0, none⟩ = some (.iface 234 (.pointer (some (ad 9))))
 c10 : w.cell? ⟨10, 0, none⟩ = some (.iface 234 (.pointer (some (ad 10))))
 c11 : w.cell? ⟨11, 0, none⟩ = some (.iface 234 (.pointer (some (ad 11))))
 typ : w.cell? ⟨12, 0, none⟩ = some (.iface 189 (.agg #[.pointer (some ⟨17, 33, none⟩)]))
 row : ∀ i, i < 12 -> ∃ c t, w.heap[(ad i).block]? = some (.cells c t (0, 0))
 ne : ∀ i j, i < 12 -> j < 12 -> i ≠ j -> ad i ≠ ad j
theorem lt_of_cell {w : World} {b o : Nat} {v : Value} (h : w.cell? ⟨b, o, none⟩ = some v) : b < w.heap.size := by
 rcases Nat.lt_or_ge b w.heap.size with h' | h'
 ·exact h'
 ·simp [World.cell?, Array.getElem?_eq_none h'] at h
theorem lt_of_row {w : World} {b : Nat} {o : Obj} (h : w.heap[b]? = some o) : b < w.heap.size := by
 rcases Nat.lt_or_ge b w.heap.size with h' | h'
 ·exact h'
 ·rw [Array.getElem?_eq_none h'] at h; cases h
theorem Sent.below {w w' : World} {ad : Nat -> Addr} (h : Sent w ad) (hb : Below w.heap.size w w') : Sent w' ad where
 c0 := (hb.cell (lt_of_cell h.c0)).trans h.c0
 c1 := (hb.cell (lt_of_cell h.c1)).trans h.c1
 c2 := (hb.cell (lt_of_cell h.c2)).trans h.c2
 c3 := (hb.cell (lt_of_cell h.c3)).trans h.c3
 c4 := (hb.cell (lt_of_cell h.c4)).trans h.c4
 c5 := (hb.cell (lt_of_cell h.c5)).trans h.c5
 c6 := (hb.cell (lt_of_cell h.c6)).trans h.c6
 c7 := (hb.cell (lt_of_cell h.c7)).trans h.c7
 c8 := (hb.cell (lt_of_cell h.c8)).trans h.c8
 c9 := (hb.cell (lt_of_cell h.c9)).trans h.c9
 c10 := (hb.cell (lt_of_cell h.c10)).trans h.c10
 c11 := (hb.cell (lt_of_cell h.c11)).trans h.c11
 typ := (hb.cell (lt_of_cell h.typ)).trans h.typ
 row := fun i hi => by
  obtain ⟨c, t, hc⟩ := h.row i hi
  exact ⟨c, t, (hb.block _ (lt_of_row hc)).trans hc⟩
 ne := h.ne
theorem code_nil (w : World) : Calls Tryz.prog 32 #[.nilIface] w fun e w' => e = .returned (.tuple #[.int .i64 0, .int .i64 (-1)]) /\ w' = w := by
 go_enter Tryz.func32, Tryz.ntmps32
 go_wp2
 go_ret2
 exact ⟨rfl, rfl⟩
def sentRow (ad : Nat -> Addr) : Array Value := #[.iface 234 (.pointer (some (ad 0))), .iface 234 (.pointer (some (ad 1))), .iface 234 (.pointer (some (ad 2))), .iface 234 (.pointer (some (ad 3))), .iface 234 (.pointer (some (ad 4))), .iface 234 (.pointer (some (ad 5))), .iface 234 (.pointer (some (ad 6))), .iface 234 (.pointer (some (ad 7))), .iface 234 (.pointer (some (ad 8))), .iface 234 (.pointer (some (ad 9))), .iface 234 (.pointer (some (ad 10))), .iface 234 (.pointer (some (ad 11)))]
theorem sentRow_cell (ad : Nat -> Addr) (w : World) : ∀ k, k < 12 -> (w.alloc (.cells (sentRow ad) 33)).cell? ⟨w.heap.size, k, none⟩ = some (.iface 234 (.pointer (some (ad k)))) := by
 intro k hk
 have e : (sentRow ad)[k]? = some (.iface 234 (.pointer (some (ad k)))) := by
  match k, hk with
  | 0, _ | 1, _ | 2, _ | 3, _ | 4, _ | 5, _ | 6, _ | 7, _ | 8, _ | 9, _ | 10, _ | 11, _ => rfl
 rw [World.cell?_alloc_at _ _ _ _ (by simp)]
 exact e
set_option maxRecDepth 10000 in
set_option maxHeartbeats 4000000 in
theorem code_sent (ad : Nat -> Addr) (i : Nat) (hi : i < 12) (w : World) (hS : Sent w ad) :
 Calls Tryz.prog 32 #[.iface 234 (.pointer (some (ad i)))] w fun e w' => e = .returned (.tuple #[.int .i64 ((i + 1 : Nat) : Int), .int .i64 (-1)]) /\ Below w.heap.size w w' := by
 have hb1 : Below w.heap.size w (w.alloc (.cells #[.pointer none] 114)) := (Below.refl _ _).alloc (Nat.le_refl _) _
 have hS1 := hS.below hb1
 go_enter Tryz.func32, Tryz.ntmps32
 go_wp2_with fail
 refine (as_miss _ _ _ hS1.typ).mono ?_
 rintro e w2 ⟨rfl, hb2⟩
 have hS2 := hS1.below hb2
 have hS2' := hS2
 obtain ⟨c0, c1, c2, c3, c4, c5, c6, c7, c8, c9, c10, c11, _, _, _⟩ := hS2'
 go_wp2
 clear c0 c1 c2 c3 c4 c5 c6 c7 c8 c9 c10 c11 hb1 hS1 hS
 have hb3 : Below w2.heap.size w2 (w2.alloc (.cells (sentRow ad) 33)) := (Below.refl _ _).alloc (Nat.le_refl _) _
 have hS3 := hS2.below hb3
 have hrow := sentRow_cell ad w2
 have hb4 : Hid (Below w.heap.size w (w2.alloc (.cells (sentRow ad) 33))) := (((Below.refl _ _).alloc (Nat.le_refl _) _).trans (hb2.mono (by simp))).trans (hb3.mono (by have := hb2.size; simp at this; omega))
 have e3 : (w2.alloc (.cells (sentRow ad) 33)).heap.size = w2.heap.size + 1 := by simp
 unfold sentRow at hS3 hrow hb4
 generalize w2.alloc (.cells _ 33) = w3 at hS3 hrow hb4 ⊢
 clear hb2 hb3 hS2 e3
 go_loop [3, 30] (fun y x => y = .int .i64 (-1) /\ ∃ k : Nat, k <= i /\ x = .int .i64 k) (fun _ x => 12 - (intOf x).toNat)
 case atStart => exact ⟨rfl, 0, by omega, rfl⟩
 case round =>
  obtain ⟨rfl, k, hk, rfl⟩ := hrel
  have hk12 : k < 12 := by omega
  have hc := hrow k hk12
  obtain ⟨ca, ta, hra⟩ := hS3.row i hi
  obtain ⟨cb, tb, hrb⟩ := hS3.row k hk12
  clear hrow
  by_cases hki : k = i
  ·subst hki
   go_wp2_with (go_at_call 62; refine (is_same (ad k) _).mono ?_; rintro e w' ⟨rfl, rfl⟩)
   go_ret2
   exact ⟨by simp, hb4.out⟩
  ·have hne := hS3.ne i k hi hk12 (fun h => hki h.symm)
   have HN : Hid (ad i ≠ ad k) := hne
   have HA : Hid (w3.heap[(ad i).block]? = some (.cells ca ta (0, 0))) := hra
   have HB : Hid (w3.heap[(ad k).block]? = some (.cells cb tb (0, 0))) := hrb
   clear hne hra hrb
   go_wp2_with (go_at_call 62; refine (is_other (ad i) (ad k) ca cb ta tb _ HN.out HA.out HB.out).mono ?_; rintro e w' ⟨rfl, rfl⟩)
   go_round
   case rel => exact ⟨rfl, k + 1, by omega, by go_num⟩
   case measure => simp [intOf]; omega
end Go.Proofs.YtobmckfcipeanaaGreatDoor
namespace Go.Proofs.YtobmckfcipeanaaGreatDoor
open Go.RowKit
theorem inv_zero (z : Addr) (w : World) (hz : w.cell? ⟨11, 0, none⟩ = some (.iface 234 (.pointer (some z)))) :
 Calls Tryz.prog 162 #[.int .u8 0] w fun e w' => e = .returned (.tuple #[.int .u8 0, .iface 234 (.pointer (some z))]) /\ Below w.heap.size w w' := by
 go_enter Tryz.func162, Tryz.ntmps162
 go_wp2
 go_quiet (fail)
 go_wp2
 go_ret2
 exact ⟨rfl, below_drewN (Below.refl _ _) _⟩
theorem inv_any (a : Nat) (w : World) (ha : a < 256) (h0 : a ≠ 0) :
 Calls Tryz.prog 162 #[.int .u8 (a : Int)] w fun e w' => e = .returned (.tuple #[.int .u8 (Gf.inv a : Nat), .nilIface]) /\ w' = w := by
 have h1 : ((a : Int) == 0) = false := by simpa using h0
 clear h0
 go_enter Tryz.func162, Tryz.ntmps162
 go_wp2_with (go_at_call 171; refine (inverse_any a _ ha).mono ?_; rintro e w' ⟨rfl, rfl⟩)
 go_ret2
 exact ⟨rfl, rfl⟩
end Go.Proofs.YtobmckfcipeanaaGreatDoor
