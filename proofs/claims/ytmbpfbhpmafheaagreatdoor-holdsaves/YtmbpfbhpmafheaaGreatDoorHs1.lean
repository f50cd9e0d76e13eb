/- Texts laid together. -/
import Derived.Test.YtmbpfbhpmafheaaGreatDoorRows
import Derived.ProofKit
import Derived.LaidLaws
import Derived.LaidHandle
import Derived.LaidMore
import Derived.Stop.LaidErr
import Derived.Test.YtmbpfbhpmafheaaGreatDoorProg
import Derived.WalkKit
import Derived.LaidEql
import Derived.Stop.Asserts
import Derived.RowKitTokens
import Derived.Below
import Derived.WalkSmall
import Derived.OwnWalk
import Derived.Laws.AppendOwn
import Derived.Laws.AppendOwnNone
import Derived.Test.YtmbpfbhpmafheaaGreatDoorHs0
import Derived.Laws.BitsAllLaws
import Derived.Laws.BitsLemmas
import Derived.Laws.BytesArg
namespace Go.Proofs.YtmbpfbhpmafheaaGreatDoor
open Go.RowKit
section
open Go.ChangeShapes Go.WideShapes Go.RowKit
def errD (text : List UInt8) : DataW Unit := .iface "*errors.errorString" (.ptr (.agg [.lit (.string text)]))
theorem sents {P : Program} {W : World} {ti tp te ts : TypeId} {ms : Array (String × TypeId)} {f : Field}
    (hi : P.underlying ti = some (.interface ms)) (hrow : ∀ u, P.typeName? 3 u = some "*errors.errorString" → u = tp)
    (hp : P.underlying tp = some (.pointer te)) (he : P.underlying te = some (.struct #[f])) (hft : f.type = ts) (hfo : f.offset = 0) (hs : P.underlying ts = some .string) (hc : P.cellsOf te = 1) (hcs : P.cellsOf ts = 1) :
    ∀ (L : List (String × List UInt8)) (ps : List MemPlace), DataW.LaidVars P W (L.map fun x => (x.1, errD x.2)) ps →
      (∀ x ∈ L, ∃ g, P.globalNamed x.1 = some g ∧ (P.globals[g]?).map (·.type) = some ti) →
      (∀ b off, MemPlace.cell b off ∈ ps → (∃ c t, W.heap[b]? = some (.cells c t (0, 0))) ∧ ∀ u v, W.cell? ⟨b, off, none⟩ = some (.iface u v) → Value.okWide P W .any 0 u v) →
      ∃ ad : Nat → Addr, (∀ i x, L[i]? = some x → MemPlace.cell (ad i).block (ad i).off ∈ ps ∧ W.var? P x.1 = some #[.iface tp (.pointer (some (ad i)))]) ∧
        (ps.Nodup → ∀ i j, i < L.length → j < L.length → i ≠ j → ad i ≠ ad j) := by
  intro L
  induction L with
  | nil =>
    intro ps _ _ _
    exact ⟨fun _ => ⟨0, 0, none⟩, fun i x h => by simp at h, fun _ i j h => by simp at h⟩
  | cons x r ih =>
    intro ps hl hn hr
    obtain ⟨g0, t0, cs0, f0, p0, q0, hg0, ht0, hv0, hd0, hq, rfl⟩ := hl
    obtain ⟨g, hg, ht⟩ := hn x (List.mem_cons_self ..)
    obtain rfl := Option.some.inj (hg.symm.trans hg0)
    obtain rfl := Option.some.inj (ht.symm.trans ht0)
    obtain ⟨ad, h1, h2⟩ := ih q0 hq (fun y hy => hn y (List.mem_cons_of_mem _ hy)) (fun b off hm => hr b off (List.mem_append_right _ hm))
    obtain ⟨l0⟩ := cs0
    have ok0 : ∀ u v, l0 = [.iface u v] → Value.okWide P W .any 0 u v := fun u v e => by
      subst e
      exact (hr g 0 (by simp [MemPlace.row])).2 u v (by simpa using World.var?_cell hg0 hv0 0)
    obtain ⟨a0, s0, rfl, hc0, hs0, hz0, rfl⟩ := errorString_of_trod hi hrow hp he hft hfo hs hc hcs hd0 ok0
    refine ⟨fun i => match i with | 0 => a0 | k + 1 => ad k, ?_, ?_⟩
    · intro i y hy
      match i with
      | 0 =>
        obtain rfl : x = y := by simpa using hy
        exact ⟨by simp [MemPlace.row], hv0⟩
      | k + 1 =>
        have := h1 k y (by simpa using hy)
        exact ⟨List.mem_append_right _ this.1, this.2⟩
    · intro hnd i j hi' hj' hij
      have hq' : q0.Nodup := List.Nodup.sublist (List.sublist_append_right _ _) hnd
      have hd : ∀ k, k < r.length → a0 ≠ ad k := by
        intro k hk e
        obtain ⟨y, hy⟩ : ∃ y, r[k]? = some y := ⟨r[k], List.getElem?_eq_getElem hk⟩
        have hm := (h1 k y hy).1
        rw [← e] at hm
        have hdis := (List.nodup_append.1 hnd).2.2
        exact hdis _ (List.mem_append_right _ (by simp [MemPlace.row])) _ hm rfl
      match i, j, hi', hj', hij with
      | 0, 0, _, _, h => exact absurd rfl h
      | 0, k + 1, _, hk, _ => exact hd k (by simpa using hk)
      | k + 1, 0, hk, _, _ => exact (hd k (by simpa using hk)).symm
      | k + 1, m + 1, hk, hm, hne => exact h2 hq' k m (by simpa using hk) (by simpa using hm) (fun e => hne (by rw [e]))

/-- What is laid ahead of others: what is left behind it. -/
theorem laid_peel {P : Program} {W : World} : ∀ (L M : List (String × DataW Unit)) (ps : List MemPlace), DataW.LaidVars P W (L ++ M) ps → ∃ p q, ps = p ++ q ∧ DataW.LaidVars P W M q
  | [], _, ps, h => ⟨[], ps, rfl, h⟩
  | x :: L, M, ps, h => by
    obtain ⟨g0, t0, cs0, f0, p0, q0, hg0, ht0, hv0, hd0, hq, rfl⟩ := h
    obtain ⟨p, q, rfl, h2⟩ := laid_peel L M q0 hq
    exact ⟨_, q, (List.append_assoc _ _ _).symm, h2⟩
theorem star_es : "*" ++ "errors.errorString" = "*errors.errorString" := by kernel_rfl
theorem row_es (u : TypeId) (h : Tryz.prog.typeName? 3 u = some "*errors.errorString") : u = 206 :=
  typeName_ptr_named (nm := "errors.errorString") (by rw [star_es]; kernel_rfl) (by kernel_rfl) (by decide) u (by rw [star_es]; exact h)
end
section
open Go.Extern.Stop Go.Stop Go.Extern

theorem isTypeOf (v : Value) (w : World) : (Extern.ReflectliteType.typeOf #[.iface 206 v]).run Tryz.prog w = .ok (.iface 147 (.agg #[.pointer (some ⟨19, 206, none⟩)])) w := by kernel_rfl
def cmpEntry : Array Value → Sem Value := Extern.ReflectliteType.method fun t => do Rtype.noPackHeld "Comparable" t; pure (.bool (← typeInfo t).comparable)
theorem isComparable (w : World) : (cmpEntry #[.agg #[.pointer (some ⟨19, 206, none⟩)]]).run Tryz.prog w = .ok (.bool true) w := by kernel_rfl
theorem isMethodComparable (v : Value) (w : World) : (Go.method 337 147 v "Comparable").run Tryz.prog w = .ok (169, v) w := by kernel_rfl
theorem isComp : (Tryz.prog.info? 206).map (·.comparable) = some true := by kernel_rfl
theorem isSize : (Tryz.prog.info? 208).map (·.size) = some 1 := by kernel_rfl
theorem noIsE (v : Value) (xT : TypeId) (w : World) : (Instr.typeAssert (.iface 206 v) xT 158 true).run Tryz.prog w = .ok (.tuple #[.nilIface, .bool false]) w := run_typeAssert_lacksB Tryz.underlying158 (by kernel_rfl) (by kernel_rfl) v xT w
theorem noAsE (v : Value) (xT : TypeId) (w : World) : (Instr.typeAssert (.iface 206 v) xT 151 true).run Tryz.prog w = .ok (.tuple #[.nilIface, .bool false]) w := run_typeAssert_lacksB Tryz.underlying151 (by kernel_rfl) (by kernel_rfl) v xT w
theorem noUnwrapE (v : Value) (xT : TypeId) (w : World) : (Instr.typeAssert (.iface 206 v) xT 154 true).run Tryz.prog w = .ok (.tuple #[.nilIface, .bool false]) w := run_typeAssert_lacksB Tryz.underlying154 (by kernel_rfl) (by kernel_rfl) v xT w
theorem noUnwrapsE (v : Value) (xT : TypeId) (w : World) : (Instr.typeAssert (.iface 206 v) xT 156 true).run Tryz.prog w = .ok (.tuple #[.nilIface, .bool false]) w := run_typeAssert_lacksB Tryz.underlying156 (by kernel_rfl) (by kernel_rfl) v xT w

set_option maxRecDepth 10000 in
/-- errors.Is(x, x), x a pointer to an errors.errorString. -/
theorem is_same (a : Addr) (w : World) :
    Calls Tryz.prog 55 #[.iface 206 (.pointer (some a)), .iface 206 (.pointer (some a))] w fun e w' => e = .returned (.bool true) ∧ w' = w := by
  obtain ⟨i, hi, hcmp⟩ := Option.map_eq_some_iff.1 isComp
  obtain ⟨j, hj, hjs⟩ := Option.map_eq_some_iff.1 isSize
  have h8 := @run_callFunc_extern Tryz.prog 82 _ Extern.ReflectliteType.typeOf Tryz.func82 (by kernel_rfl) (by kernel_rfl) (by kernel_rfl) (by kernel_rfl)
  have h32 := @run_callFunc_extern Tryz.prog 169 _ cmpEntry Tryz.func169 (by kernel_rfl) (by kernel_rfl) (by kernel_rfl) (by kernel_rfl)
  have tT := isTypeOf
  have cT := isComparable
  have mR := isMethodComparable
  have heq := run_eql_iface_ptr_same (P := Tryz.prog) w a Tryz.underlying25 Tryz.underlying206 hi hcmp hj
  go_enter Tryz.func55, Tryz.ntmps55
  go_wp2
  refine wp_loop_rounds 1 ?_
  rw [rounds_succ]
  go_wp2
  go_ret
  exact ⟨rfl, rfl⟩

set_option maxRecDepth 10000 in
/-- errors.Is(x, y), two different pointers to errors.errorString: neither has Is nor Unwrap: false. -/
theorem is_other (a b : Addr) (ca cb : Array Value) (ta tb : TypeId) (w : World) (hne : a ≠ b) (ha : w.heap[a.block]? = some (.cells ca ta (0, 0))) (hb : w.heap[b.block]? = some (.cells cb tb (0, 0))) :
    Calls Tryz.prog 55 #[.iface 206 (.pointer (some a)), .iface 206 (.pointer (some b))] w fun e w' => e = .returned (.bool false) ∧ w' = w := by
  obtain ⟨i, hi, hcmp⟩ := Option.map_eq_some_iff.1 isComp
  obtain ⟨j, hj, hjs⟩ := Option.map_eq_some_iff.1 isSize
  have h8 := @run_callFunc_extern Tryz.prog 82 _ Extern.ReflectliteType.typeOf Tryz.func82 (by kernel_rfl) (by kernel_rfl) (by kernel_rfl) (by kernel_rfl)
  have h32 := @run_callFunc_extern Tryz.prog 169 _ cmpEntry Tryz.func169 (by kernel_rfl) (by kernel_rfl) (by kernel_rfl) (by kernel_rfl)
  have tT := isTypeOf
  have cT := isComparable
  have mR := isMethodComparable
  have nE := noIsE
  have uE := noUnwrapE
  have vE := noUnwrapsE
  have heq := run_eql_iface_ptr_other (P := Tryz.prog) w Tryz.underlying25 Tryz.underlying206 hi hcmp hj (by rw [hjs]; decide) hne ha hb
  go_enter Tryz.func55, Tryz.ntmps55
  go_wp2
  refine wp_loop_rounds 1 ?_
  rw [rounds_succ]
  go_wp2
  go_ret
  exact ⟨rfl, rfl⟩

/-! Closed facts on the entries for internal/reflectlite that errors.As comes to. -/
theorem valueOfFF (t : Addr) (w : World) : (ReflectliteValue.unpack (.iface 103 (.pointer (some t)))).run Tryz.prog w
    = .ok (.agg #[.pointer (some ⟨19, 103, none⟩), .pointer (some ⟨w.heap.size, 0, none⟩), .int .u64 150]) (w.alloc (.cells #[.pointer (some t)] 103)) := by kernel_rfl
theorem typeFF (a : Addr) (w : World) : (ReflectliteValue.methodAny (ReflectliteValue.valueError "reflectlite.Value.Type" 0) (fun t _ _ _ => ReflectliteType.toType t) #[.agg #[.pointer (some ⟨19, 103, none⟩), .pointer (some a), .int .u64 150]]).run Tryz.prog w
    = .ok (.iface 147 (.agg #[.pointer (some ⟨19, 103, none⟩)])) w := by kernel_rfl
theorem methodKind (h : Value) (w : World) : (Go.method 337 147 (.agg #[h]) "Kind").run Tryz.prog w = .ok (158, h) w := by kernel_rfl
theorem kindFF (w : World) : ((ReflectliteType.abiMethod fun t => (fun a : Nat => Value.int IntKind.u8 (a : Int)) <$> Rtype.kind t) #[.pointer (some ⟨19, 103, none⟩)]).run Tryz.prog w = .ok (.int .u8 22) w := by kernel_rfl
theorem kindF (w : World) : ((ReflectliteType.abiMethod fun t => (fun a : Nat => Value.int IntKind.u8 (a : Int)) <$> Rtype.kind t) #[.pointer (some ⟨19, 101, none⟩)]).run Tryz.prog w = .ok (.int .u8 22) w := by kernel_rfl
theorem rlm (z : Sem Value) (f : TypeId → Addr → Nat → Nat → Sem Value) (v : Value) :
    ReflectliteValue.method z f #[v] = (do match ← ReflectliteValue.parts v with | none => z | some (t, a, fl) => f t a fl (fl % 32)) := rfl
theorem partsFF (a : Addr) (w : World) : (ReflectliteValue.parts (.agg #[.pointer (some ⟨19, 103, none⟩), .pointer (some a), .int .u64 150])).run Tryz.prog w = .ok (some (103, a, 150)) w := by kernel_rfl
theorem isNilFF (a p : Addr) (W : World) (ha : W.cell? a = some (.pointer (some p))) :
    (ReflectliteValue.method (ReflectliteValue.valueError "reflectlite.Value.IsNil" 0) ReflectliteValue.isNil #[.agg #[.pointer (some ⟨19, 103, none⟩), .pointer (some a), .int .u64 150]]).run Tryz.prog W = .ok (.bool false) W := by
  rw [rlm]
  simp only [Sem.run_bind, partsFF, Result.andThen]
  simp [ReflectliteValue.isNil, loadVar, isAgg, underlying, Tryz.underlying103, ha, Result.andThen]
theorem methodElem (h : Value) (w : World) : (Go.method 337 147 (.agg #[h]) "Elem").run Tryz.prog w = .ok (170, .agg #[h]) w := by kernel_rfl
theorem methodImplements (h : Value) (w : World) : (Go.method 337 147 (.agg #[h]) "Implements").run Tryz.prog w = .ok (171, .agg #[h]) w := by kernel_rfl
theorem methodAssignableTo (h : Value) (w : World) : (Go.method 337 147 (.agg #[h]) "AssignableTo").run Tryz.prog w = .ok (168, .agg #[h]) w := by kernel_rfl
theorem elemFF (w : World) : (ReflectliteType.method ReflectliteType.elem #[.agg #[.pointer (some ⟨19, 103, none⟩)]]).run Tryz.prog w = .ok (.iface 147 (.agg #[.pointer (some ⟨19, 101, none⟩)])) w := by kernel_rfl
theorem implementsF (w : World) : (ReflectliteType.relation "Implements" ReflectliteType.implements_ #[.agg #[.pointer (some ⟨19, 101, none⟩)], .iface 147 (.agg #[.pointer (some ⟨19, 25, none⟩)])]).run Tryz.prog w = .ok (.bool true) w := by kernel_rfl
theorem assignableE (w : World) : (ReflectliteType.relation "AssignableTo" ReflectliteType.assignableTo #[.agg #[.pointer (some ⟨19, 206, none⟩)], .iface 147 (.agg #[.pointer (some ⟨19, 101, none⟩)])]).run Tryz.prog w = .ok (.bool false) w := by kernel_rfl

set_option maxRecDepth 10000 in
set_option maxHeartbeats 4000000 in
/-- errors.As of an errors.errorString, the target a **api.Fault: false; nothing old is written. -/
theorem as_miss (e t : Addr) (w : World) (hg : w.cell? ⟨12, 0, none⟩ = some (.iface 147 (.agg #[.pointer (some ⟨19, 25, none⟩)]))) :
    Calls Tryz.prog 54 #[.iface 206 (.pointer (some e)), .iface 103 (.pointer (some t))] w fun ev w' => ev = .returned (.bool false) ∧ Below w.heap.size w w' := by
  have h6 := @run_callFunc_extern Tryz.prog 78 _ (fun args => ReflectliteValue.unpack (args.getD 0 (.tuple #[]))) Tryz.func78 (by kernel_rfl) (by kernel_rfl) (by kernel_rfl) (by kernel_rfl)
  have h7 := @run_callFunc_extern Tryz.prog 79 _ (ReflectliteValue.methodAny (ReflectliteValue.valueError "reflectlite.Value.Type" 0) (fun t _ _ _ => ReflectliteType.toType t)) Tryz.func79 (by kernel_rfl) (by kernel_rfl) (by kernel_rfl) (by kernel_rfl)
  have h8 := @run_callFunc_extern Tryz.prog 80 _ (ReflectliteValue.method (ReflectliteValue.valueError "reflectlite.Value.IsNil" 0) ReflectliteValue.isNil) Tryz.func80 (by kernel_rfl) (by kernel_rfl) (by kernel_rfl) (by kernel_rfl)
  have h27 := @run_callFunc_extern Tryz.prog 158 _ (ReflectliteType.abiMethod fun t => do pure (.int .u8 (← Rtype.kind t))) Tryz.func158 (by kernel_rfl) (by kernel_rfl) (by kernel_rfl) (by kernel_rfl)
  have h37 := @run_callFunc_extern Tryz.prog 170 _ (ReflectliteType.method ReflectliteType.elem) Tryz.func170 (by kernel_rfl) (by kernel_rfl) (by kernel_rfl) (by kernel_rfl)
  have h38 := @run_callFunc_extern Tryz.prog 171 _ (ReflectliteType.relation "Implements" ReflectliteType.implements_) Tryz.func171 (by kernel_rfl) (by kernel_rfl) (by kernel_rfl) (by kernel_rfl)
  have h10 := @run_callFunc_extern Tryz.prog 82 _ ReflectliteType.typeOf Tryz.func82 (by kernel_rfl) (by kernel_rfl) (by kernel_rfl) (by kernel_rfl)
  have h35 := @run_callFunc_extern Tryz.prog 168 _ (ReflectliteType.relation "AssignableTo" ReflectliteType.assignableTo) Tryz.func168 (by kernel_rfl) (by kernel_rfl) (by kernel_rfl) (by kernel_rfl)
  have tO := isTypeOf
  have mA := methodAssignableTo
  have aE := assignableE
  have f6 := valueOfFF
  have f7 := typeFF
  have mK := methodKind
  have mE := methodElem
  have mI := methodImplements
  have kFF := kindFF
  have kF := kindF
  have eFF := elemFF
  have iF := implementsF
  have xA := noAsE
  have xU := noUnwrapE
  have xV := noUnwrapsE
  have n8 := isNilFF ⟨w.heap.size, 0, none⟩ t ((w.alloc (.cells #[.pointer (some t)] 103)).alloc (.cells #[.pointer (some ⟨19, 103, none⟩), .pointer (some ⟨w.heap.size, 0, none⟩), .int .u64 150] 127)) (by simp)
  have hlt : 12 < w.heap.size := by
    rcases Nat.lt_or_ge 12 w.heap.size with h | h
    · exact h
    · simp [World.cell?, Array.getElem?_eq_none h] at hg
  have hg2 : ((w.alloc (.cells #[.pointer (some t)] 103)).alloc (.cells #[.pointer (some ⟨19, 103, none⟩), .pointer (some ⟨w.heap.size, 0, none⟩), .int .u64 150] 127)).cell? ⟨12, 0, none⟩ = some (.iface 147 (.agg #[.pointer (some ⟨19, 25, none⟩)])) := by
    rw [World.cell?_alloc_lt _ _ ⟨12, 0, none⟩ (by simp; omega), World.cell?_alloc_lt _ _ ⟨12, 0, none⟩ hlt]; exact hg
  go_enter Tryz.func54, Tryz.ntmps54
  go_wp2
  refine wp_loop_rounds 1 ?_
  rw [rounds_succ]
  go_wp2
  go_ret
  exact ⟨rfl, (((Below.refl _ _).alloc (Nat.le_refl _) _).alloc (by simp) _).alloc (by simp; omega) _⟩
end
section
open Go.Extern.Stop Go.Stop Go.Extern

/-- The package-level variables lie as the program's text lays them: twelve errors, each its own pointer, and errors.errorType. -/
structure Sent (w : World) (ad : Nat → Addr) : Prop where
  c0 : w.cell? ⟨0, 0, none⟩ = some (.iface 206 (.pointer (some (ad 0))))
  c1 : w.cell? ⟨3, 0, none⟩ = some (.iface 206 (.pointer (some (ad 1))))
  c2 : w.cell? ⟨7, 0, none⟩ = some (.iface 206 (.pointer (some (ad 2))))
  c3 : w.cell? ⟨2, 0, none⟩ = some (.iface 206 (.pointer (some (ad 3))))
  c4 : w.cell? ⟨8, 0, none⟩ = some (.iface 206 (.pointer (some (ad 4))))
  c5 : w.cell? ⟨4, 0, none⟩ = some (.iface 206 (.pointer (some (ad 5))))
  c6 : w.cell? ⟨5, 0, none⟩ = some (.iface 206 (.pointer (some (ad 6))))
  c7 : w.cell? ⟨9, 0, none⟩ = some (.iface 206 (.pointer (some (ad 7))))
  c8 : w.cell? ⟨6, 0, none⟩ = some (.iface 206 (.pointer (some (ad 8))))
  c9 : w.cell? ⟨1, 0, none⟩ = some (.iface 206 (.pointer (some (ad 9))))
  c10 : w.cell? ⟨10, 0, none⟩ = some (.iface 206 (.pointer (some (ad 10))))
  c11 : w.cell? ⟨11, 0, none⟩ = some (.iface 206 (.pointer (some (ad 11))))
  typ : w.cell? ⟨12, 0, none⟩ = some (.iface 147 (.agg #[.pointer (some ⟨19, 25, none⟩)]))
  row : ∀ i, i < 12 → ∃ c t, w.heap[(ad i).block]? = some (.cells c t (0, 0))
  ne : ∀ i j, i < 12 → j < 12 → i ≠ j → ad i ≠ ad j

theorem lt_of_cell {w : World} {b o : Nat} {v : Value} (h : w.cell? ⟨b, o, none⟩ = some v) : b < w.heap.size := by
  rcases Nat.lt_or_ge b w.heap.size with h' | h'
  · exact h'
  · simp [World.cell?, Array.getElem?_eq_none h'] at h
theorem lt_of_row {w : World} {b : Nat} {o : Obj} (h : w.heap[b]? = some o) : b < w.heap.size := by
  rcases Nat.lt_or_ge b w.heap.size with h' | h'
  · exact h'
  · rw [Array.getElem?_eq_none h'] at h; cases h
theorem Sent.below {w w' : World} {ad : Nat → Addr} (h : Sent w ad) (hb : Below w.heap.size w w') : Sent w' ad where
  c0 := (hb.cell (lt_of_cell h.c0)).trans h.c0
  c1 := (hb.cell (lt_of_cell h.c1)).trans h.c1
  c2 := (hb.cell (lt_of_cell h.c2)).trans h.c2
  c3 := (hb.cell (lt_of_cell h.c3)).trans h.c3
  c4 := (hb.cell (lt_of_cell h.c4)).trans h.c4
  c5 := (hb.cell (lt_of_cell h.c5)).trans h.c5
  c6 := (hb.cell (lt_of_cell h.c6)).trans h.c6
  c7 := (hb.cell (lt_of_cell h.c7)).trans h.c7
  c8 := (hb.cell (lt_of_cell h.c8)).trans h.c8
  c9 := (hb.cell (lt_of_cell h.c9)).trans h.c9
  c10 := (hb.cell (lt_of_cell h.c10)).trans h.c10
  c11 := (hb.cell (lt_of_cell h.c11)).trans h.c11
  typ := (hb.cell (lt_of_cell h.typ)).trans h.typ
  row := fun i hi => by
    obtain ⟨c, t, hc⟩ := h.row i hi
    exact ⟨c, t, (hb.block _ (lt_of_row hc)).trans hc⟩
  ne := h.ne

theorem code_nil (w : World) : Calls Tryz.prog 24 #[.nilIface] w fun e w' => e = .returned (.tuple #[.int .i64 0, .int .i64 (-1)]) ∧ w' = w := by
  go_enter Tryz.func24, Tryz.ntmps24
  go_wp2
  go_ret2
  exact ⟨rfl, rfl⟩
/-- The row of the twelve errors. -/
def sentRow (ad : Nat → Addr) : Array Value := #[.iface 206 (.pointer (some (ad 0))), .iface 206 (.pointer (some (ad 1))), .iface 206 (.pointer (some (ad 2))), .iface 206 (.pointer (some (ad 3))), .iface 206 (.pointer (some (ad 4))), .iface 206 (.pointer (some (ad 5))), .iface 206 (.pointer (some (ad 6))), .iface 206 (.pointer (some (ad 7))), .iface 206 (.pointer (some (ad 8))), .iface 206 (.pointer (some (ad 9))), .iface 206 (.pointer (some (ad 10))), .iface 206 (.pointer (some (ad 11)))]
theorem sentRow_cell (ad : Nat → Addr) (w : World) : ∀ k, k < 12 → (w.alloc (.cells (sentRow ad) 25)).cell? ⟨w.heap.size, k, none⟩ = some (.iface 206 (.pointer (some (ad k)))) := by
  intro k hk
  have e : (sentRow ad)[k]? = some (.iface 206 (.pointer (some (ad k)))) := by
    match k, hk with
    | 0, _ | 1, _ | 2, _ | 3, _ | 4, _ | 5, _ | 6, _ | 7, _ | 8, _ | 9, _ | 10, _ | 11, _ => rfl
  rw [World.cell?_alloc_at _ _ _ _ (by simp)]
  exact e
set_option maxRecDepth 10000 in
set_option maxHeartbeats 4000000 in
theorem code_sent (ad : Nat → Addr) (i : Nat) (hi : i < 12) (w : World) (hS : Sent w ad) :
    Calls Tryz.prog 24 #[.iface 206 (.pointer (some (ad i)))] w fun e w' => e = .returned (.tuple #[.int .i64 ((i + 1 : Nat) : Int), .int .i64 (-1)]) ∧ Below w.heap.size w w' := by
  have hb1 : Below w.heap.size w (w.alloc (.cells #[.pointer none] 101)) := (Below.refl _ _).alloc (Nat.le_refl _) _
  have hS1 := hS.below hb1
  go_enter Tryz.func24, Tryz.ntmps24
  go_wp2_with fail
  refine (as_miss _ _ _ hS1.typ).mono ?_
  rintro e w2 ⟨rfl, hb2⟩
  have hS2 := hS1.below hb2
  have hS2' := hS2
  obtain ⟨c0, c1, c2, c3, c4, c5, c6, c7, c8, c9, c10, c11, _, _, _⟩ := hS2'
  go_wp2
  clear c0 c1 c2 c3 c4 c5 c6 c7 c8 c9 c10 c11 hb1 hS1 hS
  have hb3 : Below w2.heap.size w2 (w2.alloc (.cells (sentRow ad) 25)) := (Below.refl _ _).alloc (Nat.le_refl _) _
  have hS3 := hS2.below hb3
  have hrow := sentRow_cell ad w2
  have hb4 : Hid (Below w.heap.size w (w2.alloc (.cells (sentRow ad) 25))) := (((Below.refl _ _).alloc (Nat.le_refl _) _).trans (hb2.mono (by simp))).trans (hb3.mono (by have := hb2.size; simp at this; omega))
  have e3 : (w2.alloc (.cells (sentRow ad) 25)).heap.size = w2.heap.size + 1 := by simp
  unfold sentRow at hS3 hrow hb4
  generalize w2.alloc (.cells _ 25) = w3 at hS3 hrow hb4 ⊢
  clear hb2 hb3 hS2 e3
  go_loop [3, 30] (fun y x => y = .int .i64 (-1) ∧ ∃ k : Nat, k ≤ i ∧ x = .int .i64 k) (fun _ x => 12 - (intOf x).toNat)
  case atStart => exact ⟨rfl, 0, by omega, rfl⟩
  case round =>
    obtain ⟨rfl, k, hk, rfl⟩ := hrel
    have hk12 : k < 12 := by omega
    have hc := hrow k hk12
    obtain ⟨ca, ta, hra⟩ := hS3.row i hi
    obtain ⟨cb, tb, hrb⟩ := hS3.row k hk12
    clear hrow
    by_cases hki : k = i
    · subst hki
      go_wp2_with (go_at_call 55; refine (is_same (ad k) _).mono ?_; rintro e w' ⟨rfl, rfl⟩)
      go_ret2
      exact ⟨by simp, hb4.out⟩
    · have hne := hS3.ne i k hi hk12 (fun h => hki h.symm)
      have HN : Hid (ad i ≠ ad k) := hne
      have HA : Hid (w3.heap[(ad i).block]? = some (.cells ca ta (0, 0))) := hra
      have HB : Hid (w3.heap[(ad k).block]? = some (.cells cb tb (0, 0))) := hrb
      clear hne hra hrb
      go_wp2_with (go_at_call 55; refine (is_other (ad i) (ad k) ca cb ta tb _ HN.out HA.out HB.out).mono ?_; rintro e w' ⟨rfl, rfl⟩)
      go_round
      case rel => exact ⟨rfl, k + 1, by omega, by go_num⟩
      case measure => simp [intOf]; omega
end
section
/-- How a record lies in its k cells. -/
structure Enc (α : Type) where
  k : Nat
  pos : 0 < k
  enc : α → List Value
  len : ∀ x, (enc x).length = k
  one : ∀ x, ∀ u ∈ enc x, u.oneCell' = true
variable {α : Type} {E : Enc α}
/-- The cells of records. -/
def recVals (E : Enc α) (l : List α) : List Value := l.flatMap E.enc
theorem recVals_length (E : Enc α) : ∀ l : List α, (recVals E l).length = l.length * E.k
  | [] => by simp [recVals]
  | x :: l => by
    have := recVals_length E l
    unfold recVals at this ⊢
    rw [List.flatMap_cons, List.length_append, this, E.len, List.length_cons, Nat.add_mul, Nat.one_mul, Nat.add_comm]
theorem recVals_append (E : Enc α) (l m : List α) : recVals E (l ++ m) = recVals E l ++ recVals E m := by unfold recVals; rw [List.flatMap_append]
theorem recVals_one (E : Enc α) (x : α) : recVals E [x] = E.enc x := by simp [recVals]
theorem recVals_at (E : Enc α) : ∀ (l : List α) (i : Nat) (x : α), l[i]? = some x → ∀ j u, (E.enc x)[j]? = some u → (recVals E l)[i * E.k + j]? = some u
  | [], i, x, h, _, _, _ => by simp at h
  | y :: l, 0, x, h, j, u, hj => by
    obtain rfl : y = x := by simpa using h
    unfold recVals
    rw [List.flatMap_cons, Nat.zero_mul, Nat.zero_add, List.getElem?_append_left (List.getElem?_eq_some_iff.1 hj).1]
    exact hj
  | y :: l, i + 1, x, h, j, u, hj => by
    have ih := recVals_at E l i x (by simpa using h) j u hj
    unfold recVals at ih ⊢
    rw [List.flatMap_cons, List.getElem?_append_right (by rw [E.len]; have := Nat.le_mul_of_pos_left E.k (show 0 < i + 1 by omega); omega), E.len]
    have e : (i + 1) * E.k + j - E.k = i * E.k + j := by rw [Nat.add_mul, Nat.one_mul]; omega
    rw [e]
    exact ih
/-- In the world w the records l lie from p on. -/
def Rec (E : Enc α) (w : World) (p : Option Addr) (l : List α) : Prop :=
  l = [] ∨ ∃ b o, p = some ⟨b, o, none⟩ ∧ b < w.heap.size ∧ ∀ i x, l[i]? = some x → ∀ j u, (E.enc x)[j]? = some u → w.cell? ⟨b, o + i * E.k + j, none⟩ = some u
theorem Rec.nil (w : World) (p : Option Addr) : Rec E w p [] := Or.inl rfl
theorem Rec.drewN {w : World} {p : Option Addr} {l : List α} (h : Rec E w p l) (n : Nat) : Rec E (w.drewN n) p l := h
theorem Rec.below {w w' : World} {p : Option Addr} {l : List α} (h : Rec E w p l) (hb : Below w.heap.size w w') : Rec E w' p l := by
  rcases h with h | ⟨b, o, hp, hlt, hc⟩
  · exact Or.inl h
  · exact Or.inr ⟨b, o, hp, Nat.lt_of_lt_of_le hlt hb.size, fun i x hx j u hu => (hb.cell (p := ⟨b, o + i * E.k + j, none⟩) hlt).trans (hc i x hx j u hu)⟩
theorem Rec.belowAt {w w' : World} {p : Option Addr} {l : List α} {B : Nat} (h : Rec E w p l) (hb : Below B w w') (hB : ∀ b o, p = some ⟨b, o, none⟩ → b < B) : Rec E w' p l := by
  rcases h with h | ⟨b, o, hp, hlt, hc⟩
  · exact Or.inl h
  · exact Or.inr ⟨b, o, hp, Nat.lt_of_lt_of_le hlt hb.size, fun i x hx j u hu => (hb.cell (p := ⟨b, o + i * E.k + j, none⟩) (hB b o hp)).trans (hc i x hx j u hu)⟩
theorem Rec.take {w : World} {p : Option Addr} {l : List α} (h : Rec E w p l) (m : Nat) : Rec E w p (l.take m) := by
  rcases h with h | ⟨b, o, hp, hlt, hc⟩
  · exact Or.inl (by rw [h, List.take_nil])
  · refine Or.inr ⟨b, o, hp, hlt, fun i x hx j u hu => hc i x ?_ j u hu⟩
    rw [List.getElem?_take] at hx
    split at hx
    · exact hx
    · cases hx
/-- Where they lie from record m on. -/
theorem Rec.drop {w : World} {p : Option Addr} {l : List α} {c m : Nat} (h : Rec E w p l) (hm : m ≤ l.length) (hc : l.length ≤ c) (hn : p = none → l = [] ∧ c = 0) :
    Rec E w (if c = m then p else p.map (·.add (m * E.k))) (l.drop m) ∧ ((if c = m then p else p.map (·.add (m * E.k))) = none → l.drop m = [] ∧ c - m = 0) := by
  by_cases e : c = m
  · rw [if_pos e]
    have h0 : l.drop m = [] := List.drop_eq_nil_of_le (by omega)
    exact ⟨Or.inl h0, fun _ => ⟨h0, by omega⟩⟩
  · rw [if_neg e]
    cases p with
    | none =>
      obtain ⟨h1, h2⟩ := hn rfl
      rw [h1] at hm
      simp at hm
      omega
    | some a =>
      refine ⟨?_, fun h0 => by cases h0⟩
      rcases h with h | ⟨b, o, hp, hlt, hcell⟩
      · exact Or.inl (by rw [h, List.drop_nil])
      · obtain rfl : a = ⟨b, o, none⟩ := by simpa using hp
        refine Or.inr ⟨b, o + m * E.k, by simp [Addr.add_lit], hlt, fun i x hx j u hu => ?_⟩
        rw [List.getElem?_drop] at hx
        have := hcell (m + i) x hx j u hu
        rw [Nat.add_mul, ← Nat.add_assoc] at this
        exact this
/-- v owns the records l in a row from block B on. -/
def OwnR (E : Enc α) (T : TypeId) (w : World) (B : Nat) (v : Value) (l : List α) : Prop := w.ownsRow B T E.k v l.length (recVals E l)
theorem OwnR.nil (T : TypeId) (w : World) (B : Nat) : OwnR E T w B (.slice none 0 0) [] := World.ownsRow_nil w B T E.k
theorem OwnR.block {T : TypeId} {w : World} {B : Nat} {v : Value} {l : List α} (h : OwnR E T w B v l) {k : Nat} (hk : v.ownBlock = some k) : B ≤ k ∧ k < w.heap.size := World.ownsRow.lt h k hk
theorem OwnR.kept {T : TypeId} {w w' : World} {B : Nat} {v : Value} {l : List α} (h : OwnR E T w B v l) (hb : Below w.heap.size w w') : OwnR E T w' B v l :=
  World.ownsRow.kept (row := none) h ⟨hb.os, hb.tape, hb.output, hb.size, fun k hk _ => hb.block k hk⟩ (by cases v.ownBlock <;> simp)
theorem OwnR.base {T : TypeId} {w : World} {B B' : Nat} {v : Value} {l : List α} (h : OwnR E T w B v l) (hb : B' ≤ B) : OwnR E T w B' v l := by
  obtain ⟨h1, h2⟩ := h
  refine ⟨h1, ?_⟩
  rcases h2 with h2 | ⟨g, cap, cur, hv, hbg, hrest⟩
  · exact Or.inl h2
  · exact Or.inr ⟨g, cap, cur, hv, Nat.le_trans hb hbg, hrest⟩
theorem OwnR.form {T : TypeId} {w : World} {B : Nat} {v : Value} {l : List α} (h : OwnR E T w B v l) : ∃ p c, v = .slice p l.length c ∧ Rec E w p l ∧ l.length ≤ c ∧ (p = none → l = [] ∧ c = 0) ∧ ∀ b o, p = some ⟨b, o, none⟩ → B ≤ b ∧ b < w.heap.size := by
  have h0 : w.ownsRow B T E.k v l.length (recVals E l) := h
  rcases h0.2 with ⟨rfl, hz⟩ | ⟨g, cap, cur, rfl, hb, hg, hnc, hcm, hcs, htake⟩
  · have e : l = [] := List.length_eq_zero_iff.1 hz
    subst e
    exact ⟨none, 0, rfl, Or.inl rfl, Nat.le_refl _, fun _ => ⟨rfl, rfl⟩, fun _ _ h => by cases h⟩
  · have hlt : g < w.heap.size := (Array.getElem?_eq_some_iff.1 hg).1
    refine ⟨some ⟨g, 0, none⟩, cap, rfl, Or.inr ⟨g, 0, rfl, hlt, fun i x hx j u hu => ?_⟩, hnc, fun h => (by cases h), fun b o h => ?_⟩
    · have hc := World.ownsRow.cells (g := g) h0 rfl (i * E.k + j) u (recVals_at E l i x hx j u hu)
      rw [Addr.add_lit] at hc
      rw [Nat.add_assoc]
      exact hc
    · obtain ⟨rfl, rfl⟩ : g = b ∧ 0 = o := by simpa using h
      exact ⟨hb, hlt⟩
theorem recVals_one' (E : Enc α) (l : List α) : ∀ u ∈ recVals E l, u.oneCell' = true := fun u hu => by
  obtain ⟨x, _, hx⟩ := List.mem_flatMap.1 hu
  exact E.one x u hx
theorem Rec.cells {w : World} {b o : Nat} {l : List α} (hc : ∀ i x, l[i]? = some x → ∀ j u, (E.enc x)[j]? = some u → w.cell? ⟨b, o + i * E.k + j, none⟩ = some u) : ∀ j u, (recVals E l)[j]? = some u → w.cell? ((⟨b, o, none⟩ : Addr).add j) = some u := by
  intro j u hj
  have hjl : j < (recVals E l).length := (List.getElem?_eq_some_iff.1 hj).1
  rw [recVals_length] at hjl
  have hk := E.pos
  have hi : j / E.k < l.length := (Nat.div_lt_iff_lt_mul hk).2 hjl
  have hr : j % E.k < E.k := Nat.mod_lt _ hk
  have hx : l[j / E.k]? = some l[j / E.k] := List.getElem?_eq_getElem hi
  have hu : (E.enc l[j / E.k])[j % E.k]? = some ((E.enc l[j / E.k])[j % E.k]'(by rw [E.len]; exact hr)) := List.getElem?_eq_getElem (by rw [E.len]; exact hr)
  have h1 := recVals_at E l (j / E.k) _ hx (j % E.k) _ hu
  have h2 := hc (j / E.k) _ hx (j % E.k) _ hu
  have ej : j / E.k * E.k + j % E.k = j := by rw [Nat.mul_comm]; exact Nat.div_add_mod j E.k
  rw [ej] at h1
  rw [Nat.add_assoc, ej] at h2
  rw [Addr.add_lit, h2, ← h1, hj]
section
variable {w : World}
theorem wpList_append_recs {ops : Array Oper} {rest : List Oper} {o : Oper} {a : Act} {Q : Exit → Act → World → Prop} (hgd : o.guard = none) (s x : Operand) (t T : TypeId)
    (ho : o.op = .call { callee := .builtin .append, args := #[s, x], argTypes := #[t, t] }) (z : Value) (bytes : Nat) (ht : Tryz.prog.underlying t = some (.slice T))
    (hinfo : (Tryz.prog.info? T).map (fun i => (i.zero, i.size, i.bytes)) = some (some z, E.k, bytes)) (hzc : z.cells.size = E.k)
    (B : Nat) (v : Value) (l : List α) (hs : a.eval s = v) (hown : OwnR E T w B v l) (q : Option Addr) (r : List α) (c : Nat) (hx : a.eval x = .slice q r.length c) (hq : Rec E w q r) (hc0 : q = none → r = [] ∧ c = 0) (hl : l.length + r.length ≤ maxLen) (hby : (l.length + r.length) * bytes ≤ 140737488355328) (hbase : B ≤ w.heap.size)
    (h : ∀ v' w', OwnR E T w' B v' (l ++ r) → Below B w w' → wpList Tryz.prog ops Q rest (a.put o.dst v') w') : wpList Tryz.prog ops Q (o :: rest) a w := by
  obtain ⟨i0, hi0, hz0, hz1, hzb⟩ := info_parts hinfo
  have hfin : ∀ v' w', w'.ownsRow B T E.k v' (l.length + r.length) (recVals E l ++ recVals E r) → w.grownBy w' v.ownBlock → wpList Tryz.prog ops Q rest (a.put o.dst v') w' := fun v' w' h1 h2 => by
    refine h v' w' ?_ ((Below.refl _ _).grown h2 hbase (fun k hk => (hown.block hk).1))
    unfold OwnR
    rw [recVals_append, List.length_append]
    exact h1
  cases q with
  | none =>
    obtain ⟨hr, hc⟩ := hc0 rfl
    subst hr hc
    refine wpList_append_own_none hgd s x _ ho B T i0 E.k ht hi0 v l.length (recVals E l) hs hown hx ?_
    have := h v w (by rw [List.append_nil]; exact hown) (Below.refl _ _)
    exact this
  | some ad =>
    refine wpList_append_own w hgd s x _ ho B T i0 z E.k bytes ht hi0 hz0 hz1 hzb hzc E.pos v l.length (recVals E l) hs hown ad r.length c (recVals E r) hx (recVals_length E r) ?_ (recVals_one' E r) hl hby hbase (fun v' w' h1 h2 _ => hfin v' w' h1 h2)
    rcases hq with h0 | ⟨b, o', hp, _, hcell⟩
    · subst h0
      intro j u hj
      simp [recVals] at hj
    · obtain rfl : ad = ⟨b, o', none⟩ := by simpa using hp
      exact Rec.cells hcell
/-- One record more, out of a row of one that was just laid. -/
theorem wpList_append_rec {ops : Array Oper} {rest : List Oper} {o : Oper} {a : Act} {Q : Exit → Act → World → Prop} (hgd : o.guard = none) (s x : Operand) (t T : TypeId)
    (ho : o.op = .call { callee := .builtin .append, args := #[s, x], argTypes := #[t, t] }) (z : Value) (bytes : Nat) (ht : Tryz.prog.underlying t = some (.slice T))
    (hinfo : (Tryz.prog.info? T).map (fun i => (i.zero, i.size, i.bytes)) = some (some z, E.k, bytes)) (hzc : z.cells.size = E.k)
    (B : Nat) (v : Value) (l : List α) (hs : a.eval s = v) (hown : OwnR E T w B v l) (b o' c : Nat) (y : α) (hx : a.eval x = .slice (some ⟨b, o', none⟩) 1 c) (hq : ∀ j u, (E.enc y)[j]? = some u → w.cell? ⟨b, o' + j, none⟩ = some u) (hl : l.length + 1 ≤ maxLen) (hby : (l.length + 1) * bytes ≤ 140737488355328) (hbase : B ≤ w.heap.size) (hlt : b < w.heap.size)
    (h : ∀ v' w', OwnR E T w' B v' (l ++ [y]) → Below B w w' → wpList Tryz.prog ops Q rest (a.put o.dst v') w') : wpList Tryz.prog ops Q (o :: rest) a w :=
  wpList_append_recs (E := E) hgd s x t T ho z bytes ht hinfo hzc B v l hs hown (some ⟨b, o', none⟩) [y] c hx (Or.inr ⟨b, o', rfl, hlt, fun i x hx' j u hu => by
    match i, hx' with
    | 0, hx' =>
      obtain rfl : y = x := by simpa using hx'
      rw [Nat.zero_mul, Nat.add_zero]
      exact hq j u hu⟩) (fun e => by cases e) hl hby hbase h
end
end
theorem ret_int {k : IntKind} {a b : Int} (h : a = b) : Ending.returned (.int k a) = .returned (.int k b) := by rw [h]
theorem ret_bool {a b : Bool} (h : a = b) : Ending.returned (.bool a) = .returned (.bool b) := by rw [h]
theorem bit_test (b k : Nat) (hb : b < 256) : (bits BinOp.and IntKind.u8 ((b : Int) / 2 ^ k) 1 == 1) = decide (Gf.bitOf b k = 1) := by
  have h1 : ((b : Int) / 2 ^ k) = ((b / 2 ^ k : Nat) : Int) := by simp
  have h2 : b / 2 ^ k < 256 := Nat.lt_of_le_of_lt (Nat.div_le_self _ _) hb
  have h3 : bits BinOp.and IntKind.u8 ((b / 2 ^ k : Nat) : Int) 1 = ((b / 2 ^ k % 2 : Nat) : Int) := by
    have := u8_and_nat (b / 2 ^ k) 1 h2 (by decide)
    rw [Nat.and_one_is_mod] at this
    exact this
  rw [h1, h3]
  unfold Gf.bitOf
  rcases Nat.mod_two_eq_zero_or_one (b / 2 ^ k) with h | h <;> rw [h] <;> rfl
theorem bit_test64 (b k : Nat) (hb : b < 256) : (bits BinOp.and IntKind.i64 ((b : Int) / 2 ^ k) 1 == 1) = decide (Gf.bitOf b k = 1) := by
  have h1 : ((b : Int) / 2 ^ k) = ((b / 2 ^ k : Nat) : Int) := by simp
  have h2 : b / 2 ^ k < 256 := Nat.lt_of_le_of_lt (Nat.div_le_self _ _) hb
  have h3 : bits BinOp.and IntKind.i64 ((b / 2 ^ k : Nat) : Int) 1 = ((b / 2 ^ k % 2 : Nat) : Int) := by
    have := bits_mask IntKind.i64 8 (by decide) (fun n h0 h1 => by rw [IntKind.wrap_i64]; omega) 1 (by decide) ((b / 2 ^ k : Nat) : Int) (Int.natCast_nonneg _) (by exact_mod_cast h2)
    rw [show ((2 : Int) ^ 1 - 1) = 1 from rfl] at this
    rw [this]
    rfl
  rw [h1, h3]
  unfold Gf.bitOf
  rcases Nat.mod_two_eq_zero_or_one (b / 2 ^ k) with h | h <;> rw [h] <;> rfl
/-- n within the first round of 255. -/
def red (n : Int) : Nat := (n % 255).toNat
theorem red_cast (n : Int) : ((red n : Nat) : Int) = n % 255 := by unfold red; omega
theorem red_lt (n : Int) : red n < 255 := by unfold red; omega
theorem tmod_neg (n : Int) : n.tmod 255 = -((-n).tmod 255) := by rw [Int.neg_tmod, Int.neg_neg]
theorem i64_xor_nat (a b : Nat) (ha : a < 2 ^ 62) (hb : b < 2 ^ 62) : bits .xor .i64 (a : Int) (b : Int) = ((a ^^^ b : Nat) : Int) := by
  have hx : a ^^^ b < 2 ^ 62 := Nat.xor_lt_two_pow ha hb
  show IntKind.i64.wrap ((BitVec.ofInt 64 (a : Int) ^^^ BitVec.ofInt 64 (b : Int)).toNat : Int) = _
  rw [BitVec.toNat_xor, BitVec.ofInt_natCast, BitVec.ofInt_natCast, BitVec.toNat_ofNat, BitVec.toNat_ofNat, Nat.mod_eq_of_lt (by omega), Nat.mod_eq_of_lt (by omega), IntKind.wrap_i64]
  omega
theorem wrap64_small (n : Nat) (h : n < 2 ^ 62) : wrap64 (n : Int) = (n : Int) := by
  unfold wrap64; omega
theorem tmod_test (b k : Nat) : (((b : Int) / 2 ^ k).tmod 2 == 1) = decide (Gf.bitOf b k = 1) := by
  have h1 : ((b : Int) / 2 ^ k) = ((b / 2 ^ k : Nat) : Int) := by simp
  rw [h1, Int.tmod_eq_emod_of_nonneg (Int.natCast_nonneg _)]
  unfold Gf.bitOf
  have h3 : (((b / 2 ^ k : Nat) : Int) % 2) = ((b / 2 ^ k % 2 : Nat) : Int) := by simp
  rw [h3]
  rcases Nat.mod_two_eq_zero_or_one (b / 2 ^ k) with h | h <;> rw [h] <;> rfl
/-- Bytes as a text. -/
def strOf (l : List Nat) : ByteArray := strOfNums (l.map Int.ofNat)
/-- A text's bytes. -/
def bytesOf (s : ByteArray) : List Nat := s.data.toList.map UInt8.toNat
theorem bytesOf_lt (s : ByteArray) : Gf.Bytes (bytesOf s) := fun i => by
  by_cases hi : i < (bytesOf s).length
  · rw [Gf.nth_getElem _ i hi]
    simp only [bytesOf, List.getElem_map]
    exact UInt8.toNat_lt _
  · show (bytesOf s).getD i 0 < 256
    rw [List.getD_eq_getElem?_getD, List.getElem?_eq_none (by omega)]
    decide
theorem bytesOf_nth (s : ByteArray) (i : Nat) (h : i < s.size) : Gf.nth (bytesOf s) i = (s[i]'h).toNat := by
  rw [Gf.nth_getElem _ i (by simpa [bytesOf] using h)]
  simp only [bytesOf, List.getElem_map]
  rfl
theorem bytesOf_length (s : ByteArray) : (bytesOf s).length = s.size := by simp [bytesOf]
theorem mem_bytes {l : List Nat} (h : Gf.Bytes l) {x : Nat} (hx : x ∈ l) : x < 256 := by
  obtain ⟨i, hi, rfl⟩ := List.getElem_of_mem hx
  have := h i
  rwa [Gf.nth_getElem l i hi] at this
theorem bytesOf_strOf {l : List Nat} (h : Gf.Bytes l) : bytesOf (strOf l) = l := by
  unfold bytesOf strOf
  rw [strOfNums_data, List.map_map, List.map_map]
  conv => rhs; rw [← List.map_id l]
  refine List.map_congr_left fun x hx => ?_
  have := mem_bytes h hx
  simp only [Function.comp]
  show (UInt8.ofNat x).toNat = x
  simp only [UInt8.toNat_ofNat']
  omega
theorem strOf_bytesOf (s : ByteArray) : strOf (bytesOf s) = s := by
  unfold bytesOf strOf strOfNums
  rw [List.map_map, List.map_map]
  have : (List.map (((fun n : Int => UInt8.ofNat n.toNat) ∘ Int.ofNat) ∘ UInt8.toNat) s.data.toList) = s.data.toList := by
    conv => rhs; rw [← List.map_id s.data.toList]
    refine List.map_congr_left fun x _ => ?_
    show UInt8.ofNat x.toNat = x
    exact UInt8.ofNat_toNat
  rw [this]
theorem strOf_size (l : List Nat) : (strOf l).size = l.length := by
  unfold strOf
  rw [strOfNums_size, List.length_map]
theorem run_idx (s : ByteArray) (i : Nat) (h : i < s.size) (W : World) : Sem.run Tryz.prog (Instr.index 9 (.string s) (.int .i64 (i : Int))) W = .ok (.int .u8 ((Gf.nth (bytesOf s) i : Nat) : Int)) W := by
  rw [run_index_string W 9 s .i64 _ Tryz.underlying9, dif_pos ⟨by omega, by omega⟩, bytesOf_nth s i h]
  congr 3
theorem nth_ext {l m : List Nat} (hl : l.length = m.length) (h : ∀ i, i < l.length → Gf.nth l i = Gf.nth m i) : l = m := by
  refine List.ext_getElem hl fun i h1 h2 => ?_
  rw [← Gf.nth_getElem l i h1, ← Gf.nth_getElem m i h2]
  exact h i h1
theorem nth_past {l : List Nat} {i : Nat} (h : l.length ≤ i) : Gf.nth l i = 0 := by
  show l.getD i 0 = 0
  rw [List.getD_eq_getElem?_getD, List.getElem?_eq_none h]
  rfl
def txt (l : List ByteArray) (i : Nat) : ByteArray := l.getD i ⟨#[]⟩
theorem txt_getElem (l : List ByteArray) (i : Nat) (h : i < l.length) : txt l i = l[i] := by
  unfold txt
  rw [List.getD_eq_getElem?_getD, List.getElem?_eq_getElem h]
  rfl
theorem txt_mem {l : List ByteArray} {i : Nat} (h : i < l.length) : txt l i ∈ l := by
  rw [txt_getElem l i h]
  exact List.getElem_mem h
theorem txt_of_mem {l : List ByteArray} {x : ByteArray} (h : x ∈ l) : ∃ i, i < l.length ∧ txt l i = x := by
  obtain ⟨i, hi, e⟩ := List.getElem_of_mem h
  exact ⟨i, hi, by rw [txt_getElem l i hi, e]⟩
theorem txt_take {l : List ByteArray} {i j : Nat} (h : j < i) : txt (l.take i) j = txt l j := by
  unfold txt
  rw [List.getD_eq_getElem?_getD, List.getD_eq_getElem?_getD, List.getElem?_take_of_lt h]
theorem txt_ext {l m : List ByteArray} (hl : l.length = m.length) (h : ∀ i, i < l.length → txt l i = txt m i) : l = m := by
  refine List.ext_getElem hl fun i h1 h2 => ?_
  rw [← txt_getElem l i h1, ← txt_getElem m i h2]
  exact h i h1
/-- In the world w the texts l lie from p on. -/
def Strs (w : World) (p : Option Addr) (l : List ByteArray) : Prop :=
  l = [] ∨ ∃ b o, p = some ⟨b, o, none⟩ ∧ b < w.heap.size ∧ ∀ i, i < l.length → w.cell? ⟨b, o + i, none⟩ = some (.string (txt l i))
theorem Strs.nil (w : World) (p : Option Addr) : Strs w p [] := Or.inl rfl
theorem Strs.drewN {w : World} {p : Option Addr} {l : List ByteArray} (h : Strs w p l) (n : Nat) : Strs (w.drewN n) p l := h
theorem Strs.below {w w' : World} {p : Option Addr} {l : List ByteArray} (h : Strs w p l) (hb : Below w.heap.size w w') : Strs w' p l := by
  rcases h with h | ⟨b, o, hp, hlt, hc⟩
  · exact Or.inl h
  · exact Or.inr ⟨b, o, hp, Nat.lt_of_lt_of_le hlt hb.size, fun i hi => (hb.cell (p := ⟨b, o + i, none⟩) hlt).trans (hc i hi)⟩
/-- Below B alone nothing turned. -/
theorem Strs.belowAt {w w' : World} {p : Option Addr} {l : List ByteArray} {B : Nat} (h : Strs w p l) (hb : Below B w w') (hB : ∀ b o, p = some ⟨b, o, none⟩ → b < B) : Strs w' p l := by
  rcases h with h | ⟨b, o, hp, hlt, hc⟩
  · exact Or.inl h
  · exact Or.inr ⟨b, o, hp, Nat.lt_of_lt_of_le hlt hb.size, fun i hi => (hb.cell (p := ⟨b, o + i, none⟩) (hB b o hp)).trans (hc i hi)⟩
theorem Strs.take {w : World} {p : Option Addr} {l : List ByteArray} (h : Strs w p l) (i : Nat) : Strs w p (l.take i) := by
  rcases h with h | ⟨b, o, hp, hlt, hc⟩
  · exact Or.inl (by rw [h, List.take_nil])
  · refine Or.inr ⟨b, o, hp, hlt, fun j hj => ?_⟩
    rw [List.length_take] at hj
    rw [hc j (by omega), txt_take (by omega)]
theorem toList_ne {a b : ByteArray} (h : a ≠ b) : ¬ a.toList = b.toList := fun e => h (by
  rw [ByteArray.toList_eq, ByteArray.toList_eq] at e
  exact ByteArray.ext (Array.toList_inj.1 e))
theorem toList_beq {a b : ByteArray} (h : a ≠ b) : (a.toList == b.toList) = false := by simpa using toList_ne h
theorem bytes_beq {a b : ByteArray} (h : a ≠ b) : (a == b) = false := by rw [beq_toListBytes]; exact toList_beq h
/-- A version: its tag's number and maker, the object's size, the shard's number and text. -/
structure Ver where
  n : Int
  who : Int
  size : Int
  at_ : Int
  text : ByteArray
deriving DecidableEq
def verC (v : Ver) : List Value := [.int .i64 v.n, .int .i64 v.who, .int .i64 v.size, .int .i64 v.at_, .string v.text]
def verE : Enc Ver := ⟨5, by decide, verC, fun _ => rfl, fun x u hu => by simp [verC] at hu; rcases hu with rfl | rfl | rfl | rfl | rfl <;> rfl⟩
/-- A version with its key. -/
abbrev Kep := ByteArray × Ver
def kepE : Enc Kep := ⟨6, by decide, fun x => .string x.1 :: verC x.2, fun _ => rfl, fun x u hu => by simp [verC] at hu; rcases hu with rfl | rfl | rfl | rfl | rfl | rfl <;> rfl⟩
/-- In the world w the model's hold at block h has L, and is sealed or not. -/
structure MHold (w : World) (h : Nat) (L : List Kep) (s : Bool) : Prop where
  row : ∃ p c, w.cell? ⟨h, 0, none⟩ = some (.slice p L.length c) ∧ Rec kepE w p L ∧ L.length ≤ c ∧ (p = none → L = [] ∧ c = 0) ∧ ∀ b o, p = some ⟨b, o, none⟩ → b ≠ h
  sealed_ : w.cell? ⟨h, 1, none⟩ = some (.bool s)
  free0 : w.frozen? ⟨h, 0, none⟩ = false
  free1 : w.frozen? ⟨h, 1, none⟩ = false
theorem lt_of_cellH {w : World} {b o : Nat} {v : Value} (h : w.cell? ⟨b, o, none⟩ = some v) : b < w.heap.size := by
  rcases Nat.lt_or_ge b w.heap.size with h' | h'
  · exact h'
  · simp [World.cell?, Array.getElem?_eq_none h'] at h
theorem MHold.below {w w' : World} {h : Nat} {L : List Kep} {s : Bool} (hm : MHold w h L s) (hb : Below w.heap.size w w') : MHold w' h L s := by
  obtain ⟨p, c, h1, h2, h3, h4, h5⟩ := hm.row
  have hlt := lt_of_cellH h1
  exact ⟨⟨p, c, (hb.cell (p := ⟨h, 0, none⟩) hlt).trans h1, h2.below hb, h3, h4, h5⟩, (hb.cell (p := ⟨h, 1, none⟩) hlt).trans hm.sealed_, (hb.frozen (p := ⟨h, 0, none⟩) hlt).trans hm.free0, (hb.frozen (p := ⟨h, 1, none⟩) hlt).trans hm.free1⟩
/-- The versions of a key, in their order. -/
def getL (L : List Kep) (key : ByteArray) : List Ver := (L.filter fun x => decide (x.1 = key)).map Prod.snd
def kepAt (L : List Kep) (i : Nat) : Kep := L.getD i (⟨#[]⟩, ⟨0, 0, 0, 0, ⟨#[]⟩⟩)
theorem kepAt_get {L : List Kep} {i : Nat} (hi : i < L.length) : L[i]? = some (kepAt L i) := by
  unfold kepAt
  rw [List.getD_eq_getElem?_getD, List.getElem?_eq_getElem hi]
  rfl
theorem take_succ_kep {L : List Kep} {i : Nat} (hi : i < L.length) : L.take (i + 1) = L.take i ++ [kepAt L i] := by
  rw [List.take_add_one, kepAt_get hi]
  rfl
theorem getL_succ_yes {L : List Kep} {i : Nat} {key : ByteArray} (hi : i < L.length) (h : (kepAt L i).1 = key) : getL (L.take (i + 1)) key = getL (L.take i) key ++ [(kepAt L i).2] := by
  unfold getL
  rw [take_succ_kep hi, List.filter_append, List.filter_cons_of_pos (by simpa using h), List.filter_nil, List.map_append]
  rfl
theorem getL_succ_no {L : List Kep} {i : Nat} {key : ByteArray} (hi : i < L.length) (h : (kepAt L i).1 ≠ key) : getL (L.take (i + 1)) key = getL (L.take i) key := by
  unfold getL
  rw [take_succ_kep hi, List.filter_append, List.filter_cons_of_neg (by simpa using h), List.filter_nil, List.append_nil]
theorem getL_le (L : List Kep) (key : ByteArray) : (getL L key).length ≤ L.length := by
  unfold getL
  rw [List.length_map]
  exact List.length_filter_le _ _
/-- The six cells of a kept version. -/
theorem kep_cells {w : World} {p : Option Addr} {L : List Kep} (h : Rec kepE w p L) {i : Nat} (hi : i < L.length) : ∃ b o, p = some ⟨b, o, none⟩ ∧ b < w.heap.size ∧ w.cell? ⟨b, o + i * 6, none⟩ = some (.string (kepAt L i).1) ∧ w.cell? ⟨b, o + i * 6 + 1, none⟩ = some (.int .i64 (kepAt L i).2.n) ∧ w.cell? ⟨b, o + i * 6 + 2, none⟩ = some (.int .i64 (kepAt L i).2.who) ∧ w.cell? ⟨b, o + i * 6 + 3, none⟩ = some (.int .i64 (kepAt L i).2.size) ∧ w.cell? ⟨b, o + i * 6 + 4, none⟩ = some (.int .i64 (kepAt L i).2.at_) ∧ w.cell? ⟨b, o + i * 6 + 5, none⟩ = some (.string (kepAt L i).2.text) := by
  rcases h with h | ⟨b, o, hp, hlt, hc⟩
  · rw [h] at hi; exact absurd hi (Nat.not_lt_zero _)
  · have hx := kepAt_get hi
    exact ⟨b, o, hp, hlt, hc i _ hx 0 _ rfl, hc i _ hx 1 _ rfl, hc i _ hx 2 _ rfl, hc i _ hx 3 _ rfl, hc i _ hx 4 _ rfl, hc i _ hx 5 _ rfl⟩
/-- The first place where it stands. -/
def idxN (l : List ByteArray) (s : ByteArray) : Nat := l.findIdx fun x => decide (x = s)
theorem idxN_eq {l : List ByteArray} {s : ByteArray} {i : Nat} (hi : i < l.length) (h : txt l i = s) (hall : ∀ j, j < i → txt l j ≠ s) : idxN l s = i := by
  unfold idxN
  rw [List.findIdx_eq hi]
  refine ⟨decide_eq_true (by rw [← txt_getElem l i hi]; exact h), fun j hj => decide_eq_false ?_⟩
  rw [← txt_getElem l j (by omega)]
  exact hall j hj
/-- A sign that a name may have. -/
def letterB (c : Nat) : Bool := decide (97 ≤ c ∧ c ≤ 122) || decide (48 ≤ c ∧ c ≤ 57) || decide (c = 45)
/-- A name. -/
def isN (s : ByteArray) : Bool := decide (1 ≤ s.size ∧ s.size ≤ 16) && (bytesOf s).all letterB
theorem isN_size {s : ByteArray} (h : isN s = true) : 1 ≤ s.size ∧ s.size ≤ 16 := by
  unfold isN at h
  rw [Bool.and_eq_true] at h
  exact of_decide_eq_true h.1
theorem isN_all {s : ByteArray} (h1 : 1 ≤ s.size) (h2 : s.size ≤ 16) (h : ∀ j, j < s.size → letterB (Gf.nth (bytesOf s) j) = true) : isN s = true := by
  unfold isN
  rw [decide_eq_true ⟨h1, h2⟩, Bool.true_and, List.all_eq_true]
  intro x hx
  obtain ⟨j, hj, rfl⟩ := List.getElem_of_mem hx
  rw [← Gf.nth_getElem _ j hj]
  exact h j (by rw [bytesOf_length] at hj; exact hj)
theorem isN_one {s : ByteArray} {j : Nat} (hj : j < s.size) (h : letterB (Gf.nth (bytesOf s) j) = false) : isN s = false := by
  unfold isN
  rw [Bool.and_eq_false_iff]
  refine Or.inr (List.all_eq_false.2 ⟨Gf.nth (bytesOf s) j, ?_, by rw [h]; decide⟩)
  have hj' : j < (bytesOf s).length := by rw [bytesOf_length]; exact hj
  rw [Gf.nth_getElem _ j hj']
  exact List.getElem_mem hj'
theorem isN_len {s : ByteArray} (h : ¬ (1 ≤ s.size ∧ s.size ≤ 16)) : isN s = false := by
  unfold isN
  rw [decide_eq_false h, Bool.false_and]
def inL (l : List ByteArray) (x : ByteArray) : Bool := l.any fun y => decide (y = x)
theorem inL_iff {l : List ByteArray} {x : ByteArray} : inL l x = true ↔ x ∈ l := by
  unfold inL
  rw [List.any_eq_true]
  exact ⟨fun ⟨y, hy, e⟩ => by rw [← of_decide_eq_true e]; exact hy, fun h => ⟨x, h, decide_eq_true rfl⟩⟩
/-- What is wrong with node i: it is no name (4), it was ahead (6), nothing (0). -/
def faultAt (l : List ByteArray) (i : Nat) : Nat := if isN (txt l i) then (if inL (l.take i) (txt l i) then 6 else 0) else 4
theorem faultAt_name {l : List ByteArray} {i : Nat} (h : isN (txt l i) = false) : faultAt l i = 4 := by
  unfold faultAt
  rw [h, if_neg (by decide)]
theorem faultAt_twice {l : List ByteArray} {i : Nat} (h : isN (txt l i) = true) (h2 : txt l i ∈ l.take i) : faultAt l i = 6 := by
  unfold faultAt
  rw [if_pos h, if_pos (inL_iff.2 h2)]
theorem faultAt_fine {l : List ByteArray} {i : Nat} (h : isN (txt l i) = true) (h2 : txt l i ∉ l.take i) : faultAt l i = 0 := by
  unfold faultAt
  rw [if_pos h, if_neg (fun h3 => h2 (inL_iff.1 h3))]
/-- The first fault of the m nodes from i on: its number, its place. -/
def scanF (l : List ByteArray) : Nat → Nat → Int × Int
  | _, 0 => (0, -1)
  | i, m + 1 => if faultAt l i = 0 then scanF l (i + 1) m else ((faultAt l i : Nat), (i : Nat))
/-- The fault of nodes. -/
def nodesF (l : List ByteArray) : Int × Int := if l.length < 1 ∨ 16 < l.length then (2, -1) else scanF l 0 l.length
theorem nodesF_bound {l : List ByteArray} (h : l.length < 1 ∨ 16 < l.length) : nodesF l = (2, -1) := if_pos h
theorem nodesF_scan {l : List ByteArray} (h1 : ¬ l.length < 1) (h2 : ¬ 16 < l.length) : nodesF l = scanF l 0 l.length := if_neg (by omega)
theorem scanF_fine {l : List ByteArray} : ∀ (m i : Nat), scanF l i m = (0, -1) → ∀ j, i ≤ j → j < i + m → faultAt l j = 0
  | 0, i, _, j, h1, h2 => by omega
  | m + 1, i, h, j, h1, h2 => by
    have h' : (if faultAt l i = 0 then scanF l (i + 1) m else (((faultAt l i : Nat) : Int), (i : Int))) = (0, -1) := h
    by_cases e : faultAt l i = 0
    · rw [if_pos e] at h'
      by_cases e2 : j = i
      · rw [e2]; exact e
      · exact scanF_fine m (i + 1) h' j (by omega) (by omega)
    · rw [if_neg e] at h'
      have h3 := congrArg Prod.fst h'
      have h4 : ((faultAt l i : Nat) : Int) = 0 := h3
      omega
/-- Where it is 0 it is nothing. -/
theorem scanF_zero {l : List ByteArray} : ∀ (m i : Nat), (scanF l i m).1 ≤ 0 → scanF l i m = (0, -1)
  | 0, _, _ => rfl
  | m + 1, i, h => by
    show (if faultAt l i = 0 then scanF l (i + 1) m else (((faultAt l i : Nat) : Int), (i : Int))) = (0, -1)
    have h' : (if faultAt l i = 0 then scanF l (i + 1) m else (((faultAt l i : Nat) : Int), (i : Int))).1 ≤ 0 := h
    by_cases e : faultAt l i = 0
    · rw [if_pos e] at h' ⊢
      exact scanF_zero m (i + 1) h'
    · rw [if_neg e] at h'
      have h4 : ((faultAt l i : Nat) : Int) ≤ 0 := h'
      omega
theorem nodesF_zero {l : List ByteArray} (h : (nodesF l).1 ≤ 0) : nodesF l = (0, -1) ∧ 1 ≤ l.length ∧ l.length ≤ 16 := by
  by_cases hb : l.length < 1 ∨ 16 < l.length
  · rw [nodesF_bound hb] at h
    exact absurd h (by decide)
  · have h1 : nodesF l = scanF l 0 l.length := if_neg hb
    rw [h1] at h ⊢
    exact ⟨scanF_zero _ _ h, by omega, by omega⟩
/-- Nodes without a fault: names, each once. -/
theorem nodesF_fine {l : List ByteArray} (h : (nodesF l).1 ≤ 0) : (∀ x ∈ l, isN x = true) ∧ l.Nodup := by
  obtain ⟨h0, h1, h2⟩ := nodesF_zero h
  rw [nodesF_scan (by omega) (by omega)] at h0
  have hf := scanF_fine l.length 0 h0
  have key : ∀ j, j < l.length → isN (txt l j) = true ∧ txt l j ∉ l.take j := fun j hj => by
    have := hf j (Nat.zero_le _) (by omega)
    unfold faultAt at this
    by_cases e : isN (txt l j) = true
    · rw [if_pos e] at this
      refine ⟨e, fun h3 => ?_⟩
      rw [if_pos (inL_iff.2 h3)] at this
      omega
    · rw [if_neg e] at this
      omega
  refine ⟨fun x hx => ?_, ?_⟩
  · obtain ⟨j, hj, rfl⟩ := txt_of_mem hx
    exact (key j hj).1
  · rw [List.nodup_iff_pairwise_ne, List.pairwise_iff_getElem]
    intro i j hi hj hij e
    refine (key j hj).2 ?_
    rw [txt_getElem l j hj, ← e, List.mem_take_iff_getElem]
    exact ⟨i, by omega, rfl⟩
/-- The fault of nodes, and how many. -/
def preferF (l : List ByteArray) (n : Int) : Int × Int := if 0 < (nodesF l).1 then nodesF l else if (l.length : Int) < n then (8, -1) else if n < 0 then (2, -1) else nodesF l
theorem preferF_fine {l : List ByteArray} {n : Int} (h : ¬ 0 < (preferF l n).1) : (nodesF l).1 ≤ 0 ∧ 0 ≤ n ∧ n ≤ l.length ∧ preferF l n = (0, -1) := by
  unfold preferF at h ⊢
  by_cases h1 : 0 < (nodesF l).1
  · rw [if_pos h1] at h; exact absurd h1 h
  rw [if_neg h1] at h ⊢
  by_cases h2 : (l.length : Int) < n
  · rw [if_pos h2] at h; exact absurd (by decide) h
  rw [if_neg h2] at h ⊢
  by_cases h3 : n < 0
  · rw [if_pos h3] at h; exact absurd (by decide) h
  rw [if_neg h3] at h ⊢
  exact ⟨by omega, by omega, by omega, (nodesF_zero (by omega)).1⟩
/-- Too long to be asked. -/
def longL (l : List ByteArray) : Bool := decide (40 < l.length) || l.any fun x => decide (100 < x.size)
theorem longL_fine {l : List ByteArray} (h : longL l = false) : l.length ≤ 40 ∧ ∀ x ∈ l, x.size ≤ 100 := by
  unfold longL at h
  rw [Bool.or_eq_false_iff] at h
  refine ⟨by have := of_decide_eq_false h.1; omega, fun x hx => ?_⟩
  have := List.any_eq_false.1 h.2 x hx
  have h2 : ¬ 100 < x.size := fun h3 => this (decide_eq_true h3)
  omega
theorem scanF_of {l : List ByteArray} : ∀ (m i : Nat), (∀ j, i ≤ j → j < i + m → faultAt l j = 0) → scanF l i m = (0, -1)
  | 0, _, _ => rfl
  | m + 1, i, h => by
    show (if faultAt l i = 0 then scanF l (i + 1) m else (((faultAt l i : Nat) : Int), (i : Int))) = (0, -1)
    rw [if_pos (h i (Nat.le_refl _) (by omega))]
    exact scanF_of m (i + 1) (fun j h1 h2 => h j (by omega) (by omega))
/-- Names, each once, from 1 to 16: no fault. -/
theorem nodesF_of {l : List ByteArray} (h1 : 1 ≤ l.length) (h2 : l.length ≤ 16) (h3 : ∀ x ∈ l, isN x = true) (h4 : l.Nodup) : nodesF l = (0, -1) := by
  rw [nodesF_scan (by omega) (by omega)]
  refine scanF_of _ _ fun j _ hj => faultAt_fine (h3 _ (txt_mem (by omega))) fun hm => ?_
  obtain ⟨i, hi, e⟩ := List.mem_take_iff_getElem.1 hm
  have hjl : j < l.length := by omega
  rw [txt_getElem l j hjl] at e
  have := (List.nodup_iff_pairwise_ne.1 h4)
  rw [List.pairwise_iff_getElem] at this
  exact this i j (by omega) hjl (by omega) e
theorem preferF_of {l : List ByteArray} {n : Int} (h : nodesF l = (0, -1)) (h1 : 0 ≤ n) (h2 : n ≤ l.length) : preferF l n = (0, -1) := by
  unfold preferF
  rw [h, if_neg (by decide), if_neg (by omega), if_neg (by omega)]
def lessB (a b : Int × Int) : Bool := decide (a.1 < b.1) || (decide (a.1 = b.1) && decide (a.2 < b.2))
theorem verinfo : (Tryz.prog.info? 49).map (fun i => (i.zero, i.size, i.bytes)) = some (some (.agg #[.int .i64 0, .int .i64 0, .int .i64 0, .int .i64 0, .string ⟨#[]⟩]), 5, 48) := by kernel_rfl
def verAt (L : List Ver) (i : Nat) : Ver := L.getD i ⟨0, 0, 0, 0, ⟨#[]⟩⟩
theorem verAt_get {L : List Ver} {i : Nat} (hi : i < L.length) : L[i]? = some (verAt L i) := by
  unfold verAt
  rw [List.getD_eq_getElem?_getD, List.getElem?_eq_getElem hi]
  rfl
theorem ver_ext {l m : List Ver} (hl : l.length = m.length) (h : ∀ i, i < l.length → verAt l i = verAt m i) : l = m := by
  refine List.ext_getElem? fun i => ?_
  by_cases hi : i < l.length
  · rw [verAt_get hi, verAt_get (show i < m.length by omega), h i hi]
  · rw [List.getElem?_eq_none (by omega), List.getElem?_eq_none (by omega)]
theorem ver_cells {w : World} {p : Option Addr} {L : List Ver} (h : Rec verE w p L) {i : Nat} (hi : i < L.length) : ∃ b o, p = some ⟨b, o, none⟩ ∧ b < w.heap.size ∧ w.cell? ⟨b, o + i * 5, none⟩ = some (.int .i64 (verAt L i).n) ∧ w.cell? ⟨b, o + i * 5 + 1, none⟩ = some (.int .i64 (verAt L i).who) ∧ w.cell? ⟨b, o + i * 5 + 2, none⟩ = some (.int .i64 (verAt L i).size) ∧ w.cell? ⟨b, o + i * 5 + 3, none⟩ = some (.int .i64 (verAt L i).at_) ∧ w.cell? ⟨b, o + i * 5 + 4, none⟩ = some (.string (verAt L i).text) := by
  rcases h with h | ⟨b, o, hp, hlt, hc⟩
  · rw [h] at hi; exact absurd hi (Nat.not_lt_zero _)
  · have hx := verAt_get hi
    exact ⟨b, o, hp, hlt, hc i _ hx 0 _ rfl, hc i _ hx 1 _ rfl, hc i _ hx 2 _ rfl, hc i _ hx 3 _ rfl, hc i _ hx 4 _ rfl⟩
/-- Numbers that a tag can have. -/
def tagB (n who : Int) : Bool := decide (0 ≤ n) && decide (n ≤ 1099511627776) && decide (0 ≤ who) && decide (who ≤ 1099511627776)
/-- Can a version be? -/
def verOk (v : Ver) : Bool := tagB v.n v.who && decide (0 ≤ v.size ∧ v.size ≤ 1000 ∧ 0 ≤ v.at_ ∧ v.at_ < 12 ∧ v.text.size ≤ 1000)
def sameTag (x : Kep) (key : ByteArray) (v : Ver) : Bool := decide (x.1 = key) && decide (x.2.n = v.n) && decide (x.2.who = v.who)
/-- The m kept ones from i on: is one there with this tag? -/
def putScan (L : List Kep) (key : ByteArray) (v : Ver) : Nat → Nat → Int
  | _, 0 => if 60 ≤ L.length then 7 else 0
  | i, m + 1 => if sameTag (kepAt L i) key v then (if (kepAt L i).2 = v then -1 else 6) else putScan L key v (i + 1) m
/-- An error's number; -1: the same one is there. -/
def putErr (L : List Kep) (s : Bool) (key : ByteArray) (v : Ver) : Int := if s then 10 else if isN key then (if verOk v then putScan L key v 0 L.length else 2) else 4
theorem putScan_at {L : List Kep} {key : ByteArray} {v : Ver} {i : Nat} (hi : i < L.length) : putScan L key v i (L.length - i) = if sameTag (kepAt L i) key v then (if (kepAt L i).2 = v then -1 else 6) else putScan L key v (i + 1) (L.length - (i + 1)) := by
  rw [show L.length - i = (L.length - (i + 1)) + 1 by omega]
  rfl
/-- The keys of the first i kept ones, each where it is another one than the last. -/
def keysTo (L : List Kep) : Nat → List ByteArray
  | 0 => []
  | i + 1 => if (keysTo L i).length = 0 ∨ txt (keysTo L i) ((keysTo L i).length - 1) ≠ (kepAt L i).1 then keysTo L i ++ [(kepAt L i).1] else keysTo L i
theorem keysTo_le (L : List Kep) : ∀ i, (keysTo L i).length ≤ i
  | 0 => Nat.zero_le _
  | i + 1 => by
    have ih := keysTo_le L i
    show (if _ then _ else _ : List ByteArray).length ≤ i + 1
    split
    · rw [List.length_append]
      show _ + 1 ≤ _
      omega
    · omega
theorem keysTo_new {L : List Kep} {i : Nat} (h : (keysTo L i).length = 0 ∨ txt (keysTo L i) ((keysTo L i).length - 1) ≠ (kepAt L i).1) : keysTo L (i + 1) = keysTo L i ++ [(kepAt L i).1] := if_pos h
theorem keysTo_old {L : List Kep} {i : Nat} (h : ¬ ((keysTo L i).length = 0 ∨ txt (keysTo L i) ((keysTo L i).length - 1) ≠ (kepAt L i).1)) : keysTo L (i + 1) = keysTo L i := if_neg h
/-- Those of a key go, as many as left, from the first on. -/
def trimGo (key : ByteArray) : Nat → List Kep → List Kep
  | _, [] => []
  | left, x :: r => if x.1 = key ∧ 0 < left then trimGo key (left - 1) r else x :: trimGo key left r
theorem trimGo_at {L : List Kep} {key : ByteArray} {left i : Nat} (hi : i < L.length) : trimGo key left (L.drop i) = if (kepAt L i).1 = key ∧ 0 < left then trimGo key (left - 1) (L.drop (i + 1)) else kepAt L i :: trimGo key left (L.drop (i + 1)) := by
  have e : L.drop i = kepAt L i :: L.drop (i + 1) := by
    rw [List.drop_eq_getElem_cons hi]
    have := kepAt_get hi
    rw [List.getElem?_eq_getElem hi] at this
    rw [Option.some.inj this]
  rw [e]
  rfl
/-- How many go. -/
def goneN (L : List Kep) (key : ByteArray) (keep : Int) : Nat := ((getL L key).length - keep).toNat
def trimL (L : List Kep) (key : ByteArray) (keep : Int) : List Kep := trimGo key (goneN L key keep) L
/-- Does a kept one stand ahead of a version of a key? -/
def beforeB (x : Kep) (key : ByteArray) (v : Ver) : Bool := Op.bytesLess x.1.toList key.toList || (decide (x.1 = key) && lessB (x.2.n, x.2.who) (v.n, v.who))
/-- Where it goes in. -/
def placeN (L : List Kep) (key : ByteArray) (v : Ver) : Nat := L.findIdx fun x => !beforeB x key v
theorem placeN_at {L : List Kep} {key : ByteArray} {v : Ver} {k : Nat} (hk : k < L.length) (hall : ∀ j, j < k → beforeB (kepAt L j) key v = true) (h : beforeB (kepAt L k) key v = false) : placeN L key v = k := by
  have e : ∀ j (hj : j < L.length), L[j] = kepAt L j := fun j hj => by
    have := kepAt_get hj
    rw [List.getElem?_eq_getElem hj] at this
    exact Option.some.inj this
  unfold placeN
  rw [List.findIdx_eq hk]
  refine ⟨by rw [e k hk, h]; rfl, fun j hj => by rw [e j (by omega), hall j hj]; rfl⟩
theorem placeN_end {L : List Kep} {key : ByteArray} {v : Ver} (hall : ∀ j, j < L.length → beforeB (kepAt L j) key v = true) : placeN L key v = L.length := by
  unfold placeN
  rw [List.findIdx_eq_length]
  intro x hx
  obtain ⟨j, hj, rfl⟩ := List.getElem_of_mem hx
  have := kepAt_get hj
  rw [List.getElem?_eq_getElem hj] at this
  rw [Option.some.inj this, hall j hj]
  rfl
theorem placeN_le (L : List Kep) (key : ByteArray) (v : Ver) : placeN L key v ≤ L.length := List.findIdx_le_length
def putL (L : List Kep) (key : ByteArray) (v : Ver) : List Kep := L.take (placeN L key v) ++ [(key, v)] ++ L.drop (placeN L key v)
theorem placeN_before {L : List Kep} {key : ByteArray} {v : Ver} {j : Nat} (hj : j < placeN L key v) : beforeB (kepAt L j) key v = true := by
  have hlt : j < L.length := Nat.lt_of_lt_of_le hj (placeN_le L key v)
  have h := List.not_of_lt_findIdx (p := fun x => !beforeB x key v) (xs := L) (i := j) hj
  have e : L[j] = kepAt L j := by
    have := kepAt_get hlt
    rw [List.getElem?_eq_getElem hlt] at this
    exact Option.some.inj this
  rw [e] at h
  simpa using h
theorem placeN_here {L : List Kep} {key : ByteArray} {v : Ver} (hk : placeN L key v < L.length) : beforeB (kepAt L (placeN L key v)) key v = false := by
  have h := List.findIdx_getElem (p := fun x => !beforeB x key v) (xs := L) (w := hk)
  have e : L[placeN L key v] = kepAt L (placeN L key v) := by
    have := kepAt_get hk
    rw [List.getElem?_eq_getElem hk] at this
    exact Option.some.inj this
  have h2 : (!beforeB L[placeN L key v] key v) = true := h
  rw [e] at h2
  simpa using h2
/-- What Put answers, and what is held then. -/
def putR (L : List Kep) (s : Bool) (key : ByteArray) (v : Ver) : Int × List Kep := if putErr L s key v = 0 then (0, putL L key v) else if putErr L s key v < 0 then (0, L) else (putErr L s key v, L)
/-- The error ev is number c, bare. -/
def BareIs (ad : Nat → Addr) (ev : Value) (c : Int) : Prop := (ev = .nilIface ∧ c = 0) ∨ ∃ i, i < 12 ∧ ev = .iface 206 (.pointer (some (ad i))) ∧ c = ((i + 1 : Nat) : Int)
/-- The tag of the last of versions; of none 0. -/
def lastT (l : List Ver) : Int × Int := ((verAt l (l.length - 1)).n, (verAt l (l.length - 1)).who)
/-- From w to w' nothing that was there is written but the blocks of S; those of S' are of S, or new. -/
structure Upd (S S' : Nat → Prop) (w w' : World) : Prop where
  os : w'.os = w.os
  tape : w'.tape = w.tape
  output : w'.output = w.output
  size : w.heap.size ≤ w'.heap.size
  block : ∀ k, k < w.heap.size → ¬ S k → w'.heap[k]? = w.heap[k]?
  new : ∀ k, S' k → S k ∨ w.heap.size ≤ k
theorem Upd.of_below {S : Nat → Prop} {w w' : World} (hb : Below w.heap.size w w') : Upd S S w w' := ⟨hb.os, hb.tape, hb.output, hb.size, fun k hk _ => hb.block k hk, fun _ h => Or.inl h⟩
def verA (v : Ver) : Value := .agg #[.int .i64 v.n, .int .i64 v.who, .int .i64 v.size, .int .i64 v.at_, .string v.text]
/-- A text of bytes. -/
def ofL (l : List UInt8) : ByteArray := ⟨l.toArray⟩
theorem ofL_size (l : List UInt8) : (ofL l).size = l.length := by
  show l.toArray.size = l.length
  simp
theorem ofL_data (l : List UInt8) : (ofL l).data.toList = l := by simp [ofL]
theorem ofL_self (s : ByteArray) : ofL s.data.toList = s := by
  unfold ofL
  rw [Array.toArray_toList]
theorem extract_ofL (l : List UInt8) (a b : Nat) : (ofL l).extract a b = ofL ((l.take b).drop a) := by
  refine ByteArray.ext (Array.toList_inj.1 ?_)
  rw [ByteArray.data_extract, Array.toList_extract, ofL_data, ofL_data, List.extract_eq_take_drop]
  rw [List.drop_take]
theorem ofL_left (a b : List UInt8) : (ofL (a ++ b)).extract 0 a.length = ofL a := by rw [extract_ofL]; simp
theorem ofL_right (a b : List UInt8) : (ofL (a ++ b)).extract a.length (ofL (a ++ b)).size = ofL b := by
  rw [extract_ofL, ofL_size, List.take_of_length_le (Nat.le_refl _), List.drop_left]
theorem ofL_append (a b : List UInt8) : ofL a ++ ofL b = ofL (a ++ b) := by
  apply ByteArray.ext
  simp [ofL]
theorem ofL_str (l : List Nat) : strOf l = ofL (l.map UInt8.ofNat) := by
  unfold strOf strOfNums ofL
  rw [List.map_map]
  rfl
namespace Crc
def poly : Nat := 3988292384
def back (c : Nat) : Nat := if c % 2 = 1 then poly else 0
/-- One step: the lowest bit goes out; with the text's bit it tells whether the polynomial is added. -/
def step (c b : Nat) : Nat := c / 2 ^^^ back (c ^^^ b)
theorem xor_mod2 (a b : Nat) : (a ^^^ b) % 2 = (a % 2 + b % 2) % 2 := by
  have h := Nat.xor_mod_two_pow (a := a) (b := b) (n := 1)
  have e : ∀ x, x < 2 → ∀ y, y < 2 → x ^^^ y = (x + y) % 2 := by decide
  rw [show 2 ^ 1 = 2 from rfl] at h
  rw [h, e _ (Nat.mod_lt _ (by decide)) _ (Nat.mod_lt _ (by decide))]
theorem xor_div2 (a b : Nat) : (a ^^^ b) / 2 = a / 2 ^^^ b / 2 := Nat.xor_div_two
theorem back_xor (a b : Nat) : back (a ^^^ b) = back a ^^^ back b := by
  unfold back
  have h := xor_mod2 a b
  rcases Nat.mod_two_eq_zero_or_one a with ha | ha <;> rcases Nat.mod_two_eq_zero_or_one b with hb | hb <;> rw [ha, hb] at h <;> simp [h, ha, hb]
theorem step_xor (c d a b : Nat) : step (c ^^^ d) (a ^^^ b) = step c a ^^^ step d b := by
  unfold step
  rw [xor_div2, show (c ^^^ d) ^^^ (a ^^^ b) = (c ^^^ a) ^^^ (d ^^^ b) by ac_rfl, back_xor]
  ac_rfl
theorem poly_lt : poly < 2 ^ 32 := by decide
theorem back_lt (c : Nat) : back c < 2 ^ 32 := by
  unfold back
  split
  · exact poly_lt
  · decide
theorem step_lt {c : Nat} (h : c < 2 ^ 32) (b : Nat) : step c b < 2 ^ 32 := Nat.xor_lt_two_pow (by omega) (back_lt _)
theorem step_bit (c b : Nat) (hb : b < 2) : step c b = step (c ^^^ b) 0 := by
  unfold step
  rw [xor_div2, Nat.xor_zero, show b / 2 = 0 by omega, Nat.xor_zero]
/-- With no bit nothing is lost. -/
theorem step_ne {c : Nat} (h : c < 2 ^ 32) (h0 : c ≠ 0) : step c 0 ≠ 0 := by
  unfold step back
  rw [Nat.xor_zero]
  by_cases e : c % 2 = 1
  · rw [if_pos e]
    intro hx
    have h1 : c / 2 = poly := Gf.eq_of_xor hx
    unfold poly at h1
    omega
  · rw [if_neg e, Nat.xor_zero]
    omega
/-- The remainder over the first p bits. -/
def crcTo (f : Nat → Nat) (c : Nat) : Nat → Nat
  | 0 => c
  | p + 1 => step (crcTo f c p) (f p)
theorem crcTo_lt {f : Nat → Nat} {c : Nat} (h : c < 2 ^ 32) : ∀ p, crcTo f c p < 2 ^ 32
  | 0 => h
  | p + 1 => step_lt (crcTo_lt h p) _
theorem crcTo_xor (f g : Nat → Nat) (c d : Nat) : ∀ p, crcTo (fun i => f i ^^^ g i) (c ^^^ d) p = crcTo f c p ^^^ crcTo g d p
  | 0 => rfl
  | p + 1 => by
    show step (crcTo (fun i => f i ^^^ g i) (c ^^^ d) p) (f p ^^^ g p) = _
    rw [crcTo_xor f g c d p, step_xor]
    rfl
theorem crcTo_add (f : Nat → Nat) (c p : Nat) : ∀ q, crcTo f c (p + q) = crcTo (fun i => f (p + i)) (crcTo f c p) q
  | 0 => rfl
  | q + 1 => by
    show step (crcTo f c (p + q)) (f (p + q)) = step (crcTo (fun i => f (p + i)) (crcTo f c p) q) (f (p + q))
    rw [crcTo_add f c p q]
theorem crcTo_congr {f g : Nat → Nat} {c : Nat} : ∀ p, (∀ i, i < p → f i = g i) → crcTo f c p = crcTo g c p
  | 0, _ => rfl
  | p + 1, h => by
    show step (crcTo f c p) (f p) = step (crcTo g c p) (g p)
    rw [crcTo_congr p (fun i hi => h i (by omega)), h p (by omega)]
def zs (m x : Nat) : Nat := crcTo (fun _ => 0) x m
theorem zs_xor (m x y : Nat) : zs m (x ^^^ y) = zs m x ^^^ zs m y := by
  have h := crcTo_xor (fun _ => 0) (fun _ => 0) x y m
  unfold zs
  rw [← h]
  exact crcTo_congr m (fun _ _ => rfl)
theorem zs_ne {x : Nat} (h : x < 2 ^ 32) (h0 : x ≠ 0) : ∀ m, zs m x ≠ 0
  | 0 => h0
  | m + 1 => step_ne (crcTo_lt h m) (zs_ne h h0 m)
theorem zs_zero : ∀ m, zs m 0 = 0
  | 0 => rfl
  | m + 1 => by
    show step (zs m 0) 0 = 0
    rw [zs_zero m]
    decide
theorem step_even (x : Nat) : step (2 * x) 0 = x := by
  unfold step back
  rw [Nat.xor_zero, if_neg (by omega), Nat.xor_zero]
  omega
theorem zs_step (m x : Nat) : zs (m + 1) x = zs m (step x 0) := by
  have := crcTo_add (fun _ => 0) x 1 m
  unfold zs
  rw [Nat.add_comm m 1, this]
  exact crcTo_congr m (fun _ _ => rfl)
theorem zs_pow (b : Nat) : ∀ m, zs m (2 ^ m * b) = b
  | 0 => by show 2 ^ 0 * b = b; omega
  | m + 1 => by
    rw [zs_step, show 2 ^ (m + 1) * b = 2 * (2 ^ m * b) by rw [Nat.pow_succ]; ac_rfl, step_even]
    exact zs_pow b m
/-- m bits as a number, the first the lowest. -/
def num (f : Nat → Nat) : Nat → Nat
  | 0 => 0
  | m + 1 => num f m ^^^ 2 ^ m * f m
theorem num_lt {f : Nat → Nat} (hf : ∀ i, f i < 2) : ∀ m, num f m < 2 ^ m
  | 0 => by show 0 < 2 ^ 0; decide
  | m + 1 => by
    show num f m ^^^ 2 ^ m * f m < 2 ^ (m + 1)
    have h1 := num_lt hf m
    have h2 := hf m
    have h3 : 2 ^ (m + 1) = 2 * 2 ^ m := by rw [Nat.pow_succ]; omega
    have h4 : 2 ^ m * f m < 2 ^ (m + 1) := by
      rcases (show f m = 0 ∨ f m = 1 by omega) with e | e <;> rw [e] <;> omega
    exact Nat.xor_lt_two_pow (by omega) h4
theorem num_ne {f : Nat → Nat} (hf : ∀ i, f i < 2) : ∀ m, (∃ i, i < m ∧ f i ≠ 0) → num f m ≠ 0
  | 0, ⟨_, h, _⟩ => absurd h (Nat.not_lt_zero _)
  | m + 1, ⟨i, hi, hne⟩ => by
    show num f m ^^^ 2 ^ m * f m ≠ 0
    intro hx
    have hx' := Gf.eq_of_xor hx
    have hlt := num_lt hf m
    have h2 := hf m
    rcases (show f m = 0 ∨ f m = 1 by omega) with e | e
    · rw [e, Nat.mul_zero] at hx'
      refine num_ne hf m ⟨i, ?_, hne⟩ hx'
      rcases Nat.lt_succ_iff_lt_or_eq.1 hi with h | h
      · exact h
      · rw [h, e] at hne; exact absurd rfl hne
    · rw [e] at hx'
      omega
/-- Bits that come in one by one, or at once. -/
theorem crcTo_num {f : Nat → Nat} (hf : ∀ i, f i < 2) (c : Nat) : ∀ m, crcTo f c m = zs m (c ^^^ num f m)
  | 0 => by show c = c ^^^ 0; rw [Nat.xor_zero]
  | m + 1 => by
    show step (crcTo f c m) (f m) = step (zs m (c ^^^ (num f m ^^^ 2 ^ m * f m))) 0
    rw [step_bit _ _ (hf m), crcTo_num hf c m, ← Nat.xor_assoc, zs_xor m (c ^^^ num f m), zs_pow]
/-- A burst of at most 32 bits is seen. -/
theorem burst_seen {f g : Nat → Nat} (hf : ∀ i, f i < 2) (hg : ∀ i, g i < 2) (c n a : Nat) (h : ∀ p, p < n → f p ≠ g p → a ≤ p ∧ p < a + 32) (hne : ∃ p, p < n ∧ f p ≠ g p) : crcTo f c n ≠ crcTo g c n := by
  intro he
  have hd : crcTo (fun i => f i ^^^ g i) 0 n = 0 := by
    have := crcTo_xor f g c c n
    rw [Nat.xor_self] at this
    rw [this, he, Nat.xor_self]
  have hb : ∀ i, f i ^^^ g i < 2 := fun i => Nat.xor_lt_two_pow (n := 1) (hf i) (hg i)
  have hz : ∀ p, p < n → ¬ (a ≤ p ∧ p < a + 32) → f p ^^^ g p = 0 := fun p hp hno => by
    have : f p = g p := Classical.byContradiction fun hx => hno (h p hp hx)
    rw [this, Nat.xor_self]
  obtain ⟨q, hq, hqne⟩ := hne
  have haq := h q hq hqne
  have h0 : crcTo (fun i => f i ^^^ g i) 0 a = 0 := by
    rw [crcTo_congr (g := fun _ => 0) a (fun i hi => hz i (by omega) (by omega))]
    exact zs_zero a
  -- the window: m bits from a on
  obtain ⟨m, hm32, hmn, hqm, hrest⟩ : ∃ m, m ≤ 32 ∧ a + m ≤ n ∧ q < a + m ∧ ∀ p, a + m ≤ p → p < n → ¬ (a ≤ p ∧ p < a + 32) := by
    by_cases hc : a + 32 ≤ n
    · exact ⟨32, Nat.le_refl _, hc, haq.2, fun p h1 _ => by omega⟩
    · exact ⟨n - a, by omega, by omega, by omega, fun p h1 h2 => by omega⟩
  have h1 : crcTo (fun i => f i ^^^ g i) 0 (a + m) = zs m (num (fun i => f (a + i) ^^^ g (a + i)) m) := by
    rw [crcTo_add, h0, crcTo_num (fun i => hb (a + i)), Nat.zero_xor]
  have hnz : num (fun i => f (a + i) ^^^ g (a + i)) m ≠ 0 := num_ne (fun i => hb (a + i)) m ⟨q - a, by omega, by
    show f (a + (q - a)) ^^^ g (a + (q - a)) ≠ 0
    rw [show a + (q - a) = q by omega]
    exact Gf.xor_ne hqne⟩
  have hlt : num (fun i => f (a + i) ^^^ g (a + i)) m < 2 ^ 32 := Nat.lt_of_lt_of_le (num_lt (fun i => hb (a + i)) m) (Nat.pow_le_pow_right (by decide) hm32)
  have h2 : crcTo (fun i => f i ^^^ g i) 0 n = zs (n - (a + m)) (zs m (num (fun i => f (a + i) ^^^ g (a + i)) m)) := by
    rw [← h1]
    have := crcTo_add (fun i => f i ^^^ g i) 0 (a + m) (n - (a + m))
    rw [show a + m + (n - (a + m)) = n by omega] at this
    rw [this]
    exact crcTo_congr _ (fun i hi => hz (a + m + i) (by omega) (hrest _ (by omega) (by omega)))
  exact zs_ne (crcTo_lt hlt m) (zs_ne hlt hnz m) _ (h2.symm.trans hd)
end Crc
end Go.Proofs.YtmbpfbhpmafheaaGreatDoor
