/- Texts laid together. -/
import Derived.Test.YtaaahibncffcmaaDoorRows
import Derived.ProofKit
import Derived.LaidLaws
import Derived.LaidHandle
import Derived.LaidMore
import Derived.Stop.LaidErr
import Derived.Test.YtaaahibncffcmaaDoorProg
import Derived.WalkKit
import Derived.LaidEql
import Derived.Stop.Asserts
import Derived.RowKitTokens
import Derived.OpenShut
import Derived.ChangeOld
import Derived.Test.YtaaahibncffcmaaDoorHb0
import Derived.Laws.BitsAllLaws
import Derived.Laws.BitsLemmas
import Derived.WalkSmall
import Derived.Laws.AppendOwn
import Derived.OwnWalk
import Derived.Laws.AppendOwnNone
import Derived.Deep.OwnRows
import Derived.Below
import Derived.Deep.QuietTactic
import Derived.BigQuiet
import Derived.Laws.BytesArg
namespace Go.Proofs.YtaaahibncffcmaaDoor
open Go.RowKit
section
open Go.ChangeShapes Go.WideShapes Go.RowKit
def errD (text : List UInt8) : DataW Unit := .iface "*errors.errorString" (.ptr (.agg [.lit (.string text)]))
theorem sents {P : Program} {W : World} {ti tp te ts : TypeId} {ms : Array (String × TypeId)} {f : Field}
    (hi : P.underlying ti = some (.interface ms)) (hrow : ∀ u, P.typeName? 3 u = some "*errors.errorString" → u = tp)
    (hp : P.underlying tp = some (.pointer te)) (he : P.underlying te = some (.struct #[f])) (hft : f.type = ts) (hfo : f.offset = 0) (hs : P.underlying ts = some .string) (hc : P.cellsOf te = 1) (hcs : P.cellsOf ts = 1) :
    ∀ (L : List (String × List UInt8)) (ps : List MemPlace), DataW.LaidVars P W (L.map fun x => (x.1, errD x.2)) ps →
      (∀ x ∈ L, ∃ g, P.globalNamed x.1 = some g ∧ (P.globals[g]?).map (·.type) = some ti) →
      (∀ b off, MemPlace.cell b off ∈ ps → (∃ c t, W.heap[b]? = some (.cells c t (0, 0))) ∧ ∀ u v, W.cell? ⟨b, off, none⟩ = some (.iface u v) → Value.okWide P W .any 0 u v) →
      ∃ ad : Nat → Addr, (∀ i x, L[i]? = some x → MemPlace.cell (ad i).block (ad i).off ∈ ps ∧ W.var? P x.1 = some #[.iface tp (.pointer (some (ad i)))]) ∧
        (ps.Nodup → ∀ i j, i < L.length → j < L.length → i ≠ j → ad i ≠ ad j) := by
  intro L
  induction L with
  | nil =>
    intro ps _ _ _
    exact ⟨fun _ => ⟨0, 0, none⟩, fun i x h => by simp at h, fun _ i j h => by simp at h⟩
  | cons x r ih =>
    intro ps hl hn hr
    obtain ⟨g0, t0, cs0, f0, p0, q0, hg0, ht0, hv0, hd0, hq, rfl⟩ := hl
    obtain ⟨g, hg, ht⟩ := hn x (List.mem_cons_self ..)
    obtain rfl := Option.some.inj (hg.symm.trans hg0)
    obtain rfl := Option.some.inj (ht.symm.trans ht0)
    obtain ⟨ad, h1, h2⟩ := ih q0 hq (fun y hy => hn y (List.mem_cons_of_mem _ hy)) (fun b off hm => hr b off (List.mem_append_right _ hm))
    obtain ⟨l0⟩ := cs0
    have ok0 : ∀ u v, l0 = [.iface u v] → Value.okWide P W .any 0 u v := fun u v e => by
      subst e
      exact (hr g 0 (by simp [MemPlace.row])).2 u v (by simpa using World.var?_cell hg0 hv0 0)
    obtain ⟨a0, s0, rfl, hc0, hs0, hz0, rfl⟩ := errorString_of_trod hi hrow hp he hft hfo hs hc hcs hd0 ok0
    refine ⟨fun i => match i with | 0 => a0 | k + 1 => ad k, ?_, ?_⟩
    · intro i y hy
      match i with
      | 0 =>
        obtain rfl : x = y := by simpa using hy
        exact ⟨by simp [MemPlace.row], hv0⟩
      | k + 1 =>
        have := h1 k y (by simpa using hy)
        exact ⟨List.mem_append_right _ this.1, this.2⟩
    · intro hnd i j hi' hj' hij
      have hq' : q0.Nodup := List.Nodup.sublist (List.sublist_append_right _ _) hnd
      have hd : ∀ k, k < r.length → a0 ≠ ad k := by
        intro k hk e
        obtain ⟨y, hy⟩ : ∃ y, r[k]? = some y := ⟨r[k], List.getElem?_eq_getElem hk⟩
        have hm := (h1 k y hy).1
        rw [← e] at hm
        have hdis := (List.nodup_append.1 hnd).2.2
        exact hdis _ (List.mem_append_right _ (by simp [MemPlace.row])) _ hm rfl
      match i, j, hi', hj', hij with
      | 0, 0, _, _, h => exact absurd rfl h
      | 0, k + 1, _, hk, _ => exact hd k (by simpa using hk)
      | k + 1, 0, hk, _, _ => exact (hd k (by simpa using hk)).symm
      | k + 1, m + 1, hk, hm, hne => exact h2 hq' k m (by simpa using hk) (by simpa using hm) (fun e => hne (by rw [e]))

/-- What is laid ahead of others: what is left behind it. -/
theorem laid_peel {P : Program} {W : World} : ∀ (L M : List (String × DataW Unit)) (ps : List MemPlace), DataW.LaidVars P W (L ++ M) ps → ∃ p q, ps = p ++ q ∧ DataW.LaidVars P W M q
  | [], _, ps, h => ⟨[], ps, rfl, h⟩
  | x :: L, M, ps, h => by
    obtain ⟨g0, t0, cs0, f0, p0, q0, hg0, ht0, hv0, hd0, hq, rfl⟩ := h
    obtain ⟨p, q, rfl, h2⟩ := laid_peel L M q0 hq
    exact ⟨_, q, (List.append_assoc _ _ _).symm, h2⟩
theorem star_es : "*" ++ "errors.errorString" = "*errors.errorString" := by kernel_rfl
theorem row_es (u : TypeId) (h : Tryd.prog.typeName? 3 u = some "*errors.errorString") : u = 136 :=
  typeName_ptr_named (nm := "errors.errorString") (by rw [star_es]; kernel_rfl) (by kernel_rfl) (by decide) u (by rw [star_es]; exact h)
end
section
open Go.Extern.Stop Go.Stop Go.Extern

theorem isTypeOf (v : Value) (w : World) : (Extern.ReflectliteType.typeOf #[.iface 136 v]).run Tryd.prog w = .ok (.iface 121 (.agg #[.pointer (some ⟨14, 136, none⟩)])) w := by kernel_rfl
def cmpEntry : Array Value → Sem Value := Extern.ReflectliteType.method fun t => do Rtype.noPackHeld "Comparable" t; pure (.bool (← typeInfo t).comparable)
theorem isComparable (w : World) : (cmpEntry #[.agg #[.pointer (some ⟨14, 136, none⟩)]]).run Tryd.prog w = .ok (.bool true) w := by kernel_rfl
theorem isMethodComparable (v : Value) (w : World) : (Go.method 268 121 v "Comparable").run Tryd.prog w = .ok (117, v) w := by kernel_rfl
theorem isComp : (Tryd.prog.info? 136).map (·.comparable) = some true := by kernel_rfl
theorem isSize : (Tryd.prog.info? 156).map (·.size) = some 1 := by kernel_rfl
theorem noIsE (v : Value) (xT : TypeId) (w : World) : (Instr.typeAssert (.iface 136 v) xT 132 true).run Tryd.prog w = .ok (.tuple #[.nilIface, .bool false]) w := run_typeAssert_lacksB Tryd.underlying132 (by kernel_rfl) (by kernel_rfl) v xT w
theorem noAsE (v : Value) (xT : TypeId) (w : World) : (Instr.typeAssert (.iface 136 v) xT 125 true).run Tryd.prog w = .ok (.tuple #[.nilIface, .bool false]) w := run_typeAssert_lacksB Tryd.underlying125 (by kernel_rfl) (by kernel_rfl) v xT w
theorem noUnwrapE (v : Value) (xT : TypeId) (w : World) : (Instr.typeAssert (.iface 136 v) xT 128 true).run Tryd.prog w = .ok (.tuple #[.nilIface, .bool false]) w := run_typeAssert_lacksB Tryd.underlying128 (by kernel_rfl) (by kernel_rfl) v xT w
theorem noUnwrapsE (v : Value) (xT : TypeId) (w : World) : (Instr.typeAssert (.iface 136 v) xT 130 true).run Tryd.prog w = .ok (.tuple #[.nilIface, .bool false]) w := run_typeAssert_lacksB Tryd.underlying130 (by kernel_rfl) (by kernel_rfl) v xT w

set_option maxRecDepth 10000 in
/-- errors.Is(x, x), x a pointer to an errors.errorString. -/
theorem is_same (a : Addr) (w : World) :
    Calls Tryd.prog 63 #[.iface 136 (.pointer (some a)), .iface 136 (.pointer (some a))] w fun e w' => e = .returned (.bool true) ∧ w' = w := by
  obtain ⟨i, hi, hcmp⟩ := Option.map_eq_some_iff.1 isComp
  obtain ⟨j, hj, hjs⟩ := Option.map_eq_some_iff.1 isSize
  have h8 := @run_callFunc_extern Tryd.prog 80 _ Extern.ReflectliteType.typeOf Tryd.func80 (by kernel_rfl) (by kernel_rfl) (by kernel_rfl) (by kernel_rfl)
  have h32 := @run_callFunc_extern Tryd.prog 117 _ cmpEntry Tryd.func117 (by kernel_rfl) (by kernel_rfl) (by kernel_rfl) (by kernel_rfl)
  have tT := isTypeOf
  have cT := isComparable
  have mR := isMethodComparable
  have heq := run_eql_iface_ptr_same (P := Tryd.prog) w a Tryd.underlying25 Tryd.underlying136 hi hcmp hj
  go_enter Tryd.func63, Tryd.ntmps63
  go_wp2
  refine wp_loop_rounds 1 ?_
  rw [rounds_succ]
  go_wp2
  go_ret
  exact ⟨rfl, rfl⟩

set_option maxRecDepth 10000 in
/-- errors.Is(x, y), two different pointers to errors.errorString: neither has Is nor Unwrap: false. -/
theorem is_other (a b : Addr) (ca cb : Array Value) (ta tb : TypeId) (w : World) (hne : a ≠ b) (ha : w.heap[a.block]? = some (.cells ca ta (0, 0))) (hb : w.heap[b.block]? = some (.cells cb tb (0, 0))) :
    Calls Tryd.prog 63 #[.iface 136 (.pointer (some a)), .iface 136 (.pointer (some b))] w fun e w' => e = .returned (.bool false) ∧ w' = w := by
  obtain ⟨i, hi, hcmp⟩ := Option.map_eq_some_iff.1 isComp
  obtain ⟨j, hj, hjs⟩ := Option.map_eq_some_iff.1 isSize
  have h8 := @run_callFunc_extern Tryd.prog 80 _ Extern.ReflectliteType.typeOf Tryd.func80 (by kernel_rfl) (by kernel_rfl) (by kernel_rfl) (by kernel_rfl)
  have h32 := @run_callFunc_extern Tryd.prog 117 _ cmpEntry Tryd.func117 (by kernel_rfl) (by kernel_rfl) (by kernel_rfl) (by kernel_rfl)
  have tT := isTypeOf
  have cT := isComparable
  have mR := isMethodComparable
  have nE := noIsE
  have uE := noUnwrapE
  have vE := noUnwrapsE
  have heq := run_eql_iface_ptr_other (P := Tryd.prog) w Tryd.underlying25 Tryd.underlying136 hi hcmp hj (by rw [hjs]; decide) hne ha hb
  go_enter Tryd.func63, Tryd.ntmps63
  go_wp2
  refine wp_loop_rounds 1 ?_
  rw [rounds_succ]
  go_wp2
  go_ret
  exact ⟨rfl, rfl⟩

/-! Closed facts on the entries for internal/reflectlite that errors.As comes to. -/
theorem valueOfFF (t : Addr) (w : World) : (ReflectliteValue.unpack (.iface 87 (.pointer (some t)))).run Tryd.prog w
    = .ok (.agg #[.pointer (some ⟨14, 87, none⟩), .pointer (some ⟨w.heap.size, 0, none⟩), .int .u64 150]) (w.alloc (.cells #[.pointer (some t)] 87)) := by kernel_rfl
theorem typeFF (a : Addr) (w : World) : (ReflectliteValue.methodAny (ReflectliteValue.valueError "reflectlite.Value.Type" 0) (fun t _ _ _ => ReflectliteType.toType t) #[.agg #[.pointer (some ⟨14, 87, none⟩), .pointer (some a), .int .u64 150]]).run Tryd.prog w
    = .ok (.iface 121 (.agg #[.pointer (some ⟨14, 87, none⟩)])) w := by kernel_rfl
theorem methodKind (h : Value) (w : World) : (Go.method 268 121 (.agg #[h]) "Kind").run Tryd.prog w = .ok (106, h) w := by kernel_rfl
theorem kindFF (w : World) : ((ReflectliteType.abiMethod fun t => (fun a : Nat => Value.int IntKind.u8 (a : Int)) <$> Rtype.kind t) #[.pointer (some ⟨14, 87, none⟩)]).run Tryd.prog w = .ok (.int .u8 22) w := by kernel_rfl
theorem kindF (w : World) : ((ReflectliteType.abiMethod fun t => (fun a : Nat => Value.int IntKind.u8 (a : Int)) <$> Rtype.kind t) #[.pointer (some ⟨14, 85, none⟩)]).run Tryd.prog w = .ok (.int .u8 22) w := by kernel_rfl
theorem rlm (z : Sem Value) (f : TypeId → Addr → Nat → Nat → Sem Value) (v : Value) :
    ReflectliteValue.method z f #[v] = (do match ← ReflectliteValue.parts v with | none => z | some (t, a, fl) => f t a fl (fl % 32)) := rfl
theorem partsFF (a : Addr) (w : World) : (ReflectliteValue.parts (.agg #[.pointer (some ⟨14, 87, none⟩), .pointer (some a), .int .u64 150])).run Tryd.prog w = .ok (some (87, a, 150)) w := by kernel_rfl
theorem isNilFF (a p : Addr) (W : World) (ha : W.cell? a = some (.pointer (some p))) :
    (ReflectliteValue.method (ReflectliteValue.valueError "reflectlite.Value.IsNil" 0) ReflectliteValue.isNil #[.agg #[.pointer (some ⟨14, 87, none⟩), .pointer (some a), .int .u64 150]]).run Tryd.prog W = .ok (.bool false) W := by
  rw [rlm]
  simp only [Sem.run_bind, partsFF, Result.andThen]
  simp [ReflectliteValue.isNil, loadVar, isAgg, underlying, Tryd.underlying87, ha, Result.andThen]
theorem methodElem (h : Value) (w : World) : (Go.method 268 121 (.agg #[h]) "Elem").run Tryd.prog w = .ok (118, .agg #[h]) w := by kernel_rfl
theorem methodImplements (h : Value) (w : World) : (Go.method 268 121 (.agg #[h]) "Implements").run Tryd.prog w = .ok (119, .agg #[h]) w := by kernel_rfl
theorem methodAssignableTo (h : Value) (w : World) : (Go.method 268 121 (.agg #[h]) "AssignableTo").run Tryd.prog w = .ok (116, .agg #[h]) w := by kernel_rfl
theorem elemFF (w : World) : (ReflectliteType.method ReflectliteType.elem #[.agg #[.pointer (some ⟨14, 87, none⟩)]]).run Tryd.prog w = .ok (.iface 121 (.agg #[.pointer (some ⟨14, 85, none⟩)])) w := by kernel_rfl
theorem implementsF (w : World) : (ReflectliteType.relation "Implements" ReflectliteType.implements_ #[.agg #[.pointer (some ⟨14, 85, none⟩)], .iface 121 (.agg #[.pointer (some ⟨14, 25, none⟩)])]).run Tryd.prog w = .ok (.bool true) w := by kernel_rfl
theorem assignableE (w : World) : (ReflectliteType.relation "AssignableTo" ReflectliteType.assignableTo #[.agg #[.pointer (some ⟨14, 136, none⟩)], .iface 121 (.agg #[.pointer (some ⟨14, 85, none⟩)])]).run Tryd.prog w = .ok (.bool false) w := by kernel_rfl

set_option maxRecDepth 10000 in
set_option maxHeartbeats 4000000 in
/-- errors.As of an errors.errorString, the target a **api.Fault: false; nothing old is written. -/
theorem as_miss (e t : Addr) (w : World) (hg : w.cell? ⟨12, 0, none⟩ = some (.iface 121 (.agg #[.pointer (some ⟨14, 25, none⟩)]))) :
    Calls Tryd.prog 62 #[.iface 136 (.pointer (some e)), .iface 87 (.pointer (some t))] w fun ev w' => ev = .returned (.bool false) ∧ Below w.heap.size w w' := by
  have h6 := @run_callFunc_extern Tryd.prog 76 _ (fun args => ReflectliteValue.unpack (args.getD 0 (.tuple #[]))) Tryd.func76 (by kernel_rfl) (by kernel_rfl) (by kernel_rfl) (by kernel_rfl)
  have h7 := @run_callFunc_extern Tryd.prog 77 _ (ReflectliteValue.methodAny (ReflectliteValue.valueError "reflectlite.Value.Type" 0) (fun t _ _ _ => ReflectliteType.toType t)) Tryd.func77 (by kernel_rfl) (by kernel_rfl) (by kernel_rfl) (by kernel_rfl)
  have h8 := @run_callFunc_extern Tryd.prog 78 _ (ReflectliteValue.method (ReflectliteValue.valueError "reflectlite.Value.IsNil" 0) ReflectliteValue.isNil) Tryd.func78 (by kernel_rfl) (by kernel_rfl) (by kernel_rfl) (by kernel_rfl)
  have h27 := @run_callFunc_extern Tryd.prog 106 _ (ReflectliteType.abiMethod fun t => do pure (.int .u8 (← Rtype.kind t))) Tryd.func106 (by kernel_rfl) (by kernel_rfl) (by kernel_rfl) (by kernel_rfl)
  have h37 := @run_callFunc_extern Tryd.prog 118 _ (ReflectliteType.method ReflectliteType.elem) Tryd.func118 (by kernel_rfl) (by kernel_rfl) (by kernel_rfl) (by kernel_rfl)
  have h38 := @run_callFunc_extern Tryd.prog 119 _ (ReflectliteType.relation "Implements" ReflectliteType.implements_) Tryd.func119 (by kernel_rfl) (by kernel_rfl) (by kernel_rfl) (by kernel_rfl)
  have h10 := @run_callFunc_extern Tryd.prog 80 _ ReflectliteType.typeOf Tryd.func80 (by kernel_rfl) (by kernel_rfl) (by kernel_rfl) (by kernel_rfl)
  have h35 := @run_callFunc_extern Tryd.prog 116 _ (ReflectliteType.relation "AssignableTo" ReflectliteType.assignableTo) Tryd.func116 (by kernel_rfl) (by kernel_rfl) (by kernel_rfl) (by kernel_rfl)
  have tO := isTypeOf
  have mA := methodAssignableTo
  have aE := assignableE
  have f6 := valueOfFF
  have f7 := typeFF
  have mK := methodKind
  have mE := methodElem
  have mI := methodImplements
  have kFF := kindFF
  have kF := kindF
  have eFF := elemFF
  have iF := implementsF
  have xA := noAsE
  have xU := noUnwrapE
  have xV := noUnwrapsE
  have n8 := isNilFF ⟨w.heap.size, 0, none⟩ t ((w.alloc (.cells #[.pointer (some t)] 87)).alloc (.cells #[.pointer (some ⟨14, 87, none⟩), .pointer (some ⟨w.heap.size, 0, none⟩), .int .u64 150] 107)) (by simp)
  have hlt : 12 < w.heap.size := by
    rcases Nat.lt_or_ge 12 w.heap.size with h | h
    · exact h
    · simp [World.cell?, Array.getElem?_eq_none h] at hg
  have hg2 : ((w.alloc (.cells #[.pointer (some t)] 87)).alloc (.cells #[.pointer (some ⟨14, 87, none⟩), .pointer (some ⟨w.heap.size, 0, none⟩), .int .u64 150] 107)).cell? ⟨12, 0, none⟩ = some (.iface 121 (.agg #[.pointer (some ⟨14, 25, none⟩)])) := by
    rw [World.cell?_alloc_lt _ _ ⟨12, 0, none⟩ (by simp; omega), World.cell?_alloc_lt _ _ ⟨12, 0, none⟩ hlt]; exact hg
  go_enter Tryd.func62, Tryd.ntmps62
  go_wp2
  refine wp_loop_rounds 1 ?_
  rw [rounds_succ]
  go_wp2
  go_ret
  exact ⟨rfl, (((Below.refl _ _).alloc (Nat.le_refl _) _).alloc (by simp) _).alloc (by simp; omega) _⟩
end
section
open Go.Extern.Stop Go.Stop Go.Extern

/-- The package-level variables lie as the program's text lays them: twelve errors, each its own pointer, and errors.errorType. -/
structure Sent (w : World) (ad : Nat → Addr) : Prop where
  c0 : w.cell? ⟨4, 0, none⟩ = some (.iface 136 (.pointer (some (ad 0))))
  c1 : w.cell? ⟨0, 0, none⟩ = some (.iface 136 (.pointer (some (ad 1))))
  c2 : w.cell? ⟨1, 0, none⟩ = some (.iface 136 (.pointer (some (ad 2))))
  c3 : w.cell? ⟨5, 0, none⟩ = some (.iface 136 (.pointer (some (ad 3))))
  c4 : w.cell? ⟨6, 0, none⟩ = some (.iface 136 (.pointer (some (ad 4))))
  c5 : w.cell? ⟨7, 0, none⟩ = some (.iface 136 (.pointer (some (ad 5))))
  c6 : w.cell? ⟨8, 0, none⟩ = some (.iface 136 (.pointer (some (ad 6))))
  c7 : w.cell? ⟨3, 0, none⟩ = some (.iface 136 (.pointer (some (ad 7))))
  c8 : w.cell? ⟨9, 0, none⟩ = some (.iface 136 (.pointer (some (ad 8))))
  c9 : w.cell? ⟨10, 0, none⟩ = some (.iface 136 (.pointer (some (ad 9))))
  c10 : w.cell? ⟨11, 0, none⟩ = some (.iface 136 (.pointer (some (ad 10))))
  c11 : w.cell? ⟨2, 0, none⟩ = some (.iface 136 (.pointer (some (ad 11))))
  typ : w.cell? ⟨12, 0, none⟩ = some (.iface 121 (.agg #[.pointer (some ⟨14, 25, none⟩)]))
  row : ∀ i, i < 12 → ∃ c t, w.heap[(ad i).block]? = some (.cells c t (0, 0))
  ne : ∀ i j, i < 12 → j < 12 → i ≠ j → ad i ≠ ad j

theorem lt_of_cell {w : World} {b o : Nat} {v : Value} (h : w.cell? ⟨b, o, none⟩ = some v) : b < w.heap.size := by
  rcases Nat.lt_or_ge b w.heap.size with h' | h'
  · exact h'
  · simp [World.cell?, Array.getElem?_eq_none h'] at h
theorem lt_of_row {w : World} {b : Nat} {o : Obj} (h : w.heap[b]? = some o) : b < w.heap.size := by
  rcases Nat.lt_or_ge b w.heap.size with h' | h'
  · exact h'
  · rw [Array.getElem?_eq_none h'] at h; cases h
theorem Sent.below {w w' : World} {ad : Nat → Addr} (h : Sent w ad) (hb : Below w.heap.size w w') : Sent w' ad where
  c0 := (hb.cell (lt_of_cell h.c0)).trans h.c0
  c1 := (hb.cell (lt_of_cell h.c1)).trans h.c1
  c2 := (hb.cell (lt_of_cell h.c2)).trans h.c2
  c3 := (hb.cell (lt_of_cell h.c3)).trans h.c3
  c4 := (hb.cell (lt_of_cell h.c4)).trans h.c4
  c5 := (hb.cell (lt_of_cell h.c5)).trans h.c5
  c6 := (hb.cell (lt_of_cell h.c6)).trans h.c6
  c7 := (hb.cell (lt_of_cell h.c7)).trans h.c7
  c8 := (hb.cell (lt_of_cell h.c8)).trans h.c8
  c9 := (hb.cell (lt_of_cell h.c9)).trans h.c9
  c10 := (hb.cell (lt_of_cell h.c10)).trans h.c10
  c11 := (hb.cell (lt_of_cell h.c11)).trans h.c11
  typ := (hb.cell (lt_of_cell h.typ)).trans h.typ
  row := fun i hi => by
    obtain ⟨c, t, hc⟩ := h.row i hi
    exact ⟨c, t, (hb.block _ (lt_of_row hc)).trans hc⟩
  ne := h.ne

theorem code_nil (w : World) : Calls Tryd.prog 31 #[.nilIface] w fun e w' => e = .returned (.tuple #[.int .i64 0, .int .i64 (-1)]) ∧ w' = w := by
  go_enter Tryd.func31, Tryd.ntmps31
  go_wp2
  go_ret2
  exact ⟨rfl, rfl⟩
/-- The row of the twelve errors. -/
def sentRow (ad : Nat → Addr) : Array Value := #[.iface 136 (.pointer (some (ad 0))), .iface 136 (.pointer (some (ad 1))), .iface 136 (.pointer (some (ad 2))), .iface 136 (.pointer (some (ad 3))), .iface 136 (.pointer (some (ad 4))), .iface 136 (.pointer (some (ad 5))), .iface 136 (.pointer (some (ad 6))), .iface 136 (.pointer (some (ad 7))), .iface 136 (.pointer (some (ad 8))), .iface 136 (.pointer (some (ad 9))), .iface 136 (.pointer (some (ad 10))), .iface 136 (.pointer (some (ad 11)))]
theorem sentRow_cell (ad : Nat → Addr) (w : World) : ∀ k, k < 12 → (w.alloc (.cells (sentRow ad) 25)).cell? ⟨w.heap.size, k, none⟩ = some (.iface 136 (.pointer (some (ad k)))) := by
  intro k hk
  have e : (sentRow ad)[k]? = some (.iface 136 (.pointer (some (ad k)))) := by
    match k, hk with
    | 0, _ | 1, _ | 2, _ | 3, _ | 4, _ | 5, _ | 6, _ | 7, _ | 8, _ | 9, _ | 10, _ | 11, _ => rfl
  rw [World.cell?_alloc_at _ _ _ _ (by simp)]
  exact e
set_option maxRecDepth 10000 in
set_option maxHeartbeats 4000000 in
theorem code_sent (ad : Nat → Addr) (i : Nat) (hi : i < 12) (w : World) (hS : Sent w ad) :
    Calls Tryd.prog 31 #[.iface 136 (.pointer (some (ad i)))] w fun e w' => e = .returned (.tuple #[.int .i64 ((i + 1 : Nat) : Int), .int .i64 (-1)]) ∧ Below w.heap.size w w' := by
  have hb1 : Below w.heap.size w (w.alloc (.cells #[.pointer none] 85)) := (Below.refl _ _).alloc (Nat.le_refl _) _
  have hS1 := hS.below hb1
  go_enter Tryd.func31, Tryd.ntmps31
  go_wp2_with fail
  refine (as_miss _ _ _ hS1.typ).mono ?_
  rintro e w2 ⟨rfl, hb2⟩
  have hS2 := hS1.below hb2
  have hS2' := hS2
  obtain ⟨c0, c1, c2, c3, c4, c5, c6, c7, c8, c9, c10, c11, _, _, _⟩ := hS2'
  go_wp2
  clear c0 c1 c2 c3 c4 c5 c6 c7 c8 c9 c10 c11 hb1 hS1 hS
  have hb3 : Below w2.heap.size w2 (w2.alloc (.cells (sentRow ad) 25)) := (Below.refl _ _).alloc (Nat.le_refl _) _
  have hS3 := hS2.below hb3
  have hrow := sentRow_cell ad w2
  have hb4 : Hid (Below w.heap.size w (w2.alloc (.cells (sentRow ad) 25))) := (((Below.refl _ _).alloc (Nat.le_refl _) _).trans (hb2.mono (by simp))).trans (hb3.mono (by have := hb2.size; simp at this; omega))
  have e3 : (w2.alloc (.cells (sentRow ad) 25)).heap.size = w2.heap.size + 1 := by simp
  unfold sentRow at hS3 hrow hb4
  generalize w2.alloc (.cells _ 25) = w3 at hS3 hrow hb4 ⊢
  clear hb2 hb3 hS2 e3
  go_loop [3, 30] (fun y x => y = .int .i64 (-1) ∧ ∃ k : Nat, k ≤ i ∧ x = .int .i64 k) (fun _ x => 12 - (intOf x).toNat)
  case atStart => exact ⟨rfl, 0, by omega, rfl⟩
  case round =>
    obtain ⟨rfl, k, hk, rfl⟩ := hrel
    have hk12 : k < 12 := by omega
    have hc := hrow k hk12
    obtain ⟨ca, ta, hra⟩ := hS3.row i hi
    obtain ⟨cb, tb, hrb⟩ := hS3.row k hk12
    clear hrow
    by_cases hki : k = i
    · subst hki
      go_wp2_with (go_at_call 63; refine (is_same (ad k) _).mono ?_; rintro e w' ⟨rfl, rfl⟩)
      go_ret2
      exact ⟨by simp, hb4.out⟩
    · have hne := hS3.ne i k hi hk12 (fun h => hki h.symm)
      have HN : Hid (ad i ≠ ad k) := hne
      have HA : Hid (w3.heap[(ad i).block]? = some (.cells ca ta (0, 0))) := hra
      have HB : Hid (w3.heap[(ad k).block]? = some (.cells cb tb (0, 0))) := hrb
      clear hne hra hrb
      go_wp2_with (go_at_call 63; refine (is_other (ad i) (ad k) ca cb ta tb _ HN.out HA.out HB.out).mono ?_; rintro e w' ⟨rfl, rfl⟩)
      go_round
      case rel => exact ⟨rfl, k + 1, by omega, by go_num⟩
      case measure => simp [intOf]; omega
end
section
open Go.ChangeShapes Go.WideShapes Go.RowKit

/-- The twelve, by name and text. -/
def L12 : List (String × List UInt8) := (Rows.matrixSpreadRow.laid.drop (0 + 1)).map fun x => (x.1, match x.2 with | .iface _ (.ptr (.agg [.lit (.string t)])) => t | _ => [])
theorem L12_laid : (L12.map fun x => (x.1, errD x.2)) = Rows.matrixSpreadRow.laid.drop (0 + 1) := rfl
theorem laid_split (W : World) : laidMetH Tryd.prog Rows.matrixSpreadRow.laid W = (laidMet Tryd.prog (Rows.matrixSpreadRow.laid.take 0 ++ L12.map fun x => (x.1, errD x.2)) W ∧ handlesMet Tryd.prog ((Rows.matrixSpreadRow.laid.drop 0).take 1) W) := by kernel_rfl
theorem L12_named : (L12.all fun x => match Tryd.prog.globalNamed x.1 with | some g => (Tryd.prog.globals[g]?).map (·.type) == some 25 | none => false) = true := by kernel_rfl
theorem g12 : L12.map (fun x => Tryd.prog.globalNamed x.1) = [some 4, some 0, some 1, some 5, some 6, some 7, some 8, some 3, some 9, some 10, some 11, some 2] := by kernel_rfl
theorem etNamed : Tryd.prog.globalNamed "errors.errorType" = some 12 := by kernel_rfl
theorem errOneRow : ((List.range 168).filter fun t => Tryd.prog.rowNamed t [101, 114, 114, 111, 114]) = [25] := by kernel_rfl
theorem typesSize : Tryd.prog.types.size = 168 := by kernel_rfl
theorem sent_of_laid {W : World} (h : laidMetH Tryd.prog Rows.matrixSpreadRow.laid W) : ∃ ad, Sent W ad := by
  rw [laid_split] at h
  obtain ⟨⟨ps0, hl0, hnd0, hr0⟩, hH⟩ := h
  obtain ⟨pp, ps, rfl, hl⟩ := laid_peel _ _ _ hl0
  have hnd : ps.Nodup := List.Nodup.sublist (List.sublist_append_right _ _) hnd0
  have hr := fun b off (hm : MemPlace.cell b off ∈ ps) => hr0 b off (List.mem_append_right _ hm)
  clear hl0 hnd0 hr0
  have hn : ∀ x ∈ L12, ∃ g, Tryd.prog.globalNamed x.1 = some g ∧ (Tryd.prog.globals[g]?).map (·.type) = some 25 := by
    intro x hx
    have := List.all_eq_true.1 L12_named x hx
    split at this
    · rename_i g hg
      exact ⟨g, hg, by simpa using this⟩
    · cases this
  have c57 : Tryd.prog.cellsOf 156 = 1 := by kernel_rfl
  have c9 : Tryd.prog.cellsOf 9 = 1 := by kernel_rfl
  obtain ⟨ad, h1, h2⟩ := sents Tryd.underlying25 row_es Tryd.underlying136 Tryd.underlying156 rfl rfl Tryd.underlying9 c57 c9 L12 ps hl hn hr
  have cell : ∀ i g x, L12[i]? = some x → Tryd.prog.globalNamed x.1 = some g → W.cell? ⟨g, 0, none⟩ = some (.iface 136 (.pointer (some (ad i)))) := by
    intro i g x hx hg
    simpa using World.var?_cell hg (h1 i x hx).2 0
  have cellg : ∀ i g, (L12.map (fun x => Tryd.prog.globalNamed x.1))[i]? = some (some g) → W.cell? ⟨g, 0, none⟩ = some (.iface 136 (.pointer (some (ad i)))) := by
    intro i g hx
    rw [List.getElem?_map] at hx
    obtain ⟨x, hx1, hx2⟩ := Option.map_eq_some_iff.1 hx
    exact cell i g x hx1 hx2
  rw [g12] at cellg
  have len : L12.length = 12 := rfl
  refine ⟨ad, cellg 0 _ rfl, cellg 1 _ rfl, cellg 2 _ rfl, cellg 3 _ rfl, cellg 4 _ rfl, cellg 5 _ rfl, cellg 6 _ rfl, cellg 7 _ rfl, cellg 8 _ rfl, cellg 9 _ rfl, cellg 10 _ rfl, cellg 11 _ rfl, ?_, ?_, fun i j hi hj => h2 hnd i j (by rw [len]; exact hi) (by rw [len]; exact hj)⟩
  · obtain ⟨name, u, ty, e1, e2, e3, e4, e5⟩ := hH _ (List.mem_singleton.2 rfl)
    have en : name = [101, 114, 114, 111, 114] := (Option.some.inj e1).symm
    subst en
    obtain rfl : 121 = u := Option.some.inj ((show _ = some 121 by kernel_rfl).symm.trans e2)
    have hm : ty ∈ (List.range 168).filter fun t => Tryd.prog.rowNamed t [101, 114, 114, 111, 114] := List.mem_filter.2 ⟨List.mem_range.2 (by rw [← typesSize]; exact e3), e4⟩
    rw [errOneRow] at hm
    obtain rfl := List.mem_singleton.1 hm
    have hh : typeHandle Tryd.prog 25 = .pointer (some ⟨14, 25, none⟩) := by kernel_rfl
    rw [hh] at e5
    simpa using World.var?_cell etNamed e5 0
  · intro i hi
    obtain ⟨x, hx⟩ : ∃ x, L12[i]? = some x := ⟨L12[i]'(by rw [len]; exact hi), List.getElem?_eq_getElem (by rw [len]; exact hi)⟩
    exact (hr _ _ (h1 i x hx).1).1
theorem own : ownKnob Tryd.prog.godebug = none := by kernel_rfl
theorem doorAll_met (os : Os) (args : Array Value) : laidMetH Tryd.prog Rows.matrixSpreadRow.laid ((World.doorLaid Tryd.prog 244 os).forCall (fun _ _ => 0) ⟨#[], args, []⟩).memory :=
  laidMetH_of_parts3 (fuel := 8) (laidMet_of_run' 8 (by kernel_rfl) (by kernel_rfl)) (by kernel_rfl) (by kernel_rfl)
end
section
open Go.ChangeShapes Go.WideShapes Go.ChangeAt Go.RowKit
/-- They, by name and text. -/
def LS : List (String × List UInt8) := Rows.coderSumsRow.laid.map fun x => (x.1, match x.2 with | .iface _ (.ptr (.agg [.lit (.string t)])) => t | _ => [])
theorem LS_laid (W : World) : laidMetH Tryd.prog Rows.coderSumsRow.laid W = laidMet Tryd.prog (LS.map fun x => (x.1, errD x.2)) W := by kernel_rfl
theorem LS_named : (LS.all fun x => match Tryd.prog.globalNamed x.1 with | some g => (Tryd.prog.globals[g]?).map (·.type) == some 25 | none => false) = true := by kernel_rfl
theorem LS_g : LS.map (fun x => Tryd.prog.globalNamed x.1) = [some 0, some 1, some 2] := by kernel_rfl
theorem zero_of_LS {W : World} (h : laidMetH Tryd.prog Rows.coderSumsRow.laid W) : ∃ z, W.cell? ⟨2, 0, none⟩ = some (.iface 136 (.pointer (some z))) := by
  rw [LS_laid] at h
  obtain ⟨ps, hl, _, hr⟩ := h
  have hn : ∀ x ∈ LS, ∃ g, Tryd.prog.globalNamed x.1 = some g ∧ (Tryd.prog.globals[g]?).map (·.type) = some 25 := by
    intro x hx
    have := List.all_eq_true.1 LS_named x hx
    split at this
    · rename_i g hg
      exact ⟨g, hg, by simpa using this⟩
    · cases this
  have c57 : Tryd.prog.cellsOf 156 = 1 := by kernel_rfl
  have c9 : Tryd.prog.cellsOf 9 = 1 := by kernel_rfl
  obtain ⟨ad, h1, _⟩ := sents Tryd.underlying25 row_es Tryd.underlying136 Tryd.underlying156 rfl rfl Tryd.underlying9 c57 c9 LS ps hl hn hr
  have cellg : ∀ i g, (LS.map (fun x => Tryd.prog.globalNamed x.1))[i]? = some (some g) → W.cell? ⟨g, 0, none⟩ = some (.iface 136 (.pointer (some (ad i)))) := by
    intro i g hx
    rw [List.getElem?_map] at hx
    obtain ⟨x, hx1, hx2⟩ := Option.map_eq_some_iff.1 hx
    simpa using World.var?_cell hx2 (h1 i x hx1).2 0
  rw [LS_g] at cellg
  exact ⟨ad 2, cellg 2 _ rfl⟩
end
theorem ret_int {k : IntKind} {a b : Int} (h : a = b) : Ending.returned (.int k a) = .returned (.int k b) := by rw [h]
theorem ret_bool {a b : Bool} (h : a = b) : Ending.returned (.bool a) = .returned (.bool b) := by rw [h]
theorem bit_test (b k : Nat) (hb : b < 256) : (bits BinOp.and IntKind.u8 ((b : Int) / 2 ^ k) 1 == 1) = decide (Gf.bitOf b k = 1) := by
  have h1 : ((b : Int) / 2 ^ k) = ((b / 2 ^ k : Nat) : Int) := by simp
  have h2 : b / 2 ^ k < 256 := Nat.lt_of_le_of_lt (Nat.div_le_self _ _) hb
  have h3 : bits BinOp.and IntKind.u8 ((b / 2 ^ k : Nat) : Int) 1 = ((b / 2 ^ k % 2 : Nat) : Int) := by
    have := u8_and_nat (b / 2 ^ k) 1 h2 (by decide)
    rw [Nat.and_one_is_mod] at this
    exact this
  rw [h1, h3]
  unfold Gf.bitOf
  rcases Nat.mod_two_eq_zero_or_one (b / 2 ^ k) with h | h <;> rw [h] <;> rfl
theorem bit_test64 (b k : Nat) (hb : b < 256) : (bits BinOp.and IntKind.i64 ((b : Int) / 2 ^ k) 1 == 1) = decide (Gf.bitOf b k = 1) := by
  have h1 : ((b : Int) / 2 ^ k) = ((b / 2 ^ k : Nat) : Int) := by simp
  have h2 : b / 2 ^ k < 256 := Nat.lt_of_le_of_lt (Nat.div_le_self _ _) hb
  have h3 : bits BinOp.and IntKind.i64 ((b / 2 ^ k : Nat) : Int) 1 = ((b / 2 ^ k % 2 : Nat) : Int) := by
    have := bits_mask IntKind.i64 8 (by decide) (fun n h0 h1 => by rw [IntKind.wrap_i64]; omega) 1 (by decide) ((b / 2 ^ k : Nat) : Int) (Int.natCast_nonneg _) (by exact_mod_cast h2)
    rw [show ((2 : Int) ^ 1 - 1) = 1 from rfl] at this
    rw [this]
    rfl
  rw [h1, h3]
  unfold Gf.bitOf
  rcases Nat.mod_two_eq_zero_or_one (b / 2 ^ k) with h | h <;> rw [h] <;> rfl
/-- n within the first round of 255. -/
def red (n : Int) : Nat := (n % 255).toNat
theorem red_cast (n : Int) : ((red n : Nat) : Int) = n % 255 := by unfold red; omega
theorem red_lt (n : Int) : red n < 255 := by unfold red; omega
theorem tmod_neg (n : Int) : n.tmod 255 = -((-n).tmod 255) := by rw [Int.neg_tmod, Int.neg_neg]
theorem i64_xor_nat (a b : Nat) (ha : a < 2 ^ 62) (hb : b < 2 ^ 62) : bits .xor .i64 (a : Int) (b : Int) = ((a ^^^ b : Nat) : Int) := by
  have hx : a ^^^ b < 2 ^ 62 := Nat.xor_lt_two_pow ha hb
  show IntKind.i64.wrap ((BitVec.ofInt 64 (a : Int) ^^^ BitVec.ofInt 64 (b : Int)).toNat : Int) = _
  rw [BitVec.toNat_xor, BitVec.ofInt_natCast, BitVec.ofInt_natCast, BitVec.toNat_ofNat, BitVec.toNat_ofNat, Nat.mod_eq_of_lt (by omega), Nat.mod_eq_of_lt (by omega), IntKind.wrap_i64]
  omega
theorem wrap64_small (n : Nat) (h : n < 2 ^ 62) : wrap64 (n : Int) = (n : Int) := by
  unfold wrap64; omega
theorem tmod_test (b k : Nat) : (((b : Int) / 2 ^ k).tmod 2 == 1) = decide (Gf.bitOf b k = 1) := by
  have h1 : ((b : Int) / 2 ^ k) = ((b / 2 ^ k : Nat) : Int) := by simp
  rw [h1, Int.tmod_eq_emod_of_nonneg (Int.natCast_nonneg _)]
  unfold Gf.bitOf
  have h3 : (((b / 2 ^ k : Nat) : Int) % 2) = ((b / 2 ^ k % 2 : Nat) : Int) := by simp
  rw [h3]
  rcases Nat.mod_two_eq_zero_or_one (b / 2 ^ k) with h | h <;> rw [h] <;> rfl
/-- In the world w the bytes l lie from p on. -/
structure Seg (w : World) (p : Option Addr) (l : List Nat) : Prop where
  lt : Gf.Bytes l
  cells : l = [] ∨ ∃ b o, p = some ⟨b, o, none⟩ ∧ b < w.heap.size ∧ ∀ i, i < l.length → w.cell? ⟨b, o + i, none⟩ = some (.int .u8 ((Gf.nth l i : Nat) : Int))
theorem Seg.drewN {w : World} {p : Option Addr} {l : List Nat} (h : Seg w p l) (n : Nat) : Seg (w.drewN n) p l := ⟨h.lt, h.cells⟩
theorem Seg.below {w w' : World} {p : Option Addr} {l : List Nat} (h : Seg w p l) (hb : Below w.heap.size w w') : Seg w' p l := by
  refine ⟨h.lt, ?_⟩
  rcases h.cells with h | ⟨b, o, hp, hlt, hc⟩
  · exact Or.inl h
  · exact Or.inr ⟨b, o, hp, Nat.lt_of_lt_of_le hlt hb.size, fun i hi => (hb.cell (p := ⟨b, o + i, none⟩) hlt).trans (hc i hi)⟩
/-- In the world w the rows M lie from p on. -/
def Mat (w : World) (p : Option Addr) (M : List (List Nat)) : Prop :=
  M = [] ∨ ∃ b o, p = some ⟨b, o, none⟩ ∧ b < w.heap.size ∧ ∀ i, i < M.length → ∃ q c, w.cell? ⟨b, o + i, none⟩ = some (.slice q (rowOf M i).length c) ∧ Seg w q (rowOf M i) ∧ (q = none → c = 0)
theorem Mat.below {w w' : World} {p : Option Addr} {M : List (List Nat)} (h : Mat w p M) (hb : Below w.heap.size w w') : Mat w' p M := by
  rcases h with h | ⟨b, o, hp, hlt, hc⟩
  · exact Or.inl h
  · refine Or.inr ⟨b, o, hp, Nat.lt_of_lt_of_le hlt hb.size, fun i hi => ?_⟩
    obtain ⟨q, c, h1, h2⟩ := hc i hi
    exact ⟨q, c, (hb.cell (p := ⟨b, o + i, none⟩) hlt).trans h1, h2.1.below hb, h2.2⟩
theorem Mat.drewN {w : World} {p : Option Addr} {M : List (List Nat)} (h : Mat w p M) (n : Nat) : Mat (w.drewN n) p M := h.below (below_drewN (Below.refl _ _) n)
/-- Is one too large for a statement? -/
def wideB (M : List (List Nat)) : Bool := decide (40 < M.length) || !decide (∀ i, i < M.length → (rowOf M i).length ≤ 40)
/-- Rows of as many bytes each, from 1 to 16 of both. -/
def IsMat (M : List (List Nat)) : Prop := 1 ≤ M.length ∧ M.length ≤ 16 ∧ ∀ i, i < M.length → 1 ≤ (rowOf M i).length ∧ (rowOf M i).length ≤ 16 ∧ (rowOf M i).length = (rowOf M 0).length
section
def byteV (n : Nat) : Value := .int .u8 (n : Int)
/-- v owns the bytes l in a row from block B on. -/
def Own (w : World) (B : Nat) (e : TypeId) (v : Value) (l : List Nat) : Prop := w.ownsRow B e 1 v l.length (l.map byteV)
theorem Own.nil (w : World) (B : Nat) (e : TypeId) : Own w B e (.slice none 0 0) [] := World.ownsRow_nil w B e 1
theorem Own.kept {w w' : World} {B : Nat} {e : TypeId} {v : Value} {l : List Nat} {row : Option Nat} (h : Own w B e v l) (hg : w.grownBy w' row) (hne : v.ownBlock = none ∨ v.ownBlock ≠ row) : Own w' B e v l := World.ownsRow.kept h hg hne
theorem Own.block {w : World} {B : Nat} {e : TypeId} {v : Value} {l : List Nat} (h : Own w B e v l) {k : Nat} (hk : v.ownBlock = some k) : B ≤ k ∧ k < w.heap.size := World.ownsRow.lt h k hk
theorem grownBy_drewN (w : World) (n : Nat) (row : Option Nat) : w.grownBy (w.drewN n) row := ⟨rfl, rfl, rfl, Nat.le_refl _, fun _ _ _ => rfl⟩
theorem Own.seg {w : World} {B : Nat} {e : TypeId} {v : Value} {l : List Nat} (h : Own w B e v l) (hl : Gf.Bytes l) : ∃ p cap, v = .slice p l.length cap ∧ Seg w p l := by
  rcases h.2 with ⟨rfl, h0⟩ | ⟨g, cap, cur, rfl, hb, hg, hnc, hcm, hcs, htake⟩
  · have : l = [] := List.length_eq_zero_iff.1 h0
    subst this
    exact ⟨none, 0, rfl, hl, Or.inl rfl⟩
  · refine ⟨some ⟨g, 0, none⟩, cap, rfl, hl, Or.inr ⟨g, 0, rfl, (Array.getElem?_eq_some_iff.1 hg).1, fun i hi => ?_⟩⟩
    have hc := World.ownsRow.cells (g := g) h rfl i (byteV (Gf.nth l i)) (by rw [List.getElem?_map, List.getElem?_eq_getElem hi, Gf.nth_getElem l i hi]; rfl)
    rw [Addr.add_lit] at hc
    exact hc
section
variable {P : Program} {w : World}
theorem append_where (B : Nat) (t ty e : TypeId) (i : TypeInfo) (z : Value) (ht : P.underlying t = some (.slice e)) (hi : P.info? e = some i) (hz : i.zero = some z) (hsize : i.size = 1) (hby : i.bytes = 1)
    (v : Value) (l : List Nat) (hown : Own w B e v l) (ad : Addr) (c b : Nat) (hb : w.cell? ad = some (byteV b)) (hl : l.length + 1 ≤ 1000000) {v' : Value} {w' : World}
    (hr : (Builtin.append_ #[t, t] ty #[v, .slice (some ad) 1 c]).run P w = .ok v' w') : v'.ownBlock = v.ownBlock ∨ v'.ownBlock = some w.heap.size := by
  have hnews : ∀ j u, [byteV b][j]? = some u → w.cell? (ad.add j) = some u := by
    intro j u hj
    match j, hj with
    | 0, hj =>
      obtain rfl : byteV b = u := by simpa using hj
      simpa [Addr.add] using hb
  rcases hown.2 with ⟨rfl, h0⟩ | ⟨g, cap, cur, rfl, hbg, hg, hnc, hcm, hcs, htake⟩
  · have := run_append_nil (P := P) w t ty e i z ht hi hz ad 1 c [byteV b] (by rw [hsize]; rfl) hnews (by decide) (by decide) (by rw [hby]; decide)
    rw [this] at hr
    injection hr with h1 h2
    subst h1
    exact Or.inr rfl
  · by_cases hroom : l.length + 1 ≤ cap
    · have := run_append_room (P := P) w t ty e i ht hi g l.length cap cur hg ad 1 c [byteV b] (by rw [hsize]; rfl) hnews (fun u hu => by rw [List.mem_singleton.1 hu]; rfl) hroom (by rw [hsize, hcs]; simpa using hroom)
      rw [this] at hr
      injection hr with h1 h2
      subst h1
      exact Or.inl rfl
    · have := run_append_grow (P := P) w t ty e i z ht hi hz ⟨g, 0, none⟩ l.length cap (l.map byteV) (by rw [hsize]; exact hown.1) (World.ownsRow.cells (g := g) hown rfl) ad 1 c [byteV b] (by rw [hsize]; rfl) hnews (by omega) (by omega) (growslice_fits (by omega) (by rw [hby]; omega))
      rw [this] at hr
      injection hr with h1 h2
      subst h1
      exact Or.inr rfl
theorem wp_append_byte {o : Oper} {a : Act} {K : Act → World → Prop} {Q : Exit → Act → World → Prop} (s x : Operand) (t : TypeId)
    (ho : o.op = .call { callee := .builtin .append, args := #[s, x], argTypes := #[t, t] })
    (B : Nat) (e : TypeId) (i : TypeInfo) (ht : P.underlying t = some (.slice e)) (hi : P.info? e = some i) (hz : i.zero = some (byteV 0)) (hsize : i.size = 1) (hby : i.bytes = 1)
    (v : Value) (l : List Nat) (hs : a.eval s = v) (hown : Own w B e v l) (ad : Addr) (c b : Nat) (hx : a.eval x = .slice (some ad) 1 c) (hb : w.cell? ad = some (byteV b)) (hl : l.length + 1 ≤ 1000000) (hbase : B ≤ w.heap.size)
    (h : ∀ v' w', Own w' B e v' (l ++ [b]) → w.grownBy w' v.ownBlock → (v'.ownBlock = v.ownBlock ∨ v'.ownBlock = some w.heap.size) → K (a.put o.dst v') w') : o.wp P a w K Q := by
  have hnews : ∀ j u, [byteV b][j]? = some u → w.cell? (ad.add j) = some u := by
    intro j u hj
    match j, hj with
    | 0, hj =>
      obtain rfl : byteV b = u := by simpa using hj
      simpa [Addr.add] using hb
  obtain ⟨v', w', hr, h2, h3, _⟩ := run_append_own (P := P) w B t o.type e i (byteV 0) 1 1 ht hi hz hsize hby rfl (by decide) v l.length (l.map byteV) hown ad 1 c [byteV b] rfl hnews (fun u hu => by rw [List.mem_singleton.1 hu]; rfl) (by unfold maxLen; omega) (by omega) hbase
  have h4 := append_where B t o.type e i (byteV 0) ht hi hz hsize hby v l hown ad c b hb hl hr
  have h5 : Own w' B e v' (l ++ [b]) := by
    unfold Own
    rw [List.length_append, List.map_append]
    exact h2
  unfold Oper.wp execOp
  simp only [ho, resolve, invoke, builtin, Sem.run_bind, Sem.run_pure, Result.andThen_ok, List.map_toArray, List.map_cons, List.map_nil, hs, hx, hr]
  exact h v' w' h5 h3 h4
theorem wpList_append_byte {ops : Array Oper} {rest : List Oper} {o : Oper} {a : Act} {Q : Exit → Act → World → Prop} (hgd : o.guard = none) (s x : Operand) (t : TypeId)
    (ho : o.op = .call { callee := .builtin .append, args := #[s, x], argTypes := #[t, t] })
    (B : Nat) (e : TypeId) (i : TypeInfo) (ht : P.underlying t = some (.slice e)) (hi : P.info? e = some i) (hz : i.zero = some (byteV 0)) (hsize : i.size = 1) (hby : i.bytes = 1)
    (v : Value) (l : List Nat) (hs : a.eval s = v) (hown : Own w B e v l) (ad : Addr) (c b : Nat) (hx : a.eval x = .slice (some ad) 1 c) (hb : w.cell? ad = some (byteV b)) (hl : l.length + 1 ≤ 1000000) (hbase : B ≤ w.heap.size)
    (h : ∀ v' w', Own w' B e v' (l ++ [b]) → w.grownBy w' v.ownBlock → (v'.ownBlock = v.ownBlock ∨ v'.ownBlock = some w.heap.size) → wpList P ops Q rest (a.put o.dst v') w') : wpList P ops Q (o :: rest) a w :=
  wpList_plain hgd fun _ hK => wp_append_byte s x t ho B e i ht hi hz hsize hby v l hs hown ad c b hx hb hl hbase fun v' w' h2 h3 h4 => hK _ _ (h v' w' h2 h3 h4)
end
end
/-- Are these rows a matrix? -/
def isMatB (M : List (List Nat)) : Bool := decide (1 ≤ M.length ∧ M.length ≤ 16) && (List.range M.length).all fun i => decide (1 ≤ (rowOf M i).length ∧ (rowOf M i).length ≤ 16 ∧ (rowOf M i).length = (rowOf M 0).length)
theorem isMatB_iff (M : List (List Nat)) : isMatB M = true ↔ IsMat M := by
  unfold isMatB IsMat
  simp only [Bool.and_eq_true, decide_eq_true_eq, List.all_eq_true, List.mem_range]
  exact ⟨fun h => ⟨h.1.1, h.1.2, h.2⟩, fun h => ⟨⟨h.1, h.2.1⟩, h.2.2⟩⟩
theorem isMatB_false {M : List (List Nat)} (h : ¬ IsMat M) : isMatB M = false := by
  cases e : isMatB M with
  | false => rfl
  | true => exact absurd ((isMatB_iff M).1 e) h
theorem u8info : (Tryd.prog.info? 5).map (fun i => (i.zero, i.size, i.bytes)) = some (some (byteV 0), 1, 1) := by kernel_rfl
/-- The bytes 0 to k - 1. -/
def upToL (k : Nat) : List Nat := List.range k
section
/-- v owns the values vs in a row from block B on. -/
def OwnV (w : World) (B : Nat) (e : TypeId) (v : Value) (vs : List Value) : Prop := w.ownsRow B e 1 v vs.length vs
theorem OwnV.nil (w : World) (B : Nat) (e : TypeId) : OwnV w B e (.slice none 0 0) [] := World.ownsRow_nil w B e 1
theorem OwnV.kept {w w' : World} {B : Nat} {e : TypeId} {v : Value} {l : List Value} {row : Option Nat} (h : OwnV w B e v l) (hg : w.grownBy w' row) (hne : v.ownBlock = none ∨ v.ownBlock ≠ row) : OwnV w' B e v l := World.ownsRow.kept h hg hne
theorem OwnV.block {w : World} {B : Nat} {e : TypeId} {v : Value} {l : List Value} (h : OwnV w B e v l) {k : Nat} (hk : v.ownBlock = some k) : B ≤ k ∧ k < w.heap.size := World.ownsRow.lt h k hk
theorem OwnV.cells {w : World} {B : Nat} {e : TypeId} {v : Value} {l : List Value} (h : OwnV w B e v l) : v = .slice none 0 0 ∧ l = [] ∨ ∃ g cap, v = .slice (some ⟨g, 0, none⟩) l.length cap ∧ B ≤ g ∧ g < w.heap.size ∧ ∀ i u, l[i]? = some u → w.cell? ⟨g, i, none⟩ = some u := by
  rcases h.2 with ⟨rfl, h0⟩ | ⟨g, cap, cur, rfl, hb, hg, hnc, hcm, hcs, htake⟩
  · exact Or.inl ⟨rfl, List.length_eq_zero_iff.1 h0⟩
  · refine Or.inr ⟨g, cap, rfl, hb, (Array.getElem?_eq_some_iff.1 hg).1, fun i u hu => ?_⟩
    have hc := World.ownsRow.cells (g := g) h rfl i u hu
    rw [Addr.add_lit, Nat.zero_add] at hc
    exact hc
section
variable {P : Program} {w : World}
theorem append_where_val (B : Nat) (t ty e : TypeId) (i : TypeInfo) (z : Value) (bytes : Nat) (ht : P.underlying t = some (.slice e)) (hi : P.info? e = some i) (hz : i.zero = some z) (hsize : i.size = 1) (hby : i.bytes = bytes) (h24 : bytes ≤ 64)
    (v : Value) (l : List Value) (hown : OwnV w B e v l) (ad : Addr) (c : Nat) (u : Value) (hu : u.oneCell' = true) (hb : w.cell? ad = some u) (hl : l.length + 1 ≤ 1000000) {v' : Value} {w' : World}
    (hr : (Builtin.append_ #[t, t] ty #[v, .slice (some ad) 1 c]).run P w = .ok v' w') : v'.ownBlock = v.ownBlock ∨ v'.ownBlock = some w.heap.size := by
  have hnews : ∀ j x, [u][j]? = some x → w.cell? (ad.add j) = some x := by
    intro j x hj
    match j, hj with
    | 0, hj =>
      obtain rfl : u = x := by simpa using hj
      simpa [Addr.add] using hb
  rcases hown.2 with ⟨rfl, h0⟩ | ⟨g, cap, cur, rfl, hbg, hg, hnc, hcm, hcs, htake⟩
  · have := run_append_nil (P := P) w t ty e i z ht hi hz ad 1 c [u] (by rw [hsize]; rfl) hnews (by decide) (by decide) (by rw [hby]; omega)
    rw [this] at hr
    injection hr with h1 h2
    subst h1
    exact Or.inr rfl
  · by_cases hroom : l.length + 1 ≤ cap
    · have := run_append_room (P := P) w t ty e i ht hi g l.length cap cur hg ad 1 c [u] (by rw [hsize]; rfl) hnews (fun x hx => by rw [List.mem_singleton.1 hx]; exact hu) hroom (by rw [hsize, hcs]; simpa using hroom)
      rw [this] at hr
      injection hr with h1 h2
      subst h1
      exact Or.inl rfl
    · have hbd : (l.length + 1) * bytes ≤ 1000000 * 64 := Nat.mul_le_mul hl h24
      have := run_append_grow (P := P) w t ty e i z ht hi hz ⟨g, 0, none⟩ l.length cap l (by rw [hsize]; exact hown.1) (World.ownsRow.cells (g := g) hown rfl) ad 1 c [u] (by rw [hsize]; rfl) hnews (by omega) (by omega) (growslice_fits (by omega) (by rw [hby]; omega))
      rw [this] at hr
      injection hr with h1 h2
      subst h1
      exact Or.inr rfl
theorem wpList_append_val {ops : Array Oper} {rest : List Oper} {o : Oper} {a : Act} {Q : Exit → Act → World → Prop} (hgd : o.guard = none) (s x : Operand) (t : TypeId)
    (ho : o.op = .call { callee := .builtin .append, args := #[s, x], argTypes := #[t, t] })
    (B : Nat) (e : TypeId) (i : TypeInfo) (z : Value) (bytes : Nat) (ht : P.underlying t = some (.slice e)) (hi : P.info? e = some i) (hz : i.zero = some z) (hzs : z.cells.size = 1) (hsize : i.size = 1) (hby : i.bytes = bytes) (h24 : bytes ≤ 64)
    (v : Value) (l : List Value) (hs : a.eval s = v) (hown : OwnV w B e v l) (ad : Addr) (c : Nat) (u : Value) (hu : u.oneCell' = true) (hx : a.eval x = .slice (some ad) 1 c) (hb : w.cell? ad = some u) (hl : l.length + 1 ≤ 1000000) (hbase : B ≤ w.heap.size)
    (h : ∀ v' w', OwnV w' B e v' (l ++ [u]) → w.grownBy w' v.ownBlock → (v'.ownBlock = v.ownBlock ∨ v'.ownBlock = some w.heap.size) → wpList P ops Q rest (a.put o.dst v') w') : wpList P ops Q (o :: rest) a w := by
  have hnews : ∀ j x, [u][j]? = some x → w.cell? (ad.add j) = some x := by
    intro j x hj
    match j, hj with
    | 0, hj =>
      obtain rfl : u = x := by simpa using hj
      simpa [Addr.add] using hb
  have hbd : (l.length + 1) * bytes ≤ 1000000 * 64 := Nat.mul_le_mul hl h24
  refine wpList_plain hgd fun K hK => ?_
  obtain ⟨v', w', hr, h2, h3, _⟩ := run_append_own (P := P) w B t o.type e i z 1 bytes ht hi hz hsize hby hzs (by decide) v l.length l hown ad 1 c [u] rfl hnews (fun x hx => by rw [List.mem_singleton.1 hx]; exact hu) (by unfold maxLen; omega) (by omega) hbase
  have h4 := append_where_val B t o.type e i z bytes ht hi hz hsize hby h24 v l hown ad c u hu hb hl hr
  have h5 : OwnV w' B e v' (l ++ [u]) := by
    unfold OwnV
    rw [List.length_append]
    exact h2
  unfold Oper.wp execOp
  simp only [ho, resolve, invoke, builtin, Sem.run_bind, Sem.run_pure, Result.andThen_ok, List.map_toArray, List.map_cons, List.map_nil, hs, hx, hr]
  exact hK _ _ (h v' w' h5 h3 h4)
/-- A row copied behind nil: nil again, or a new row. -/
theorem wpList_copy_row {ops : Array Oper} {rest : List Oper} {o : Oper} {a : Act} {Q : Exit → Act → World → Prop} (hgd : o.guard = none) (s x : Operand) (t : TypeId)
    (ho : o.op = .call { callee := .builtin .append, args := #[s, x], argTypes := #[t, t] })
    (e : TypeId) (i : TypeInfo) (ht : P.underlying t = some (.slice e)) (hi : P.info? e = some i) (hz : i.zero = some (byteV 0)) (hsize : i.size = 1) (hby : i.bytes = 1)
    (hs : a.eval s = .slice none 0 0) (q : Option Addr) (r : List Nat) (c : Nat) (hx : a.eval x = .slice q r.length c) (hq : Seg w q r) (hl : r.length ≤ 1000000) (hc0 : q = none → c = 0)
    (h : ∀ v' w', Own w' w.heap.size e v' r → Below w.heap.size w w' → wpList P ops Q rest (a.put o.dst v') w') : wpList P ops Q (o :: rest) a w := by
  rcases hq.cells with hr | ⟨b, o', rfl, hb, hcell⟩
  · subst hr
    refine wpList_plain hgd fun K hK => ?_
    have hr : (Builtin.append_ #[t, t] o.type #[.slice none 0 0, .slice q 0 c]).run P w = .ok (.slice none 0 0) w := by
      cases q with
      | none => obtain rfl := hc0 rfl; simp [Builtin.append_, run_underlying ht, sizeOf, typeInfo, hi, Builtin.lenOf, Builtin.firstCells]
      | some ad => simp [Builtin.append_, run_underlying ht, sizeOf, typeInfo, hi, Builtin.lenOf, Builtin.firstCells, loadCells, loadCellsFrom]
    unfold Oper.wp execOp
    simp only [List.length_nil] at hx
    simp only [ho, resolve, invoke, builtin, Sem.run_bind, Sem.run_pure, Result.andThen_ok, List.map_toArray, List.map_cons, List.map_nil, hs, hx, hr]
    exact hK _ _ (h _ _ (Own.nil w _ e) (Below.refl _ _))
  · refine wpList_append_own w hgd s x t ho w.heap.size e i (byteV 0) 1 1 ht hi hz hsize hby rfl (by decide) (.slice none 0 0) 0 [] hs (World.ownsRow_nil w _ e 1) ⟨b, o', none⟩ r.length c (r.map byteV) hx (by simp) ?_ ?_ (by unfold maxLen; omega) (by omega) (Nat.le_refl _) ?_
    · intro j u hj
      rw [List.getElem?_map] at hj
      obtain ⟨y, hy1, hy2⟩ := Option.map_eq_some_iff.1 hj
      have hjl : j < r.length := (List.getElem?_eq_some_iff.1 hy1).1
      rw [Addr.add_lit, hcell j hjl, Gf.nth_getElem r j hjl, ← hy2]
      have : r[j] = y := (List.getElem?_eq_some_iff.1 hy1).2
      rw [this]
      rfl
    · intro u hu
      obtain ⟨y, _, rfl⟩ := List.mem_map.1 hu
      rfl
    · intro v' w' hown hg _
      refine h v' w' ?_ ((Below.refl _ _).grown hg (Nat.le_refl _) (fun k hk => by simp [Value.ownBlock] at hk))
      simpa [Own] using hown
end
end
theorem Seg.kept {w w' : World} {q : Option Addr} {l : List Nat} {row : Option Nat} (h : Seg w q l) (hg : w.grownBy w' row) (hne : ∀ ad, q = some ad → some ad.block ≠ row) : Seg w' q l := by
  refine ⟨h.lt, ?_⟩
  rcases h.cells with h | ⟨b, o, hp, hlt, hc⟩
  · exact Or.inl h
  · refine Or.inr ⟨b, o, hp, Nat.lt_of_lt_of_le hlt hg.size, fun i hi => ?_⟩
    exact (World.cell?_of_block (a := ⟨b, o + i, none⟩) (hg.block b hlt (hne _ hp))).trans (hc i hi)
/-- v owns a slice of rows that lie in rows of their own, all from block B on. -/
def OwnMatV (B : Nat) (w : World) (e : TypeId) (v : Value) (vs : List Value) (M : List (List Nat)) : Prop :=
  OwnV w B e v vs ∧ vs.length = M.length ∧ ∀ i, i < M.length → ∃ q c, vs[i]? = some (.slice q (rowOf M i).length c) ∧ Seg w q (rowOf M i) ∧ (q = none → c = 0) ∧ ∀ ad, q = some ad → B ≤ ad.block ∧ ad.block < w.heap.size ∧ v.ownBlock ≠ some ad.block
def OwnMat (B : Nat) (w : World) (e : TypeId) (v : Value) (M : List (List Nat)) : Prop := ∃ vs, OwnMatV B w e v vs M
theorem OwnMat.nil (B : Nat) (w : World) (e : TypeId) : OwnMat B w e (.slice none 0 0) [] := ⟨[], OwnV.nil w B e, rfl, fun _ hi => absurd hi (Nat.not_lt_zero _)⟩
theorem Own.form {w : World} {B : Nat} {e : TypeId} {v : Value} {l : List Nat} (h : Own w B e v l) (hl : Gf.Bytes l) : ∃ q c, v = .slice q l.length c ∧ Seg w q l ∧ (q = none → c = 0) ∧ ∀ ad, q = some ad → B ≤ ad.block ∧ ad.block < w.heap.size := by
  rcases h.2 with ⟨rfl, h0⟩ | ⟨g, cap, cur, rfl, hb, hg, hnc, hcm, hcs, htake⟩
  · have : l = [] := List.length_eq_zero_iff.1 h0
    subst this
    exact ⟨none, 0, rfl, ⟨hl, Or.inl rfl⟩, fun _ => rfl, fun ad h => by cases h⟩
  · refine ⟨some ⟨g, 0, none⟩, cap, rfl, ?_, (fun h => by cases h), (fun ad h => by injection h with h; subst h; exact ⟨hb, (Array.getElem?_eq_some_iff.1 hg).1⟩)⟩
    obtain ⟨p, c, hv, hs⟩ := h.seg hl
    injection hv with h1 h2 h3
    subst h1
    exact hs
/-- One row more. -/
theorem OwnMatV.snoc {B : Nat} {w w1 w3 : World} {T E : TypeId} {v v' r : Value} {vs : List Value} {M : List (List Nat)} {row : List Nat} {o : Obj} (h : OwnMatV B w T v vs M) (hB : B ≤ w.heap.size) (hr : Own w1 w.heap.size E r row) (hrow : Gf.Bytes row) (hb : Below w.heap.size w w1)
    (hv : OwnV w3 B T v' (vs ++ [r]))
    (hg : (w1.alloc o).grownBy w3 v.ownBlock) (hw : v'.ownBlock = v.ownBlock ∨ v'.ownBlock = some (w1.alloc o).heap.size) : OwnMatV B w3 T v' (vs ++ [r]) (M ++ [row]) := by
  obtain ⟨hvs, hlen, hall⟩ := h
  have hz := hb.size
  have hsz : (w1.alloc o).heap.size = w1.heap.size + 1 := by simp
  have hvb : ∀ k, v.ownBlock = some k → k < w.heap.size := fun k hk => (hvs.block hk).2
  have hg1 : w1.grownBy w3 v.ownBlock := ⟨hg.os, hg.tape, hg.output, by have := hg.size; omega, fun k hk hne => (hg.block k (by omega) hne).trans (Below.heap_alloc w1 o k hk)⟩
  refine ⟨hv, by simp [hlen], fun i hi => ?_⟩
  rw [List.length_append, List.length_singleton] at hi
  by_cases hlt : i < M.length
  · obtain ⟨q, c, h1, h2, h3, h4⟩ := hall i hlt
    rw [rowOf_append_lt M row i hlt]
    refine ⟨q, c, by rw [List.getElem?_append_left (by omega)]; exact h1, (h2.below hb).kept hg1 (fun ad hq => fun e => (h4 ad hq).2.2 e.symm), h3, fun ad hq => ?_⟩
    have := h4 ad hq
    refine ⟨this.1, by have := hg1.size; omega, ?_⟩
    rcases hw with hw | hw
    · rw [hw]; exact this.2.2
    · rw [hw, hsz]; intro e; have := Option.some.inj e; omega
  · obtain rfl : i = M.length := by omega
    rw [rowOf_append_eq]
    obtain ⟨q, c, h1, h2, h3, h4⟩ := hr.form hrow
    refine ⟨q, c, by rw [List.getElem?_append_right (by omega), hlen, Nat.sub_self, h1]; rfl, h2.kept hg1 (fun ad hq => ?_), h3, fun ad hq => ?_⟩
    · have := h4 ad hq
      intro e
      have := hvb _ e.symm
      omega
    · have := h4 ad hq
      refine ⟨by omega, by have := hg1.size; omega, ?_⟩
      rcases hw with hw | hw
      · rw [hw]; intro e; have := hvb _ e; omega
      · rw [hw, hsz]; intro e; have := Option.some.inj e; omega
theorem OwnMat.mat {B : Nat} {w : World} {T : TypeId} {v : Value} {M : List (List Nat)} (h : OwnMat B w T v M) : ∃ p c, v = .slice p M.length c ∧ Mat w p M := by
  obtain ⟨vs, hvs, hlen, hall⟩ := h
  rcases hvs.cells with ⟨rfl, rfl⟩ | ⟨g, cap, rfl, hB, hg, hcell⟩
  · have : M = [] := List.length_eq_zero_iff.1 (by simpa using hlen.symm)
    subst this
    exact ⟨none, 0, rfl, Or.inl rfl⟩
  · refine ⟨some ⟨g, 0, none⟩, cap, by rw [hlen], Or.inr ⟨g, 0, rfl, hg, fun i hi => ?_⟩⟩
    obtain ⟨q, c, h1, h2, h3, _⟩ := hall i hi
    refine ⟨q, c, ?_, h2, h3⟩
    rw [Nat.zero_add]
    exact hcell i _ h1
theorem rowinfo : (Tryd.prog.info? 32).map (fun i => (i.zero, i.size, i.bytes)) = some (some (.slice none 0 0), 1, 24) := by kernel_rfl
/-- The row in block g is the call's own and holds l. -/
def OwnN (w : World) (B : Nat) (E : TypeId) (g n : Nat) (l : List Nat) : Prop := w.ownsRow B E 1 (.slice (some ⟨g, 0, none⟩) n n) n (l.map byteV)
theorem OwnN.made (w : World) (B : Nat) (E : TypeId) (n : Nat) (hB : B ≤ w.heap.size) (hn : n ≤ 1000000) : OwnN (w.alloc (.cells (madeCells #[byteV 0] n) E)) B E w.heap.size n (rowFn n fun _ => 0) := by
  have h := World.ownsRow_lit (base := B) (e := E) (size := 1) w (madeCells #[byteV 0] n) n hB (by unfold maxLen; omega) (by have := congrArg List.length (toList_madeCells_one (byteV 0) n); simpa using this)
  rw [toList_madeCells_one] at h
  have e : (rowFn n fun _ => 0).map byteV = List.replicate n (byteV 0) := by
    simp [rowFn, List.map_const']
  unfold OwnN
  rw [e]
  exact h
theorem OwnN.cell {w : World} {B : Nat} {E : TypeId} {g n : Nat} {l : List Nat} (h : OwnN w B E g n l) (j : Nat) (hj : j < n) (hl : l.length = n) : w.cell? ⟨g, j, none⟩ = some (.int .u8 ((Gf.nth l j : Nat) : Int)) := by
  rw [World.ownsRow.cellAt (w := w) h j (by omega), List.getElem?_map, List.getElem?_eq_getElem (by omega), Gf.nth_getElem l j (by omega)]
  rfl
theorem OwnN.free {w : World} {B : Nat} {E : TypeId} {g n : Nat} {l : List Nat} (h : OwnN w B E g n l) (j : Nat) : w.frozen? ⟨g, j, none⟩ = false := World.ownsRow.frozenAt (w := w) h j
theorem OwnN.set {w : World} {B : Nat} {E : TypeId} {g n : Nat} {f : Nat → Nat} (h : OwnN w B E g n (rowFn n f)) (j v : Nat) : OwnN (w.setCell ⟨g, j, none⟩ (.int .u8 (v : Int))) B E g n (rowFn n (fun i => if i = j then v else f i)) := by
  have := (World.ownsRow.stored (w := w) h j (byteV v)).1
  rw [← List.map_set, rowFn_set] at this
  exact this
theorem OwnN.drewN {w : World} {B : Nat} {E : TypeId} {g n : Nat} {l : List Nat} (h : OwnN w B E g n l) (m : Nat) : OwnN (w.drewN m) B E g n l := World.ownsRow.kept h (grownBy_drewN w m none) (Or.inr (by simp [Value.ownBlock]))
theorem OwnN.own {w : World} {B : Nat} {E : TypeId} {g n : Nat} {l : List Nat} (h : OwnN w B E g n l) (hl : l.length = n) : Own w B E (.slice (some ⟨g, 0, none⟩) n n) l := by
  unfold Own
  rw [hl]
  exact h
theorem OwnN.lt {w : World} {B : Nat} {E : TypeId} {g n : Nat} {l : List Nat} (h : OwnN w B E g n l) : B ≤ g ∧ g < w.heap.size := World.ownsRow.lt h g rfl
/-- Place j of row i of the product, so far. -/
def dotN (A B : List (List Nat)) (i j : Nat) : Nat → Nat
  | 0 => 0
  | k + 1 => dotN A B i j k ^^^ Gf.mul (Gf.nth (rowOf A i) k) (Gf.nth (rowOf B k) j)
/-- The product. -/
def prodM (A B : List (List Nat)) (m : Nat) : List (List Nat) := (List.range m).map fun i => rowFn (rowOf B 0).length fun j => dotN A B i j B.length
theorem prodM_succ (A B : List (List Nat)) (m : Nat) : prodM A B (m + 1) = prodM A B m ++ [rowFn (rowOf B 0).length fun j => dotN A B m j B.length] := by simp [prodM, List.range_succ]
theorem prodM_length (A B : List (List Nat)) (m : Nat) : (prodM A B m).length = m := by simp [prodM]
/-- All bytes of all rows are bytes. -/
def BytesM (M : List (List Nat)) : Prop := ∀ i, Gf.Bytes (rowOf M i)
theorem dotN_lt (A B : List (List Nat)) (hA : BytesM A) (i j : Nat) : ∀ k, dotN A B i j k < 256
  | 0 => by show 0 < 256; decide
  | k + 1 => Gf.xlt (dotN_lt A B hA i j k) (Gf.mul_lt (hA i k) _)
theorem Mat.row {w : World} {p : Option Addr} {M : List (List Nat)} (h : Mat w p M) {i : Nat} (hi : i < M.length) (hne : 0 < (rowOf M i).length) :
    ∃ b o b1 o1 c, p = some ⟨b, o, none⟩ ∧ b < w.heap.size ∧ b1 < w.heap.size ∧ w.cell? ⟨b, o + i, none⟩ = some (.slice (some ⟨b1, o1, none⟩) (rowOf M i).length c) ∧ ∀ j, j < (rowOf M i).length → w.cell? ⟨b1, o1 + j, none⟩ = some (.int .u8 ((Gf.nth (rowOf M i) j : Nat) : Int)) := by
  rcases h with h | ⟨b, o, hp, hb, hc⟩
  · rw [h] at hi; exact absurd hi (Nat.not_lt_zero _)
  · obtain ⟨q, c, h1, h2, _⟩ := hc i hi
    rcases h2.cells with h3 | ⟨b1, o1, hq, hb1, hc1⟩
    · rw [h3] at hne; exact absurd hne (Nat.lt_irrefl _)
    · subst hq
      exact ⟨b, o, b1, o1, c, hp, hb, hb1, h1, hc1⟩
theorem add_any (a b : Nat) (w : World) (ha : a < 256) (hb : b < 256) :
    Calls Tryd.prog 69 #[.int .u8 (a : Int), .int .u8 (b : Int)] w fun e w' => e = .returned (.int .u8 ((a ^^^ b : Nat) : Int)) ∧ w' = w := by
  go_enter Tryd.func69, Tryd.ntmps69
  go_wp2
  go_ret
  exact ⟨ret_int (u8_xor_nat a b ha hb), rfl⟩
set_option maxRecDepth 10000 in
theorem tx_any (a : Nat) (w : World) (ha : a < 256)  :
    Calls Tryd.prog 75 #[.int .u8 (a : Int)] w fun e w' => e = .returned (.int .u8 ((Gf.tx a : Nat) : Int)) ∧ w' = w := by
  by_cases h : a < 128
  · go_enter Tryd.func75, Tryd.ntmps75
    go_wp2
    go_ret
    exact ⟨ret_int (by simp [Gf.tx, h]), rfl⟩
  · go_enter Tryd.func75, Tryd.ntmps75
    go_wp2_with fail
    have e : ((a : Int) * 2 % 256) = ((a * 2 - 256 : Nat) : Int) := by omega
    rw [e]
    refine (add_any (a * 2 - 256) 29 _ (by omega) (by decide)).mono ?_
    rintro e w' ⟨rfl, rfl⟩
    go_wp2
    go_ret
    exact ⟨ret_int (by simp [Gf.tx, h]), rfl⟩
set_option maxRecDepth 10000 in
set_option maxHeartbeats 400000 in
theorem mul_any (a b : Nat) (w : World) (ha : a < 256) (hb : b < 256) :
    Calls Tryd.prog 61 #[.int .u8 (a : Int), .int .u8 (b : Int)] w fun e w' => e = .returned (.int .u8 ((Gf.mul a b : Nat) : Int)) ∧ w' = w := by
  go_enter Tryd.func61, Tryd.ntmps61
  go_wp2
  go_loop [0, 5, 7] (fun x p i => ∃ k : Nat, k ≤ 8 ∧ i = .int .i64 k ∧ x = .int .u8 (Gf.txn a k : Nat) ∧ p = .int .u8 (Gf.part a b k : Nat)) (fun _ _ i => 8 - (intOf i).toNat)
  case atStart => exact ⟨0, by omega, rfl, rfl, rfl⟩
  case round =>
    obtain ⟨k, hk, rfl, rfl, rfl⟩ := hrel
    have htx := Gf.txn_lt ha k
    have hpt := Gf.part_lt ha b k
    have hbt := bit_test b k hb
    by_cases hlt : k < 8
    · by_cases hbit : Gf.bitOf b k = 1
      · have HP : Hid (Gf.part a b (k + 1) = Gf.part a b k ^^^ Gf.txn a k) := by show _ = _; simp [Gf.part, hbit]
        rw [decide_eq_true hbit] at hbt
        clear hbit
        go_wp2_with (first | (go_at_call 69; refine (add_any _ _ _ hpt htx).mono ?_; rintro e w' ⟨rfl, rfl⟩) | (go_at_call 75; refine (tx_any _ _ htx).mono ?_; rintro e w' ⟨rfl, rfl⟩))
        go_round
        case rel => exact ⟨k + 1, by omega, by go_num, rfl, by rw [HP.out]⟩
        case measure => simp [intOf]; omega
      · have HP : Hid (Gf.part a b (k + 1) = Gf.part a b k) := by show _ = _; simp [Gf.part, hbit]
        rw [decide_eq_false hbit] at hbt
        clear hbit
        go_wp2_with (first | (go_at_call 69; refine (add_any _ _ _ hpt htx).mono ?_; rintro e w' ⟨rfl, rfl⟩) | (go_at_call 75; refine (tx_any _ _ htx).mono ?_; rintro e w' ⟨rfl, rfl⟩))
        go_round
        case rel => exact ⟨k + 1, by omega, by go_num, rfl, by rw [HP.out]⟩
        case measure => simp [intOf]; omega
    · go_wp2
      go_ret
      have hk8 : k = 8 := by omega
      subst hk8
      exact ⟨rfl, rfl⟩
set_option maxRecDepth 10000 in
set_option maxHeartbeats 400000 in
theorem power_any (a n : Nat) (w : World) (ha : a < 256) (hn : n < 256) :
    Calls Tryd.prog 56 #[.int .u8 (a : Int), .int .i64 (n : Int)] w fun e w' => e = .returned (.int .u8 ((Gf.power a n : Nat) : Int)) ∧ w' = w := by
  go_enter Tryd.func56, Tryd.ntmps56
  go_wp2
  go_loop [0, 5, 7] (fun x p i => ∃ k : Nat, k ≤ 8 ∧ i = .int .i64 k ∧ x = .int .u8 (Gf.sq a k : Nat) ∧ p = .int .u8 (Gf.pw a n k : Nat)) (fun _ _ i => 8 - (intOf i).toNat)
  case atStart => exact ⟨0, by omega, rfl, rfl, rfl⟩
  case round =>
    obtain ⟨k, hk, rfl, rfl, rfl⟩ := hrel
    have htx := Gf.sq_lt ha k
    have hpt := Gf.pw_lt (a := a) n k
    have hbt := bit_test64 n k hn
    by_cases hlt : k < 8
    · by_cases hbit : Gf.bitOf n k = 1
      · have HP : Hid (Gf.pw a n (k + 1) = Gf.mul (Gf.pw a n k) (Gf.sq a k)) := by show _ = _; simp [Gf.pw, hbit]
        rw [decide_eq_true hbit] at hbt
        clear hbit
        go_wp2_with fail
        refine (mul_any _ _ _ hpt htx).mono ?_
        rintro e w' ⟨rfl, rfl⟩
        go_wp2_with fail
        refine (mul_any _ _ _ htx htx).mono ?_
        rintro e w' ⟨rfl, rfl⟩
        go_wp2
        go_round
        case rel => exact ⟨k + 1, by omega, by go_num, rfl, by rw [HP.out]⟩
        case measure => simp [intOf]; omega
      · have HP : Hid (Gf.pw a n (k + 1) = Gf.pw a n k) := by show _ = _; simp [Gf.pw, hbit]
        rw [decide_eq_false hbit] at hbt
        clear hbit
        go_wp2_with fail
        refine (mul_any _ _ _ htx htx).mono ?_
        rintro e w' ⟨rfl, rfl⟩
        go_wp2
        go_round
        case rel => exact ⟨k + 1, by omega, by go_num, rfl, by rw [HP.out]⟩
        case measure => simp [intOf]; omega
    · go_wp2
      go_ret
      have hk8 : k = 8 := by omega
      subst hk8
      exact ⟨rfl, rfl⟩
theorem inverse_any (a : Nat) (w : World) (ha : a < 256) :
    Calls Tryd.prog 89 #[.int .u8 (a : Int)] w fun e w' => e = .returned (.int .u8 ((Gf.inv a : Nat) : Int)) ∧ w' = w := by
  go_enter Tryd.func89, Tryd.ntmps89
  go_wp2_with fail
  refine (power_any a 254 _ ha (by decide)).mono ?_
  rintro e w' ⟨rfl, rfl⟩
  go_wp2
  go_ret
  exact ⟨rfl, rfl⟩
theorem map_range_set (r : Nat) (vf : Nat → Value) (j : Nat) (v : Value) : ((List.range r).map vf).set j v = (List.range r).map (fun i => if i = j then v else vf i) := by
  apply List.ext_getElem?
  intro i
  rw [List.getElem?_set, List.getElem?_map, List.getElem?_map]
  by_cases hi : i < r
  · rw [List.getElem?_range hi]
    by_cases e : j = i
    · subst e; simp [hi]
    · have e' : ¬ i = j := fun h => e h.symm
      simp [e, e']
  · rw [List.getElem?_eq_none (by simpa using hi)]
    by_cases e : j = i
    · subst e; simp [hi]
    · simp [e]
/-- Values of type E in a row of the call's own. -/
def OwnE (w : World) (E : TypeId) (B g r : Nat) (vf : Nat → Value) : Prop := w.ownsRow B E 1 (.slice (some ⟨g, 0, none⟩) r r) r ((List.range r).map vf)
theorem OwnE.made (w : World) (E : TypeId) (z : Value) (B r : Nat) (hB : B ≤ w.heap.size) (hr : r ≤ 1000000) : OwnE (w.alloc (.cells (madeCells #[z] r) E)) E B w.heap.size r (fun _ => z) := by
  have h := World.ownsRow_lit (base := B) (e := E) (size := 1) w (madeCells #[z] r) r hB (by unfold maxLen; omega) (by have := congrArg List.length (toList_madeCells_one z r); simpa using this)
  rw [toList_madeCells_one] at h
  unfold OwnE
  rw [List.map_const', List.length_range]
  exact h
theorem OwnE.cell {w : World} {E : TypeId} {B g r : Nat} {vf : Nat → Value} (h : OwnE w E B g r vf) (j : Nat) (hj : j < r) : w.cell? ⟨g, j, none⟩ = some (vf j) := by
  rw [World.ownsRow.cellAt (w := w) h j (by omega), List.getElem?_map, List.getElem?_range hj]
  rfl
theorem OwnE.free {w : World} {E : TypeId} {B g r : Nat} {vf : Nat → Value} (h : OwnE w E B g r vf) (j : Nat) : w.frozen? ⟨g, j, none⟩ = false := World.ownsRow.frozenAt (w := w) h j
theorem OwnE.set {w : World} {E : TypeId} {B g r : Nat} {vf : Nat → Value} (h : OwnE w E B g r vf) (j : Nat) (v : Value) : OwnE (w.setCell ⟨g, j, none⟩ v) E B g r (fun i => if i = j then v else vf i) := by
  have := (World.ownsRow.stored (w := w) h j v).1
  rw [map_range_set] at this
  exact this
theorem OwnE.kept {w w' : World} {E : TypeId} {B g r : Nat} {vf : Nat → Value} {row : Option Nat} (h : OwnE w E B g r vf) (hg : w.grownBy w' row) (hne : row ≠ some g) : OwnE w' E B g r vf :=
  World.ownsRow.kept h hg (Or.inr (fun e => hne e.symm))
theorem OwnE.congr {w : World} {E : TypeId} {B g r : Nat} {vf vg : Nat → Value} (h : OwnE w E B g r vf) (he : ∀ i, i < r → vf i = vg i) : OwnE w E B g r vg := by
  unfold OwnE
  rw [List.map_congr_left (g := vf) (fun i hi => (he i (List.mem_range.1 hi)).symm)]
  exact h
theorem OwnE.lt {w : World} {E : TypeId} {B g r : Nat} {vf : Nat → Value} (h : OwnE w E B g r vf) : B ≤ g ∧ g < w.heap.size := World.ownsRow.lt h g rfl
/-- In the world w the numbers l lie from p on. -/
def Ints (w : World) (p : Option Addr) (l : List Int) : Prop := l = [] ∨ ∃ b o, p = some ⟨b, o, none⟩ ∧ b < w.heap.size ∧ ∀ i, i < l.length → w.cell? ⟨b, o + i, none⟩ = some (.int .i64 (l.getD i 0))
theorem Ints.below {w w' : World} {p : Option Addr} {l : List Int} (h : Ints w p l) (hb : Below w.heap.size w w') : Ints w' p l := by
  rcases h with h | ⟨b, o, hp, hlt, hc⟩
  · exact Or.inl h
  · exact Or.inr ⟨b, o, hp, Nat.lt_of_lt_of_le hlt hb.size, fun i hi => (hb.cell (p := ⟨b, o + i, none⟩) hlt).trans (hc i hi)⟩
/-- Unlike ones among others: no more than those. -/
theorem length_le_of_subset : ∀ (l X : List Nat), l.Nodup → (∀ x ∈ l, x ∈ X) → l.length ≤ X.length
  | [], _, _, _ => Nat.zero_le _
  | a :: t, X, hn, hs => by
    have ha : a ∈ X := hs a (List.mem_cons_self ..)
    have hn' := List.nodup_cons.1 hn
    have := length_le_of_subset t (X.erase a) hn'.2 (fun x hx => (List.mem_erase_of_ne (fun e => hn'.1 (by rw [← e]; exact hx))).2 (hs x (List.mem_cons_of_mem _ hx)))
    rw [List.length_erase_of_mem ha] at this
    have hp := List.length_pos_of_mem ha
    simp only [List.length_cons]
    omega
theorem boolinfo : (Tryd.prog.info? 4).map (fun i => (i.zero, i.size, i.bytes)) = some (some (.bool false), 1, 1) := by kernel_rfl
theorem within_any (n : Int) (w : World) :
    Calls Tryd.prog 57 #[.int .i64 n] w fun e w' => e = .returned (.int .i64 ((red n : Nat) : Int)) ∧ w' = w := by
  have HR : Hid (((red n : Nat) : Int) = n % 255) := red_cast n
  by_cases h0 : 0 ≤ n
  · go_enter Tryd.func57, Tryd.ntmps57
    go_wp2
    go_ret
    exact ⟨ret_int HR.out.symm, rfl⟩
  · have HT : Hid (n.tmod 255 = -((-n) % 255)) := by show _ = _; rw [tmod_neg, Int.tmod_eq_emod_of_nonneg (by omega)]
    have hb1 : -255 < n.tmod 255 := by rw [HT.out]; omega
    have hb2 : n.tmod 255 ≤ 0 := by rw [HT.out]; omega
    go_enter Tryd.func57, Tryd.ntmps57
    go_wp2
    · go_ret
      exact ⟨ret_int (by have := HT.out; have := HR.out; omega), rfl⟩
    · go_ret
      exact ⟨ret_int (by have := HT.out; have := HR.out; omega), rfl⟩
theorem pow_zero_pos (n : Int) (w : World) (hn : 0 < n) :
    Calls Tryd.prog 29 #[.int .u8 0, .int .i64 n] w fun e w' => e = .returned (.tuple #[.int .u8 0, .nilIface]) ∧ w' = w := by
  go_enter Tryd.func29, Tryd.ntmps29
  go_wp2
  go_ret2
  exact ⟨rfl, rfl⟩
theorem pow_reg (a : Nat) (n : Int) (w : World) (ha : a < 256) (h : a = 0 → n = 0) :
    Calls Tryd.prog 29 #[.int .u8 (a : Int), .int .i64 n] w fun e w' => e = .returned (.tuple #[.int .u8 (Gf.power a (red n) : Nat), .nilIface]) ∧ w' = w := by
  have hr := red_lt n
  by_cases h0 : a = 0
  · obtain rfl := h h0
    subst h0
    clear h
    go_enter Tryd.func29, Tryd.ntmps29
    go_wp2_with (first | (go_at_call 57; refine (within_any 0 _).mono ?_; rintro e w' ⟨rfl, rfl⟩) | (go_at_call 56; refine (power_any 0 (red 0) _ (by decide) (by omega)).mono ?_; rintro e w' ⟨rfl, rfl⟩))
    go_ret2
    exact ⟨rfl, rfl⟩
  · have h1 : ((a : Int) == 0) = false := by simpa using h0
    clear h h0
    go_enter Tryd.func29, Tryd.ntmps29
    go_wp2_with (first | (go_at_call 57; refine (within_any n _).mono ?_; rintro e w' ⟨rfl, rfl⟩) | (go_at_call 56; refine (power_any a (red n) _ ha (by omega)).mono ?_; rintro e w' ⟨rfl, rfl⟩))
    go_ret2
    exact ⟨rfl, rfl⟩
theorem pow_err (n : Int) (z : Addr) (w : World) (hn : n < 0) (hz : w.cell? ⟨2, 0, none⟩ = some (.iface 136 (.pointer (some z)))) :
    Calls Tryd.prog 29 #[.int .u8 0, .int .i64 n] w fun e w' => e = .returned (.tuple #[.int .u8 0, .iface 136 (.pointer (some z))]) ∧ Below w.heap.size w w' := by
  go_enter Tryd.func29, Tryd.ntmps29
  go_wp2
  go_quiet (fail)
  go_wp2
  go_ret2
  exact ⟨rfl, below_drewN (Below.refl _ _) _⟩
theorem inv_zero (z : Addr) (w : World) (hz : w.cell? ⟨2, 0, none⟩ = some (.iface 136 (.pointer (some z)))) :
    Calls Tryd.prog 82 #[.int .u8 0] w fun e w' => e = .returned (.tuple #[.int .u8 0, .iface 136 (.pointer (some z))]) ∧ Below w.heap.size w w' := by
  go_enter Tryd.func82, Tryd.ntmps82
  go_wp2
  go_quiet (fail)
  go_wp2
  go_ret2
  exact ⟨rfl, below_drewN (Below.refl _ _) _⟩
theorem inv_zero' (b : Nat) (h : b = 0) (z : Addr) (w : World) (hz : w.cell? ⟨2, 0, none⟩ = some (.iface 136 (.pointer (some z)))) :
    Calls Tryd.prog 82 #[.int .u8 (b : Int)] w fun e w' => e = .returned (.tuple #[.int .u8 0, .iface 136 (.pointer (some z))]) ∧ Below w.heap.size w w' := by
  subst h; exact inv_zero z w hz
theorem inv_any (a : Nat) (w : World) (ha : a < 256) (h0 : a ≠ 0) :
    Calls Tryd.prog 82 #[.int .u8 (a : Int)] w fun e w' => e = .returned (.tuple #[.int .u8 (Gf.inv a : Nat), .nilIface]) ∧ w' = w := by
  have h1 : ((a : Int) == 0) = false := by simpa using h0
  clear h0
  go_enter Tryd.func82, Tryd.ntmps82
  go_wp2_with (go_at_call 89; refine (inverse_any a _ ha).mono ?_; rintro e w' ⟨rfl, rfl⟩)
  go_ret2
  exact ⟨rfl, rfl⟩
/-- Bytes as a text. -/
def strOf (l : List Nat) : ByteArray := strOfNums (l.map Int.ofNat)
theorem conv_seg {w : World} {q : Option Addr} {l : List Nat} (h : Seg w q l) (c : Nat) : (convert 32 9 (.slice q l.length c)).run Tryd.prog w = .ok (.string (strOf l)) w := by
  rcases h.cells with hl | ⟨b, o, rfl, hb, hc⟩
  · subst hl
    cases q with
    | none => exact run_convert_bytes_nil w 32 5 Tryd.underlying32 Tryd.underlying5 0 c 9 Tryd.underlying9
    | some ad =>
      have hl : (loadCells ad 0).run Tryd.prog w = .ok (([] : List Int).map (Value.int .u8)).toArray w := by simp [loadCells, loadCellsFrom]
      rw [List.length_nil, run_convert_bytes_string w 32 9 5 _ 0 c Tryd.underlying32 Tryd.underlying5 Tryd.underlying9, run_bytesToString w ad 0 c [] hl]
      rfl
  · refine run_convert_bytes_arg w 32 5 Tryd.underlying32 Tryd.underlying5 b o l.length c (l.map Int.ofNat) (by simp) (fun i hi => ?_) 9 Tryd.underlying9
    rw [hc i hi, Gf.nth_getElem l i hi, List.getD_eq_getElem?_getD, List.getElem?_map, List.getElem?_eq_getElem hi]
    rfl
set_option maxRecDepth 10000 in
theorem mfits_any (n k : Int) (w : World) : Calls Tryd.prog 26 #[.int .i64 n, .int .i64 k] w fun e w' => e = .returned (.bool (decide (1 ≤ k ∧ k ≤ n ∧ n ≤ 12))) ∧ w' = w := by
  by_cases h1 : 1 ≤ k
  · by_cases h2 : k ≤ n
    · by_cases h3 : n ≤ 12
      · have HE : Hid (decide (1 ≤ k ∧ k ≤ n ∧ n ≤ 12) = true) := decide_eq_true ⟨h1, h2, h3⟩
        rw [HE.out]
        go_enter Tryd.func26, Tryd.ntmps26
        go_wp2
        go_ret
        exact ⟨rfl, rfl⟩
      · have HE : Hid (decide (1 ≤ k ∧ k ≤ n ∧ n ≤ 12) = false) := decide_eq_false fun h => h3 h.2.2
        rw [HE.out]
        go_enter Tryd.func26, Tryd.ntmps26
        go_wp2
        go_ret
        exact ⟨rfl, rfl⟩
    · have HE : Hid (decide (1 ≤ k ∧ k ≤ n ∧ n ≤ 12) = false) := decide_eq_false fun h => h2 h.2.1
      rw [HE.out]
      go_enter Tryd.func26, Tryd.ntmps26
      go_wp2
      go_ret
      exact ⟨rfl, rfl⟩
  · have HE : Hid (decide (1 ≤ k ∧ k ≤ n ∧ n ≤ 12) = false) := decide_eq_false fun h => h1 h.1
    rw [HE.out]
    go_enter Tryd.func26, Tryd.ntmps26
    go_wp2
    go_ret
    exact ⟨rfl, rfl⟩
end Go.Proofs.YtaaahibncffcmaaDoor
