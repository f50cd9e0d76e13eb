/- The five errors of a node's shards, in their variables. -/
import Derived.Test.YtcoecfpkihakoaaGreatDoorProg
import Derived.Below
import Derived.WalkKit
import Derived.Shelf.LaysM
import Derived.Shelf.Strconv.Clone
import Derived.Shelf.GgClosure.StringsIndexFuncTop
import Derived.LaidEql
import Derived.Laws.AppendOwn
import Derived.OwnWalk
import Derived.Test.YtcoecfpkihakoaaGreatDoorRows
import Derived.ProofKit
import Derived.LaidLaws
import Derived.LaidHandle
import Derived.LaidMore
import Derived.Stop.LaidErr
import Derived.Shelf.SlLaysE0
import Derived.Shelf.SortM.Plain
import Derived.Shelf.SortM.SortNone
import Derived.Shelf.SlicesE.Clone
namespace Go.Proofs.YtcoecfpkihakoaaGreatDoor
open Go.RowKit
theorem lt_of_cellE {w : World} {b o : Nat} {v : Value} (h : w.cell? ⟨b, o, none⟩ = some v) : b < w.heap.size := by
  rcases Nat.lt_or_ge b w.heap.size with h' | h'
  · exact h'
  · simp [World.cell?, Array.getElem?_eq_none h'] at h
/-- Errors that a node's shards have lie in their variables. -/
structure HErrs (w : World) (ad : Nat → Addr) : Prop where
  c1 : w.cell? ⟨3, 0, none⟩ = some (.iface 173 (.pointer (some (ad 1))))
  c3 : w.cell? ⟨0, 0, none⟩ = some (.iface 173 (.pointer (some (ad 3))))
  c5 : w.cell? ⟨6, 0, none⟩ = some (.iface 173 (.pointer (some (ad 5))))
  c6 : w.cell? ⟨7, 0, none⟩ = some (.iface 173 (.pointer (some (ad 6))))
  c9 : w.cell? ⟨1, 0, none⟩ = some (.iface 173 (.pointer (some (ad 9))))
theorem HErrs.below {w w' : World} {ad : Nat → Addr} (h : HErrs w ad) (hb : Below w.heap.size w w') : HErrs w' ad where
  c1 := (hb.cell (lt_of_cellE h.c1)).trans h.c1
  c3 := (hb.cell (lt_of_cellE h.c3)).trans h.c3
  c5 := (hb.cell (lt_of_cellE h.c5)).trans h.c5
  c6 := (hb.cell (lt_of_cellE h.c6)).trans h.c6
  c9 := (hb.cell (lt_of_cellE h.c9)).trans h.c9
theorem HErrs.keepBlocks {W V : World} {ad : Nat → Addr} (h : HErrs W ad) (hk : ∀ k, k < W.heap.size → V.heap[k]? = W.heap[k]?) : HErrs V ad where
  c1 := (World.cell?_of_block (w := W) (w' := V) (hk _ (lt_of_cellE h.c1))).trans h.c1
  c3 := (World.cell?_of_block (w := W) (w' := V) (hk _ (lt_of_cellE h.c3))).trans h.c3
  c5 := (World.cell?_of_block (w := W) (w' := V) (hk _ (lt_of_cellE h.c5))).trans h.c5
  c6 := (World.cell?_of_block (w := W) (w' := V) (hk _ (lt_of_cellE h.c6))).trans h.c6
  c9 := (World.cell?_of_block (w := W) (w' := V) (hk _ (lt_of_cellE h.c9))).trans h.c9
end Go.Proofs.YtcoecfpkihakoaaGreatDoor
/- Functions of the library at this program. -/
namespace Go.Proofs
open Go.Shelf
def Tryz.lays316_ren : Go.Shelf.Ren := ⟨fun | 316 => 40 | n => n, fun | 9 => 9 | 3 => 3 | 4 => 4 | 37 => 107 | 0 => 0 | 127 => 108 | 5 => 5 | n => n, fun | n => n⟩
theorem Tryz.lays316 : Go.Proofs.LaysM.n316 Tryz.prog Tryz.lays316_ren := {
  mixed := by kernel_rfl
  f316 := Tryz.func40.trans (congrArg some (by kernel_rfl))
  t0 := Tryz.underlying0
  a0 := Tryz.isAgg0
  z0 := Tryz.sizeOf0
  v0 := Tryz.zeroValue0
  t3 := Tryz.underlying3
  a3 := Tryz.isAgg3
  z3 := Tryz.sizeOf3
  v3 := Tryz.zeroValue3
  t4 := Tryz.underlying4
  a4 := Tryz.isAgg4
  z4 := Tryz.sizeOf4
  v4 := Tryz.zeroValue4
  t9 := Tryz.underlying9
  a9 := Tryz.isAgg9
  z9 := Tryz.sizeOf9
  v9 := Tryz.zeroValue9
  t37 := Tryz.underlying107
  a37 := Tryz.isAgg107
  z37 := Tryz.sizeOf107
  v37 := Tryz.zeroValue107
  t127 := Tryz.underlying108
  a127 := Tryz.isAgg108
  z127 := Tryz.sizeOf108
  v127 := Tryz.zeroValue108
  t5 := Tryz.underlying5
  a5 := Tryz.isAgg5
  z5 := Tryz.sizeOf5
  v5 := Tryz.zeroValue5
  i0 := by kernel_rfl
  i3 := by kernel_rfl
  i4 := by kernel_rfl
  i5 := by kernel_rfl
  i9 := by kernel_rfl
  i37 := by kernel_rfl
  i127 := by kernel_rfl }
open Go.RowKit in
/-- internal/stringslite.Clone. -/
theorem Tryz.stringslite_Clone (s : ByteArray) (w : World) (hlim : s.size ≤ 281474976710656) :
    Calls Tryz.prog 40 #[.string s] w fun e w' => e = .returned (.string s) ∧ Below w.heap.size w w' := Any.stringslite_Clone Tryz.lays316 s w hlim
def Tryz.laysGw17_ren : Go.Shelf.Ren := ⟨fun | 17 => 38 | 15 => 53 | 20 => 70 | n => n, fun | 9 => 9 | 23 => 84 | 4 => 4 | 3 => 3 | 0 => 0 | 21 => 21 | n => n, fun | n => n⟩
theorem Tryz.laysGw17 : Go.Proofs.LaysGw.n17 Tryz.prog Tryz.laysGw17_ren := {
  mixed := by kernel_rfl
  f15 := Tryz.func53.trans (congrArg some (by kernel_rfl))
  f17 := Tryz.func38.trans (congrArg some (by kernel_rfl))
  f20 := Tryz.func70.trans (congrArg some (by kernel_rfl))
  t0 := Tryz.underlying0
  a0 := Tryz.isAgg0
  z0 := Tryz.sizeOf0
  v0 := Tryz.zeroValue0
  i0 := by kernel_rfl
  t3 := Tryz.underlying3
  a3 := Tryz.isAgg3
  z3 := Tryz.sizeOf3
  v3 := Tryz.zeroValue3
  i3 := by kernel_rfl
  t4 := Tryz.underlying4
  a4 := Tryz.isAgg4
  z4 := Tryz.sizeOf4
  v4 := Tryz.zeroValue4
  i4 := by kernel_rfl
  t9 := Tryz.underlying9
  a9 := Tryz.isAgg9
  z9 := Tryz.sizeOf9
  v9 := Tryz.zeroValue9
  i9 := by kernel_rfl
  t21 := Tryz.underlying21
  a21 := Tryz.isAgg21
  z21 := Tryz.sizeOf21
  v21 := Tryz.zeroValue21
  i21 := by kernel_rfl
  t23 := Tryz.underlying84
  a23 := Tryz.isAgg84
  z23 := Tryz.sizeOf84
  v23 := Tryz.zeroValue84
  i23 := by kernel_rfl }
open Go.RowKit in
/-- strings.ContainsFunc. -/
theorem Tryz.strings_ContainsFunc (g : Nat) (lb : Array Value) (eg : ∀ args w, (callFunc g args).run Tryz.prog w = .ok (.enter g args) w) (p : Nat → Bool) (s : ByteArray) (w : World) (hp : PredAt Tryz.prog g lb encR p w) :
    Calls Tryz.prog 38 #[.string s, .func (.func g) #[] lb] w fun e w' => e = .returned (.bool (decide (0 ≤ Lib.idxFunc p true s))) ∧ Below w.heap.size w w' := Any.strings_ContainsFunc Tryz.laysGw17 g lb eg p s w hp
end Go.Proofs
/- The five errors of a node's shards, in their variables, each its own. -/
namespace Go.Proofs.YtcoecfpkihakoaaGreatDoor
open Go.RowKit
structure HErrX (w : World) (ad : Nat → Addr) : Prop where
  errs : HErrs w ad
  row : ∀ i, i = 1 ∨ i = 3 ∨ i = 5 ∨ i = 6 ∨ i = 9 → ∃ c t, w.heap[(ad i).block]? = some (.cells c t (0, 0))
  ne : ∀ i, i = 1 ∨ i = 3 ∨ i = 5 ∨ i = 6 → ad i ≠ ad 9
theorem lt_of_blk {w : World} {b : Nat} {o : Obj} (h : w.heap[b]? = some o) : b < w.heap.size := by
  rcases Nat.lt_or_ge b w.heap.size with h' | h'
  · exact h'
  · rw [Array.getElem?_eq_none h'] at h; cases h
theorem HErrX.keepBlocks {W V : World} {ad : Nat → Addr} (h : HErrX W ad) (hk : ∀ k, k < W.heap.size → V.heap[k]? = W.heap[k]?) : HErrX V ad where
  errs := h.errs.keepBlocks hk
  row := fun i hi => by
    obtain ⟨c, t, e⟩ := h.row i hi
    exact ⟨c, t, (hk _ (lt_of_blk e)).trans e⟩
  ne := h.ne
theorem errComp : (Tryz.prog.info? 173).map (·.comparable) = some true := by kernel_rfl
theorem errSize : (Tryz.prog.info? 193).map (·.size) = some 1 := by kernel_rfl
/-- Two errors, held against each other. -/
theorem eqE_same (a : Addr) (w : World) : (binOp .eql 27 (.iface 173 (.pointer (some a))) (.iface 173 (.pointer (some a)))).run Tryz.prog w = .ok (.bool true) w ∧ (binOp .neq 27 (.iface 173 (.pointer (some a))) (.iface 173 (.pointer (some a)))).run Tryz.prog w = .ok (.bool false) w := by
  obtain ⟨i, hi, hcmp⟩ := Option.map_eq_some_iff.1 errComp
  obtain ⟨j, hj, _⟩ := Option.map_eq_some_iff.1 errSize
  refine ⟨run_eql_iface_ptr_same (P := Tryz.prog) w a Tryz.underlying27 Tryz.underlying173 hi hcmp hj, ?_⟩
  simp only [binOp]
  simp [Op.equal, Op.maxDepth, run_equalIn_iface_ptr_same (P := Tryz.prog) w 9998 a Tryz.underlying27 Tryz.underlying173 hi hcmp hj]
theorem eqE_other {a b : Addr} {ca cb : Array Value} {ta tb : TypeId} {w : World} (hne : a ≠ b) (ha : w.heap[a.block]? = some (.cells ca ta (0, 0))) (hb : w.heap[b.block]? = some (.cells cb tb (0, 0))) : (binOp .eql 27 (.iface 173 (.pointer (some a))) (.iface 173 (.pointer (some b)))).run Tryz.prog w = .ok (.bool false) w ∧ (binOp .neq 27 (.iface 173 (.pointer (some a))) (.iface 173 (.pointer (some b)))).run Tryz.prog w = .ok (.bool true) w := by
  obtain ⟨i, hi, hcmp⟩ := Option.map_eq_some_iff.1 errComp
  obtain ⟨j, hj, hjs⟩ := Option.map_eq_some_iff.1 errSize
  refine ⟨run_eql_iface_ptr_other (P := Tryz.prog) w Tryz.underlying27 Tryz.underlying173 hi hcmp hj (by rw [hjs]; decide) hne ha hb, ?_⟩
  simp only [binOp]
  simp [Op.equal, Op.maxDepth, run_equalIn_iface_ptr_other (P := Tryz.prog) w 9998 Tryz.underlying27 Tryz.underlying173 hi hcmp hj (by rw [hjs]; decide) hne ha hb]
theorem eqE_nil (tp : TypeId) (v : Value) (w : World) : (binOp .eql 27 .nilIface (.iface tp v)).run Tryz.prog w = .ok (.bool false) w := run_eql_iface_nil_left (P := Tryz.prog) w tp v Tryz.underlying27
end Go.Proofs.YtcoecfpkihakoaaGreatDoor
/- Records appended to a row that the call made: where it lies then: in the block that it had, or in a new one. -/
namespace Go.Proofs.YtcoecfpkihakoaaGreatDoor
open Go.RowKit
section
variable {P : Program} {w : World}
theorem appendK_where (base : Nat) (t ty e : TypeId) (i : TypeInfo) (z : Value) (size bytes : Nat) (ht : P.underlying t = some (.slice e)) (hi : P.info? e = some i) (hz : i.zero = some z)
    (hsize : i.size = size) (hby : i.bytes = bytes) (v : Value) (n : Nat) (xs : List Value) (hown : w.ownsRow base e size v n xs)
    (a : Addr) (m c : Nat) (news : List Value) (hl : news.length = m * size) (hnews : ∀ j u, news[j]? = some u → w.cell? (a.add j) = some u) (h1 : ∀ u ∈ news, u.oneCell' = true)
    (h63 : n + m ≤ maxLen) (hbytes : (n + m) * bytes ≤ 140737488355328) (hm : 0 < m) {v' : Value} {w' : World}
    (hr : (Builtin.append_ #[t, t] ty #[v, .slice (some a) m c]).run P w = .ok v' w') : v'.ownBlock = v.ownBlock ∨ v'.ownBlock = some w.heap.size := by
  subst hsize
  subst hby
  have hsmall : n + m ≤ 9223372036854775807 := by simp only [maxLen] at h63; omega
  rcases hown.2 with ⟨rfl, rfl⟩ | ⟨g, cap, cur, rfl, hbg, hg, hnc, hcm, hcs, htake⟩
  · have := run_append_nil (P := P) w t ty e i z ht hi hz a m c news hl hnews (by omega) (by omega) (by have hb := hbytes; simp only [Nat.zero_add] at hb; omega)
    rw [this] at hr
    injection hr with e1 e2
    subst e1
    exact Or.inr rfl
  · by_cases hroom : n + m ≤ cap
    · have hfit : n * i.size + news.length ≤ cur.size := by rw [hl, hcs, ← Nat.add_mul]; exact Nat.mul_le_mul_right _ hroom
      have := run_append_room (P := P) w t ty e i ht hi g n cap cur hg a m c news hl hnews h1 hroom hfit
      rw [this] at hr
      injection hr with e1 e2
      subst e1
      exact Or.inl rfl
    · have holds : ∀ j u, xs[j]? = some u → w.cell? ((⟨g, 0, none⟩ : Addr).add j) = some u := hown.cells (g := g) rfl
      have := run_append_grow (P := P) w t ty e i z ht hi hz ⟨g, 0, none⟩ n cap xs hown.1 holds a m c news hl hnews (by omega) (by omega) (growslice_fits (by omega) hbytes)
      rw [this] at hr
      injection hr with e1 e2
      subst e1
      exact Or.inr rfl
theorem wpList_append_at {ops : Array Oper} {rest : List Oper} {o : Oper} {a : Act} {Q : Exit → Act → World → Prop} (hgd : o.guard = none) (s x : Operand) (t : TypeId)
    (ho : o.op = .call { callee := .builtin .append, args := #[s, x], argTypes := #[t, t] })
    (base : Nat) (e : TypeId) (i : TypeInfo) (z : Value) (size bytes : Nat) (ht : P.underlying t = some (.slice e)) (hi : P.info? e = some i) (hz : i.zero = some z)
    (hsize : i.size = size) (hby : i.bytes = bytes) (hzs : z.cells.size = size) (hsz : 0 < size)
    (v : Value) (n : Nat) (xs : List Value) (hs : a.eval s = v) (hown : w.ownsRow base e size v n xs)
    (ad : Addr) (m c : Nat) (news : List Value) (hx : a.eval x = .slice (some ad) m c) (hl : news.length = m * size) (hnews : ∀ j u, news[j]? = some u → w.cell? (ad.add j) = some u) (h1 : ∀ u ∈ news, u.oneCell' = true)
    (h63 : n + m ≤ maxLen) (hbytes : (n + m) * bytes ≤ 140737488355328) (hbase : base ≤ w.heap.size) (hm : 0 < m)
    (h : ∀ v' w', w'.ownsRow base e size v' (n + m) (xs ++ news) → w.grownBy w' v.ownBlock → (v'.ownBlock = v.ownBlock ∨ v'.ownBlock = some w.heap.size) → wpList P ops Q rest (a.put o.dst v') w') : wpList P ops Q (o :: rest) a w := by
  refine wpList_plain hgd fun K hK => ?_
  obtain ⟨v', w', hr, h2, h3, h4⟩ := run_append_own (P := P) w base t o.type e i z size bytes ht hi hz hsize hby hzs hsz v n xs hown ad m c news hl hnews h1 h63 hbytes hbase
  have hw := appendK_where base t o.type e i z size bytes ht hi hz hsize hby v n xs hown ad m c news hl hnews h1 h63 hbytes hm hr
  unfold Oper.wp execOp
  simp only [ho, resolve, invoke, builtin, Sem.run_bind, Sem.run_pure, Result.andThen_ok, List.map_toArray, List.map_cons, List.map_nil, hs, hx, hr]
  exact hK _ _ (h v' w' h2 h3 hw)
end
end Go.Proofs.YtcoecfpkihakoaaGreatDoor
/- Errors that the program's text lays in their variables: each its own pointer. -/
namespace Go.Proofs.YtcoecfpkihakoaaGreatDoor
open Go.ChangeShapes Go.WideShapes Go.RowKit
def errD (text : List UInt8) : DataW Unit := .iface "*errors.errorString" (.ptr (.agg [.lit (.string text)]))
theorem sents {P : Program} {W : World} {ti tp te ts : TypeId} {ms : Array (String × TypeId)} {f : Field}
    (hi : P.underlying ti = some (.interface ms)) (hrow : ∀ u, P.typeName? 3 u = some "*errors.errorString" → u = tp)
    (hp : P.underlying tp = some (.pointer te)) (he : P.underlying te = some (.struct #[f])) (hft : f.type = ts) (hfo : f.offset = 0) (hs : P.underlying ts = some .string) (hc : P.cellsOf te = 1) (hcs : P.cellsOf ts = 1) :
    ∀ (L : List (String × List UInt8)) (ps : List MemPlace), DataW.LaidVars P W (L.map fun x => (x.1, errD x.2)) ps →
      (∀ x ∈ L, ∃ g, P.globalNamed x.1 = some g ∧ (P.globals[g]?).map (·.type) = some ti) →
      (∀ b off, MemPlace.cell b off ∈ ps → (∃ c t, W.heap[b]? = some (.cells c t (0, 0))) ∧ ∀ u v, W.cell? ⟨b, off, none⟩ = some (.iface u v) → Value.okWide P W .any 0 u v) →
      ∃ ad : Nat → Addr, (∀ i x, L[i]? = some x → MemPlace.cell (ad i).block (ad i).off ∈ ps ∧ W.var? P x.1 = some #[.iface tp (.pointer (some (ad i)))]) ∧
        (ps.Nodup → ∀ i j, i < L.length → j < L.length → i ≠ j → ad i ≠ ad j) := by
  intro L
  induction L with
  | nil =>
    intro ps _ _ _
    exact ⟨fun _ => ⟨0, 0, none⟩, fun i x h => by simp at h, fun _ i j h => by simp at h⟩
  | cons x r ih =>
    intro ps hl hn hr
    obtain ⟨g0, t0, cs0, f0, p0, q0, hg0, ht0, hv0, hd0, hq, rfl⟩ := hl
    obtain ⟨g, hg, ht⟩ := hn x (List.mem_cons_self ..)
    obtain rfl := Option.some.inj (hg.symm.trans hg0)
    obtain rfl := Option.some.inj (ht.symm.trans ht0)
    obtain ⟨ad, h1, h2⟩ := ih q0 hq (fun y hy => hn y (List.mem_cons_of_mem _ hy)) (fun b off hm => hr b off (List.mem_append_right _ hm))
    obtain ⟨l0⟩ := cs0
    have ok0 : ∀ u v, l0 = [.iface u v] → Value.okWide P W .any 0 u v := fun u v e => by
      subst e
      exact (hr g 0 (by simp [MemPlace.row])).2 u v (by simpa using World.var?_cell hg0 hv0 0)
    obtain ⟨a0, s0, rfl, hc0, hs0, hz0, rfl⟩ := errorString_of_trod hi hrow hp he hft hfo hs hc hcs hd0 ok0
    refine ⟨fun i => match i with | 0 => a0 | k + 1 => ad k, ?_, ?_⟩
    · intro i y hy
      match i with
      | 0 =>
        obtain rfl : x = y := by simpa using hy
        exact ⟨by simp [MemPlace.row], hv0⟩
      | k + 1 =>
        have := h1 k y (by simpa using hy)
        exact ⟨List.mem_append_right _ this.1, this.2⟩
    · intro hnd i j hi' hj' hij
      have hq' : q0.Nodup := List.Nodup.sublist (List.sublist_append_right _ _) hnd
      have hd : ∀ k, k < r.length → a0 ≠ ad k := by
        intro k hk e
        obtain ⟨y, hy⟩ : ∃ y, r[k]? = some y := ⟨r[k], List.getElem?_eq_getElem hk⟩
        have hm := (h1 k y hy).1
        rw [← e] at hm
        have hdis := (List.nodup_append.1 hnd).2.2
        exact hdis _ (List.mem_append_right _ (by simp [MemPlace.row])) _ hm rfl
      match i, j, hi', hj', hij with
      | 0, 0, _, _, h => exact absurd rfl h
      | 0, k + 1, _, hk, _ => exact hd k (by simpa using hk)
      | k + 1, 0, hk, _, _ => exact (hd k (by simpa using hk)).symm
      | k + 1, m + 1, hk, hm, hne => exact h2 hq' k m (by simpa using hk) (by simpa using hm) (fun e => hne (by rw [e]))

/-- What is laid ahead of others: what is left behind it. -/
theorem laid_peel {P : Program} {W : World} : ∀ (L M : List (String × DataW Unit)) (ps : List MemPlace), DataW.LaidVars P W (L ++ M) ps → ∃ p q, ps = p ++ q ∧ DataW.LaidVars P W M q
  | [], _, ps, h => ⟨[], ps, rfl, h⟩
  | x :: L, M, ps, h => by
    obtain ⟨g0, t0, cs0, f0, p0, q0, hg0, ht0, hv0, hd0, hq, rfl⟩ := h
    obtain ⟨p, q, rfl, h2⟩ := laid_peel L M q0 hq
    exact ⟨_, q, (List.append_assoc _ _ _).symm, h2⟩
theorem star_es : "*" ++ "errors.errorString" = "*errors.errorString" := by kernel_rfl
theorem row_es (u : TypeId) (h : Tryz.prog.typeName? 3 u = some "*errors.errorString") : u = 173 :=
  typeName_ptr_named (nm := "errors.errorString") (by rw [star_es]; kernel_rfl) (by kernel_rfl) (by decide) u (by rw [star_es]; exact h)
end Go.Proofs.YtcoecfpkihakoaaGreatDoor
/- Functions of the library at this program. -/
namespace Go.Proofs
open Go.Shelf
def Tryz.laysSort_ren : Go.Shelf.Ren := ⟨fun | 6 => 52 | 8 => 69 | 9 => 68 | 19 => 85 | 20 => 86 | 21 => 76 | 22 => 77 | 23 => 78 | 24 => 79 | 25 => 80 | 26 => 81 | 27 => 82 | 28 => 83 | 29 => 84 | 36 => 89 | 31 => 90 | 32 => 91 | 37 => 92 | 38 => 93 | 39 => 94 | 41 => 95 | n => n, fun | 27 => 78 | 29 => 9 | 3 => 3 | 32 => 131 | 26 => 78 | 0 => 0 | 44 => 159 | 46 => 161 | 4 => 4 | 36 => 152 | 35 => 151 | 41 => 97 | 5 => 5 | 9 => 9 | 53 => 165 | 57 => 169 | 63 => 171 | 64 => 64 | n => n, fun | n => n⟩
theorem Tryz.laysSort : Go.Proofs.SlLaysM.n6 Tryz.prog Tryz.laysSort_ren := {
  mixed := by kernel_rfl
  f6 := ⟨Tryz.f52.name, by decide, Tryz.func52.trans (congrArg some (by kernel_rfl))⟩
  f8 := Tryz.func69.trans (congrArg some (by kernel_rfl))
  f9 := ⟨Tryz.f68.name, by decide, Tryz.func68.trans (congrArg some (by kernel_rfl))⟩
  f19 := Tryz.func85.trans (congrArg some (by kernel_rfl))
  f20 := Tryz.func86.trans (congrArg some (by kernel_rfl))
  f21 := ⟨Tryz.f76.name, by decide, Tryz.func76.trans (congrArg some (by kernel_rfl))⟩
  f22 := ⟨Tryz.f77.name, by decide, Tryz.func77.trans (congrArg some (by kernel_rfl))⟩
  f23 := ⟨Tryz.f78.name, by decide, Tryz.func78.trans (congrArg some (by kernel_rfl))⟩
  f24 := ⟨Tryz.f79.name, by decide, Tryz.func79.trans (congrArg some (by kernel_rfl))⟩
  f25 := ⟨Tryz.f80.name, by decide, Tryz.func80.trans (congrArg some (by kernel_rfl))⟩
  f26 := ⟨Tryz.f81.name, by decide, Tryz.func81.trans (congrArg some (by kernel_rfl))⟩
  f27 := ⟨Tryz.f82.name, by decide, Tryz.func82.trans (congrArg some (by kernel_rfl))⟩
  f28 := ⟨Tryz.f83.name, by decide, Tryz.func83.trans (congrArg some (by kernel_rfl))⟩
  f29 := ⟨Tryz.f84.name, by decide, Tryz.func84.trans (congrArg some (by kernel_rfl))⟩
  f31 := Tryz.func90.trans (congrArg some (by kernel_rfl))
  f32 := Tryz.func91.trans (congrArg some (by kernel_rfl))
  f36 := ⟨Tryz.f89.name, by decide, Tryz.func89.trans (congrArg some (by kernel_rfl))⟩
  f37 := ⟨Tryz.f92.name, by decide, Tryz.func92.trans (congrArg some (by kernel_rfl))⟩
  f38 := ⟨Tryz.f93.name, by decide, Tryz.func93.trans (congrArg some (by kernel_rfl))⟩
  f39 := ⟨Tryz.f94.name, by decide, Tryz.func94.trans (congrArg some (by kernel_rfl))⟩
  f41 := ⟨Tryz.f95.name, by decide, Tryz.func95.trans (congrArg some (by kernel_rfl))⟩
  t0 := Tryz.underlying0
  a0 := Tryz.isAgg0
  z0 := Tryz.sizeOf0
  v0 := Tryz.zeroValue0
  t3 := Tryz.underlying3
  a3 := Tryz.isAgg3
  z3 := Tryz.sizeOf3
  v3 := Tryz.zeroValue3
  t4 := Tryz.underlying4
  a4 := Tryz.isAgg4
  z4 := Tryz.sizeOf4
  v4 := Tryz.zeroValue4
  t5 := Tryz.underlying5
  a5 := Tryz.isAgg5
  z5 := Tryz.sizeOf5
  v5 := Tryz.zeroValue5
  t9 := Tryz.underlying9
  a9 := Tryz.isAgg9
  z9 := Tryz.sizeOf9
  v9 := Tryz.zeroValue9
  t26 := Tryz.underlying78
  a26 := Tryz.isAgg78
  z26 := Tryz.sizeOf78
  v26 := Tryz.zeroValue78
  t27 := Tryz.underlying78
  a27 := Tryz.isAgg78
  z27 := Tryz.sizeOf78
  v27 := Tryz.zeroValue78
  t29 := Tryz.underlying9
  a29 := Tryz.isAgg9
  z29 := Tryz.sizeOf9
  v29 := Tryz.zeroValue9
  t32 := Tryz.underlying131
  a32 := Tryz.isAgg131
  z32 := Tryz.sizeOf131
  v32 := Tryz.zeroValue131
  t35 := Tryz.underlying151
  a35 := Tryz.isAgg151
  z35 := Tryz.sizeOf151
  v35 := Tryz.zeroValue151
  t36 := Tryz.underlying152
  a36 := Tryz.isAgg152
  z36 := Tryz.sizeOf152
  v36 := Tryz.zeroValue152
  t41 := Tryz.underlying97
  a41 := Tryz.isAgg97
  z41 := Tryz.sizeOf97
  v41 := Tryz.zeroValue97
  t44 := Tryz.underlying159
  a44 := Tryz.isAgg159
  z44 := Tryz.sizeOf159
  v44 := Tryz.zeroValue159
  t46 := Tryz.underlying161
  a46 := Tryz.isAgg161
  z46 := Tryz.sizeOf161
  v46 := Tryz.zeroValue161
  t53 := Tryz.underlying165
  a53 := Tryz.isAgg165
  z53 := Tryz.sizeOf165
  v53 := Tryz.zeroValue165
  t57 := Tryz.underlying169
  a57 := Tryz.isAgg169
  z57 := Tryz.sizeOf169
  v57 := Tryz.zeroValue169
  t63 := Tryz.underlying171
  a63 := Tryz.isAgg171
  z63 := Tryz.sizeOf171
  v63 := Tryz.zeroValue171
  t64 := Tryz.underlying64
  a64 := Tryz.isAgg64
  z64 := Tryz.sizeOf64
  v64 := Tryz.zeroValue64 }
open Go.RowKit Go.Sort in
/-- slices.Sort at texts. -/
theorem Tryz.slices_Sort (blk off cap : Nat) (ss : List (List UInt8)) (w : World) (hH : Holds encStr w blk off ss.toArray) (hblk : blk < w.heap.size) (hsz : ss.length < 4611686018427387904) :
    Calls Tryz.prog 52 #[.slice (some ⟨blk, off, none⟩) ss.length cap] w fun e w' =>
      e = .returned (.tuple #[]) ∧ ∃ n os, w' = grow (putRow encStr (Sort.ahead w n) blk off (ss.mergeSort fun x y => decide (x ≤ y)).toArray) os := AnyM.slices_Sort_string Tryz.laysSort blk off cap ss w hH hblk hsz
open Go.RowKit Go.Sort in
/-- slices.Sort of none. -/
theorem Tryz.slices_Sort_none (p : Option Addr) (cap : Nat) (w : World) :
    Calls Tryz.prog 52 #[.slice p 0 cap] w fun e w' => e = .returned (.tuple #[]) ∧ w' = w := AnyM.slices_Sort_string_none Tryz.laysSort p cap w
end Go.Proofs
