/- Texts laid together. -/
import Derived.Test.YtmbpfbhpmafheaaGreatDoorRows
import Derived.ProofKit
import Derived.LaidLaws
import Derived.LaidHandle
import Derived.LaidMore
import Derived.Stop.LaidErr
import Derived.Test.YtmbpfbhpmafheaaGreatDoorHa0
import Derived.Below
import Derived.WalkSmall
import Derived.OwnWalk
import Derived.Laws.AppendOwn
import Derived.Laws.AppendOwnNone
import Derived.Test.YtmbpfbhpmafheaaGreatDoorHa1
import Derived.Laws.BitsAllLaws
import Derived.Laws.BitsLemmas
import Derived.Laws.BytesArg
import Derived.Deep.OwnRows
import Derived.BigQuiet
import Derived.Shelf.LaysM
import Derived.Shelf.Strconv.Clone
import Derived.Shelf.GgClosure.StringsIndexFuncTop
import Derived.Laws.RangeAny
namespace Go.Proofs
open Go.Shelf
def Tryz.lays316_ren : Go.Shelf.Ren := ⟨fun | 316 => 70 | n => n, fun | 9 => 9 | 3 => 3 | 4 => 4 | 37 => 53 | 0 => 0 | 127 => 122 | 5 => 5 | n => n, fun | n => n⟩
theorem Tryz.lays316 : Go.Proofs.LaysM.n316 Tryz.prog Tryz.lays316_ren := {
  mixed := by kernel_rfl
  f316 := Tryz.func70.trans (congrArg some (by kernel_rfl))
  t0 := Tryz.underlying0
  a0 := Tryz.isAgg0
  z0 := Tryz.sizeOf0
  v0 := Tryz.zeroValue0
  t3 := Tryz.underlying3
  a3 := Tryz.isAgg3
  z3 := Tryz.sizeOf3
  v3 := Tryz.zeroValue3
  t4 := Tryz.underlying4
  a4 := Tryz.isAgg4
  z4 := Tryz.sizeOf4
  v4 := Tryz.zeroValue4
  t9 := Tryz.underlying9
  a9 := Tryz.isAgg9
  z9 := Tryz.sizeOf9
  v9 := Tryz.zeroValue9
  t37 := Tryz.underlying53
  a37 := Tryz.isAgg53
  z37 := Tryz.sizeOf53
  v37 := Tryz.zeroValue53
  t127 := Tryz.underlying122
  a127 := Tryz.isAgg122
  z127 := Tryz.sizeOf122
  v127 := Tryz.zeroValue122
  t5 := Tryz.underlying5
  a5 := Tryz.isAgg5
  z5 := Tryz.sizeOf5
  v5 := Tryz.zeroValue5
  i0 := by kernel_rfl
  i3 := by kernel_rfl
  i4 := by kernel_rfl
  i5 := by kernel_rfl
  i9 := by kernel_rfl
  i37 := by kernel_rfl
  i127 := by kernel_rfl }
open Go.RowKit in
/-- internal/stringslite.Clone. -/
theorem Tryz.stringslite_Clone (s : ByteArray) (w : World) (hlim : s.size ≤ 281474976710656) :
    Calls Tryz.prog 70 #[.string s] w fun e w' => e = .returned (.string s) ∧ Below w.heap.size w w' := Any.stringslite_Clone Tryz.lays316 s w hlim
def Tryz.laysGw17_ren : Go.Shelf.Ren := ⟨fun | 17 => 60 | 15 => 88 | 20 => 109 | n => n, fun | 9 => 9 | 23 => 111 | 4 => 4 | 3 => 3 | 0 => 0 | 21 => 21 | n => n, fun | n => n⟩
theorem Tryz.laysGw17 : Go.Proofs.LaysGw.n17 Tryz.prog Tryz.laysGw17_ren := {
  mixed := by kernel_rfl
  f15 := Tryz.func88.trans (congrArg some (by kernel_rfl))
  f17 := Tryz.func60.trans (congrArg some (by kernel_rfl))
  f20 := Tryz.func109.trans (congrArg some (by kernel_rfl))
  t0 := Tryz.underlying0
  a0 := Tryz.isAgg0
  z0 := Tryz.sizeOf0
  v0 := Tryz.zeroValue0
  i0 := by kernel_rfl
  t3 := Tryz.underlying3
  a3 := Tryz.isAgg3
  z3 := Tryz.sizeOf3
  v3 := Tryz.zeroValue3
  i3 := by kernel_rfl
  t4 := Tryz.underlying4
  a4 := Tryz.isAgg4
  z4 := Tryz.sizeOf4
  v4 := Tryz.zeroValue4
  i4 := by kernel_rfl
  t9 := Tryz.underlying9
  a9 := Tryz.isAgg9
  z9 := Tryz.sizeOf9
  v9 := Tryz.zeroValue9
  i9 := by kernel_rfl
  t21 := Tryz.underlying21
  a21 := Tryz.isAgg21
  z21 := Tryz.sizeOf21
  v21 := Tryz.zeroValue21
  i21 := by kernel_rfl
  t23 := Tryz.underlying111
  a23 := Tryz.isAgg111
  z23 := Tryz.sizeOf111
  v23 := Tryz.zeroValue111
  i23 := by kernel_rfl }
open Go.RowKit in
/-- strings.ContainsFunc. -/
theorem Tryz.strings_ContainsFunc (g : Nat) (lb : Array Value) (eg : ∀ args w, (callFunc g args).run Tryz.prog w = .ok (.enter g args) w) (p : Nat → Bool) (s : ByteArray) (w : World) (hp : PredAt Tryz.prog g lb encR p w) :
    Calls Tryz.prog 60 #[.string s, .func (.func g) #[] lb] w fun e w' => e = .returned (.bool (decide (0 ≤ Lib.idxFunc p true s))) ∧ Below w.heap.size w w' := Any.strings_ContainsFunc Tryz.laysGw17 g lb eg p s w hp
end Go.Proofs
namespace Go.Proofs.YtmbpfbhpmafheaaGreatDoor
open Go.RowKit
section
open Go.ChangeShapes Go.WideShapes Go.RowKit
def errD (text : List UInt8) : DataW Unit := .iface "*errors.errorString" (.ptr (.agg [.lit (.string text)]))
theorem sents {P : Program} {W : World} {ti tp te ts : TypeId} {ms : Array (String × TypeId)} {f : Field}
    (hi : P.underlying ti = some (.interface ms)) (hrow : ∀ u, P.typeName? 3 u = some "*errors.errorString" → u = tp)
    (hp : P.underlying tp = some (.pointer te)) (he : P.underlying te = some (.struct #[f])) (hft : f.type = ts) (hfo : f.offset = 0) (hs : P.underlying ts = some .string) (hc : P.cellsOf te = 1) (hcs : P.cellsOf ts = 1) :
    ∀ (L : List (String × List UInt8)) (ps : List MemPlace), DataW.LaidVars P W (L.map fun x => (x.1, errD x.2)) ps →
      (∀ x ∈ L, ∃ g, P.globalNamed x.1 = some g ∧ (P.globals[g]?).map (·.type) = some ti) →
      (∀ b off, MemPlace.cell b off ∈ ps → (∃ c t, W.heap[b]? = some (.cells c t (0, 0))) ∧ ∀ u v, W.cell? ⟨b, off, none⟩ = some (.iface u v) → Value.okWide P W .any 0 u v) →
      ∃ ad : Nat → Addr, (∀ i x, L[i]? = some x → MemPlace.cell (ad i).block (ad i).off ∈ ps ∧ W.var? P x.1 = some #[.iface tp (.pointer (some (ad i)))]) ∧
        (ps.Nodup → ∀ i j, i < L.length → j < L.length → i ≠ j → ad i ≠ ad j) := by
  intro L
  induction L with
  | nil =>
    intro ps _ _ _
    exact ⟨fun _ => ⟨0, 0, none⟩, fun i x h => by simp at h, fun _ i j h => by simp at h⟩
  | cons x r ih =>
    intro ps hl hn hr
    obtain ⟨g0, t0, cs0, f0, p0, q0, hg0, ht0, hv0, hd0, hq, rfl⟩ := hl
    obtain ⟨g, hg, ht⟩ := hn x (List.mem_cons_self ..)
    obtain rfl := Option.some.inj (hg.symm.trans hg0)
    obtain rfl := Option.some.inj (ht.symm.trans ht0)
    obtain ⟨ad, h1, h2⟩ := ih q0 hq (fun y hy => hn y (List.mem_cons_of_mem _ hy)) (fun b off hm => hr b off (List.mem_append_right _ hm))
    obtain ⟨l0⟩ := cs0
    have ok0 : ∀ u v, l0 = [.iface u v] → Value.okWide P W .any 0 u v := fun u v e => by
      subst e
      exact (hr g 0 (by simp [MemPlace.row])).2 u v (by simpa using World.var?_cell hg0 hv0 0)
    obtain ⟨a0, s0, rfl, hc0, hs0, hz0, rfl⟩ := errorString_of_trod hi hrow hp he hft hfo hs hc hcs hd0 ok0
    refine ⟨fun i => match i with | 0 => a0 | k + 1 => ad k, ?_, ?_⟩
    · intro i y hy
      match i with
      | 0 =>
        obtain rfl : x = y := by simpa using hy
        exact ⟨by simp [MemPlace.row], hv0⟩
      | k + 1 =>
        have := h1 k y (by simpa using hy)
        exact ⟨List.mem_append_right _ this.1, this.2⟩
    · intro hnd i j hi' hj' hij
      have hq' : q0.Nodup := List.Nodup.sublist (List.sublist_append_right _ _) hnd
      have hd : ∀ k, k < r.length → a0 ≠ ad k := by
        intro k hk e
        obtain ⟨y, hy⟩ : ∃ y, r[k]? = some y := ⟨r[k], List.getElem?_eq_getElem hk⟩
        have hm := (h1 k y hy).1
        rw [← e] at hm
        have hdis := (List.nodup_append.1 hnd).2.2
        exact hdis _ (List.mem_append_right _ (by simp [MemPlace.row])) _ hm rfl
      match i, j, hi', hj', hij with
      | 0, 0, _, _, h => exact absurd rfl h
      | 0, k + 1, _, hk, _ => exact hd k (by simpa using hk)
      | k + 1, 0, hk, _, _ => exact (hd k (by simpa using hk)).symm
      | k + 1, m + 1, hk, hm, hne => exact h2 hq' k m (by simpa using hk) (by simpa using hm) (fun e => hne (by rw [e]))

/-- What is laid ahead of others: what is left behind it. -/
theorem laid_peel {P : Program} {W : World} : ∀ (L M : List (String × DataW Unit)) (ps : List MemPlace), DataW.LaidVars P W (L ++ M) ps → ∃ p q, ps = p ++ q ∧ DataW.LaidVars P W M q
  | [], _, ps, h => ⟨[], ps, rfl, h⟩
  | x :: L, M, ps, h => by
    obtain ⟨g0, t0, cs0, f0, p0, q0, hg0, ht0, hv0, hd0, hq, rfl⟩ := h
    obtain ⟨p, q, rfl, h2⟩ := laid_peel L M q0 hq
    exact ⟨_, q, (List.append_assoc _ _ _).symm, h2⟩
theorem star_es : "*" ++ "errors.errorString" = "*errors.errorString" := by kernel_rfl
theorem row_es (u : TypeId) (h : Tryz.prog.typeName? 3 u = some "*errors.errorString") : u = 206 :=
  typeName_ptr_named (nm := "errors.errorString") (by rw [star_es]; kernel_rfl) (by kernel_rfl) (by decide) u (by rw [star_es]; exact h)
end
section
open Go.Extern.Stop Go.Stop Go.Extern

/-- The package-level variables lie as the program's text lays them: twelve errors, each its own pointer, and errors.errorType. -/
structure Sent (w : World) (ad : Nat → Addr) : Prop where
  c0 : w.cell? ⟨0, 0, none⟩ = some (.iface 206 (.pointer (some (ad 0))))
  c1 : w.cell? ⟨3, 0, none⟩ = some (.iface 206 (.pointer (some (ad 1))))
  c2 : w.cell? ⟨7, 0, none⟩ = some (.iface 206 (.pointer (some (ad 2))))
  c3 : w.cell? ⟨2, 0, none⟩ = some (.iface 206 (.pointer (some (ad 3))))
  c4 : w.cell? ⟨8, 0, none⟩ = some (.iface 206 (.pointer (some (ad 4))))
  c5 : w.cell? ⟨4, 0, none⟩ = some (.iface 206 (.pointer (some (ad 5))))
  c6 : w.cell? ⟨5, 0, none⟩ = some (.iface 206 (.pointer (some (ad 6))))
  c7 : w.cell? ⟨9, 0, none⟩ = some (.iface 206 (.pointer (some (ad 7))))
  c8 : w.cell? ⟨6, 0, none⟩ = some (.iface 206 (.pointer (some (ad 8))))
  c9 : w.cell? ⟨1, 0, none⟩ = some (.iface 206 (.pointer (some (ad 9))))
  c10 : w.cell? ⟨10, 0, none⟩ = some (.iface 206 (.pointer (some (ad 10))))
  c11 : w.cell? ⟨11, 0, none⟩ = some (.iface 206 (.pointer (some (ad 11))))
  typ : w.cell? ⟨12, 0, none⟩ = some (.iface 147 (.agg #[.pointer (some ⟨19, 25, none⟩)]))
  row : ∀ i, i < 12 → ∃ c t, w.heap[(ad i).block]? = some (.cells c t (0, 0))
  ne : ∀ i j, i < 12 → j < 12 → i ≠ j → ad i ≠ ad j

theorem lt_of_cell {w : World} {b o : Nat} {v : Value} (h : w.cell? ⟨b, o, none⟩ = some v) : b < w.heap.size := by
  rcases Nat.lt_or_ge b w.heap.size with h' | h'
  · exact h'
  · simp [World.cell?, Array.getElem?_eq_none h'] at h
theorem lt_of_row {w : World} {b : Nat} {o : Obj} (h : w.heap[b]? = some o) : b < w.heap.size := by
  rcases Nat.lt_or_ge b w.heap.size with h' | h'
  · exact h'
  · rw [Array.getElem?_eq_none h'] at h; cases h
theorem Sent.below {w w' : World} {ad : Nat → Addr} (h : Sent w ad) (hb : Below w.heap.size w w') : Sent w' ad where
  c0 := (hb.cell (lt_of_cell h.c0)).trans h.c0
  c1 := (hb.cell (lt_of_cell h.c1)).trans h.c1
  c2 := (hb.cell (lt_of_cell h.c2)).trans h.c2
  c3 := (hb.cell (lt_of_cell h.c3)).trans h.c3
  c4 := (hb.cell (lt_of_cell h.c4)).trans h.c4
  c5 := (hb.cell (lt_of_cell h.c5)).trans h.c5
  c6 := (hb.cell (lt_of_cell h.c6)).trans h.c6
  c7 := (hb.cell (lt_of_cell h.c7)).trans h.c7
  c8 := (hb.cell (lt_of_cell h.c8)).trans h.c8
  c9 := (hb.cell (lt_of_cell h.c9)).trans h.c9
  c10 := (hb.cell (lt_of_cell h.c10)).trans h.c10
  c11 := (hb.cell (lt_of_cell h.c11)).trans h.c11
  typ := (hb.cell (lt_of_cell h.typ)).trans h.typ
  row := fun i hi => by
    obtain ⟨c, t, hc⟩ := h.row i hi
    exact ⟨c, t, (hb.block _ (lt_of_row hc)).trans hc⟩
  ne := h.ne

theorem code_nil (w : World) : Calls Tryz.prog 24 #[.nilIface] w fun e w' => e = .returned (.tuple #[.int .i64 0, .int .i64 (-1)]) ∧ w' = w := by
  go_enter Tryz.func24, Tryz.ntmps24
  go_wp2
  go_ret2
  exact ⟨rfl, rfl⟩
/-- The row of the twelve errors. -/
def sentRow (ad : Nat → Addr) : Array Value := #[.iface 206 (.pointer (some (ad 0))), .iface 206 (.pointer (some (ad 1))), .iface 206 (.pointer (some (ad 2))), .iface 206 (.pointer (some (ad 3))), .iface 206 (.pointer (some (ad 4))), .iface 206 (.pointer (some (ad 5))), .iface 206 (.pointer (some (ad 6))), .iface 206 (.pointer (some (ad 7))), .iface 206 (.pointer (some (ad 8))), .iface 206 (.pointer (some (ad 9))), .iface 206 (.pointer (some (ad 10))), .iface 206 (.pointer (some (ad 11)))]
theorem sentRow_cell (ad : Nat → Addr) (w : World) : ∀ k, k < 12 → (w.alloc (.cells (sentRow ad) 25)).cell? ⟨w.heap.size, k, none⟩ = some (.iface 206 (.pointer (some (ad k)))) := by
  intro k hk
  have e : (sentRow ad)[k]? = some (.iface 206 (.pointer (some (ad k)))) := by
    match k, hk with
    | 0, _ | 1, _ | 2, _ | 3, _ | 4, _ | 5, _ | 6, _ | 7, _ | 8, _ | 9, _ | 10, _ | 11, _ => rfl
  rw [World.cell?_alloc_at _ _ _ _ (by simp)]
  exact e
set_option maxRecDepth 10000 in
set_option maxHeartbeats 4000000 in
theorem code_sent (ad : Nat → Addr) (i : Nat) (hi : i < 12) (w : World) (hS : Sent w ad) :
    Calls Tryz.prog 24 #[.iface 206 (.pointer (some (ad i)))] w fun e w' => e = .returned (.tuple #[.int .i64 ((i + 1 : Nat) : Int), .int .i64 (-1)]) ∧ Below w.heap.size w w' := by
  have hb1 : Below w.heap.size w (w.alloc (.cells #[.pointer none] 101)) := (Below.refl _ _).alloc (Nat.le_refl _) _
  have hS1 := hS.below hb1
  go_enter Tryz.func24, Tryz.ntmps24
  go_wp2_with fail
  refine (as_miss _ _ _ hS1.typ).mono ?_
  rintro e w2 ⟨rfl, hb2⟩
  have hS2 := hS1.below hb2
  have hS2' := hS2
  obtain ⟨c0, c1, c2, c3, c4, c5, c6, c7, c8, c9, c10, c11, _, _, _⟩ := hS2'
  go_wp2
  clear c0 c1 c2 c3 c4 c5 c6 c7 c8 c9 c10 c11 hb1 hS1 hS
  have hb3 : Below w2.heap.size w2 (w2.alloc (.cells (sentRow ad) 25)) := (Below.refl _ _).alloc (Nat.le_refl _) _
  have hS3 := hS2.below hb3
  have hrow := sentRow_cell ad w2
  have hb4 : Hid (Below w.heap.size w (w2.alloc (.cells (sentRow ad) 25))) := (((Below.refl _ _).alloc (Nat.le_refl _) _).trans (hb2.mono (by simp))).trans (hb3.mono (by have := hb2.size; simp at this; omega))
  have e3 : (w2.alloc (.cells (sentRow ad) 25)).heap.size = w2.heap.size + 1 := by simp
  unfold sentRow at hS3 hrow hb4
  generalize w2.alloc (.cells _ 25) = w3 at hS3 hrow hb4 ⊢
  clear hb2 hb3 hS2 e3
  go_loop [3, 30] (fun y x => y = .int .i64 (-1) ∧ ∃ k : Nat, k ≤ i ∧ x = .int .i64 k) (fun _ x => 12 - (intOf x).toNat)
  case atStart => exact ⟨rfl, 0, by omega, rfl⟩
  case round =>
    obtain ⟨rfl, k, hk, rfl⟩ := hrel
    have hk12 : k < 12 := by omega
    have hc := hrow k hk12
    obtain ⟨ca, ta, hra⟩ := hS3.row i hi
    obtain ⟨cb, tb, hrb⟩ := hS3.row k hk12
    clear hrow
    by_cases hki : k = i
    · subst hki
      go_wp2_with (go_at_call 55; refine (is_same (ad k) _).mono ?_; rintro e w' ⟨rfl, rfl⟩)
      go_ret2
      exact ⟨by simp, hb4.out⟩
    · have hne := hS3.ne i k hi hk12 (fun h => hki h.symm)
      have HN : Hid (ad i ≠ ad k) := hne
      have HA : Hid (w3.heap[(ad i).block]? = some (.cells ca ta (0, 0))) := hra
      have HB : Hid (w3.heap[(ad k).block]? = some (.cells cb tb (0, 0))) := hrb
      clear hne hra hrb
      go_wp2_with (go_at_call 55; refine (is_other (ad i) (ad k) ca cb ta tb _ HN.out HA.out HB.out).mono ?_; rintro e w' ⟨rfl, rfl⟩)
      go_round
      case rel => exact ⟨rfl, k + 1, by omega, by go_num⟩
      case measure => simp [intOf]; omega
end
section
open Go.ChangeShapes Go.WideShapes Go.RowKit

/-- The twelve, by name and text. -/
def L12 : List (String × List UInt8) := (Rows.holdActsRow.laid.drop (0 + 1)).map fun x => (x.1, match x.2 with | .iface _ (.ptr (.agg [.lit (.string t)])) => t | _ => [])
theorem L12_laid : (L12.map fun x => (x.1, errD x.2)) = Rows.holdActsRow.laid.drop (0 + 1) := rfl
theorem laid_split (W : World) : laidMetH Tryz.prog Rows.holdActsRow.laid W = (laidMet Tryz.prog (Rows.holdActsRow.laid.take 0 ++ L12.map fun x => (x.1, errD x.2)) W ∧ handlesMet Tryz.prog ((Rows.holdActsRow.laid.drop 0).take 1) W) := by kernel_rfl
theorem L12_named : (L12.all fun x => match Tryz.prog.globalNamed x.1 with | some g => (Tryz.prog.globals[g]?).map (·.type) == some 25 | none => false) = true := by kernel_rfl
theorem g12 : L12.map (fun x => Tryz.prog.globalNamed x.1) = [some 0, some 3, some 7, some 2, some 8, some 4, some 5, some 9, some 6, some 1, some 10, some 11] := by kernel_rfl
theorem etNamed : Tryz.prog.globalNamed "errors.errorType" = some 12 := by kernel_rfl
theorem errOneRow : ((List.range 237).filter fun t => Tryz.prog.rowNamed t [101, 114, 114, 111, 114]) = [25] := by kernel_rfl
theorem typesSize : Tryz.prog.types.size = 237 := by kernel_rfl
theorem sent_of_laid {W : World} (h : laidMetH Tryz.prog Rows.holdActsRow.laid W) : ∃ ad, Sent W ad := by
  rw [laid_split] at h
  obtain ⟨⟨ps0, hl0, hnd0, hr0⟩, hH⟩ := h
  obtain ⟨pp, ps, rfl, hl⟩ := laid_peel _ _ _ hl0
  have hnd : ps.Nodup := List.Nodup.sublist (List.sublist_append_right _ _) hnd0
  have hr := fun b off (hm : MemPlace.cell b off ∈ ps) => hr0 b off (List.mem_append_right _ hm)
  clear hl0 hnd0 hr0
  have hn : ∀ x ∈ L12, ∃ g, Tryz.prog.globalNamed x.1 = some g ∧ (Tryz.prog.globals[g]?).map (·.type) = some 25 := by
    intro x hx
    have := List.all_eq_true.1 L12_named x hx
    split at this
    · rename_i g hg
      exact ⟨g, hg, by simpa using this⟩
    · cases this
  have c57 : Tryz.prog.cellsOf 208 = 1 := by kernel_rfl
  have c9 : Tryz.prog.cellsOf 9 = 1 := by kernel_rfl
  obtain ⟨ad, h1, h2⟩ := sents Tryz.underlying25 row_es Tryz.underlying206 Tryz.underlying208 rfl rfl Tryz.underlying9 c57 c9 L12 ps hl hn hr
  have cell : ∀ i g x, L12[i]? = some x → Tryz.prog.globalNamed x.1 = some g → W.cell? ⟨g, 0, none⟩ = some (.iface 206 (.pointer (some (ad i)))) := by
    intro i g x hx hg
    simpa using World.var?_cell hg (h1 i x hx).2 0
  have cellg : ∀ i g, (L12.map (fun x => Tryz.prog.globalNamed x.1))[i]? = some (some g) → W.cell? ⟨g, 0, none⟩ = some (.iface 206 (.pointer (some (ad i)))) := by
    intro i g hx
    rw [List.getElem?_map] at hx
    obtain ⟨x, hx1, hx2⟩ := Option.map_eq_some_iff.1 hx
    exact cell i g x hx1 hx2
  rw [g12] at cellg
  have len : L12.length = 12 := rfl
  refine ⟨ad, cellg 0 _ rfl, cellg 1 _ rfl, cellg 2 _ rfl, cellg 3 _ rfl, cellg 4 _ rfl, cellg 5 _ rfl, cellg 6 _ rfl, cellg 7 _ rfl, cellg 8 _ rfl, cellg 9 _ rfl, cellg 10 _ rfl, cellg 11 _ rfl, ?_, ?_, fun i j hi hj => h2 hnd i j (by rw [len]; exact hi) (by rw [len]; exact hj)⟩
  · obtain ⟨name, u, ty, e1, e2, e3, e4, e5⟩ := hH _ (List.mem_singleton.2 rfl)
    have en : name = [101, 114, 114, 111, 114] := (Option.some.inj e1).symm
    subst en
    obtain rfl : 147 = u := Option.some.inj ((show _ = some 147 by kernel_rfl).symm.trans e2)
    have hm : ty ∈ (List.range 237).filter fun t => Tryz.prog.rowNamed t [101, 114, 114, 111, 114] := List.mem_filter.2 ⟨List.mem_range.2 (by rw [← typesSize]; exact e3), e4⟩
    rw [errOneRow] at hm
    obtain rfl := List.mem_singleton.1 hm
    have hh : typeHandle Tryz.prog 25 = .pointer (some ⟨19, 25, none⟩) := by kernel_rfl
    rw [hh] at e5
    simpa using World.var?_cell etNamed e5 0
  · intro i hi
    obtain ⟨x, hx⟩ : ∃ x, L12[i]? = some x := ⟨L12[i]'(by rw [len]; exact hi), List.getElem?_eq_getElem (by rw [len]; exact hi)⟩
    exact (hr _ _ (h1 i x hx).1).1
theorem own : ownKnob Tryz.prog.godebug = none := by kernel_rfl
theorem doorAll_met (os : Os) (args : Array Value) : laidMetH Tryz.prog Rows.holdActsRow.laid ((World.doorLaid Tryz.prog 297 os).forCall (fun _ _ => 0) ⟨#[], args, []⟩).memory :=
  laidMetH_of_parts3 (fuel := 8) (laidMet_of_run' 8 (by kernel_rfl) (by kernel_rfl)) (by kernel_rfl) (by kernel_rfl)
end
section
/-- How a record lies in its k cells. -/
structure Enc (α : Type) where
  k : Nat
  pos : 0 < k
  enc : α → List Value
  len : ∀ x, (enc x).length = k
  one : ∀ x, ∀ u ∈ enc x, u.oneCell' = true
variable {α : Type} {E : Enc α}
/-- The cells of records. -/
def recVals (E : Enc α) (l : List α) : List Value := l.flatMap E.enc
theorem recVals_length (E : Enc α) : ∀ l : List α, (recVals E l).length = l.length * E.k
  | [] => by simp [recVals]
  | x :: l => by
    have := recVals_length E l
    unfold recVals at this ⊢
    rw [List.flatMap_cons, List.length_append, this, E.len, List.length_cons, Nat.add_mul, Nat.one_mul, Nat.add_comm]
theorem recVals_append (E : Enc α) (l m : List α) : recVals E (l ++ m) = recVals E l ++ recVals E m := by unfold recVals; rw [List.flatMap_append]
theorem recVals_one (E : Enc α) (x : α) : recVals E [x] = E.enc x := by simp [recVals]
theorem recVals_at (E : Enc α) : ∀ (l : List α) (i : Nat) (x : α), l[i]? = some x → ∀ j u, (E.enc x)[j]? = some u → (recVals E l)[i * E.k + j]? = some u
  | [], i, x, h, _, _, _ => by simp at h
  | y :: l, 0, x, h, j, u, hj => by
    obtain rfl : y = x := by simpa using h
    unfold recVals
    rw [List.flatMap_cons, Nat.zero_mul, Nat.zero_add, List.getElem?_append_left (List.getElem?_eq_some_iff.1 hj).1]
    exact hj
  | y :: l, i + 1, x, h, j, u, hj => by
    have ih := recVals_at E l i x (by simpa using h) j u hj
    unfold recVals at ih ⊢
    rw [List.flatMap_cons, List.getElem?_append_right (by rw [E.len]; have := Nat.le_mul_of_pos_left E.k (show 0 < i + 1 by omega); omega), E.len]
    have e : (i + 1) * E.k + j - E.k = i * E.k + j := by rw [Nat.add_mul, Nat.one_mul]; omega
    rw [e]
    exact ih
/-- In the world w the records l lie from p on. -/
def Rec (E : Enc α) (w : World) (p : Option Addr) (l : List α) : Prop :=
  l = [] ∨ ∃ b o, p = some ⟨b, o, none⟩ ∧ b < w.heap.size ∧ ∀ i x, l[i]? = some x → ∀ j u, (E.enc x)[j]? = some u → w.cell? ⟨b, o + i * E.k + j, none⟩ = some u
theorem Rec.nil (w : World) (p : Option Addr) : Rec E w p [] := Or.inl rfl
theorem Rec.drewN {w : World} {p : Option Addr} {l : List α} (h : Rec E w p l) (n : Nat) : Rec E (w.drewN n) p l := h
theorem Rec.below {w w' : World} {p : Option Addr} {l : List α} (h : Rec E w p l) (hb : Below w.heap.size w w') : Rec E w' p l := by
  rcases h with h | ⟨b, o, hp, hlt, hc⟩
  · exact Or.inl h
  · exact Or.inr ⟨b, o, hp, Nat.lt_of_lt_of_le hlt hb.size, fun i x hx j u hu => (hb.cell (p := ⟨b, o + i * E.k + j, none⟩) hlt).trans (hc i x hx j u hu)⟩
theorem Rec.belowAt {w w' : World} {p : Option Addr} {l : List α} {B : Nat} (h : Rec E w p l) (hb : Below B w w') (hB : ∀ b o, p = some ⟨b, o, none⟩ → b < B) : Rec E w' p l := by
  rcases h with h | ⟨b, o, hp, hlt, hc⟩
  · exact Or.inl h
  · exact Or.inr ⟨b, o, hp, Nat.lt_of_lt_of_le hlt hb.size, fun i x hx j u hu => (hb.cell (p := ⟨b, o + i * E.k + j, none⟩) (hB b o hp)).trans (hc i x hx j u hu)⟩
theorem Rec.take {w : World} {p : Option Addr} {l : List α} (h : Rec E w p l) (m : Nat) : Rec E w p (l.take m) := by
  rcases h with h | ⟨b, o, hp, hlt, hc⟩
  · exact Or.inl (by rw [h, List.take_nil])
  · refine Or.inr ⟨b, o, hp, hlt, fun i x hx j u hu => hc i x ?_ j u hu⟩
    rw [List.getElem?_take] at hx
    split at hx
    · exact hx
    · cases hx
/-- Where they lie from record m on. -/
theorem Rec.drop {w : World} {p : Option Addr} {l : List α} {c m : Nat} (h : Rec E w p l) (hm : m ≤ l.length) (hc : l.length ≤ c) (hn : p = none → l = [] ∧ c = 0) :
    Rec E w (if c = m then p else p.map (·.add (m * E.k))) (l.drop m) ∧ ((if c = m then p else p.map (·.add (m * E.k))) = none → l.drop m = [] ∧ c - m = 0) := by
  by_cases e : c = m
  · rw [if_pos e]
    have h0 : l.drop m = [] := List.drop_eq_nil_of_le (by omega)
    exact ⟨Or.inl h0, fun _ => ⟨h0, by omega⟩⟩
  · rw [if_neg e]
    cases p with
    | none =>
      obtain ⟨h1, h2⟩ := hn rfl
      rw [h1] at hm
      simp at hm
      omega
    | some a =>
      refine ⟨?_, fun h0 => by cases h0⟩
      rcases h with h | ⟨b, o, hp, hlt, hcell⟩
      · exact Or.inl (by rw [h, List.drop_nil])
      · obtain rfl : a = ⟨b, o, none⟩ := by simpa using hp
        refine Or.inr ⟨b, o + m * E.k, by simp [Addr.add_lit], hlt, fun i x hx j u hu => ?_⟩
        rw [List.getElem?_drop] at hx
        have := hcell (m + i) x hx j u hu
        rw [Nat.add_mul, ← Nat.add_assoc] at this
        exact this
/-- v owns the records l in a row from block B on. -/
def OwnR (E : Enc α) (T : TypeId) (w : World) (B : Nat) (v : Value) (l : List α) : Prop := w.ownsRow B T E.k v l.length (recVals E l)
theorem OwnR.nil (T : TypeId) (w : World) (B : Nat) : OwnR E T w B (.slice none 0 0) [] := World.ownsRow_nil w B T E.k
theorem OwnR.block {T : TypeId} {w : World} {B : Nat} {v : Value} {l : List α} (h : OwnR E T w B v l) {k : Nat} (hk : v.ownBlock = some k) : B ≤ k ∧ k < w.heap.size := World.ownsRow.lt h k hk
theorem OwnR.kept {T : TypeId} {w w' : World} {B : Nat} {v : Value} {l : List α} (h : OwnR E T w B v l) (hb : Below w.heap.size w w') : OwnR E T w' B v l :=
  World.ownsRow.kept (row := none) h ⟨hb.os, hb.tape, hb.output, hb.size, fun k hk _ => hb.block k hk⟩ (by cases v.ownBlock <;> simp)
theorem OwnR.base {T : TypeId} {w : World} {B B' : Nat} {v : Value} {l : List α} (h : OwnR E T w B v l) (hb : B' ≤ B) : OwnR E T w B' v l := by
  obtain ⟨h1, h2⟩ := h
  refine ⟨h1, ?_⟩
  rcases h2 with h2 | ⟨g, cap, cur, hv, hbg, hrest⟩
  · exact Or.inl h2
  · exact Or.inr ⟨g, cap, cur, hv, Nat.le_trans hb hbg, hrest⟩
theorem OwnR.form {T : TypeId} {w : World} {B : Nat} {v : Value} {l : List α} (h : OwnR E T w B v l) : ∃ p c, v = .slice p l.length c ∧ Rec E w p l ∧ l.length ≤ c ∧ (p = none → l = [] ∧ c = 0) ∧ ∀ b o, p = some ⟨b, o, none⟩ → B ≤ b ∧ b < w.heap.size := by
  have h0 : w.ownsRow B T E.k v l.length (recVals E l) := h
  rcases h0.2 with ⟨rfl, hz⟩ | ⟨g, cap, cur, rfl, hb, hg, hnc, hcm, hcs, htake⟩
  · have e : l = [] := List.length_eq_zero_iff.1 hz
    subst e
    exact ⟨none, 0, rfl, Or.inl rfl, Nat.le_refl _, fun _ => ⟨rfl, rfl⟩, fun _ _ h => by cases h⟩
  · have hlt : g < w.heap.size := (Array.getElem?_eq_some_iff.1 hg).1
    refine ⟨some ⟨g, 0, none⟩, cap, rfl, Or.inr ⟨g, 0, rfl, hlt, fun i x hx j u hu => ?_⟩, hnc, fun h => (by cases h), fun b o h => ?_⟩
    · have hc := World.ownsRow.cells (g := g) h0 rfl (i * E.k + j) u (recVals_at E l i x hx j u hu)
      rw [Addr.add_lit] at hc
      rw [Nat.add_assoc]
      exact hc
    · obtain ⟨rfl, rfl⟩ : g = b ∧ 0 = o := by simpa using h
      exact ⟨hb, hlt⟩
theorem recVals_one' (E : Enc α) (l : List α) : ∀ u ∈ recVals E l, u.oneCell' = true := fun u hu => by
  obtain ⟨x, _, hx⟩ := List.mem_flatMap.1 hu
  exact E.one x u hx
theorem Rec.cells {w : World} {b o : Nat} {l : List α} (hc : ∀ i x, l[i]? = some x → ∀ j u, (E.enc x)[j]? = some u → w.cell? ⟨b, o + i * E.k + j, none⟩ = some u) : ∀ j u, (recVals E l)[j]? = some u → w.cell? ((⟨b, o, none⟩ : Addr).add j) = some u := by
  intro j u hj
  have hjl : j < (recVals E l).length := (List.getElem?_eq_some_iff.1 hj).1
  rw [recVals_length] at hjl
  have hk := E.pos
  have hi : j / E.k < l.length := (Nat.div_lt_iff_lt_mul hk).2 hjl
  have hr : j % E.k < E.k := Nat.mod_lt _ hk
  have hx : l[j / E.k]? = some l[j / E.k] := List.getElem?_eq_getElem hi
  have hu : (E.enc l[j / E.k])[j % E.k]? = some ((E.enc l[j / E.k])[j % E.k]'(by rw [E.len]; exact hr)) := List.getElem?_eq_getElem (by rw [E.len]; exact hr)
  have h1 := recVals_at E l (j / E.k) _ hx (j % E.k) _ hu
  have h2 := hc (j / E.k) _ hx (j % E.k) _ hu
  have ej : j / E.k * E.k + j % E.k = j := by rw [Nat.mul_comm]; exact Nat.div_add_mod j E.k
  rw [ej] at h1
  rw [Nat.add_assoc, ej] at h2
  rw [Addr.add_lit, h2, ← h1, hj]
section
variable {w : World}
theorem wpList_append_recs {ops : Array Oper} {rest : List Oper} {o : Oper} {a : Act} {Q : Exit → Act → World → Prop} (hgd : o.guard = none) (s x : Operand) (t T : TypeId)
    (ho : o.op = .call { callee := .builtin .append, args := #[s, x], argTypes := #[t, t] }) (z : Value) (bytes : Nat) (ht : Tryz.prog.underlying t = some (.slice T))
    (hinfo : (Tryz.prog.info? T).map (fun i => (i.zero, i.size, i.bytes)) = some (some z, E.k, bytes)) (hzc : z.cells.size = E.k)
    (B : Nat) (v : Value) (l : List α) (hs : a.eval s = v) (hown : OwnR E T w B v l) (q : Option Addr) (r : List α) (c : Nat) (hx : a.eval x = .slice q r.length c) (hq : Rec E w q r) (hc0 : q = none → r = [] ∧ c = 0) (hl : l.length + r.length ≤ maxLen) (hby : (l.length + r.length) * bytes ≤ 140737488355328) (hbase : B ≤ w.heap.size)
    (h : ∀ v' w', OwnR E T w' B v' (l ++ r) → Below B w w' → wpList Tryz.prog ops Q rest (a.put o.dst v') w') : wpList Tryz.prog ops Q (o :: rest) a w := by
  obtain ⟨i0, hi0, hz0, hz1, hzb⟩ := info_parts hinfo
  have hfin : ∀ v' w', w'.ownsRow B T E.k v' (l.length + r.length) (recVals E l ++ recVals E r) → w.grownBy w' v.ownBlock → wpList Tryz.prog ops Q rest (a.put o.dst v') w' := fun v' w' h1 h2 => by
    refine h v' w' ?_ ((Below.refl _ _).grown h2 hbase (fun k hk => (hown.block hk).1))
    unfold OwnR
    rw [recVals_append, List.length_append]
    exact h1
  cases q with
  | none =>
    obtain ⟨hr, hc⟩ := hc0 rfl
    subst hr hc
    refine wpList_append_own_none hgd s x _ ho B T i0 E.k ht hi0 v l.length (recVals E l) hs hown hx ?_
    have := h v w (by rw [List.append_nil]; exact hown) (Below.refl _ _)
    exact this
  | some ad =>
    refine wpList_append_own w hgd s x _ ho B T i0 z E.k bytes ht hi0 hz0 hz1 hzb hzc E.pos v l.length (recVals E l) hs hown ad r.length c (recVals E r) hx (recVals_length E r) ?_ (recVals_one' E r) hl hby hbase (fun v' w' h1 h2 _ => hfin v' w' h1 h2)
    rcases hq with h0 | ⟨b, o', hp, _, hcell⟩
    · subst h0
      intro j u hj
      simp [recVals] at hj
    · obtain rfl : ad = ⟨b, o', none⟩ := by simpa using hp
      exact Rec.cells hcell
/-- One record more, out of a row of one that was just laid. -/
theorem wpList_append_rec {ops : Array Oper} {rest : List Oper} {o : Oper} {a : Act} {Q : Exit → Act → World → Prop} (hgd : o.guard = none) (s x : Operand) (t T : TypeId)
    (ho : o.op = .call { callee := .builtin .append, args := #[s, x], argTypes := #[t, t] }) (z : Value) (bytes : Nat) (ht : Tryz.prog.underlying t = some (.slice T))
    (hinfo : (Tryz.prog.info? T).map (fun i => (i.zero, i.size, i.bytes)) = some (some z, E.k, bytes)) (hzc : z.cells.size = E.k)
    (B : Nat) (v : Value) (l : List α) (hs : a.eval s = v) (hown : OwnR E T w B v l) (b o' c : Nat) (y : α) (hx : a.eval x = .slice (some ⟨b, o', none⟩) 1 c) (hq : ∀ j u, (E.enc y)[j]? = some u → w.cell? ⟨b, o' + j, none⟩ = some u) (hl : l.length + 1 ≤ maxLen) (hby : (l.length + 1) * bytes ≤ 140737488355328) (hbase : B ≤ w.heap.size) (hlt : b < w.heap.size)
    (h : ∀ v' w', OwnR E T w' B v' (l ++ [y]) → Below B w w' → wpList Tryz.prog ops Q rest (a.put o.dst v') w') : wpList Tryz.prog ops Q (o :: rest) a w :=
  wpList_append_recs (E := E) hgd s x t T ho z bytes ht hinfo hzc B v l hs hown (some ⟨b, o', none⟩) [y] c hx (Or.inr ⟨b, o', rfl, hlt, fun i x hx' j u hu => by
    match i, hx' with
    | 0, hx' =>
      obtain rfl : y = x := by simpa using hx'
      rw [Nat.zero_mul, Nat.add_zero]
      exact hq j u hu⟩) (fun e => by cases e) hl hby hbase h
end
end
theorem ret_int {k : IntKind} {a b : Int} (h : a = b) : Ending.returned (.int k a) = .returned (.int k b) := by rw [h]
theorem ret_bool {a b : Bool} (h : a = b) : Ending.returned (.bool a) = .returned (.bool b) := by rw [h]
theorem bit_test (b k : Nat) (hb : b < 256) : (bits BinOp.and IntKind.u8 ((b : Int) / 2 ^ k) 1 == 1) = decide (Gf.bitOf b k = 1) := by
  have h1 : ((b : Int) / 2 ^ k) = ((b / 2 ^ k : Nat) : Int) := by simp
  have h2 : b / 2 ^ k < 256 := Nat.lt_of_le_of_lt (Nat.div_le_self _ _) hb
  have h3 : bits BinOp.and IntKind.u8 ((b / 2 ^ k : Nat) : Int) 1 = ((b / 2 ^ k % 2 : Nat) : Int) := by
    have := u8_and_nat (b / 2 ^ k) 1 h2 (by decide)
    rw [Nat.and_one_is_mod] at this
    exact this
  rw [h1, h3]
  unfold Gf.bitOf
  rcases Nat.mod_two_eq_zero_or_one (b / 2 ^ k) with h | h <;> rw [h] <;> rfl
theorem bit_test64 (b k : Nat) (hb : b < 256) : (bits BinOp.and IntKind.i64 ((b : Int) / 2 ^ k) 1 == 1) = decide (Gf.bitOf b k = 1) := by
  have h1 : ((b : Int) / 2 ^ k) = ((b / 2 ^ k : Nat) : Int) := by simp
  have h2 : b / 2 ^ k < 256 := Nat.lt_of_le_of_lt (Nat.div_le_self _ _) hb
  have h3 : bits BinOp.and IntKind.i64 ((b / 2 ^ k : Nat) : Int) 1 = ((b / 2 ^ k % 2 : Nat) : Int) := by
    have := bits_mask IntKind.i64 8 (by decide) (fun n h0 h1 => by rw [IntKind.wrap_i64]; omega) 1 (by decide) ((b / 2 ^ k : Nat) : Int) (Int.natCast_nonneg _) (by exact_mod_cast h2)
    rw [show ((2 : Int) ^ 1 - 1) = 1 from rfl] at this
    rw [this]
    rfl
  rw [h1, h3]
  unfold Gf.bitOf
  rcases Nat.mod_two_eq_zero_or_one (b / 2 ^ k) with h | h <;> rw [h] <;> rfl
/-- n within the first round of 255. -/
def red (n : Int) : Nat := (n % 255).toNat
theorem red_cast (n : Int) : ((red n : Nat) : Int) = n % 255 := by unfold red; omega
theorem red_lt (n : Int) : red n < 255 := by unfold red; omega
theorem tmod_neg (n : Int) : n.tmod 255 = -((-n).tmod 255) := by rw [Int.neg_tmod, Int.neg_neg]
theorem i64_xor_nat (a b : Nat) (ha : a < 2 ^ 62) (hb : b < 2 ^ 62) : bits .xor .i64 (a : Int) (b : Int) = ((a ^^^ b : Nat) : Int) := by
  have hx : a ^^^ b < 2 ^ 62 := Nat.xor_lt_two_pow ha hb
  show IntKind.i64.wrap ((BitVec.ofInt 64 (a : Int) ^^^ BitVec.ofInt 64 (b : Int)).toNat : Int) = _
  rw [BitVec.toNat_xor, BitVec.ofInt_natCast, BitVec.ofInt_natCast, BitVec.toNat_ofNat, BitVec.toNat_ofNat, Nat.mod_eq_of_lt (by omega), Nat.mod_eq_of_lt (by omega), IntKind.wrap_i64]
  omega
theorem wrap64_small (n : Nat) (h : n < 2 ^ 62) : wrap64 (n : Int) = (n : Int) := by
  unfold wrap64; omega
theorem tmod_test (b k : Nat) : (((b : Int) / 2 ^ k).tmod 2 == 1) = decide (Gf.bitOf b k = 1) := by
  have h1 : ((b : Int) / 2 ^ k) = ((b / 2 ^ k : Nat) : Int) := by simp
  rw [h1, Int.tmod_eq_emod_of_nonneg (Int.natCast_nonneg _)]
  unfold Gf.bitOf
  have h3 : (((b / 2 ^ k : Nat) : Int) % 2) = ((b / 2 ^ k % 2 : Nat) : Int) := by simp
  rw [h3]
  rcases Nat.mod_two_eq_zero_or_one (b / 2 ^ k) with h | h <;> rw [h] <;> rfl
/-- Bytes as a text. -/
def strOf (l : List Nat) : ByteArray := strOfNums (l.map Int.ofNat)
/-- A text's bytes. -/
def bytesOf (s : ByteArray) : List Nat := s.data.toList.map UInt8.toNat
theorem bytesOf_lt (s : ByteArray) : Gf.Bytes (bytesOf s) := fun i => by
  by_cases hi : i < (bytesOf s).length
  · rw [Gf.nth_getElem _ i hi]
    simp only [bytesOf, List.getElem_map]
    exact UInt8.toNat_lt _
  · show (bytesOf s).getD i 0 < 256
    rw [List.getD_eq_getElem?_getD, List.getElem?_eq_none (by omega)]
    decide
theorem bytesOf_nth (s : ByteArray) (i : Nat) (h : i < s.size) : Gf.nth (bytesOf s) i = (s[i]'h).toNat := by
  rw [Gf.nth_getElem _ i (by simpa [bytesOf] using h)]
  simp only [bytesOf, List.getElem_map]
  rfl
theorem bytesOf_length (s : ByteArray) : (bytesOf s).length = s.size := by simp [bytesOf]
theorem mem_bytes {l : List Nat} (h : Gf.Bytes l) {x : Nat} (hx : x ∈ l) : x < 256 := by
  obtain ⟨i, hi, rfl⟩ := List.getElem_of_mem hx
  have := h i
  rwa [Gf.nth_getElem l i hi] at this
theorem bytesOf_strOf {l : List Nat} (h : Gf.Bytes l) : bytesOf (strOf l) = l := by
  unfold bytesOf strOf
  rw [strOfNums_data, List.map_map, List.map_map]
  conv => rhs; rw [← List.map_id l]
  refine List.map_congr_left fun x hx => ?_
  have := mem_bytes h hx
  simp only [Function.comp]
  show (UInt8.ofNat x).toNat = x
  simp only [UInt8.toNat_ofNat']
  omega
theorem strOf_bytesOf (s : ByteArray) : strOf (bytesOf s) = s := by
  unfold bytesOf strOf strOfNums
  rw [List.map_map, List.map_map]
  have : (List.map (((fun n : Int => UInt8.ofNat n.toNat) ∘ Int.ofNat) ∘ UInt8.toNat) s.data.toList) = s.data.toList := by
    conv => rhs; rw [← List.map_id s.data.toList]
    refine List.map_congr_left fun x _ => ?_
    show UInt8.ofNat x.toNat = x
    exact UInt8.ofNat_toNat
  rw [this]
theorem strOf_size (l : List Nat) : (strOf l).size = l.length := by
  unfold strOf
  rw [strOfNums_size, List.length_map]
theorem run_idx (s : ByteArray) (i : Nat) (h : i < s.size) (W : World) : Sem.run Tryz.prog (Instr.index 9 (.string s) (.int .i64 (i : Int))) W = .ok (.int .u8 ((Gf.nth (bytesOf s) i : Nat) : Int)) W := by
  rw [run_index_string W 9 s .i64 _ Tryz.underlying9, dif_pos ⟨by omega, by omega⟩, bytesOf_nth s i h]
  congr 3
theorem nth_ext {l m : List Nat} (hl : l.length = m.length) (h : ∀ i, i < l.length → Gf.nth l i = Gf.nth m i) : l = m := by
  refine List.ext_getElem hl fun i h1 h2 => ?_
  rw [← Gf.nth_getElem l i h1, ← Gf.nth_getElem m i h2]
  exact h i h1
theorem nth_past {l : List Nat} {i : Nat} (h : l.length ≤ i) : Gf.nth l i = 0 := by
  show l.getD i 0 = 0
  rw [List.getD_eq_getElem?_getD, List.getElem?_eq_none h]
  rfl
def txt (l : List ByteArray) (i : Nat) : ByteArray := l.getD i ⟨#[]⟩
theorem txt_getElem (l : List ByteArray) (i : Nat) (h : i < l.length) : txt l i = l[i] := by
  unfold txt
  rw [List.getD_eq_getElem?_getD, List.getElem?_eq_getElem h]
  rfl
theorem txt_mem {l : List ByteArray} {i : Nat} (h : i < l.length) : txt l i ∈ l := by
  rw [txt_getElem l i h]
  exact List.getElem_mem h
theorem txt_of_mem {l : List ByteArray} {x : ByteArray} (h : x ∈ l) : ∃ i, i < l.length ∧ txt l i = x := by
  obtain ⟨i, hi, e⟩ := List.getElem_of_mem h
  exact ⟨i, hi, by rw [txt_getElem l i hi, e]⟩
theorem txt_take {l : List ByteArray} {i j : Nat} (h : j < i) : txt (l.take i) j = txt l j := by
  unfold txt
  rw [List.getD_eq_getElem?_getD, List.getD_eq_getElem?_getD, List.getElem?_take_of_lt h]
theorem txt_ext {l m : List ByteArray} (hl : l.length = m.length) (h : ∀ i, i < l.length → txt l i = txt m i) : l = m := by
  refine List.ext_getElem hl fun i h1 h2 => ?_
  rw [← txt_getElem l i h1, ← txt_getElem m i h2]
  exact h i h1
/-- In the world w the texts l lie from p on. -/
def Strs (w : World) (p : Option Addr) (l : List ByteArray) : Prop :=
  l = [] ∨ ∃ b o, p = some ⟨b, o, none⟩ ∧ b < w.heap.size ∧ ∀ i, i < l.length → w.cell? ⟨b, o + i, none⟩ = some (.string (txt l i))
theorem Strs.nil (w : World) (p : Option Addr) : Strs w p [] := Or.inl rfl
theorem Strs.drewN {w : World} {p : Option Addr} {l : List ByteArray} (h : Strs w p l) (n : Nat) : Strs (w.drewN n) p l := h
theorem Strs.below {w w' : World} {p : Option Addr} {l : List ByteArray} (h : Strs w p l) (hb : Below w.heap.size w w') : Strs w' p l := by
  rcases h with h | ⟨b, o, hp, hlt, hc⟩
  · exact Or.inl h
  · exact Or.inr ⟨b, o, hp, Nat.lt_of_lt_of_le hlt hb.size, fun i hi => (hb.cell (p := ⟨b, o + i, none⟩) hlt).trans (hc i hi)⟩
/-- Below B alone nothing turned. -/
theorem Strs.belowAt {w w' : World} {p : Option Addr} {l : List ByteArray} {B : Nat} (h : Strs w p l) (hb : Below B w w') (hB : ∀ b o, p = some ⟨b, o, none⟩ → b < B) : Strs w' p l := by
  rcases h with h | ⟨b, o, hp, hlt, hc⟩
  · exact Or.inl h
  · exact Or.inr ⟨b, o, hp, Nat.lt_of_lt_of_le hlt hb.size, fun i hi => (hb.cell (p := ⟨b, o + i, none⟩) (hB b o hp)).trans (hc i hi)⟩
theorem Strs.take {w : World} {p : Option Addr} {l : List ByteArray} (h : Strs w p l) (i : Nat) : Strs w p (l.take i) := by
  rcases h with h | ⟨b, o, hp, hlt, hc⟩
  · exact Or.inl (by rw [h, List.take_nil])
  · refine Or.inr ⟨b, o, hp, hlt, fun j hj => ?_⟩
    rw [List.length_take] at hj
    rw [hc j (by omega), txt_take (by omega)]
theorem toList_ne {a b : ByteArray} (h : a ≠ b) : ¬ a.toList = b.toList := fun e => h (by
  rw [ByteArray.toList_eq, ByteArray.toList_eq] at e
  exact ByteArray.ext (Array.toList_inj.1 e))
theorem toList_beq {a b : ByteArray} (h : a ≠ b) : (a.toList == b.toList) = false := by simpa using toList_ne h
theorem bytes_beq {a b : ByteArray} (h : a ≠ b) : (a == b) = false := by rw [beq_toListBytes]; exact toList_beq h
/-- A version: its tag's number and maker, the object's size, the shard's number and text. -/
structure Ver where
  n : Int
  who : Int
  size : Int
  at_ : Int
  text : ByteArray
deriving DecidableEq
def verC (v : Ver) : List Value := [.int .i64 v.n, .int .i64 v.who, .int .i64 v.size, .int .i64 v.at_, .string v.text]
def verE : Enc Ver := ⟨5, by decide, verC, fun _ => rfl, fun x u hu => by simp [verC] at hu; rcases hu with rfl | rfl | rfl | rfl | rfl <;> rfl⟩
/-- A version with its key. -/
abbrev Kep := ByteArray × Ver
def kepE : Enc Kep := ⟨6, by decide, fun x => .string x.1 :: verC x.2, fun _ => rfl, fun x u hu => by simp [verC] at hu; rcases hu with rfl | rfl | rfl | rfl | rfl | rfl <;> rfl⟩
/-- In the world w the model's hold at block h has L, and is sealed or not. -/
structure MHold (w : World) (h : Nat) (L : List Kep) (s : Bool) : Prop where
  row : ∃ p c, w.cell? ⟨h, 0, none⟩ = some (.slice p L.length c) ∧ Rec kepE w p L ∧ L.length ≤ c ∧ (p = none → L = [] ∧ c = 0) ∧ ∀ b o, p = some ⟨b, o, none⟩ → b ≠ h
  sealed_ : w.cell? ⟨h, 1, none⟩ = some (.bool s)
  free0 : w.frozen? ⟨h, 0, none⟩ = false
  free1 : w.frozen? ⟨h, 1, none⟩ = false
theorem lt_of_cellH {w : World} {b o : Nat} {v : Value} (h : w.cell? ⟨b, o, none⟩ = some v) : b < w.heap.size := by
  rcases Nat.lt_or_ge b w.heap.size with h' | h'
  · exact h'
  · simp [World.cell?, Array.getElem?_eq_none h'] at h
theorem MHold.below {w w' : World} {h : Nat} {L : List Kep} {s : Bool} (hm : MHold w h L s) (hb : Below w.heap.size w w') : MHold w' h L s := by
  obtain ⟨p, c, h1, h2, h3, h4, h5⟩ := hm.row
  have hlt := lt_of_cellH h1
  exact ⟨⟨p, c, (hb.cell (p := ⟨h, 0, none⟩) hlt).trans h1, h2.below hb, h3, h4, h5⟩, (hb.cell (p := ⟨h, 1, none⟩) hlt).trans hm.sealed_, (hb.frozen (p := ⟨h, 0, none⟩) hlt).trans hm.free0, (hb.frozen (p := ⟨h, 1, none⟩) hlt).trans hm.free1⟩
/-- The versions of a key, in their order. -/
def getL (L : List Kep) (key : ByteArray) : List Ver := (L.filter fun x => decide (x.1 = key)).map Prod.snd
def kepAt (L : List Kep) (i : Nat) : Kep := L.getD i (⟨#[]⟩, ⟨0, 0, 0, 0, ⟨#[]⟩⟩)
theorem kepAt_get {L : List Kep} {i : Nat} (hi : i < L.length) : L[i]? = some (kepAt L i) := by
  unfold kepAt
  rw [List.getD_eq_getElem?_getD, List.getElem?_eq_getElem hi]
  rfl
theorem take_succ_kep {L : List Kep} {i : Nat} (hi : i < L.length) : L.take (i + 1) = L.take i ++ [kepAt L i] := by
  rw [List.take_add_one, kepAt_get hi]
  rfl
theorem getL_succ_yes {L : List Kep} {i : Nat} {key : ByteArray} (hi : i < L.length) (h : (kepAt L i).1 = key) : getL (L.take (i + 1)) key = getL (L.take i) key ++ [(kepAt L i).2] := by
  unfold getL
  rw [take_succ_kep hi, List.filter_append, List.filter_cons_of_pos (by simpa using h), List.filter_nil, List.map_append]
  rfl
theorem getL_succ_no {L : List Kep} {i : Nat} {key : ByteArray} (hi : i < L.length) (h : (kepAt L i).1 ≠ key) : getL (L.take (i + 1)) key = getL (L.take i) key := by
  unfold getL
  rw [take_succ_kep hi, List.filter_append, List.filter_cons_of_neg (by simpa using h), List.filter_nil, List.append_nil]
theorem getL_le (L : List Kep) (key : ByteArray) : (getL L key).length ≤ L.length := by
  unfold getL
  rw [List.length_map]
  exact List.length_filter_le _ _
/-- The six cells of a kept version. -/
theorem kep_cells {w : World} {p : Option Addr} {L : List Kep} (h : Rec kepE w p L) {i : Nat} (hi : i < L.length) : ∃ b o, p = some ⟨b, o, none⟩ ∧ b < w.heap.size ∧ w.cell? ⟨b, o + i * 6, none⟩ = some (.string (kepAt L i).1) ∧ w.cell? ⟨b, o + i * 6 + 1, none⟩ = some (.int .i64 (kepAt L i).2.n) ∧ w.cell? ⟨b, o + i * 6 + 2, none⟩ = some (.int .i64 (kepAt L i).2.who) ∧ w.cell? ⟨b, o + i * 6 + 3, none⟩ = some (.int .i64 (kepAt L i).2.size) ∧ w.cell? ⟨b, o + i * 6 + 4, none⟩ = some (.int .i64 (kepAt L i).2.at_) ∧ w.cell? ⟨b, o + i * 6 + 5, none⟩ = some (.string (kepAt L i).2.text) := by
  rcases h with h | ⟨b, o, hp, hlt, hc⟩
  · rw [h] at hi; exact absurd hi (Nat.not_lt_zero _)
  · have hx := kepAt_get hi
    exact ⟨b, o, hp, hlt, hc i _ hx 0 _ rfl, hc i _ hx 1 _ rfl, hc i _ hx 2 _ rfl, hc i _ hx 3 _ rfl, hc i _ hx 4 _ rfl, hc i _ hx 5 _ rfl⟩
/-- The first place where it stands. -/
def idxN (l : List ByteArray) (s : ByteArray) : Nat := l.findIdx fun x => decide (x = s)
theorem idxN_eq {l : List ByteArray} {s : ByteArray} {i : Nat} (hi : i < l.length) (h : txt l i = s) (hall : ∀ j, j < i → txt l j ≠ s) : idxN l s = i := by
  unfold idxN
  rw [List.findIdx_eq hi]
  refine ⟨decide_eq_true (by rw [← txt_getElem l i hi]; exact h), fun j hj => decide_eq_false ?_⟩
  rw [← txt_getElem l j (by omega)]
  exact hall j hj
/-- A sign that a name may have. -/
def letterB (c : Nat) : Bool := decide (97 ≤ c ∧ c ≤ 122) || decide (48 ≤ c ∧ c ≤ 57) || decide (c = 45)
/-- A name. -/
def isN (s : ByteArray) : Bool := decide (1 ≤ s.size ∧ s.size ≤ 16) && (bytesOf s).all letterB
theorem isN_size {s : ByteArray} (h : isN s = true) : 1 ≤ s.size ∧ s.size ≤ 16 := by
  unfold isN at h
  rw [Bool.and_eq_true] at h
  exact of_decide_eq_true h.1
theorem isN_all {s : ByteArray} (h1 : 1 ≤ s.size) (h2 : s.size ≤ 16) (h : ∀ j, j < s.size → letterB (Gf.nth (bytesOf s) j) = true) : isN s = true := by
  unfold isN
  rw [decide_eq_true ⟨h1, h2⟩, Bool.true_and, List.all_eq_true]
  intro x hx
  obtain ⟨j, hj, rfl⟩ := List.getElem_of_mem hx
  rw [← Gf.nth_getElem _ j hj]
  exact h j (by rw [bytesOf_length] at hj; exact hj)
theorem isN_one {s : ByteArray} {j : Nat} (hj : j < s.size) (h : letterB (Gf.nth (bytesOf s) j) = false) : isN s = false := by
  unfold isN
  rw [Bool.and_eq_false_iff]
  refine Or.inr (List.all_eq_false.2 ⟨Gf.nth (bytesOf s) j, ?_, by rw [h]; decide⟩)
  have hj' : j < (bytesOf s).length := by rw [bytesOf_length]; exact hj
  rw [Gf.nth_getElem _ j hj']
  exact List.getElem_mem hj'
theorem isN_len {s : ByteArray} (h : ¬ (1 ≤ s.size ∧ s.size ≤ 16)) : isN s = false := by
  unfold isN
  rw [decide_eq_false h, Bool.false_and]
def inL (l : List ByteArray) (x : ByteArray) : Bool := l.any fun y => decide (y = x)
theorem inL_iff {l : List ByteArray} {x : ByteArray} : inL l x = true ↔ x ∈ l := by
  unfold inL
  rw [List.any_eq_true]
  exact ⟨fun ⟨y, hy, e⟩ => by rw [← of_decide_eq_true e]; exact hy, fun h => ⟨x, h, decide_eq_true rfl⟩⟩
/-- What is wrong with node i: it is no name (4), it was ahead (6), nothing (0). -/
def faultAt (l : List ByteArray) (i : Nat) : Nat := if isN (txt l i) then (if inL (l.take i) (txt l i) then 6 else 0) else 4
theorem faultAt_name {l : List ByteArray} {i : Nat} (h : isN (txt l i) = false) : faultAt l i = 4 := by
  unfold faultAt
  rw [h, if_neg (by decide)]
theorem faultAt_twice {l : List ByteArray} {i : Nat} (h : isN (txt l i) = true) (h2 : txt l i ∈ l.take i) : faultAt l i = 6 := by
  unfold faultAt
  rw [if_pos h, if_pos (inL_iff.2 h2)]
theorem faultAt_fine {l : List ByteArray} {i : Nat} (h : isN (txt l i) = true) (h2 : txt l i ∉ l.take i) : faultAt l i = 0 := by
  unfold faultAt
  rw [if_pos h, if_neg (fun h3 => h2 (inL_iff.1 h3))]
/-- The first fault of the m nodes from i on: its number, its place. -/
def scanF (l : List ByteArray) : Nat → Nat → Int × Int
  | _, 0 => (0, -1)
  | i, m + 1 => if faultAt l i = 0 then scanF l (i + 1) m else ((faultAt l i : Nat), (i : Nat))
/-- The fault of nodes. -/
def nodesF (l : List ByteArray) : Int × Int := if l.length < 1 ∨ 16 < l.length then (2, -1) else scanF l 0 l.length
theorem nodesF_bound {l : List ByteArray} (h : l.length < 1 ∨ 16 < l.length) : nodesF l = (2, -1) := if_pos h
theorem nodesF_scan {l : List ByteArray} (h1 : ¬ l.length < 1) (h2 : ¬ 16 < l.length) : nodesF l = scanF l 0 l.length := if_neg (by omega)
theorem scanF_fine {l : List ByteArray} : ∀ (m i : Nat), scanF l i m = (0, -1) → ∀ j, i ≤ j → j < i + m → faultAt l j = 0
  | 0, i, _, j, h1, h2 => by omega
  | m + 1, i, h, j, h1, h2 => by
    have h' : (if faultAt l i = 0 then scanF l (i + 1) m else (((faultAt l i : Nat) : Int), (i : Int))) = (0, -1) := h
    by_cases e : faultAt l i = 0
    · rw [if_pos e] at h'
      by_cases e2 : j = i
      · rw [e2]; exact e
      · exact scanF_fine m (i + 1) h' j (by omega) (by omega)
    · rw [if_neg e] at h'
      have h3 := congrArg Prod.fst h'
      have h4 : ((faultAt l i : Nat) : Int) = 0 := h3
      omega
/-- Where it is 0 it is nothing. -/
theorem scanF_zero {l : List ByteArray} : ∀ (m i : Nat), (scanF l i m).1 ≤ 0 → scanF l i m = (0, -1)
  | 0, _, _ => rfl
  | m + 1, i, h => by
    show (if faultAt l i = 0 then scanF l (i + 1) m else (((faultAt l i : Nat) : Int), (i : Int))) = (0, -1)
    have h' : (if faultAt l i = 0 then scanF l (i + 1) m else (((faultAt l i : Nat) : Int), (i : Int))).1 ≤ 0 := h
    by_cases e : faultAt l i = 0
    · rw [if_pos e] at h' ⊢
      exact scanF_zero m (i + 1) h'
    · rw [if_neg e] at h'
      have h4 : ((faultAt l i : Nat) : Int) ≤ 0 := h'
      omega
theorem nodesF_zero {l : List ByteArray} (h : (nodesF l).1 ≤ 0) : nodesF l = (0, -1) ∧ 1 ≤ l.length ∧ l.length ≤ 16 := by
  by_cases hb : l.length < 1 ∨ 16 < l.length
  · rw [nodesF_bound hb] at h
    exact absurd h (by decide)
  · have h1 : nodesF l = scanF l 0 l.length := if_neg hb
    rw [h1] at h ⊢
    exact ⟨scanF_zero _ _ h, by omega, by omega⟩
/-- Nodes without a fault: names, each once. -/
theorem nodesF_fine {l : List ByteArray} (h : (nodesF l).1 ≤ 0) : (∀ x ∈ l, isN x = true) ∧ l.Nodup := by
  obtain ⟨h0, h1, h2⟩ := nodesF_zero h
  rw [nodesF_scan (by omega) (by omega)] at h0
  have hf := scanF_fine l.length 0 h0
  have key : ∀ j, j < l.length → isN (txt l j) = true ∧ txt l j ∉ l.take j := fun j hj => by
    have := hf j (Nat.zero_le _) (by omega)
    unfold faultAt at this
    by_cases e : isN (txt l j) = true
    · rw [if_pos e] at this
      refine ⟨e, fun h3 => ?_⟩
      rw [if_pos (inL_iff.2 h3)] at this
      omega
    · rw [if_neg e] at this
      omega
  refine ⟨fun x hx => ?_, ?_⟩
  · obtain ⟨j, hj, rfl⟩ := txt_of_mem hx
    exact (key j hj).1
  · rw [List.nodup_iff_pairwise_ne, List.pairwise_iff_getElem]
    intro i j hi hj hij e
    refine (key j hj).2 ?_
    rw [txt_getElem l j hj, ← e, List.mem_take_iff_getElem]
    exact ⟨i, by omega, rfl⟩
/-- The fault of nodes, and how many. -/
def preferF (l : List ByteArray) (n : Int) : Int × Int := if 0 < (nodesF l).1 then nodesF l else if (l.length : Int) < n then (8, -1) else if n < 0 then (2, -1) else nodesF l
theorem preferF_fine {l : List ByteArray} {n : Int} (h : ¬ 0 < (preferF l n).1) : (nodesF l).1 ≤ 0 ∧ 0 ≤ n ∧ n ≤ l.length ∧ preferF l n = (0, -1) := by
  unfold preferF at h ⊢
  by_cases h1 : 0 < (nodesF l).1
  · rw [if_pos h1] at h; exact absurd h1 h
  rw [if_neg h1] at h ⊢
  by_cases h2 : (l.length : Int) < n
  · rw [if_pos h2] at h; exact absurd (by decide) h
  rw [if_neg h2] at h ⊢
  by_cases h3 : n < 0
  · rw [if_pos h3] at h; exact absurd (by decide) h
  rw [if_neg h3] at h ⊢
  exact ⟨by omega, by omega, by omega, (nodesF_zero (by omega)).1⟩
/-- Too long to be asked. -/
def longL (l : List ByteArray) : Bool := decide (40 < l.length) || l.any fun x => decide (100 < x.size)
theorem longL_fine {l : List ByteArray} (h : longL l = false) : l.length ≤ 40 ∧ ∀ x ∈ l, x.size ≤ 100 := by
  unfold longL at h
  rw [Bool.or_eq_false_iff] at h
  refine ⟨by have := of_decide_eq_false h.1; omega, fun x hx => ?_⟩
  have := List.any_eq_false.1 h.2 x hx
  have h2 : ¬ 100 < x.size := fun h3 => this (decide_eq_true h3)
  omega
theorem scanF_of {l : List ByteArray} : ∀ (m i : Nat), (∀ j, i ≤ j → j < i + m → faultAt l j = 0) → scanF l i m = (0, -1)
  | 0, _, _ => rfl
  | m + 1, i, h => by
    show (if faultAt l i = 0 then scanF l (i + 1) m else (((faultAt l i : Nat) : Int), (i : Int))) = (0, -1)
    rw [if_pos (h i (Nat.le_refl _) (by omega))]
    exact scanF_of m (i + 1) (fun j h1 h2 => h j (by omega) (by omega))
/-- Names, each once, from 1 to 16: no fault. -/
theorem nodesF_of {l : List ByteArray} (h1 : 1 ≤ l.length) (h2 : l.length ≤ 16) (h3 : ∀ x ∈ l, isN x = true) (h4 : l.Nodup) : nodesF l = (0, -1) := by
  rw [nodesF_scan (by omega) (by omega)]
  refine scanF_of _ _ fun j _ hj => faultAt_fine (h3 _ (txt_mem (by omega))) fun hm => ?_
  obtain ⟨i, hi, e⟩ := List.mem_take_iff_getElem.1 hm
  have hjl : j < l.length := by omega
  rw [txt_getElem l j hjl] at e
  have := (List.nodup_iff_pairwise_ne.1 h4)
  rw [List.pairwise_iff_getElem] at this
  exact this i j (by omega) hjl (by omega) e
theorem preferF_of {l : List ByteArray} {n : Int} (h : nodesF l = (0, -1)) (h1 : 0 ≤ n) (h2 : n ≤ l.length) : preferF l n = (0, -1) := by
  unfold preferF
  rw [h, if_neg (by decide), if_neg (by omega), if_neg (by omega)]
def lessB (a b : Int × Int) : Bool := decide (a.1 < b.1) || (decide (a.1 = b.1) && decide (a.2 < b.2))
theorem verinfo : (Tryz.prog.info? 49).map (fun i => (i.zero, i.size, i.bytes)) = some (some (.agg #[.int .i64 0, .int .i64 0, .int .i64 0, .int .i64 0, .string ⟨#[]⟩]), 5, 48) := by kernel_rfl
def verAt (L : List Ver) (i : Nat) : Ver := L.getD i ⟨0, 0, 0, 0, ⟨#[]⟩⟩
theorem verAt_get {L : List Ver} {i : Nat} (hi : i < L.length) : L[i]? = some (verAt L i) := by
  unfold verAt
  rw [List.getD_eq_getElem?_getD, List.getElem?_eq_getElem hi]
  rfl
theorem ver_ext {l m : List Ver} (hl : l.length = m.length) (h : ∀ i, i < l.length → verAt l i = verAt m i) : l = m := by
  refine List.ext_getElem? fun i => ?_
  by_cases hi : i < l.length
  · rw [verAt_get hi, verAt_get (show i < m.length by omega), h i hi]
  · rw [List.getElem?_eq_none (by omega), List.getElem?_eq_none (by omega)]
theorem ver_cells {w : World} {p : Option Addr} {L : List Ver} (h : Rec verE w p L) {i : Nat} (hi : i < L.length) : ∃ b o, p = some ⟨b, o, none⟩ ∧ b < w.heap.size ∧ w.cell? ⟨b, o + i * 5, none⟩ = some (.int .i64 (verAt L i).n) ∧ w.cell? ⟨b, o + i * 5 + 1, none⟩ = some (.int .i64 (verAt L i).who) ∧ w.cell? ⟨b, o + i * 5 + 2, none⟩ = some (.int .i64 (verAt L i).size) ∧ w.cell? ⟨b, o + i * 5 + 3, none⟩ = some (.int .i64 (verAt L i).at_) ∧ w.cell? ⟨b, o + i * 5 + 4, none⟩ = some (.string (verAt L i).text) := by
  rcases h with h | ⟨b, o, hp, hlt, hc⟩
  · rw [h] at hi; exact absurd hi (Nat.not_lt_zero _)
  · have hx := verAt_get hi
    exact ⟨b, o, hp, hlt, hc i _ hx 0 _ rfl, hc i _ hx 1 _ rfl, hc i _ hx 2 _ rfl, hc i _ hx 3 _ rfl, hc i _ hx 4 _ rfl⟩
/-- Numbers that a tag can have. -/
def tagB (n who : Int) : Bool := decide (0 ≤ n) && decide (n ≤ 1099511627776) && decide (0 ≤ who) && decide (who ≤ 1099511627776)
/-- Can a version be? -/
def verOk (v : Ver) : Bool := tagB v.n v.who && decide (0 ≤ v.size ∧ v.size ≤ 1000 ∧ 0 ≤ v.at_ ∧ v.at_ < 12 ∧ v.text.size ≤ 1000)
def sameTag (x : Kep) (key : ByteArray) (v : Ver) : Bool := decide (x.1 = key) && decide (x.2.n = v.n) && decide (x.2.who = v.who)
/-- The m kept ones from i on: is one there with this tag? -/
def putScan (L : List Kep) (key : ByteArray) (v : Ver) : Nat → Nat → Int
  | _, 0 => if 60 ≤ L.length then 7 else 0
  | i, m + 1 => if sameTag (kepAt L i) key v then (if (kepAt L i).2 = v then -1 else 6) else putScan L key v (i + 1) m
/-- An error's number; -1: the same one is there. -/
def putErr (L : List Kep) (s : Bool) (key : ByteArray) (v : Ver) : Int := if s then 10 else if isN key then (if verOk v then putScan L key v 0 L.length else 2) else 4
theorem putScan_at {L : List Kep} {key : ByteArray} {v : Ver} {i : Nat} (hi : i < L.length) : putScan L key v i (L.length - i) = if sameTag (kepAt L i) key v then (if (kepAt L i).2 = v then -1 else 6) else putScan L key v (i + 1) (L.length - (i + 1)) := by
  rw [show L.length - i = (L.length - (i + 1)) + 1 by omega]
  rfl
/-- The keys of the first i kept ones, each where it is another one than the last. -/
def keysTo (L : List Kep) : Nat → List ByteArray
  | 0 => []
  | i + 1 => if (keysTo L i).length = 0 ∨ txt (keysTo L i) ((keysTo L i).length - 1) ≠ (kepAt L i).1 then keysTo L i ++ [(kepAt L i).1] else keysTo L i
theorem keysTo_le (L : List Kep) : ∀ i, (keysTo L i).length ≤ i
  | 0 => Nat.zero_le _
  | i + 1 => by
    have ih := keysTo_le L i
    show (if _ then _ else _ : List ByteArray).length ≤ i + 1
    split
    · rw [List.length_append]
      show _ + 1 ≤ _
      omega
    · omega
theorem keysTo_new {L : List Kep} {i : Nat} (h : (keysTo L i).length = 0 ∨ txt (keysTo L i) ((keysTo L i).length - 1) ≠ (kepAt L i).1) : keysTo L (i + 1) = keysTo L i ++ [(kepAt L i).1] := if_pos h
theorem keysTo_old {L : List Kep} {i : Nat} (h : ¬ ((keysTo L i).length = 0 ∨ txt (keysTo L i) ((keysTo L i).length - 1) ≠ (kepAt L i).1)) : keysTo L (i + 1) = keysTo L i := if_neg h
/-- Those of a key go, as many as left, from the first on. -/
def trimGo (key : ByteArray) : Nat → List Kep → List Kep
  | _, [] => []
  | left, x :: r => if x.1 = key ∧ 0 < left then trimGo key (left - 1) r else x :: trimGo key left r
theorem trimGo_at {L : List Kep} {key : ByteArray} {left i : Nat} (hi : i < L.length) : trimGo key left (L.drop i) = if (kepAt L i).1 = key ∧ 0 < left then trimGo key (left - 1) (L.drop (i + 1)) else kepAt L i :: trimGo key left (L.drop (i + 1)) := by
  have e : L.drop i = kepAt L i :: L.drop (i + 1) := by
    rw [List.drop_eq_getElem_cons hi]
    have := kepAt_get hi
    rw [List.getElem?_eq_getElem hi] at this
    rw [Option.some.inj this]
  rw [e]
  rfl
/-- How many go. -/
def goneN (L : List Kep) (key : ByteArray) (keep : Int) : Nat := ((getL L key).length - keep).toNat
def trimL (L : List Kep) (key : ByteArray) (keep : Int) : List Kep := trimGo key (goneN L key keep) L
/-- Does a kept one stand ahead of a version of a key? -/
def beforeB (x : Kep) (key : ByteArray) (v : Ver) : Bool := Op.bytesLess x.1.toList key.toList || (decide (x.1 = key) && lessB (x.2.n, x.2.who) (v.n, v.who))
/-- Where it goes in. -/
def placeN (L : List Kep) (key : ByteArray) (v : Ver) : Nat := L.findIdx fun x => !beforeB x key v
theorem placeN_at {L : List Kep} {key : ByteArray} {v : Ver} {k : Nat} (hk : k < L.length) (hall : ∀ j, j < k → beforeB (kepAt L j) key v = true) (h : beforeB (kepAt L k) key v = false) : placeN L key v = k := by
  have e : ∀ j (hj : j < L.length), L[j] = kepAt L j := fun j hj => by
    have := kepAt_get hj
    rw [List.getElem?_eq_getElem hj] at this
    exact Option.some.inj this
  unfold placeN
  rw [List.findIdx_eq hk]
  refine ⟨by rw [e k hk, h]; rfl, fun j hj => by rw [e j (by omega), hall j hj]; rfl⟩
theorem placeN_end {L : List Kep} {key : ByteArray} {v : Ver} (hall : ∀ j, j < L.length → beforeB (kepAt L j) key v = true) : placeN L key v = L.length := by
  unfold placeN
  rw [List.findIdx_eq_length]
  intro x hx
  obtain ⟨j, hj, rfl⟩ := List.getElem_of_mem hx
  have := kepAt_get hj
  rw [List.getElem?_eq_getElem hj] at this
  rw [Option.some.inj this, hall j hj]
  rfl
theorem placeN_le (L : List Kep) (key : ByteArray) (v : Ver) : placeN L key v ≤ L.length := List.findIdx_le_length
def putL (L : List Kep) (key : ByteArray) (v : Ver) : List Kep := L.take (placeN L key v) ++ [(key, v)] ++ L.drop (placeN L key v)
theorem placeN_before {L : List Kep} {key : ByteArray} {v : Ver} {j : Nat} (hj : j < placeN L key v) : beforeB (kepAt L j) key v = true := by
  have hlt : j < L.length := Nat.lt_of_lt_of_le hj (placeN_le L key v)
  have h := List.not_of_lt_findIdx (p := fun x => !beforeB x key v) (xs := L) (i := j) hj
  have e : L[j] = kepAt L j := by
    have := kepAt_get hlt
    rw [List.getElem?_eq_getElem hlt] at this
    exact Option.some.inj this
  rw [e] at h
  simpa using h
theorem placeN_here {L : List Kep} {key : ByteArray} {v : Ver} (hk : placeN L key v < L.length) : beforeB (kepAt L (placeN L key v)) key v = false := by
  have h := List.findIdx_getElem (p := fun x => !beforeB x key v) (xs := L) (w := hk)
  have e : L[placeN L key v] = kepAt L (placeN L key v) := by
    have := kepAt_get hk
    rw [List.getElem?_eq_getElem hk] at this
    exact Option.some.inj this
  have h2 : (!beforeB L[placeN L key v] key v) = true := h
  rw [e] at h2
  simpa using h2
/-- What Put answers, and what is held then. -/
def putR (L : List Kep) (s : Bool) (key : ByteArray) (v : Ver) : Int × List Kep := if putErr L s key v = 0 then (0, putL L key v) else if putErr L s key v < 0 then (0, L) else (putErr L s key v, L)
/-- The error ev is number c, bare. -/
def BareIs (ad : Nat → Addr) (ev : Value) (c : Int) : Prop := (ev = .nilIface ∧ c = 0) ∨ ∃ i, i < 12 ∧ ev = .iface 206 (.pointer (some (ad i))) ∧ c = ((i + 1 : Nat) : Int)
/-- The tag of the last of versions; of none 0. -/
def lastT (l : List Ver) : Int × Int := ((verAt l (l.length - 1)).n, (verAt l (l.length - 1)).who)
/-- From w to w' nothing that was there is written but the blocks of S; those of S' are of S, or new. -/
structure Upd (S S' : Nat → Prop) (w w' : World) : Prop where
  os : w'.os = w.os
  tape : w'.tape = w.tape
  output : w'.output = w.output
  size : w.heap.size ≤ w'.heap.size
  block : ∀ k, k < w.heap.size → ¬ S k → w'.heap[k]? = w.heap[k]?
  new : ∀ k, S' k → S k ∨ w.heap.size ≤ k
theorem Upd.of_below {S : Nat → Prop} {w w' : World} (hb : Below w.heap.size w w') : Upd S S w w' := ⟨hb.os, hb.tape, hb.output, hb.size, fun k hk _ => hb.block k hk, fun _ h => Or.inl h⟩
def verA (v : Ver) : Value := .agg #[.int .i64 v.n, .int .i64 v.who, .int .i64 v.size, .int .i64 v.at_, .string v.text]
set_option maxRecDepth 10000 in
theorem rless_any (a b : Int × Int) (w : World) :
    Calls Tryz.prog 57 #[.agg #[.int .i64 a.1, .int .i64 a.2], .agg #[.int .i64 b.1, .int .i64 b.2]] w fun e w' => e = .returned (.bool (lessB a b)) ∧ Below w.heap.size w w' := by
  obtain ⟨a1, a2⟩ := a
  obtain ⟨b1, b2⟩ := b
  have HB : Hid (Below w.heap.size w ((w.alloc (.cells #[.int .i64 a1, .int .i64 a2] 45)).alloc (.cells #[.int .i64 b1, .int .i64 b2] 45))) := ((Below.refl _ _).alloc (Nat.le_refl _) _).alloc (by simp) _
  by_cases h1 : a1 < b1
  · have HE : Hid (lessB (a1, a2) (b1, b2) = true) := by show _ = _; unfold lessB; simp [h1]
    rw [HE.out]
    go_enter Tryz.func57, Tryz.ntmps57
    go_wp2
    go_ret
    exact ⟨rfl, HB.out⟩
  have d1 : decide (a1 < b1) = false := decide_eq_false h1
  by_cases h2 : a1 = b1
  · subst h2
    have HE : Hid (lessB (a1, a2) (a1, b2) = decide (a2 < b2)) := by show _ = _; unfold lessB; simp
    rw [HE.out]
    go_enter Tryz.func57, Tryz.ntmps57
    go_wp2
    go_ret
    exact ⟨rfl, HB.out⟩
  · have HE : Hid (lessB (a1, a2) (b1, b2) = false) := by show _ = _; unfold lessB; simp [h1, h2]
    rw [HE.out]
    have d2 : (a1 == b1) = false := by
      rw [beq_eq_false_iff_ne]
      exact h2
    go_enter Tryz.func57, Tryz.ntmps57
    go_wp2
    go_ret
    exact ⟨rfl, HB.out⟩
set_option maxRecDepth 10000 in
set_option maxHeartbeats 4000000 in
theorem rget_any (h : Nat) (L : List Kep) (s : Bool) (key : ByteArray) (w : World) (hl : L.length ≤ 1000000) (hm : MHold w h L s) :
    Calls Tryz.prog 31 #[.pointer (some ⟨h, 0, none⟩), .string key] w fun e w' => (∃ v, e = .returned v ∧ OwnR verE 49 w' w.heap.size v (getL L key)) ∧ Below w.heap.size w w' := by
  obtain ⟨p, c, q0, hrec, hc, hn, hne⟩ := hm.row
  have HREC : Hid (Rec kepE w p L) := hrec
  have hlt := lt_of_cellH q0
  have HQ0 : Hid (w.cell? ⟨h, 0, none⟩ = some (.slice p L.length c)) := q0
  clear hrec hm q0 hne hn
  go_enter Tryz.func31, Tryz.ntmps31
  go_wp2
  go_loopw [5, 6] (fun v x wq => ∃ i : Nat, i ≤ L.length ∧ x = .int .i64 i ∧ OwnR verE 49 wq w.heap.size v (getL (L.take i) key) ∧ Below w.heap.size w wq) (fun _ x _ => L.length - (intOf x).toNat)
  case atStart => exact ⟨0, Nat.zero_le _, rfl, OwnR.nil _ _ _, Below.refl _ _⟩
  case round =>
    obtain ⟨i, hi, rfl, hO, hB⟩ := hrel
    obtain ⟨w1, rfl⟩ : ∃ w1, w1 = wr := ⟨_, rfl⟩
    obtain ⟨v, rfl⟩ : ∃ v, v = u5 := ⟨_, rfl⟩
    have HO : Hid (OwnR verE 49 w1 w.heap.size v (getL (L.take i) key)) := hO
    have HB : Hid (Below w.heap.size w w1) := hB
    have q0 : w1.cell? ⟨h, 0, none⟩ = some (.slice p L.length c) := (hB.cell (p := ⟨h, 0, none⟩) hlt).trans HQ0.out
    have hz1 : w.heap.size ≤ w1.heap.size := hB.size
    clear hO hB
    by_cases hil : i < L.length
    · obtain ⟨b, o, hpp, hblt, c0, c1, c2, c3, c4, c5⟩ := kep_cells (HREC.out.below HB.out) hil
      subst hpp
      by_cases he : (kepAt L i).1 = key
      · have HNX : Hid (getL (L.take (i + 1)) key = getL (L.take i) key ++ [(kepAt L i).2]) := getL_succ_yes hil he
        have hgl : (getL (L.take i) key).length ≤ 1000000 := Nat.le_trans (getL_le _ _) (by rw [List.length_take]; omega)
        rw [he] at c0
        clear he
        generalize (kepAt L i).2 = x at *
        obtain ⟨xn, xw, xs, xa, xt⟩ := x
        generalize getL (L.take i) key = gs at *
        have HO2 : Hid (OwnR verE 49 (w1.alloc (.cells #[.int .i64 xn, .int .i64 xw, .int .i64 xs, .int .i64 xa, .string xt] 49)) w.heap.size v gs) := HO.out.kept ((Below.refl _ _).alloc (Nat.le_refl _) _)
        have HNW : Hid (∀ j u, (verE.enc ⟨xn, xw, xs, xa, xt⟩)[j]? = some u → (w1.alloc (.cells #[.int .i64 xn, .int .i64 xw, .int .i64 xs, .int .i64 xa, .string xt] 49)).cell? ⟨w1.heap.size, 0 + j, none⟩ = some u) := fun j u hj => by
          rw [Nat.zero_add, World.cell?_alloc_at _ _ _ _ rfl]
          match j, hj with
          | 0, hj => exact hj
          | 1, hj => exact hj
          | 2, hj => exact hj
          | 3, hj => exact hj
          | 4, hj => exact hj
        have HB2 : Hid (Below w.heap.size w (w1.alloc (.cells #[.int .i64 xn, .int .i64 xw, .int .i64 xs, .int .i64 xa, .string xt] 49))) := HB.out.alloc hz1 _
        go_wp2_with (first | (at_builtin; refine wpList_append_rec rfl (.tmp 26) (.tmp 35) 57 49 rfl (.agg #[.int .i64 0, .int .i64 0, .int .i64 0, .int .i64 0, .string ⟨#[]⟩]) 48 Tryz.underlying57 verinfo rfl w.heap.size v gs rfl HO2.out w1.heap.size 0 1 ⟨xn, xw, xs, xa, xt⟩ rfl HNW.out (by unfold maxLen; omega) (by omega) HB2.out.size (by simp) ?_; intro v3 w3 hO3 hb3))
        have HO3 : Hid (OwnR verE 49 w3 w.heap.size v3 (gs ++ [⟨xn, xw, xs, xa, xt⟩])) := hO3
        have HB3 : Hid (Below w.heap.size w w3) := HB2.out.trans hb3
        clear hO3 hb3
        go_wp2
        go_roundw
        case rel => exact ⟨i + 1, by omega, by go_num, by rw [HNX.out]; exact HO3.out, HB3.out⟩
        case measure => simp [intOf]; omega
      · have HNX : Hid (getL (L.take (i + 1)) key = getL (L.take i) key) := getL_succ_no hil he
        have d1 := toList_ne he
        have d2 := toList_beq he
        have d3 := bytes_beq he
        clear he
        generalize kepAt L i = x at *
        obtain ⟨xk, xv⟩ := x
        go_wp2
        go_roundw
        case rel => exact ⟨i + 1, by omega, by go_num, by rw [HNX.out]; exact HO.out, HB.out⟩
        case measure => simp [intOf]; omega
    · have hie : i = L.length := by omega
      subst hie
      have HE : Hid (L.take L.length = L) := List.take_length
      go_wp2
      go_ret
      exact ⟨⟨_, rfl, by have := HO.out; rw [HE.out] at this; exact this⟩, HB.out⟩
/-- From w to w' nothing that was there is written but block h. -/
structure Turn (h : Nat) (w w' : World) : Prop where
  os : w'.os = w.os
  tape : w'.tape = w.tape
  output : w'.output = w.output
  size : w.heap.size ≤ w'.heap.size
  block : ∀ k, k < w.heap.size → k ≠ h → w'.heap[k]? = w.heap[k]?
  row : w'.cell? ⟨h, 0, none⟩ = w.cell? ⟨h, 0, none⟩ ∨ ∀ b o n c, w'.cell? ⟨h, 0, none⟩ = some (.slice (some ⟨b, o, none⟩) n c) → w.heap.size ≤ b
theorem Turn.of_below {h : Nat} {w w' : World} (hlt : h < w.heap.size) (hb : Below w.heap.size w w') : Turn h w w' := ⟨hb.os, hb.tape, hb.output, hb.size, fun k hk _ => hb.block k hk, Or.inl (hb.cell (p := ⟨h, 0, none⟩) hlt)⟩
theorem Turn.trans {h : Nat} {w w' w'' : World} (h1 : Turn h w w') (h2 : Turn h w' w'') : Turn h w w'' := ⟨h2.os.trans h1.os, h2.tape.trans h1.tape, h2.output.trans h1.output, Nat.le_trans h1.size h2.size, fun k hk hne => (h2.block k (Nat.lt_of_lt_of_le hk h1.size) hne).trans (h1.block k hk hne), by
  rcases h2.row with h3 | h3
  · rcases h1.row with h4 | h4
    · exact Or.inl (h3.trans h4)
    · exact Or.inr fun b o n c e => h4 b o n c (by rw [← h3]; exact e)
  · exact Or.inr fun b o n c e => Nat.le_trans h1.size (h3 b o n c e)⟩
theorem Turn.cell {h : Nat} {w w' : World} (h1 : Turn h w w') {p : Addr} (hp : p.block < w.heap.size) (hne : p.block ≠ h) : w'.cell? p = w.cell? p := by
  have := h1.block p.block hp hne
  unfold World.cell?
  rw [this]
theorem kepinfo : (Tryz.prog.info? 51).map (fun i => (i.zero, i.size, i.bytes)) = some (some (.agg #[.string ⟨#[]⟩, .int .i64 0, .int .i64 0, .int .i64 0, .int .i64 0, .string ⟨#[]⟩]), 6, 64) := by kernel_rfl
theorem MHold.store {w w' : World} {h : Nat} {L M : List Kep} {s : Bool} (hm : MHold w h L s) (hb : Below w.heap.size w w') {v : Value} (hO : OwnR kepE 51 w' w.heap.size v M) : MHold (w'.setCell ⟨h, 0, none⟩ v) h M s ∧ Turn h w (w'.setCell ⟨h, 0, none⟩ v) := by
  have hm' := hm.below hb
  obtain ⟨p0, c0, q0, _, _, _, _⟩ := hm'.row
  have hlt0 : h < w.heap.size := by
    obtain ⟨p1, c1, q1, _⟩ := hm.row
    exact lt_of_cellH q1
  obtain ⟨p, c, rfl, hr, hc, hn, hblk⟩ := hO.form
  refine ⟨⟨⟨p, c, World.cell?_setCell_same _ _ _ q0, ?_, hc, hn, fun b o e => ?_⟩, ?_, by rw [World.frozen?_setCell]; exact hm'.free0, by rw [World.frozen?_setCell]; exact hm'.free1⟩, ⟨hb.os, hb.tape, hb.output, by simpa using hb.size, fun k hk hne => (Deep.blk_setCell_other _ _ _ _ hne).trans (hb.block k hk), Or.inr fun b o n c' e => ?_⟩⟩
  · rcases hr with hr | ⟨b, o, hp, hlt, hcell⟩
    · exact Or.inl hr
    · refine Or.inr ⟨b, o, hp, by simpa using hlt, fun i x hx j u hu => ?_⟩
      have hbb := (hblk b o hp).1
      rw [World.cell?_setCell_other _ _ _ _ (fun e => by have h2 : h = b := congrArg Addr.block e; omega)]
      exact hcell i x hx j u hu
  · have := (hblk b o e).1
    omega
  · rw [World.cell?_setCell_other _ _ _ _ (fun e => by have h2 : (0 : Nat) = 1 := congrArg Addr.off e; omega)]
    exact hm'.sealed_
  · rw [World.cell?_setCell_same _ _ _ q0] at e
    obtain ⟨h1, _, _⟩ := Value.slice.inj (Option.some.inj e)
    exact (hblk b o h1).1
set_option maxRecDepth 10000 in
theorem isTag_any (n who : Int) (w : World) :
    Calls Tryz.prog 85 #[.agg #[.int .i64 n, .int .i64 who]] w fun e w' => e = .returned (.bool (tagB n who)) ∧ Below w.heap.size w w' := by
  have HB : Hid (Below w.heap.size w (w.alloc (.cells #[.int .i64 n, .int .i64 who] 45))) := (Below.refl _ _).alloc (Nat.le_refl _) _
  have walk : (decide (0 ≤ n) = false) ∨ (0 ≤ n) ∧ ((decide (n ≤ 1099511627776) = false) ∨ n ≤ 1099511627776 ∧ ((decide (0 ≤ who) = false) ∨ 0 ≤ who ∧ ((decide (who ≤ 1099511627776) = false) ∨ who ≤ 1099511627776))) := by
    by_cases h1 : 0 ≤ n
    · by_cases h2 : n ≤ 1099511627776
      · by_cases h3 : 0 ≤ who
        · by_cases h4 : who ≤ 1099511627776
          · exact Or.inr ⟨h1, Or.inr ⟨h2, Or.inr ⟨h3, Or.inr h4⟩⟩⟩
          · exact Or.inr ⟨h1, Or.inr ⟨h2, Or.inr ⟨h3, Or.inl (decide_eq_false h4)⟩⟩⟩
        · exact Or.inr ⟨h1, Or.inr ⟨h2, Or.inl (decide_eq_false h3)⟩⟩
      · exact Or.inr ⟨h1, Or.inl (decide_eq_false h2)⟩
    · exact Or.inl (decide_eq_false h1)
  have HR : Hid (tagB n who = (decide (0 ≤ n) && decide (n ≤ 1099511627776) && decide (0 ≤ who) && decide (who ≤ 1099511627776))) := by show _ = _; rfl
  generalize tagB n who = r at *
  rcases walk with g | ⟨g1, g | ⟨g2, g | ⟨g3, g | g4⟩⟩⟩
  all_goals
    go_enter Tryz.func85, Tryz.ntmps85
    go_wp2
    go_ret
    exact ⟨by rw [HR.out]; simp [*], HB.out⟩
set_option maxRecDepth 10000 in
set_option maxHeartbeats 4000000 in
theorem isNameBig_any (s : ByteArray) (w : World) :
    Calls Tryz.prog 84 #[.string s] w fun e w' => e = .returned (.bool (isN s)) ∧ w' = w := by
  by_cases h1 : s.size < 1
  · have HE : Hid (isN s = false) := isN_len (by omega)
    rw [HE.out]
    go_enter Tryz.func84, Tryz.ntmps84
    go_wp2
    go_ret
    exact ⟨rfl, rfl⟩
  by_cases h2 : 16 < s.size
  · have HE : Hid (isN s = false) := isN_len (by omega)
    rw [HE.out]
    go_enter Tryz.func84, Tryz.ntmps84
    go_wp2
    go_ret
    exact ⟨rfl, rfl⟩
  have g1 : decide ((s.size : Int) < 1) = false := decide_eq_false (by omega)
  have g2 : decide (16 < (s.size : Int)) = false := decide_eq_false (by omega)
  have HF : Hid (∀ j, j < s.size → letterB (Gf.nth (bytesOf s) j) = false → isN s = false) := fun j hj h => isN_one hj h
  have HT : Hid ((∀ j, j < s.size → letterB (Gf.nth (bytesOf s) j) = true) → isN s = true) := fun h => isN_all (by omega) (by omega) h
  generalize isN s = r at *
  go_enter Tryz.func84, Tryz.ntmps84
  go_wp2
  go_loop [3] (fun x => ∃ i : Nat, i ≤ s.size ∧ x = .int .i64 i ∧ ∀ j, j < i → letterB (Gf.nth (bytesOf s) j) = true) (fun x => s.size - (intOf x).toNat)
  case atStart => exact ⟨0, Nat.zero_le _, rfl, fun j hj => absurd hj (Nat.not_lt_zero _)⟩
  case round =>
    obtain ⟨i, hi, rfl, hall⟩ := hrel
    have HALL : Hid (∀ j, j < i → letterB (Gf.nth (bytesOf s) j) = true) := hall
    clear hall
    by_cases hil : i < s.size
    · have hix := run_idx s i hil
      have hy := bytesOf_lt s i
      have HB : Hid (letterB (Gf.nth (bytesOf s) i) = false → r = false) := fun h => HF.out i hil h
      have HN : Hid (letterB (Gf.nth (bytesOf s) i) = true → ∀ j, j < i + 1 → letterB (Gf.nth (bytesOf s) j) = true) := fun h j hj => by
        rcases Nat.lt_or_ge j i with h' | h'
        · exact HALL.out j h'
        · obtain rfl : j = i := by omega
          exact h
      clear HF HALL
      generalize Gf.nth (bytesOf s) i = y at *
      rcases (show (97 ≤ y ∧ y ≤ 122) ∨ (48 ≤ y ∧ y ≤ 57) ∨ y = 45 ∨ 122 < y ∨ (57 < y ∧ y < 97) ∨ (y < 48 ∧ y ≠ 45) by omega) with hc | hc | hc | hc | hc | hc
      · have HL : Hid (letterB y = true) := by show _ = _; simp [letterB, hc]
        obtain ⟨hc1, hc2⟩ := hc
        go_wp2
        go_round
        case rel => exact ⟨i + 1, by omega, by go_num, HN.out HL.out⟩
        case measure => simp [intOf]; omega
      · have HL : Hid (letterB y = true) := by show _ = _; simp [letterB, hc]
        obtain ⟨hc1, hc2⟩ := hc
        go_wp2
        go_round
        case rel => exact ⟨i + 1, by omega, by go_num, HN.out HL.out⟩
        case measure => simp [intOf]; omega
      · have HL : Hid (letterB y = true) := by show _ = _; simp [letterB, hc]
        subst hc
        go_wp2
        go_round
        case rel => exact ⟨i + 1, by omega, by go_num, HN.out HL.out⟩
        case measure => simp [intOf]; omega
      · have HL : Hid (r = false) := HB.out (by
          unfold letterB
          rw [decide_eq_false (by omega), decide_eq_false (by omega), decide_eq_false (by omega)]
          rfl)
        have d1 : decide ((y : Int) ≤ 122) = false := decide_eq_false (by omega)
        have d2 : decide ((y : Int) ≤ 57) = false := decide_eq_false (by omega)
        have hc3 : ((y : Int) == 45) = false := by
          rw [beq_eq_false_iff_ne]
          omega
        go_wp2
        go_ret
        exact ⟨by rw [HL.out]; rfl, rfl⟩
      · have HL : Hid (r = false) := HB.out (by
          unfold letterB
          rw [decide_eq_false (by omega), decide_eq_false (by omega), decide_eq_false (by omega)]
          rfl)
        obtain ⟨hc1, hc2⟩ := hc
        have d2 : decide ((y : Int) ≤ 57) = false := decide_eq_false (by omega)
        have hc3 : ((y : Int) == 45) = false := by
          rw [beq_eq_false_iff_ne]
          omega
        go_wp2
        go_ret
        exact ⟨by rw [HL.out]; rfl, rfl⟩
      · have HL : Hid (r = false) := HB.out (by
          unfold letterB
          rw [decide_eq_false (by omega), decide_eq_false (by omega), decide_eq_false (by omega)]
          rfl)
        obtain ⟨hc1, hc2⟩ := hc
        have hc3 : ((y : Int) == 45) = false := by
          rw [beq_eq_false_iff_ne]
          omega
        go_wp2
        go_ret
        exact ⟨by rw [HL.out]; rfl, rfl⟩
    · have hie : i = s.size := by omega
      subst hie
      have HR : Hid (r = true) := HT.out HALL.out
      go_wp2
      go_ret
      exact ⟨by rw [HR.out]; rfl, rfl⟩
set_option maxRecDepth 10000 in
set_option maxHeartbeats 1000000 in
theorem sign_any (r : Nat) (W : World) : Calls Tryz.prog 61 #[.int .i32 (r : Int)] W fun e w' => e = .returned (.bool (!letterB r)) ∧ w' = W := by
  have key : ∀ b, letterB r = b → Hid ((!letterB r) = (!b)) := fun b h => by show _ = _; rw [h]
  rcases (show (97 ≤ r ∧ r ≤ 122) ∨ (48 ≤ r ∧ r ≤ 57) ∨ r = 45 ∨ 122 < r ∨ (57 < r ∧ r < 97) ∨ (r < 48 ∧ r ≠ 45) by omega) with hc | hc | hc | hc | hc | hc
  · have HL := key true (by simp [letterB, hc])
    obtain ⟨hc1, hc2⟩ := hc
    have d1 : decide ((r : Int) < 97) = false := decide_eq_false (by omega)
    have d2 : decide (122 < (r : Int)) = false := decide_eq_false (by omega)
    rw [HL.out]
    clear key
    go_enter Tryz.func61, Tryz.ntmps61
    go_wp2
    go_ret
    exact ⟨rfl, rfl⟩
  · have HL := key true (by simp [letterB, hc])
    obtain ⟨hc1, hc2⟩ := hc
    have d1 : decide ((r : Int) < 97) = true := decide_eq_true (by omega)
    have d3 : decide ((r : Int) < 48) = false := decide_eq_false (by omega)
    have d4 : decide (57 < (r : Int)) = false := decide_eq_false (by omega)
    rw [HL.out]
    clear key
    go_enter Tryz.func61, Tryz.ntmps61
    go_wp2
    go_ret
    exact ⟨rfl, rfl⟩
  · have HL := key true (by simp [letterB, hc])
    subst hc
    rw [HL.out]
    clear key
    go_enter Tryz.func61, Tryz.ntmps61
    go_wp2
    go_ret
    exact ⟨rfl, rfl⟩
  · have HL := key false (by unfold letterB; rw [decide_eq_false (by omega), decide_eq_false (by omega), decide_eq_false (by omega)]; rfl)
    have d1 : decide ((r : Int) < 97) = false := decide_eq_false (by omega)
    have d2 : decide (122 < (r : Int)) = true := decide_eq_true (by omega)
    have d3 : decide ((r : Int) < 48) = false := decide_eq_false (by omega)
    have d4 : decide (57 < (r : Int)) = true := decide_eq_true (by omega)
    have d5 : ((r : Int) != 45) = true := by rw [bne_iff_ne]; omega
    have d6 : ((r : Int) == 45) = false := by rw [beq_eq_false_iff_ne]; omega
    rw [HL.out]
    clear key
    go_enter Tryz.func61, Tryz.ntmps61
    go_wp2
    go_ret
    exact ⟨rfl, rfl⟩
  · have HL := key false (by unfold letterB; rw [decide_eq_false (by omega), decide_eq_false (by omega), decide_eq_false (by omega)]; rfl)
    obtain ⟨hc1, hc2⟩ := hc
    have d1 : decide ((r : Int) < 97) = true := decide_eq_true (by omega)
    have d3 : decide ((r : Int) < 48) = false := decide_eq_false (by omega)
    have d4 : decide (57 < (r : Int)) = true := decide_eq_true (by omega)
    have d5 : ((r : Int) != 45) = true := by rw [bne_iff_ne]; omega
    have d6 : ((r : Int) == 45) = false := by rw [beq_eq_false_iff_ne]; omega
    rw [HL.out]
    clear key
    go_enter Tryz.func61, Tryz.ntmps61
    go_wp2
    go_ret
    exact ⟨rfl, rfl⟩
  · have HL := key false (by unfold letterB; rw [decide_eq_false (by omega), decide_eq_false (by omega), decide_eq_false (by omega)]; rfl)
    obtain ⟨hc1, hc2⟩ := hc
    have d1 : decide ((r : Int) < 97) = true := decide_eq_true (by omega)
    have d3 : decide ((r : Int) < 48) = true := decide_eq_true (by omega)
    have d5 : ((r : Int) != 45) = true := by rw [bne_iff_ne]; omega
    have d6 : ((r : Int) == 45) = false := by rw [beq_eq_false_iff_ne]; omega
    rw [HL.out]
    clear key
    go_enter Tryz.func61, Tryz.ntmps61
    go_wp2
    go_ret
    exact ⟨rfl, rfl⟩
/-- From place i on: a sign that no name has is found just where there is such a byte. -/
theorem idxFrom (s : ByteArray) : ∀ (f i : Nat), s.size ≤ i + f → (decide (0 ≤ Lib.idxFuncFrom (fun r => !letterB r) true s f i) = true ↔ ∃ j, i ≤ j ∧ j < s.size ∧ letterB (Gf.nth (bytesOf s) j) = false)
  | 0, i, h => by
    constructor
    · intro h1
      have h2 : decide ((0 : Int) ≤ -1) = true := h1
      cases h2
    · rintro ⟨j, h1, h2, _⟩
      omega
  | f + 1, i, h => by
    show decide (0 ≤ (if i < s.size then (if (!letterB (Utf8.decode s i).1) = true then (i : Int) else Lib.idxFuncFrom (fun r => !letterB r) true s f (i + (Utf8.decode s i).2)) else -1)) = true ↔ _
    by_cases hi : i < s.size
    · rw [if_pos hi]
      by_cases ha : (s[i]'hi).toNat < 128
      · rw [decode_ascii s i hi ha, ← bytesOf_nth s i hi]
        have ih := idxFrom s f (i + 1) (by omega)
        cases hl : letterB (Gf.nth (bytesOf s) i) with
        | false =>
          rw [if_pos (by rfl)]
          exact ⟨fun _ => ⟨i, Nat.le_refl _, hi, hl⟩, fun _ => decide_eq_true (by omega)⟩
        | true =>
          rw [if_neg (by simp), ih]
          constructor
          · rintro ⟨j, h1, h2, h3⟩
            exact ⟨j, by omega, h2, h3⟩
          · rintro ⟨j, h1, h2, h3⟩
            refine ⟨j, ?_, h2, h3⟩
            by_cases e : j = i
            · rw [e, hl] at h3; cases h3
            · omega
      · have h1 := (decode_high s i hi (by omega)).1
        have hl : letterB (Utf8.decode s i).1 = false := by
          unfold letterB
          rw [decide_eq_false (by omega), decide_eq_false (by omega), decide_eq_false (by omega)]
          rfl
        have hl2 : letterB (Gf.nth (bytesOf s) i) = false := by
          rw [bytesOf_nth s i hi]
          unfold letterB
          rw [decide_eq_false (by omega), decide_eq_false (by omega), decide_eq_false (by omega)]
          rfl
        rw [hl, if_pos (by rfl)]
        exact ⟨fun _ => ⟨i, Nat.le_refl _, hi, hl2⟩, fun _ => decide_eq_true (by omega)⟩
    · rw [if_neg hi]
      constructor
      · intro h1
        cases h1
      · rintro ⟨j, h1, h2, _⟩
        omega
theorem idxOf (s : ByteArray) : decide (0 ≤ Lib.idxFunc (fun r => !letterB r) true s) = !((bytesOf s).all letterB) := by
  have h := idxFrom s s.size 0 (by omega)
  cases ha : (bytesOf s).all letterB with
  | true =>
    rw [show (!true) = false from rfl, Bool.eq_false_iff]
    intro h1
    obtain ⟨j, _, hj, h3⟩ := h.1 h1
    have hj' : j < (bytesOf s).length := by rw [bytesOf_length]; exact hj
    rw [List.all_eq_true] at ha
    have := ha (Gf.nth (bytesOf s) j) (by rw [Gf.nth_getElem _ j hj']; exact List.getElem_mem hj')
    rw [h3] at this
    cases this
  | false =>
    obtain ⟨x, hx, hne⟩ := List.all_eq_false.1 ha
    obtain ⟨j, hj, rfl⟩ := List.getElem_of_mem hx
    refine h.2 ⟨j, Nat.zero_le _, by rw [bytesOf_length] at hj; exact hj, ?_⟩
    rw [Gf.nth_getElem _ j hj]
    exact Bool.eq_false_iff.2 hne
set_option maxRecDepth 10000 in
set_option maxHeartbeats 1000000 in
theorem pname_any (s : ByteArray) (w : World) : Calls Tryz.prog 36 #[.string s] w fun e w' => e = .returned (.bool (isN s)) ∧ Below w.heap.size w w' := by
  by_cases h1 : s.size < 1
  · have HE : Hid (isN s = false) := isN_len (by omega)
    have d1 : decide (1 ≤ (s.size : Int)) = false := decide_eq_false (by omega)
    rw [HE.out]
    go_enter Tryz.func36, Tryz.ntmps36
    go_wp2
    go_ret
    exact ⟨rfl, Below.refl _ _⟩
  have d1 : decide (1 ≤ (s.size : Int)) = true := decide_eq_true (by omega)
  by_cases h2 : 16 < s.size
  · have HE : Hid (isN s = false) := isN_len (by omega)
    have d2 : decide ((s.size : Int) ≤ 16) = false := decide_eq_false (by omega)
    rw [HE.out]
    go_enter Tryz.func36, Tryz.ntmps36
    go_wp2
    go_ret
    exact ⟨rfl, Below.refl _ _⟩
  have d2 : decide ((s.size : Int) ≤ 16) = true := decide_eq_true (by omega)
  have HC := Tryz.strings_ContainsFunc 61 #[] (enters_of Tryz.func61 (by kernel_rfl) rfl) (fun r => !letterB r) s w (fun W r _ => by
    unfold FnGives
    exact (sign_any r W).mono fun _ _ ⟨he, hw⟩ => ⟨he, 0, hw⟩)
  rw [idxOf] at HC
  have HE : Hid (isN s = (bytesOf s).all letterB) := by show _ = _; unfold isN; rw [decide_eq_true ⟨by omega, by omega⟩, Bool.true_and]
  rw [HE.out]
  generalize (bytesOf s).all letterB = r at *
  clear HE
  go_enter Tryz.func36, Tryz.ntmps36
  go_wp2_with fail
  refine HC.mono ?_
  rintro e w1 ⟨rfl, hb1⟩
  clear HC
  cases r with
  | true =>
    go_wp2
    go_ret
    exact ⟨rfl, hb1⟩
  | false =>
    go_wp2
    go_ret
    exact ⟨rfl, hb1⟩
end Go.Proofs.YtmbpfbhpmafheaaGreatDoor
