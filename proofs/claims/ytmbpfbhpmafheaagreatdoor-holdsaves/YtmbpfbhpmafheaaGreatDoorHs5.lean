/- Texts laid together. -/
import Derived.Test.YtmbpfbhpmafheaaGreatDoorHs4
import Derived.Lib.SmallJoins
import Derived.Handed
import Derived.Lib.LaidTab
import Derived.Shelf.Vars
import Derived.Deep.RegionHeld3
import Derived.Deep.CutRange
namespace Go.Proofs.YtmbpfbhpmafheaaGreatDoor
open Go.RowKit
/-- What the library's own variables hold. -/
structure LibX (w : World) : Prop where
  tab : Lib.TabIs Tryz.prog w "internal/strconv.uint64pow10" .u64 Lib.pow10Tab
  syn : ∃ tp p, w.var? Tryz.prog "strconv.ErrSyntax" = some #[.iface tp p]
  rng : ∃ tp p, w.var? Tryz.prog "strconv.ErrRange" = some #[.iface tp p]
  max : ∃ m : Int, w.cell? ⟨13, 0, none⟩ = some (.int .i64 m)
theorem LibX.below {w w' : World} (h : LibX w) (hb : Below w.heap.size w w') : LibX w' := by
  obtain ⟨t1, p1, h1⟩ := h.syn
  obtain ⟨t2, p2, h2⟩ := h.rng
  obtain ⟨m, h3⟩ := h.max
  exact ⟨Joins.tab_stays (by kernel_rfl : Tryz.prog.globalNamed "internal/strconv.uint64pow10" = some 16) h.tab hb (Nat.le_refl _), ⟨t1, p1, Joins.var_stays (by kernel_rfl : Tryz.prog.globalNamed "strconv.ErrSyntax" = some 14) h1 hb (Nat.le_refl _)⟩, ⟨t2, p2, Joins.var_stays (by kernel_rfl : Tryz.prog.globalNamed "strconv.ErrRange" = some 15) h2 hb (Nat.le_refl _)⟩, ⟨m, (hb.cell (p := ⟨13, 0, none⟩) (lt_of_cellH h3)).trans h3⟩⟩
theorem Bld.below {w w' : World} {B b : Nat} {l : List UInt8} (h : Bld w B b l) (hb : Below w.heap.size w w') : Bld w' B b l := by
  have one : ∀ {p}, Lib.BuilderAtF 92 5 B b p (Lib.byteCells l) w → Lib.BuilderAtF 92 5 B b p (Lib.byteCells l) w' := fun {p} hp => by
    obtain ⟨hB, v, hbk, hown, hne⟩ := hp
    refine ⟨hB, v, (hb.block b (Array.getElem?_eq_some_iff.1 hbk).1).trans hbk, hown.kept (row := none) ⟨hb.os, hb.tape, hb.output, hb.size, fun k hk _ => hb.block k hk⟩ (by cases v.ownBlock <;> simp), hne⟩
  rcases h with h | h
  · exact Or.inl (one h)
  · exact Or.inr (one h)
theorem wrote_below {w w' : World} {B b : Nat} {l : List UInt8} (h : Bld w B b l) (hB : B ≤ w.heap.size) (hb : Below w.heap.size w w') : Wrote w w' B b l := ⟨h.below hb, hb.mono hB, fun k _ hk _ _ => (hb.block k (Array.getElem?_eq_some_iff.1 hk).1).trans hk⟩
theorem below_of_grow {w w' : World} (h : ∃ k os, w' = Sort.grow (w.drewN k) os) : Below w.heap.size w w' := by
  obtain ⟨k, os, rfl⟩ := h
  exact below_grow w k os
set_option maxRecDepth 10000 in
set_option maxHeartbeats 1600000 in
/-- The closure that writes a number. -/
theorem num_any (B b : Nat) (l : List UInt8) (n : Int) (w : World) (hX : LibX w) (h : Bld w B b l) (h0 : 0 ≤ n) (h1 : n ≤ 1099511627776) (hl : l.length ≤ 900000) (hB0 : B ≤ w.heap.size) :
    Calls Tryz.prog 47 #[.int .i64 n, .pointer (some ⟨b, 0, none⟩)] w fun e w' => e = .returned (.tuple #[]) ∧ Wrote w w' B b (l ++ wrN n) := by
  have HIT : Hid (Calls Tryz.prog 49 #[.int .i64 n] w fun e w' => e = .returned (.string (ofL (Lib.itoa n))) ∧ ∃ k os, w' = Sort.grow (w.drewN k) os) := Tryz.strconv_Itoa n (by omega) (by omega) w hX.tab
  have hlen := wrN_len h0 h1
  have hle : (Lib.itoa n).length ≤ 15 := by unfold wrN at hlen; rw [List.length_append] at hlen; omega
  have HWS : Hid (∀ W, Bld W B b l → B ≤ W.heap.size → Calls Tryz.prog 48 #[.pointer (some ⟨b, 0, none⟩), .string (ofL (Lib.itoa n))] W fun e w' => e = .returned (.tuple #[.int .i64 ((ofL (Lib.itoa n)).size : Int), .nilIface]) ∧ Wrote W w' B b (l ++ Lib.itoa n)) := fun W hW hBW => by
    have := wstr_any B b l (ofL (Lib.itoa n)) W hW (by rw [ofL_size]; omega) hBW
    rw [ofL_data] at this
    exact this
  have HWB : Hid (∀ W, Bld W B b (l ++ Lib.itoa n) → B ≤ W.heap.size → Calls Tryz.prog 50 #[.pointer (some ⟨b, 0, none⟩), .int .u8 58] W fun e w' => e = .returned .nilIface ∧ Wrote W w' B b (l ++ wrN n)) := fun W hW hBW => by
    have := wbyte_any B b (l ++ Lib.itoa n) 58 W hW (by rw [List.length_append]; omega) hBW
    rw [List.append_assoc] at this
    exact this
  have HB : Hid (Bld w B b l) := h
  clear h hX hlen hle
  generalize ofL (Lib.itoa n) = t at *
  go_enter Tryz.func47, Tryz.ntmps47
  go_wp2_with fail
  refine HIT.out.mono ?_
  rintro e w1 ⟨rfl, hw1⟩
  have hb1 := below_of_grow hw1
  have HW1 : Hid (Wrote w w1 B b l) := wrote_below HB.out hB0 hb1
  have hB1 : B ≤ w1.heap.size := Nat.le_trans hB0 hb1.size
  clear hw1 hb1 HIT
  go_wp2_with fail
  refine (HWS.out w1 HW1.out.bld hB1).mono ?_
  rintro e w2 ⟨rfl, hW2⟩
  have HW2 : Hid (Wrote w w2 B b (l ++ Lib.itoa n)) := HW1.out.trans hW2
  have hB2 : B ≤ w2.heap.size := Nat.le_trans hB1 hW2.low.size
  clear hW2 HW1 HWS
  go_wp2_with fail
  refine (HWB.out w2 HW2.out.bld hB2).mono ?_
  rintro e w3 ⟨rfl, hW3⟩
  have HW3 : Hid (Wrote w w3 B b (l ++ wrN n)) := HW2.out.trans hW3
  clear hW3 HW2 HWB
  go_wp2
  go_end0
  exact ⟨rfl, HW3.out⟩
/-- The closure's own value. -/
def numV (b : Nat) : Value := .func (.func 47) #[] #[.pointer (some ⟨b, 0, none⟩)]
set_option maxRecDepth 10000 in
set_option maxHeartbeats 1600000 in
/-- The closure that writes a text. -/
theorem text_any (B b nb : Nat) (l : List UInt8) (s : ByteArray) (w : World) (hX : LibX w) (h : Bld w B b l) (q : w.cell? ⟨nb, 0, none⟩ = some (numV b)) (hs : s.size ≤ 1000) (hl : l.length ≤ 800000) (hB0 : B ≤ w.heap.size) :
    Calls Tryz.prog 51 #[.string s, .pointer (some ⟨nb, 0, none⟩), .pointer (some ⟨b, 0, none⟩)] w fun e w' => e = .returned (.tuple #[]) ∧ Wrote w w' B b (l ++ wrT s) := by
  have HN : Hid (Calls Tryz.prog 47 #[.int .i64 (s.size : Int), .pointer (some ⟨b, 0, none⟩)] w fun e w' => e = .returned (.tuple #[]) ∧ Wrote w w' B b (l ++ wrN (s.size : Int))) := num_any B b l (s.size : Int) w hX h (by omega) (by omega) (by omega) hB0
  have hlen := wrN_len (n := (s.size : Int)) (by omega) (by omega)
  have HWS : Hid (∀ W, Bld W B b (l ++ wrN (s.size : Int)) → B ≤ W.heap.size → Calls Tryz.prog 48 #[.pointer (some ⟨b, 0, none⟩), .string s] W fun e w' => e = .returned (.tuple #[.int .i64 (s.size : Int), .nilIface]) ∧ Wrote W w' B b (l ++ wrT s)) := fun W hW hBW => by
    have := wstr_any B b (l ++ wrN (s.size : Int)) s W hW (by rw [List.length_append]; omega) hBW
    rw [List.append_assoc] at this
    exact this
  unfold numV at q
  clear h hX hlen
  go_enter Tryz.func51, Tryz.ntmps51
  go_wp2_with fail
  refine HN.out.mono ?_
  rintro e w1 ⟨rfl, hW1⟩
  have HW1 : Hid (Wrote w w1 B b (l ++ wrN (s.size : Int))) := hW1
  have hB1 : B ≤ w1.heap.size := Nat.le_trans hB0 hW1.low.size
  clear hW1 HN
  go_wp2_with fail
  refine (HWS.out w1 HW1.out.bld hB1).mono ?_
  rintro e w2 ⟨rfl, hW2⟩
  have HW2 : Hid (Wrote w w2 B b (l ++ wrT s)) := HW1.out.trans hW2
  clear hW2 HW1 HWS
  go_wp2
  go_end0
  exact ⟨rfl, HW2.out⟩
section
open Go.ChangeShapes Go.WideShapes Go.RowKit

/-- The twelve and the library's two, by name and text. -/
def L14 : List (String × List UInt8) := (Rows.holdLoadsRow.laid.drop (3 + 1)).map fun x => (x.1, match x.2 with | .iface _ (.ptr (.agg [.lit (.string t)])) => t | _ => [])
theorem L14_laid : (L14.map fun x => (x.1, errD x.2)) = Rows.holdLoadsRow.laid.drop (3 + 1) := rfl
theorem laid_split (W : World) : laidMetH Tryz.prog Rows.holdLoadsRow.laid W = (laidMet Tryz.prog (Rows.holdLoadsRow.laid.take 3 ++ L14.map fun x => (x.1, errD x.2)) W ∧ handlesMet Tryz.prog ((Rows.holdLoadsRow.laid.drop 3).take 1) W) := by kernel_rfl
theorem L14_named : (L14.all fun x => match Tryz.prog.globalNamed x.1 with | some g => (Tryz.prog.globals[g]?).map (·.type) == some 25 | none => false) = true := by kernel_rfl
theorem g14 : L14.map (fun x => Tryz.prog.globalNamed x.1) = [some 0, some 3, some 7, some 2, some 8, some 4, some 5, some 9, some 6, some 1, some 10, some 11, some 15, some 14] := by kernel_rfl
theorem etNamed : Tryz.prog.globalNamed "errors.errorType" = some 12 := by kernel_rfl
theorem errOneRow : ((List.range 237).filter fun t => Tryz.prog.rowNamed t [101, 114, 114, 111, 114]) = [25] := by kernel_rfl
theorem typesSize : Tryz.prog.types.size = 237 := by kernel_rfl
/-- The three tables stand ahead: the third is of the powers of ten. -/
theorem tab_of_laid {W : World} {ps : List MemPlace} (h : DataW.LaidVars Tryz.prog W (Rows.holdLoadsRow.laid.take 3 ++ L14.map fun x => (x.1, errD x.2)) ps) : Lib.TabIs Tryz.prog W "internal/strconv.uint64pow10" .u64 Lib.pow10Tab := by
  obtain ⟨pp, qq, _, h2⟩ := laid_peel (Rows.holdLoadsRow.laid.take 2) (("internal/strconv.uint64pow10", Lib.tabData .u64 Lib.pow10Tab) :: L14.map fun x => (x.1, errD x.2)) ps h
  obtain ⟨g', t', cs, fuel, p, q, hg', ht', hvar, hd, _, _⟩ := h2
  obtain rfl := Option.some.inj ((show Tryz.prog.globalNamed "internal/strconv.uint64pow10" = some 16 by kernel_rfl).symm.trans hg')
  obtain rfl := Option.some.inj ((show (Tryz.prog.globals[16]?).map (·.type) = some 199 by kernel_rfl).symm.trans ht')
  unfold Lib.TabIs
  have hc := Lib.cells_of_tab Tryz.underlying199 Tryz.underlying171 (by kernel_rfl) (by kernel_rfl) hd
  rw [hvar]
  congr 1
  exact Array.toList_inj.1 (by simpa using hc)
/-- As the wrap for a change under a condition, the world's shape at hand. -/
theorem change_and_shaped {H : Type} {enc : TypeId × Value → H} {a : Assume} {C : Checked} {os : Os} {f : FuncId} {fn : Func} {s : ChangeSpec} {conds : List PathCond} {apart fresh handsOn again : Bool} {X : World → Array Value → Prop}
    (hX : ∀ (w w' : World) (args : Array Value), w.heap = w'.heap → X w args → X w' args)
    (own : ownKnob C.prog.godebug = none) (started : os.Started) (noInit : C.prog.inits.idxOf? f = none) (hfn : C.prog.funcs[f]? = some fn)
    (witness : ∃ (w : World) (tape : Tape) (i : Input), w.os = os ∧ (w.forCall tape i).Shaped C.prog ∧ i.vars = [] ∧ Input.okWide C.prog (w.forCall tape i) .any w.heap.size f i ∧
      ((s.pre enc C.prog fn conds apart (w.forCall tape i).memory i.args ∧ X (w.forCall tape i).memory i.args) ∧ sizedMet enc C.prog fn (OpenSpec.ofChange s) apart (w.forCall tape i).memory i.args) ∧ a.holds C.prog (lone (Frame.enter C.prog f i.args .normal) [] (w.forCall tape i)))
    (contract : ∀ (W : World) (base : Nat) (args : Array Value) (ds gs : List (DataW H)) (before : List MemPlace),
      (∀ (j : Nat) t v, fn.params[j]? = some t → args[j]? = some v → Value.okWide C.prog W .any base t v) →
      DataW.Whole enc C.prog fn.params.toList s.vars apart W args.toList ds gs before → X W args → W.ShapedOpen C.prog →
      Calls C.prog f args W fun e W' => ∃ v, e = .returned v ∧ s.post enc C.prog fn apart fresh handsOn again W args v W') :
    ReturnsInHanded a C os f .any (fun w args => (s.pre enc C.prog fn conds apart w args ∧ X w args) ∧ sizedMet enc C.prog fn (OpenSpec.ofChange s) apart w args) (s.post enc C.prog fn apart fresh handsOn again) := by
  refine returnsInHanded_of_calls own started noInit witness ?_
  intro w tape i _ hsh _ hok hpre _
  obtain ⟨_, _, _, fn', hfn', _, _, _, _, hval⟩ := hok
  obtain rfl : fn' = fn := Option.some.inj (hfn'.symm.trans hfn)
  obtain ⟨⟨⟨ds, gs, before, hw, _⟩, hx⟩, _⟩ := hpre
  refine (contract (w.forCall tape i) w.heap.size i.args ds gs before hval (DataW.Whole.of_heap (w' := w.forCall tape i) (by rfl) hw) (hX _ _ _ (by rfl) hx) hsh).mono fun e W' ⟨v, he, hp⟩ => ?_
  subst he
  exact ChangeSpec.post_blind hp
theorem max_of_shape {W : World} (h : W.ShapedOpen Tryz.prog) : ∃ m, W.cell? ⟨13, 0, none⟩ = some (.int .i64 m) :=
  Go.Proofs.cell_of_shapedOpen_int (t := 3) (zero := #[.int .i64 0]) h (of_decide_eq_true (by kernel_rfl)) (by kernel_rfl) rfl (by kernel_rfl) (by kernel_rfl) Tryz.underlying3
theorem sent_of_laid {W : World} (h : laidMetH Tryz.prog Rows.holdLoadsRow.laid W) : ∃ ad, Sent W ad ∧ Lib.TabIs Tryz.prog W "internal/strconv.uint64pow10" .u64 Lib.pow10Tab ∧ (∃ tp p, W.var? Tryz.prog "strconv.ErrSyntax" = some #[.iface tp p]) ∧ ∃ tp p, W.var? Tryz.prog "strconv.ErrRange" = some #[.iface tp p] := by
  rw [laid_split] at h
  obtain ⟨⟨ps0, hl0, hnd0, hr0⟩, hH⟩ := h
  have htab : Lib.TabIs Tryz.prog W "internal/strconv.uint64pow10" .u64 Lib.pow10Tab := tab_of_laid hl0
  obtain ⟨pp, ps, rfl, hl⟩ := laid_peel _ _ _ hl0
  have hnd : ps.Nodup := List.Nodup.sublist (List.sublist_append_right _ _) hnd0
  have hr := fun b off (hm : MemPlace.cell b off ∈ ps) => hr0 b off (List.mem_append_right _ hm)
  clear hl0 hnd0 hr0
  have hn : ∀ x ∈ L14, ∃ g, Tryz.prog.globalNamed x.1 = some g ∧ (Tryz.prog.globals[g]?).map (·.type) = some 25 := by
    intro x hx
    have := List.all_eq_true.1 L14_named x hx
    split at this
    · rename_i g hg
      exact ⟨g, hg, by simpa using this⟩
    · cases this
  have c57 : Tryz.prog.cellsOf 208 = 1 := by kernel_rfl
  have c9 : Tryz.prog.cellsOf 9 = 1 := by kernel_rfl
  obtain ⟨ad, h1, h2⟩ := sents Tryz.underlying25 row_es Tryz.underlying206 Tryz.underlying208 rfl rfl Tryz.underlying9 c57 c9 L14 ps hl hn hr
  have cell : ∀ i g x, L14[i]? = some x → Tryz.prog.globalNamed x.1 = some g → W.cell? ⟨g, 0, none⟩ = some (.iface 206 (.pointer (some (ad i)))) := by
    intro i g x hx hg
    simpa using World.var?_cell hg (h1 i x hx).2 0
  have cellg : ∀ i g, (L14.map (fun x => Tryz.prog.globalNamed x.1))[i]? = some (some g) → W.cell? ⟨g, 0, none⟩ = some (.iface 206 (.pointer (some (ad i)))) := by
    intro i g hx
    rw [List.getElem?_map] at hx
    obtain ⟨x, hx1, hx2⟩ := Option.map_eq_some_iff.1 hx
    exact cell i g x hx1 hx2
  rw [g14] at cellg
  have len : L14.length = 14 := rfl
  have v12 := (h1 12 _ rfl).2
  have v13 := (h1 13 _ rfl).2
  refine ⟨ad, ⟨cellg 0 _ rfl, cellg 1 _ rfl, cellg 2 _ rfl, cellg 3 _ rfl, cellg 4 _ rfl, cellg 5 _ rfl, cellg 6 _ rfl, cellg 7 _ rfl, cellg 8 _ rfl, cellg 9 _ rfl, cellg 10 _ rfl, cellg 11 _ rfl, ?_, ?_, fun i j hi hj => h2 hnd i j (by rw [len]; omega) (by rw [len]; omega)⟩, htab, ⟨_, _, v13⟩, _, _, v12⟩
  · obtain ⟨name, u, ty, e1, e2, e3, e4, e5⟩ := hH _ (List.mem_singleton.2 rfl)
    have en : name = [101, 114, 114, 111, 114] := (Option.some.inj e1).symm
    subst en
    obtain rfl : 147 = u := Option.some.inj ((show _ = some 147 by kernel_rfl).symm.trans e2)
    have hm : ty ∈ (List.range 237).filter fun t => Tryz.prog.rowNamed t [101, 114, 114, 111, 114] := List.mem_filter.2 ⟨List.mem_range.2 (by rw [← typesSize]; exact e3), e4⟩
    rw [errOneRow] at hm
    obtain rfl := List.mem_singleton.1 hm
    have hh : typeHandle Tryz.prog 25 = .pointer (some ⟨19, 25, none⟩) := by kernel_rfl
    rw [hh] at e5
    simpa using World.var?_cell etNamed e5 0
  · intro i hi
    obtain ⟨x, hx⟩ : ∃ x, L14[i]? = some x := ⟨L14[i]'(by rw [len]; omega), List.getElem?_eq_getElem (by rw [len]; omega)⟩
    exact (hr _ _ (h1 i x hx).1).1
theorem own : ownKnob Tryz.prog.godebug = none := by kernel_rfl
theorem doorAll_met (os : Os) (args : Array Value) : laidMetH Tryz.prog Rows.holdLoadsRow.laid ((World.doorLaid Tryz.prog 297 os).forCall (fun _ _ => 0) ⟨#[], args, []⟩).memory :=
  laidMetH_of_parts3 (fuel := 8) (laidMet_of_run' 8 (by kernel_rfl) (by kernel_rfl)) (by kernel_rfl) (by kernel_rfl)
end
set_option maxRecDepth 10000 in
theorem rless_any (a b : Int × Int) (w : World) :
    Calls Tryz.prog 57 #[.agg #[.int .i64 a.1, .int .i64 a.2], .agg #[.int .i64 b.1, .int .i64 b.2]] w fun e w' => e = .returned (.bool (lessB a b)) ∧ Below w.heap.size w w' := by
  obtain ⟨a1, a2⟩ := a
  obtain ⟨b1, b2⟩ := b
  have HB : Hid (Below w.heap.size w ((w.alloc (.cells #[.int .i64 a1, .int .i64 a2] 45)).alloc (.cells #[.int .i64 b1, .int .i64 b2] 45))) := ((Below.refl _ _).alloc (Nat.le_refl _) _).alloc (by simp) _
  by_cases h1 : a1 < b1
  · have HE : Hid (lessB (a1, a2) (b1, b2) = true) := by show _ = _; unfold lessB; simp [h1]
    rw [HE.out]
    go_enter Tryz.func57, Tryz.ntmps57
    go_wp2
    go_ret
    exact ⟨rfl, HB.out⟩
  have d1 : decide (a1 < b1) = false := decide_eq_false h1
  by_cases h2 : a1 = b1
  · subst h2
    have HE : Hid (lessB (a1, a2) (a1, b2) = decide (a2 < b2)) := by show _ = _; unfold lessB; simp
    rw [HE.out]
    go_enter Tryz.func57, Tryz.ntmps57
    go_wp2
    go_ret
    exact ⟨rfl, HB.out⟩
  · have HE : Hid (lessB (a1, a2) (b1, b2) = false) := by show _ = _; unfold lessB; simp [h1, h2]
    rw [HE.out]
    have d2 : (a1 == b1) = false := by
      rw [beq_eq_false_iff_ne]
      exact h2
    go_enter Tryz.func57, Tryz.ntmps57
    go_wp2
    go_ret
    exact ⟨rfl, HB.out⟩
set_option maxRecDepth 10000 in
set_option maxHeartbeats 4000000 in
theorem rget_any (h : Nat) (L : List Kep) (s : Bool) (key : ByteArray) (w : World) (hl : L.length ≤ 1000000) (hm : MHold w h L s) :
    Calls Tryz.prog 31 #[.pointer (some ⟨h, 0, none⟩), .string key] w fun e w' => (∃ v, e = .returned v ∧ OwnR verE 49 w' w.heap.size v (getL L key)) ∧ Below w.heap.size w w' := by
  obtain ⟨p, c, q0, hrec, hc, hn, hne⟩ := hm.row
  have HREC : Hid (Rec kepE w p L) := hrec
  have hlt := lt_of_cellH q0
  have HQ0 : Hid (w.cell? ⟨h, 0, none⟩ = some (.slice p L.length c)) := q0
  clear hrec hm q0 hne hn
  go_enter Tryz.func31, Tryz.ntmps31
  go_wp2
  go_loopw [5, 6] (fun v x wq => ∃ i : Nat, i ≤ L.length ∧ x = .int .i64 i ∧ OwnR verE 49 wq w.heap.size v (getL (L.take i) key) ∧ Below w.heap.size w wq) (fun _ x _ => L.length - (intOf x).toNat)
  case atStart => exact ⟨0, Nat.zero_le _, rfl, OwnR.nil _ _ _, Below.refl _ _⟩
  case round =>
    obtain ⟨i, hi, rfl, hO, hB⟩ := hrel
    obtain ⟨w1, rfl⟩ : ∃ w1, w1 = wr := ⟨_, rfl⟩
    obtain ⟨v, rfl⟩ : ∃ v, v = u5 := ⟨_, rfl⟩
    have HO : Hid (OwnR verE 49 w1 w.heap.size v (getL (L.take i) key)) := hO
    have HB : Hid (Below w.heap.size w w1) := hB
    have q0 : w1.cell? ⟨h, 0, none⟩ = some (.slice p L.length c) := (hB.cell (p := ⟨h, 0, none⟩) hlt).trans HQ0.out
    have hz1 : w.heap.size ≤ w1.heap.size := hB.size
    clear hO hB
    by_cases hil : i < L.length
    · obtain ⟨b, o, hpp, hblt, c0, c1, c2, c3, c4, c5⟩ := kep_cells (HREC.out.below HB.out) hil
      subst hpp
      by_cases he : (kepAt L i).1 = key
      · have HNX : Hid (getL (L.take (i + 1)) key = getL (L.take i) key ++ [(kepAt L i).2]) := getL_succ_yes hil he
        have hgl : (getL (L.take i) key).length ≤ 1000000 := Nat.le_trans (getL_le _ _) (by rw [List.length_take]; omega)
        rw [he] at c0
        clear he
        generalize (kepAt L i).2 = x at *
        obtain ⟨xn, xw, xs, xa, xt⟩ := x
        generalize getL (L.take i) key = gs at *
        have HO2 : Hid (OwnR verE 49 (w1.alloc (.cells #[.int .i64 xn, .int .i64 xw, .int .i64 xs, .int .i64 xa, .string xt] 49)) w.heap.size v gs) := HO.out.kept ((Below.refl _ _).alloc (Nat.le_refl _) _)
        have HNW : Hid (∀ j u, (verE.enc ⟨xn, xw, xs, xa, xt⟩)[j]? = some u → (w1.alloc (.cells #[.int .i64 xn, .int .i64 xw, .int .i64 xs, .int .i64 xa, .string xt] 49)).cell? ⟨w1.heap.size, 0 + j, none⟩ = some u) := fun j u hj => by
          rw [Nat.zero_add, World.cell?_alloc_at _ _ _ _ rfl]
          match j, hj with
          | 0, hj => exact hj
          | 1, hj => exact hj
          | 2, hj => exact hj
          | 3, hj => exact hj
          | 4, hj => exact hj
        have HB2 : Hid (Below w.heap.size w (w1.alloc (.cells #[.int .i64 xn, .int .i64 xw, .int .i64 xs, .int .i64 xa, .string xt] 49))) := HB.out.alloc hz1 _
        go_wp2_with (first | (at_builtin; refine wpList_append_rec rfl (.tmp 26) (.tmp 35) 57 49 rfl (.agg #[.int .i64 0, .int .i64 0, .int .i64 0, .int .i64 0, .string ⟨#[]⟩]) 48 Tryz.underlying57 verinfo rfl w.heap.size v gs rfl HO2.out w1.heap.size 0 1 ⟨xn, xw, xs, xa, xt⟩ rfl HNW.out (by unfold maxLen; omega) (by omega) HB2.out.size (by simp) ?_; intro v3 w3 hO3 hb3))
        have HO3 : Hid (OwnR verE 49 w3 w.heap.size v3 (gs ++ [⟨xn, xw, xs, xa, xt⟩])) := hO3
        have HB3 : Hid (Below w.heap.size w w3) := HB2.out.trans hb3
        clear hO3 hb3
        go_wp2
        go_roundw
        case rel => exact ⟨i + 1, by omega, by go_num, by rw [HNX.out]; exact HO3.out, HB3.out⟩
        case measure => simp [intOf]; omega
      · have HNX : Hid (getL (L.take (i + 1)) key = getL (L.take i) key) := getL_succ_no hil he
        have d1 := toList_ne he
        have d2 := toList_beq he
        have d3 := bytes_beq he
        clear he
        generalize kepAt L i = x at *
        obtain ⟨xk, xv⟩ := x
        go_wp2
        go_roundw
        case rel => exact ⟨i + 1, by omega, by go_num, by rw [HNX.out]; exact HO.out, HB.out⟩
        case measure => simp [intOf]; omega
    · have hie : i = L.length := by omega
      subst hie
      have HE : Hid (L.take L.length = L) := List.take_length
      go_wp2
      go_ret
      exact ⟨⟨_, rfl, by have := HO.out; rw [HE.out] at this; exact this⟩, HB.out⟩
/-- From w to w' nothing that was there is written but block h. -/
structure Turn (h : Nat) (w w' : World) : Prop where
  os : w'.os = w.os
  tape : w'.tape = w.tape
  output : w'.output = w.output
  size : w.heap.size ≤ w'.heap.size
  block : ∀ k, k < w.heap.size → k ≠ h → w'.heap[k]? = w.heap[k]?
  row : w'.cell? ⟨h, 0, none⟩ = w.cell? ⟨h, 0, none⟩ ∨ ∀ b o n c, w'.cell? ⟨h, 0, none⟩ = some (.slice (some ⟨b, o, none⟩) n c) → w.heap.size ≤ b
theorem Turn.of_below {h : Nat} {w w' : World} (hlt : h < w.heap.size) (hb : Below w.heap.size w w') : Turn h w w' := ⟨hb.os, hb.tape, hb.output, hb.size, fun k hk _ => hb.block k hk, Or.inl (hb.cell (p := ⟨h, 0, none⟩) hlt)⟩
theorem Turn.trans {h : Nat} {w w' w'' : World} (h1 : Turn h w w') (h2 : Turn h w' w'') : Turn h w w'' := ⟨h2.os.trans h1.os, h2.tape.trans h1.tape, h2.output.trans h1.output, Nat.le_trans h1.size h2.size, fun k hk hne => (h2.block k (Nat.lt_of_lt_of_le hk h1.size) hne).trans (h1.block k hk hne), by
  rcases h2.row with h3 | h3
  · rcases h1.row with h4 | h4
    · exact Or.inl (h3.trans h4)
    · exact Or.inr fun b o n c e => h4 b o n c (by rw [← h3]; exact e)
  · exact Or.inr fun b o n c e => Nat.le_trans h1.size (h3 b o n c e)⟩
theorem Turn.cell {h : Nat} {w w' : World} (h1 : Turn h w w') {p : Addr} (hp : p.block < w.heap.size) (hne : p.block ≠ h) : w'.cell? p = w.cell? p := by
  have := h1.block p.block hp hne
  unfold World.cell?
  rw [this]
theorem kepinfo : (Tryz.prog.info? 51).map (fun i => (i.zero, i.size, i.bytes)) = some (some (.agg #[.string ⟨#[]⟩, .int .i64 0, .int .i64 0, .int .i64 0, .int .i64 0, .string ⟨#[]⟩]), 6, 64) := by kernel_rfl
theorem MHold.store {w w' : World} {h : Nat} {L M : List Kep} {s : Bool} (hm : MHold w h L s) (hb : Below w.heap.size w w') {v : Value} (hO : OwnR kepE 51 w' w.heap.size v M) : MHold (w'.setCell ⟨h, 0, none⟩ v) h M s ∧ Turn h w (w'.setCell ⟨h, 0, none⟩ v) := by
  have hm' := hm.below hb
  obtain ⟨p0, c0, q0, _, _, _, _⟩ := hm'.row
  have hlt0 : h < w.heap.size := by
    obtain ⟨p1, c1, q1, _⟩ := hm.row
    exact lt_of_cellH q1
  obtain ⟨p, c, rfl, hr, hc, hn, hblk⟩ := hO.form
  refine ⟨⟨⟨p, c, World.cell?_setCell_same _ _ _ q0, ?_, hc, hn, fun b o e => ?_⟩, ?_, by rw [World.frozen?_setCell]; exact hm'.free0, by rw [World.frozen?_setCell]; exact hm'.free1⟩, ⟨hb.os, hb.tape, hb.output, by simpa using hb.size, fun k hk hne => (Deep.blk_setCell_other _ _ _ _ hne).trans (hb.block k hk), Or.inr fun b o n c' e => ?_⟩⟩
  · rcases hr with hr | ⟨b, o, hp, hlt, hcell⟩
    · exact Or.inl hr
    · refine Or.inr ⟨b, o, hp, by simpa using hlt, fun i x hx j u hu => ?_⟩
      have hbb := (hblk b o hp).1
      rw [World.cell?_setCell_other _ _ _ _ (fun e => by have h2 : h = b := congrArg Addr.block e; omega)]
      exact hcell i x hx j u hu
  · have := (hblk b o e).1
    omega
  · rw [World.cell?_setCell_other _ _ _ _ (fun e => by have h2 : (0 : Nat) = 1 := congrArg Addr.off e; omega)]
    exact hm'.sealed_
  · rw [World.cell?_setCell_same _ _ _ q0] at e
    obtain ⟨h1, _, _⟩ := Value.slice.inj (Option.some.inj e)
    exact (hblk b o h1).1
set_option maxRecDepth 10000 in
theorem isTag_any (n who : Int) (w : World) :
    Calls Tryz.prog 85 #[.agg #[.int .i64 n, .int .i64 who]] w fun e w' => e = .returned (.bool (tagB n who)) ∧ Below w.heap.size w w' := by
  have HB : Hid (Below w.heap.size w (w.alloc (.cells #[.int .i64 n, .int .i64 who] 45))) := (Below.refl _ _).alloc (Nat.le_refl _) _
  have walk : (decide (0 ≤ n) = false) ∨ (0 ≤ n) ∧ ((decide (n ≤ 1099511627776) = false) ∨ n ≤ 1099511627776 ∧ ((decide (0 ≤ who) = false) ∨ 0 ≤ who ∧ ((decide (who ≤ 1099511627776) = false) ∨ who ≤ 1099511627776))) := by
    by_cases h1 : 0 ≤ n
    · by_cases h2 : n ≤ 1099511627776
      · by_cases h3 : 0 ≤ who
        · by_cases h4 : who ≤ 1099511627776
          · exact Or.inr ⟨h1, Or.inr ⟨h2, Or.inr ⟨h3, Or.inr h4⟩⟩⟩
          · exact Or.inr ⟨h1, Or.inr ⟨h2, Or.inr ⟨h3, Or.inl (decide_eq_false h4)⟩⟩⟩
        · exact Or.inr ⟨h1, Or.inr ⟨h2, Or.inl (decide_eq_false h3)⟩⟩
      · exact Or.inr ⟨h1, Or.inl (decide_eq_false h2)⟩
    · exact Or.inl (decide_eq_false h1)
  have HR : Hid (tagB n who = (decide (0 ≤ n) && decide (n ≤ 1099511627776) && decide (0 ≤ who) && decide (who ≤ 1099511627776))) := by show _ = _; rfl
  generalize tagB n who = r at *
  rcases walk with g | ⟨g1, g | ⟨g2, g | ⟨g3, g | g4⟩⟩⟩
  all_goals
    go_enter Tryz.func85, Tryz.ntmps85
    go_wp2
    go_ret
    exact ⟨by rw [HR.out]; simp [*], HB.out⟩
set_option maxRecDepth 10000 in
set_option maxHeartbeats 4000000 in
theorem isNameBig_any (s : ByteArray) (w : World) :
    Calls Tryz.prog 84 #[.string s] w fun e w' => e = .returned (.bool (isN s)) ∧ w' = w := by
  by_cases h1 : s.size < 1
  · have HE : Hid (isN s = false) := isN_len (by omega)
    rw [HE.out]
    go_enter Tryz.func84, Tryz.ntmps84
    go_wp2
    go_ret
    exact ⟨rfl, rfl⟩
  by_cases h2 : 16 < s.size
  · have HE : Hid (isN s = false) := isN_len (by omega)
    rw [HE.out]
    go_enter Tryz.func84, Tryz.ntmps84
    go_wp2
    go_ret
    exact ⟨rfl, rfl⟩
  have g1 : decide ((s.size : Int) < 1) = false := decide_eq_false (by omega)
  have g2 : decide (16 < (s.size : Int)) = false := decide_eq_false (by omega)
  have HF : Hid (∀ j, j < s.size → letterB (Gf.nth (bytesOf s) j) = false → isN s = false) := fun j hj h => isN_one hj h
  have HT : Hid ((∀ j, j < s.size → letterB (Gf.nth (bytesOf s) j) = true) → isN s = true) := fun h => isN_all (by omega) (by omega) h
  generalize isN s = r at *
  go_enter Tryz.func84, Tryz.ntmps84
  go_wp2
  go_loop [3] (fun x => ∃ i : Nat, i ≤ s.size ∧ x = .int .i64 i ∧ ∀ j, j < i → letterB (Gf.nth (bytesOf s) j) = true) (fun x => s.size - (intOf x).toNat)
  case atStart => exact ⟨0, Nat.zero_le _, rfl, fun j hj => absurd hj (Nat.not_lt_zero _)⟩
  case round =>
    obtain ⟨i, hi, rfl, hall⟩ := hrel
    have HALL : Hid (∀ j, j < i → letterB (Gf.nth (bytesOf s) j) = true) := hall
    clear hall
    by_cases hil : i < s.size
    · have hix := run_idx s i hil
      have hy := bytesOf_lt s i
      have HB : Hid (letterB (Gf.nth (bytesOf s) i) = false → r = false) := fun h => HF.out i hil h
      have HN : Hid (letterB (Gf.nth (bytesOf s) i) = true → ∀ j, j < i + 1 → letterB (Gf.nth (bytesOf s) j) = true) := fun h j hj => by
        rcases Nat.lt_or_ge j i with h' | h'
        · exact HALL.out j h'
        · obtain rfl : j = i := by omega
          exact h
      clear HF HALL
      generalize Gf.nth (bytesOf s) i = y at *
      rcases (show (97 ≤ y ∧ y ≤ 122) ∨ (48 ≤ y ∧ y ≤ 57) ∨ y = 45 ∨ 122 < y ∨ (57 < y ∧ y < 97) ∨ (y < 48 ∧ y ≠ 45) by omega) with hc | hc | hc | hc | hc | hc
      · have HL : Hid (letterB y = true) := by show _ = _; simp [letterB, hc]
        obtain ⟨hc1, hc2⟩ := hc
        go_wp2
        go_round
        case rel => exact ⟨i + 1, by omega, by go_num, HN.out HL.out⟩
        case measure => simp [intOf]; omega
      · have HL : Hid (letterB y = true) := by show _ = _; simp [letterB, hc]
        obtain ⟨hc1, hc2⟩ := hc
        go_wp2
        go_round
        case rel => exact ⟨i + 1, by omega, by go_num, HN.out HL.out⟩
        case measure => simp [intOf]; omega
      · have HL : Hid (letterB y = true) := by show _ = _; simp [letterB, hc]
        subst hc
        go_wp2
        go_round
        case rel => exact ⟨i + 1, by omega, by go_num, HN.out HL.out⟩
        case measure => simp [intOf]; omega
      · have HL : Hid (r = false) := HB.out (by
          unfold letterB
          rw [decide_eq_false (by omega), decide_eq_false (by omega), decide_eq_false (by omega)]
          rfl)
        have d1 : decide ((y : Int) ≤ 122) = false := decide_eq_false (by omega)
        have d2 : decide ((y : Int) ≤ 57) = false := decide_eq_false (by omega)
        have hc3 : ((y : Int) == 45) = false := by
          rw [beq_eq_false_iff_ne]
          omega
        go_wp2
        go_ret
        exact ⟨by rw [HL.out]; rfl, rfl⟩
      · have HL : Hid (r = false) := HB.out (by
          unfold letterB
          rw [decide_eq_false (by omega), decide_eq_false (by omega), decide_eq_false (by omega)]
          rfl)
        obtain ⟨hc1, hc2⟩ := hc
        have d2 : decide ((y : Int) ≤ 57) = false := decide_eq_false (by omega)
        have hc3 : ((y : Int) == 45) = false := by
          rw [beq_eq_false_iff_ne]
          omega
        go_wp2
        go_ret
        exact ⟨by rw [HL.out]; rfl, rfl⟩
      · have HL : Hid (r = false) := HB.out (by
          unfold letterB
          rw [decide_eq_false (by omega), decide_eq_false (by omega), decide_eq_false (by omega)]
          rfl)
        obtain ⟨hc1, hc2⟩ := hc
        have hc3 : ((y : Int) == 45) = false := by
          rw [beq_eq_false_iff_ne]
          omega
        go_wp2
        go_ret
        exact ⟨by rw [HL.out]; rfl, rfl⟩
    · have hie : i = s.size := by omega
      subst hie
      have HR : Hid (r = true) := HT.out HALL.out
      go_wp2
      go_ret
      exact ⟨by rw [HR.out]; rfl, rfl⟩
set_option maxRecDepth 10000 in
set_option maxHeartbeats 8000000 in
theorem putScan_walk (h : Nat) (L : List Kep) (key : ByteArray) (v : Ver) (w : World) (hl : L.length ≤ 1000000) (hm : MHold w h L false) (hN : isN key = true) (hV : verOk v = true) :
    Calls Tryz.prog 56 #[.pointer (some ⟨h, 0, none⟩), .string key, .agg #[.int .i64 v.n, .int .i64 v.who, .int .i64 v.size, .int .i64 v.at_, .string v.text]] w fun e w' => e = .returned (.int .i64 (putScan L key v 0 L.length)) ∧ Below w.heap.size w w' := by
  obtain ⟨p, c, q0, hrec, hc, hn, hne⟩ := hm.row
  have qs := hm.sealed_
  have hlt := lt_of_cellH q0
  have hksz := (isN_size hN).2
  have HNM : Hid (∀ W, Calls Tryz.prog 84 #[.string key] W fun e w' => e = .returned (.bool (isN key)) ∧ w' = W) := fun W => isNameBig_any key W
  rw [hN] at HNM
  unfold verOk at hV
  rw [Bool.and_eq_true] at hV
  obtain ⟨hT, hV⟩ := hV
  have HTG : Hid (∀ W, Calls Tryz.prog 85 #[.agg #[.int .i64 v.n, .int .i64 v.who]] W fun e w' => e = .returned (.bool (tagB v.n v.who)) ∧ Below W.heap.size W w') := fun W => isTag_any v.n v.who W
  rw [hT] at HTG
  obtain ⟨v1, v2, v3, v4, v5⟩ := of_decide_eq_true hV
  clear hT hV hN
  obtain ⟨R, hR⟩ : ∃ R, R = putScan L key v 0 L.length := ⟨_, rfl⟩
  rw [← hR]
  have HR : Hid (R = putScan L key v 0 L.length) := hR
  clear hR
  have HREC : Hid (Rec kepE w p L) := hrec
  obtain ⟨w0, hw0⟩ : ∃ w0, w0 = w.alloc (.cells #[.int .i64 v.n, .int .i64 v.who, .int .i64 v.size, .int .i64 v.at_, .string v.text] 49) := ⟨_, rfl⟩
  have hb0 : Below w.heap.size w w0 := by rw [hw0]; exact (Below.refl _ _).alloc (Nat.le_refl _) _
  have b0 : w0.cell? ⟨w.heap.size, 0, none⟩ = some (.int .i64 v.n) := by rw [hw0, World.cell?_alloc_at _ _ _ _ rfl]; rfl
  have b1 : w0.cell? ⟨w.heap.size, 1, none⟩ = some (.int .i64 v.who) := by rw [hw0, World.cell?_alloc_at _ _ _ _ rfl]; rfl
  have b2 : w0.cell? ⟨w.heap.size, 2, none⟩ = some (.int .i64 v.size) := by rw [hw0, World.cell?_alloc_at _ _ _ _ rfl]; rfl
  have b3 : w0.cell? ⟨w.heap.size, 3, none⟩ = some (.int .i64 v.at_) := by rw [hw0, World.cell?_alloc_at _ _ _ _ rfl]; rfl
  have b4 : w0.cell? ⟨w.heap.size, 4, none⟩ = some (.string v.text) := by rw [hw0, World.cell?_alloc_at _ _ _ _ rfl]; rfl
  have qs0 : w0.cell? ⟨h, 1, none⟩ = some (.bool false) := (hb0.cell (p := ⟨h, 1, none⟩) hlt).trans qs
  have HALL : Hid (∀ W, Below w0.heap.size w0 W → (W.cell? ⟨h, 0, none⟩ = some (.slice p L.length c) ∧ W.cell? ⟨w.heap.size, 0, none⟩ = some (.int .i64 v.n) ∧ W.cell? ⟨w.heap.size, 1, none⟩ = some (.int .i64 v.who) ∧ W.cell? ⟨w.heap.size, 2, none⟩ = some (.int .i64 v.size) ∧ W.cell? ⟨w.heap.size, 3, none⟩ = some (.int .i64 v.at_) ∧ W.cell? ⟨w.heap.size, 4, none⟩ = some (.string v.text)) ∧ Rec kepE W p L ∧ Below w.heap.size w W) := fun W hW => by
    have hx : w.heap.size < w0.heap.size := lt_of_cellH b0
    have hy : h < w0.heap.size := Nat.lt_of_lt_of_le hlt hb0.size
    exact ⟨⟨(hW.cell (p := ⟨h, 0, none⟩) hy).trans ((hb0.cell (p := ⟨h, 0, none⟩) hlt).trans q0), (hW.cell (p := ⟨w.heap.size, 0, none⟩) hx).trans b0, (hW.cell (p := ⟨w.heap.size, 1, none⟩) hx).trans b1, (hW.cell (p := ⟨w.heap.size, 2, none⟩) hx).trans b2, (hW.cell (p := ⟨w.heap.size, 3, none⟩) hx).trans b3, (hW.cell (p := ⟨w.heap.size, 4, none⟩) hx).trans b4⟩, (HREC.out.below hb0).below hW, hb0.trans (hW.mono hb0.size)⟩
  have HW0 : Hid (w0 = w.alloc (.cells #[.int .i64 v.n, .int .i64 v.who, .int .i64 v.size, .int .i64 v.at_, .string v.text] 49)) := hw0
  have HV : Hid (∀ x : Ver, x = v ↔ (x.n = v.n ∧ x.who = v.who ∧ x.size = v.size ∧ x.at_ = v.at_ ∧ x.text = v.text)) := fun x => by
    obtain ⟨a1, a2, a3, a4, a5⟩ := x
    obtain ⟨b1, b2, b3, b4, b5⟩ := v
    simp
  have HSCAN : Hid (∀ i, i < L.length → putScan L key v i (L.length - i) = if sameTag (kepAt L i) key v then (if (kepAt L i).2 = v then -1 else 6) else putScan L key v (i + 1) (L.length - (i + 1))) := fun i hi => putScan_at hi
  have HLAST : Hid (putScan L key v L.length 0 = if 60 ≤ L.length then 7 else 0) := by show _ = _; rfl
  have HST : Hid (∀ x : Kep, sameTag x key v = (decide (x.1 = key) && decide (x.2.n = v.n) && decide (x.2.who = v.who))) := fun x => rfl
  clear hrec hm q0 qs hne hn b0 b1 b2 b3 b4 hw0 hb0
  have g1 : decide (v.size < 0) = false := decide_eq_false (by omega)
  have g2 : decide (1000 < v.size) = false := decide_eq_false (by omega)
  have g3 : decide (v.at_ < 0) = false := decide_eq_false (by omega)
  have g4 : decide (12 ≤ v.at_) = false := decide_eq_false (by omega)
  have g5 : decide (1000 < (v.text.size : Int)) = false := decide_eq_false (by omega)
  go_enter Tryz.func56, Tryz.ntmps56
  go_wp2_with (rw [← HW0.out])
  refine (HNM.out _).mono ?_
  rintro e w1 ⟨rfl, hw1⟩
  rw [hw1]
  clear hw1 w1 HNM
  obtain ⟨⟨k0, k1, k2, k3, k4, k5⟩, _, _⟩ := HALL.out w0 (Below.refl _ _)
  go_wp2_with fail
  refine (HTG.out _).mono ?_
  rintro e w1 ⟨rfl, hb1⟩
  obtain ⟨⟨m0, m1, m2, m3, m4, m5⟩, _, _⟩ := HALL.out w1 hb1
  have HB1 : Hid (Below w0.heap.size w0 w1) := hb1
  clear HTG hb1 k0 k1 k2 k3 k4 k5 qs0
  go_wp2
  clear m0 m1 m2 m3 m4 m5
  go_loopw [9] (fun x wq => ∃ i : Nat, i ≤ L.length ∧ x = .int .i64 i ∧ putScan L key v i (L.length - i) = R ∧ Below w0.heap.size w0 wq) (fun x _ => L.length - (intOf x).toNat)
  case atStart => exact ⟨0, Nat.zero_le _, rfl, HR.out.symm, HB1.out⟩
  case round =>
    obtain ⟨i, hi, rfl, hsc, hb2⟩ := hrel
    obtain ⟨w2, rfl⟩ : ∃ w2, w2 = wr := ⟨_, rfl⟩
    have HB2 : Hid (Below w0.heap.size w0 w2) := hb2
    have HSC : Hid (putScan L key v i (L.length - i) = R) := hsc
    obtain ⟨⟨k0, k1, k2, k3, k4, k5⟩, hrc, hbw⟩ := HALL.out w2 hb2
    have HBW : Hid (Below w.heap.size w w2) := hbw
    have HRC : Hid (Rec kepE w2 p L) := hrc
    clear hsc hb2 hrc hbw
    by_cases hil : i < L.length
    · obtain ⟨b, o, hpp, hblt, c0, c1, c2, c3, c4, c5⟩ := kep_cells HRC.out hil
      subst hpp
      have hs := HSCAN.out i hil
      rw [HSC.out] at hs
      have hst := HST.out (kepAt L i)
      have hvv := HV.out (kepAt L i).2
      generalize kepAt L i = x at *
      obtain ⟨xk, xv⟩ := x
      by_cases hk : xk = key
      · by_cases hn : xv.n = v.n
        · by_cases hwho : xv.who = v.who
          · have hst' : sameTag (xk, xv) key v = true := by rw [hst]; simp [hk, hn, hwho]
            rw [if_pos hst'] at hs
            by_cases hveq : xv = v
            · have HE : Hid (R = -1) := by show _ = _; rw [hs]; exact if_pos hveq
              subst hveq hk
              clear hs hst hvv hst' hn hwho HSCAN HV HST
              go_wp2
              go_quiet (fail)
              go_wp2
              go_quiet (fail)
              go_wp2
              go_ret
              exact ⟨by rw [HE.out]; rfl, below_drewN (below_drewN HBW.out _) _⟩
            · have HE : Hid (R = 6) := by show _ = _; rw [hs]; exact if_neg hveq
              have hne3 : ((xv.size == v.size) = false) ∨ xv.size = v.size ∧ (((xv.at_ == v.at_) = false) ∨ xv.at_ = v.at_ ∧ xv.text ≠ v.text) := by
                by_cases e3 : xv.size = v.size
                · by_cases e4 : xv.at_ = v.at_
                  · exact Or.inr ⟨e3, Or.inr ⟨e4, fun e5 => hveq (hvv.2 ⟨hn, hwho, e3, e4, e5⟩)⟩⟩
                  · exact Or.inr ⟨e3, Or.inl (beq_eq_false_iff_ne.2 e4)⟩
                · exact Or.inl (beq_eq_false_iff_ne.2 e3)
              subst hk
              have c1' : w2.cell? ⟨b, o + i * 6 + 1, none⟩ = some (.int .i64 v.n) := c1.trans (by rw [hn])
              have c2' : w2.cell? ⟨b, o + i * 6 + 2, none⟩ = some (.int .i64 v.who) := c2.trans (by rw [hwho])
              clear hs hst hvv hst' hn hwho hveq c1 c2 HSCAN HV HST
              rcases hne3 with g | ⟨ge, g | ⟨gf, g⟩⟩
              · go_wp2
                go_quiet (fail)
                go_wp2
                go_quiet (fail)
                go_wp2
                go_ret
                exact ⟨by rw [HE.out]; rfl, below_drewN (below_drewN HBW.out _) _⟩
              · have c3' : w2.cell? ⟨b, o + i * 6 + 3, none⟩ = some (.int .i64 v.size) := c3.trans (by rw [← ge])
                clear c3 ge
                go_wp2
                go_quiet (fail)
                go_wp2
                go_quiet (fail)
                go_wp2
                go_ret
                exact ⟨by rw [HE.out]; rfl, below_drewN (below_drewN HBW.out _) _⟩
              · have c3' : w2.cell? ⟨b, o + i * 6 + 3, none⟩ = some (.int .i64 v.size) := c3.trans (by rw [← ge])
                have c4' : w2.cell? ⟨b, o + i * 6 + 4, none⟩ = some (.int .i64 v.at_) := c4.trans (by rw [← gf])
                have d1 := toList_ne g
                have d2 := toList_beq g
                have d3 := bytes_beq g
                clear c3 ge c4 gf g
                go_wp2
                go_quiet (fail)
                go_wp2
                go_quiet (fail)
                go_wp2
                go_ret
                exact ⟨by rw [HE.out]; rfl, below_drewN (below_drewN HBW.out _) _⟩
          · have hst' : sameTag (xk, xv) key v = false := by rw [hst]; simp [hwho]
            have HE : Hid (putScan L key v (i + 1) (L.length - (i + 1)) = R) := by show _ = _; rw [hs, if_neg (by rw [hst']; decide)]
            have c1' : w2.cell? ⟨b, o + i * 6 + 1, none⟩ = some (.int .i64 v.n) := c1.trans (by rw [hn])
            have gw : (xv.who == v.who) = false := beq_eq_false_iff_ne.2 hwho
            subst hk
            clear hs hst hvv hst' hn hwho c1 HSCAN HV HST
            go_wp2
            go_quiet (fail)
            go_wp2
            go_roundw
            case rel => exact ⟨i + 1, by omega, by go_num, HE.out, below_drewN HB2.out _⟩
            case measure => simp [intOf]; omega
        · have hst' : sameTag (xk, xv) key v = false := by rw [hst]; simp [hn]
          have HE : Hid (putScan L key v (i + 1) (L.length - (i + 1)) = R) := by show _ = _; rw [hs, if_neg (by rw [hst']; decide)]
          have gw : (xv.n == v.n) = false := beq_eq_false_iff_ne.2 hn
          subst hk
          clear hs hst hvv hst' hn HSCAN HV HST
          go_wp2
          go_quiet (fail)
          go_wp2
          go_roundw
          case rel => exact ⟨i + 1, by omega, by go_num, HE.out, below_drewN HB2.out _⟩
          case measure => simp [intOf]; omega
      · have hst' : sameTag (xk, xv) key v = false := by rw [hst]; simp [hk]
        have HE : Hid (putScan L key v (i + 1) (L.length - (i + 1)) = R) := by show _ = _; rw [hs, if_neg (by rw [hst']; decide)]
        have d1 := toList_ne hk
        have d2 := toList_beq hk
        have d3 := bytes_beq hk
        clear hs hst hvv hst' hk HSCAN HV HST
        go_wp2
        go_quiet (fail)
        go_wp2
        go_roundw
        case rel => exact ⟨i + 1, by omega, by go_num, HE.out, below_drewN HB2.out _⟩
        case measure => simp [intOf]; omega
    · have hie : i = L.length := by omega
      subst hie
      have hlast := HSC.out
      rw [Nat.sub_self, HLAST.out] at hlast
      by_cases h60 : 60 ≤ L.length
      · have HE : Hid (R = 7) := by show _ = _; rw [← hlast]; exact if_pos h60
        clear hlast
        go_wp2
        go_ret
        exact ⟨by rw [HE.out]; rfl, HBW.out⟩
      · have HE : Hid (R = 0) := by show _ = _; rw [← hlast]; exact if_neg h60
        clear hlast
        go_wp2
        go_ret
        exact ⟨by rw [HE.out]; rfl, HBW.out⟩
set_option maxRecDepth 10000 in
set_option maxHeartbeats 8000000 in
theorem putErr_any (h : Nat) (L : List Kep) (s : Bool) (key : ByteArray) (v : Ver) (w : World) (hl : L.length ≤ 1000000) (htx : v.text.size ≤ maxLen) (hm : MHold w h L s) :
    Calls Tryz.prog 56 #[.pointer (some ⟨h, 0, none⟩), .string key, .agg #[.int .i64 v.n, .int .i64 v.who, .int .i64 v.size, .int .i64 v.at_, .string v.text]] w fun e w' => e = .returned (.int .i64 (putErr L s key v)) ∧ Below w.heap.size w w' := by
  obtain ⟨p, c, q0, hrec, hc, hn, hne⟩ := hm.row
  have qs := hm.sealed_
  have hlt := lt_of_cellH q0
  obtain ⟨w0, hw0⟩ : ∃ w0, w0 = w.alloc (.cells #[.int .i64 v.n, .int .i64 v.who, .int .i64 v.size, .int .i64 v.at_, .string v.text] 49) := ⟨_, rfl⟩
  have hb0 : Below w.heap.size w w0 := by rw [hw0]; exact (Below.refl _ _).alloc (Nat.le_refl _) _
  have qs0 : w0.cell? ⟨h, 1, none⟩ = some (.bool s) := (hb0.cell (p := ⟨h, 1, none⟩) hlt).trans qs
  have HB0 : Hid (Below w.heap.size w w0) := hb0
  have HW0 : Hid (w0 = w.alloc (.cells #[.int .i64 v.n, .int .i64 v.who, .int .i64 v.size, .int .i64 v.at_, .string v.text] 49)) := hw0
  cases s with
  | true =>
    have HE : Hid (putErr L true key v = 10) := by show _ = _; rfl
    rw [HE.out]
    clear hm q0 hrec hn hne hw0 hb0 qs
    go_enter Tryz.func56, Tryz.ntmps56
    go_wp2_with (rw [← HW0.out])
    go_ret
    exact ⟨rfl, HB0.out⟩
  | false =>
    have HNM : Hid (∀ W, Calls Tryz.prog 84 #[.string key] W fun e w' => e = .returned (.bool (isN key)) ∧ w' = W) := fun W => isNameBig_any key W
    by_cases hN : isN key = true
    · by_cases hV : verOk v = true
      · have HE : putErr L false key v = putScan L key v 0 L.length := by unfold putErr; rw [if_neg (by decide), if_pos hN, if_pos hV]
        rw [HE]
        exact putScan_walk h L key v w hl hm hN hV
      · have HE : Hid (putErr L false key v = 2) := by show _ = _; unfold putErr; rw [if_neg (by decide), if_pos hN, if_neg hV]
        rw [HE.out]
        rw [hN] at HNM
        have HTG : Hid (∀ W, Calls Tryz.prog 85 #[.agg #[.int .i64 v.n, .int .i64 v.who]] W fun e w' => e = .returned (.bool (tagB v.n v.who)) ∧ Below W.heap.size W w') := fun W => isTag_any v.n v.who W
        have b0 : w0.cell? ⟨w.heap.size, 0, none⟩ = some (.int .i64 v.n) := by rw [hw0, World.cell?_alloc_at _ _ _ _ rfl]; rfl
        have b1 : w0.cell? ⟨w.heap.size, 1, none⟩ = some (.int .i64 v.who) := by rw [hw0, World.cell?_alloc_at _ _ _ _ rfl]; rfl
        have b2 : w0.cell? ⟨w.heap.size, 2, none⟩ = some (.int .i64 v.size) := by rw [hw0, World.cell?_alloc_at _ _ _ _ rfl]; rfl
        have b3 : w0.cell? ⟨w.heap.size, 3, none⟩ = some (.int .i64 v.at_) := by rw [hw0, World.cell?_alloc_at _ _ _ _ rfl]; rfl
        have b4 : w0.cell? ⟨w.heap.size, 4, none⟩ = some (.string v.text) := by rw [hw0, World.cell?_alloc_at _ _ _ _ rfl]; rfl
        have HALL : Hid (∀ W, Below w0.heap.size w0 W → W.cell? ⟨w.heap.size, 2, none⟩ = some (.int .i64 v.size) ∧ W.cell? ⟨w.heap.size, 3, none⟩ = some (.int .i64 v.at_) ∧ W.cell? ⟨w.heap.size, 4, none⟩ = some (.string v.text)) := fun W hW => by
          have hx : w.heap.size < w0.heap.size := lt_of_cellH b0
          exact ⟨(hW.cell (p := ⟨w.heap.size, 2, none⟩) hx).trans b2, (hW.cell (p := ⟨w.heap.size, 3, none⟩) hx).trans b3, (hW.cell (p := ⟨w.heap.size, 4, none⟩) hx).trans b4⟩
        unfold maxLen at htx
        have HW : Hid (tagB v.n v.who = false ∨ tagB v.n v.who = true ∧ (v.size < 0 ∨ ¬ v.size < 0 ∧ (1000 < v.size ∨ ¬ 1000 < v.size ∧ (v.at_ < 0 ∨ ¬ v.at_ < 0 ∧ (12 ≤ v.at_ ∨ ¬ 12 ≤ v.at_ ∧ 1000 < v.text.size))))) := by
          show _ ∨ _
          cases hT : tagB v.n v.who with
          | false => exact Or.inl rfl
          | true =>
            refine Or.inr ⟨rfl, ?_⟩
            have h2 : ¬ (0 ≤ v.size ∧ v.size ≤ 1000 ∧ 0 ≤ v.at_ ∧ v.at_ < 12 ∧ v.text.size ≤ 1000) := fun h3 => hV (by unfold verOk; rw [hT, decide_eq_true h3]; rfl)
            omega
        clear hm q0 hrec hn hne hw0 hb0 qs hN hV b2 b3 b4
        generalize tagB v.n v.who = tb at *
        rcases HW.out with rfl | ⟨rfl, g | ⟨g1, g | ⟨g2, g | ⟨g3, g | ⟨g4, g⟩⟩⟩⟩⟩
        all_goals
          go_enter Tryz.func56, Tryz.ntmps56
          go_wp2_with (rw [← HW0.out])
          refine (HNM.out _).mono ?_
          rintro e w1 ⟨rfl, hw1⟩
          rw [hw1]
          clear hw1 w1 HNM
          go_wp2_with fail
          refine (HTG.out _).mono ?_
          rintro e w1 ⟨rfl, hb1⟩
          obtain ⟨m3, m4, m5⟩ := HALL.out w1 hb1
          have HB1 : Hid (Below w.heap.size w w1) := HB0.out.trans (hb1.mono HB0.out.size)
          clear HTG hb1 b0 b1 qs0
          go_wp2
          go_ret
          exact ⟨rfl, HB1.out⟩
    · have HE : Hid (putErr L false key v = 4) := by show _ = _; unfold putErr; rw [if_neg (by decide), if_neg hN]
      rw [HE.out]
      rw [Bool.eq_false_iff.2 hN] at HNM
      clear hm q0 hrec hn hne hw0 hb0 qs hN
      go_enter Tryz.func56, Tryz.ntmps56
      go_wp2_with (rw [← HW0.out])
      refine (HNM.out _).mono ?_
      rintro e w1 ⟨rfl, hw1⟩
      rw [hw1]
      clear hw1 w1 HNM
      go_wp2
      go_ret
      exact ⟨rfl, HB0.out⟩
theorem run_keps_from (p : Option Addr) (l : List Kep) (c k : Nat) (hk : k ≤ l.length) (W : World) : Sem.run Tryz.prog (Instr.slice 41 (.slice p l.length c) (some (.int .i64 (k : Int))) none none) W = .ok (.slice (if c = k then p else p.map (·.add (k * 6))) (l.drop k).length (c - k)) W := by
  have hsz : (sizeOf (Tryz.prog.elem 41)).run Tryz.prog W = .ok 6 W := by kernel_rfl
  have hel : Tryz.prog.elem 41 = 51 := by kernel_rfl
  have hun : Tryz.prog.underlying 41 = some (.slice (Tryz.prog.elem 41)) := by rw [hel]; exact Tryz.underlying41
  rw [run_slice_l W 41 p l.length c hun .i64 (k : Int) (by omega) (by omega), hsz]
  simp [Result.andThen, sliced]
theorem run_keps_to (p : Option Addr) (l : List Kep) (c k : Nat) (hk : k ≤ l.length) (hc : l.length ≤ c) (W : World) : Sem.run Tryz.prog (Instr.slice 41 (.slice p l.length c) none (some (.int .i64 (k : Int))) none) W = .ok (.slice p (l.take k).length c) W := by
  have hsz : (sizeOf (Tryz.prog.elem 41)).run Tryz.prog W = .ok 6 W := by kernel_rfl
  have hel : Tryz.prog.elem 41 = 51 := by kernel_rfl
  have hun : Tryz.prog.underlying 41 = some (.slice (Tryz.prog.elem 41)) := by rw [hel]; exact Tryz.underlying41
  have hl : (l.take k).length = k := by rw [List.length_take]; omega
  rw [run_slice_h W 41 p l.length c hun .i64 (k : Int) (by omega) (by omega), hsz, hl]
  simp [Result.andThen, sliced, Addr.add]
theorem kep_new (key : ByteArray) (v : Ver) (z1 : World) : ∀ j u, (kepE.enc (key, v))[j]? = some u → (z1.alloc (.cells #[.string key, .int .i64 v.n, .int .i64 v.who, .int .i64 v.size, .int .i64 v.at_, .string v.text] 51)).cell? ⟨z1.heap.size, 0 + j, none⟩ = some u := fun j u hj => by
  rw [Nat.zero_add, World.cell?_alloc_at _ _ _ _ rfl]
  match j, hj with
  | 0, hj => exact hj
  | 1, hj => exact hj
  | 2, hj => exact hj
  | 3, hj => exact hj
  | 4, hj => exact hj
  | 5, hj => exact hj
section
open Go.Sort
set_option maxRecDepth 10000 in
theorem rless_grow (a b : Int × Int) (w : World) :
    Calls Tryz.prog 57 #[.agg #[.int .i64 a.1, .int .i64 a.2], .agg #[.int .i64 b.1, .int .i64 b.2]] w fun e w' => e = .returned (.bool (lessB a b)) ∧ ∃ q os, w' = grow (w.drewN q) os := by
  obtain ⟨a1, a2⟩ := a
  obtain ⟨b1, b2⟩ := b
  by_cases h1 : a1 < b1
  · have HE : Hid (lessB (a1, a2) (b1, b2) = true) := by show _ = _; unfold lessB; simp [h1]
    rw [HE.out]
    go_enter Tryz.func57, Tryz.ntmps57
    go_wp2
    go_ret
    exact ⟨rfl, 0, _, by rw [alloc_eq_grow, alloc_eq_grow, grow_grow]; rfl⟩
  have d1 : decide (a1 < b1) = false := decide_eq_false h1
  by_cases h2 : a1 = b1
  · subst h2
    have HE : Hid (lessB (a1, a2) (a1, b2) = decide (a2 < b2)) := by show _ = _; unfold lessB; simp
    rw [HE.out]
    go_enter Tryz.func57, Tryz.ntmps57
    go_wp2
    go_ret
    exact ⟨rfl, 0, _, by rw [alloc_eq_grow, alloc_eq_grow, grow_grow]; rfl⟩
  · have HE : Hid (lessB (a1, a2) (b1, b2) = false) := by show _ = _; unfold lessB; simp [h1, h2]
    rw [HE.out]
    have d2 : (a1 == b1) = false := by
      rw [beq_eq_false_iff_ne]
      exact h2
    go_enter Tryz.func57, Tryz.ntmps57
    go_wp2
    go_ret
    exact ⟨rfl, 0, _, by rw [alloc_eq_grow, alloc_eq_grow, grow_grow]; rfl⟩
end
section
open Go.Sort
set_option maxRecDepth 10000 in
set_option maxHeartbeats 8000000 in
/-- Where nothing is wrong it goes in at its place. -/
theorem rput_in (h : Nat) (L : List Kep) (s : Bool) (key : ByteArray) (v : Ver) (w : World) (hl : L.length ≤ 900000) (htx : v.text.size ≤ maxLen) (hm : MHold w h L s) (h0 : putErr L s key v = 0) :
    Calls Tryz.prog 26 #[.pointer (some ⟨h, 0, none⟩), .string key, .agg #[.int .i64 v.n, .int .i64 v.who, .int .i64 v.size, .int .i64 v.at_, .string v.text]] w fun e w' => e = .returned (.int .i64 0) ∧ MHold w' h (putL L key v) s ∧ Turn h w w' := by
  have HM : Hid (MHold w h L s) := hm
  obtain ⟨p, c, q0, hrec, hc, hn, hne⟩ := hm.row
  have hlt := lt_of_cellH q0
  have HREC : Hid (Rec kepE w p L) := hrec
  have HN : Hid (p = none → L = [] ∧ c = 0) := hn
  obtain ⟨w0, hw0⟩ : ∃ w0, w0 = w.alloc (.cells #[.int .i64 v.n, .int .i64 v.who, .int .i64 v.size, .int .i64 v.at_, .string v.text] 49) := ⟨_, rfl⟩
  have hb0 : RowKit.Below w.heap.size w w0 := by rw [hw0]; exact (RowKit.Below.refl _ _).alloc (Nat.le_refl _) _
  have b0 : w0.cell? ⟨w.heap.size, 0, none⟩ = some (.int .i64 v.n) := by rw [hw0, World.cell?_alloc_at _ _ _ _ rfl]; rfl
  have b1 : w0.cell? ⟨w.heap.size, 1, none⟩ = some (.int .i64 v.who) := by rw [hw0, World.cell?_alloc_at _ _ _ _ rfl]; rfl
  have b2 : w0.cell? ⟨w.heap.size, 2, none⟩ = some (.int .i64 v.size) := by rw [hw0, World.cell?_alloc_at _ _ _ _ rfl]; rfl
  have b3 : w0.cell? ⟨w.heap.size, 3, none⟩ = some (.int .i64 v.at_) := by rw [hw0, World.cell?_alloc_at _ _ _ _ rfl]; rfl
  have b4 : w0.cell? ⟨w.heap.size, 4, none⟩ = some (.string v.text) := by rw [hw0, World.cell?_alloc_at _ _ _ _ rfl]; rfl
  have HPE := putErr_any h L s key v w0 (by omega) htx (hm.below hb0)
  rw [h0] at HPE
  have HALL : Hid (∀ W, RowKit.Below w0.heap.size w0 W → (W.cell? ⟨h, 0, none⟩ = some (.slice p L.length c) ∧ W.cell? ⟨w.heap.size, 0, none⟩ = some (.int .i64 v.n) ∧ W.cell? ⟨w.heap.size, 1, none⟩ = some (.int .i64 v.who) ∧ W.cell? ⟨w.heap.size, 2, none⟩ = some (.int .i64 v.size) ∧ W.cell? ⟨w.heap.size, 3, none⟩ = some (.int .i64 v.at_) ∧ W.cell? ⟨w.heap.size, 4, none⟩ = some (.string v.text)) ∧ Rec kepE W p L ∧ RowKit.Below w.heap.size w W) := fun W hW => by
    have hx : w.heap.size < w0.heap.size := lt_of_cellH b0
    have hy : h < w0.heap.size := Nat.lt_of_lt_of_le hlt hb0.size
    exact ⟨⟨(hW.cell (p := ⟨h, 0, none⟩) hy).trans ((hb0.cell (p := ⟨h, 0, none⟩) hlt).trans q0), (hW.cell (p := ⟨w.heap.size, 0, none⟩) hx).trans b0, (hW.cell (p := ⟨w.heap.size, 1, none⟩) hx).trans b1, (hW.cell (p := ⟨w.heap.size, 2, none⟩) hx).trans b2, (hW.cell (p := ⟨w.heap.size, 3, none⟩) hx).trans b3, (hW.cell (p := ⟨w.heap.size, 4, none⟩) hx).trans b4⟩, (HREC.out.below hb0).below hW, hb0.trans (hW.mono hb0.size)⟩
  have HW0 : Hid (w0 = w.alloc (.cells #[.int .i64 v.n, .int .i64 v.who, .int .i64 v.size, .int .i64 v.at_, .string v.text] 49)) := hw0
  obtain ⟨K, hK⟩ : ∃ K, K = placeN L key v := ⟨_, rfl⟩
  have HKL : Hid (K ≤ L.length) := by show _ ≤ _; rw [hK]; exact placeN_le L key v
  have HPL : Hid (L.take K ++ [(key, v)] ++ L.drop K = putL L key v) := by show _ = _; rw [hK]; rfl
  have HBEF : Hid (∀ x : Kep, beforeB x key v = (Op.bytesLess x.1.toList key.toList || (decide (x.1 = key) && lessB (x.2.n, x.2.who) (v.n, v.who)))) := fun _ => rfl
  have HLO : Hid (∀ j, j < K → beforeB (kepAt L j) key v = true) := fun j hj => placeN_before (by rw [← hK]; exact hj)
  have HHI : Hid (K < L.length → beforeB (kepAt L K) key v = false) := fun hj => by rw [hK] at hj ⊢; exact placeN_here hj
  generalize putL L key v = PL at *
  clear hrec hm q0 hne hn b0 b1 b2 b3 b4 hw0 hb0 h0 hK
  go_enter Tryz.func26, Tryz.ntmps26
  obtain ⟨⟨k0, k1, k2, k3, k4, k5⟩, _, _⟩ := HALL.out w0 (RowKit.Below.refl _ _)
  go_wp2_with (rw [← HW0.out])
  refine HPE.mono ?_
  rintro e w1 ⟨rfl, hb1⟩
  have HB1 : Hid (RowKit.Below w0.heap.size w0 w1) := hb1
  clear HPE hb1 k0 k1 k2 k3 k4 k5
  go_wp2
  go_loopw [8] (fun x wq => ∃ k : Nat, k ≤ K ∧ x = .int .i64 k ∧ RowKit.Below w0.heap.size w0 wq) (fun x _ => K - (intOf x).toNat)
  case atStart => exact ⟨0, Nat.zero_le _, rfl, HB1.out⟩
  case round =>
    obtain ⟨k, hk, rfl, hb2⟩ := hrel
    obtain ⟨w2, rfl⟩ : ∃ w2, w2 = wr := ⟨_, rfl⟩
    have HB2 : Hid (RowKit.Below w0.heap.size w0 w2) := hb2
    obtain ⟨⟨k0, k1, k2, k3, k4, k5⟩, hrc, hbw⟩ := HALL.out w2 hb2
    have HRC : Hid (Rec kepE w2 p L) := hrc
    have hkL := HKL.out
    clear hb2 hrc hbw
    go_upto_region 7 with fail
    go_cut [63] from 19 to 65 (fun b wc => b = .bool (decide (k < K)) ∧ RowKit.Below w0.heap.size w0 wc)
    case first =>
      by_cases hkl : k < L.length
      · obtain ⟨b, o, hpp, hblt, c0, c1, c2, c3, c4, c5⟩ := kep_cells HRC.out hkl
        have HC : Hid (decide (k < K) = beforeB (kepAt L k) key v) := by
          show _ = _
          by_cases hkK : k < K
          · rw [HLO.out k hkK, decide_eq_true hkK]
          · obtain rfl : k = K := by omega
            rw [HHI.out hkl, decide_eq_false hkK]
        have hbf := HBEF.out (kepAt L k)
        rw [hbf] at HC
        subst hpp
        clear hbf
        generalize kepAt L k = y at *
        obtain ⟨yk, y⟩ := y
        cases hbl : Op.bytesLess yk.toList key.toList with
        | true =>
          have HC' : Hid (decide (k < K) = true) := by show _ = _; rw [HC.out, hbl]; rfl
          clear HC
          go_wp2
          go_quiet (fail)
          go_wp2
          go_meet
          exact ⟨by rw [HC'.out], below_drewN HB2.out _⟩
        | false =>
          by_cases hye : yk = key
          · subst hye
            have HC' : Hid (decide (k < K) = lessB (y.n, y.who) (v.n, v.who)) := by show _ = _; rw [HC.out, hbl]; simp
            have HLS : Hid (∀ W, Calls Tryz.prog 57 #[.agg #[.int .i64 y.n, .int .i64 y.who], .agg #[.int .i64 v.n, .int .i64 v.who]] W fun e w' => e = .returned (.bool (lessB (y.n, y.who) (v.n, v.who))) ∧ ∃ q os, w' = grow (W.drewN q) os) := fun W => rless_grow (y.n, y.who) (v.n, v.who) W
            have mixed : Tryz.prog.follows .mixedOrders = true := by kernel_rfl
            have j0 := cell_grown (lt_of_cellH k0) k0
            have j1 := cell_grown (lt_of_cellH k1) k1
            have j2 := cell_grown (lt_of_cellH k2) k2
            have i0 := cell_grown (lt_of_cellH c0) c0
            have i1 := cell_grown (lt_of_cellH c1) c1
            have i2 := cell_grown (lt_of_cellH c2) c2
            generalize lessB (y.n, y.who) (v.n, v.who) = r at *
            clear HC
            go_wp2
            go_quiet_grown ((go_at_call 57; exact Calls.grown_of (HLS.out _)))
            go_wp2
            go_meet
            exact ⟨by rw [HC'.out], HB2.out.trans ((below_grow w2 _ _).mono HB2.out.size)⟩
          · have HC' : Hid (decide (k < K) = false) := by show _ = _; rw [HC.out, hbl]; simp [hye]
            have d1 := toList_ne hye
            have d2 := toList_beq hye
            have d3 := bytes_beq hye
            clear HC hye
            go_wp2
            go_quiet (fail)
            go_wp2
            go_meet
            exact ⟨by rw [HC'.out], below_drewN HB2.out _⟩
      · have HC' : Hid (decide (k < K) = false) := by show _ = _; exact decide_eq_false (by omega)
        go_wp2
        go_quiet (fail)
        go_wp2
        go_meet
        exact ⟨by rw [HC'.out], below_drewN HB2.out _⟩
    case rest =>
      obtain ⟨rfl, hbc⟩ := hcut
      have HBC : Hid (RowKit.Below w0.heap.size w0 wc) := hbc
      obtain ⟨⟨x0, x1, x2, x3, x4, x5⟩, hrx, hbx⟩ := HALL.out wc hbc
      have HRX : Hid (Rec kepE wc p L) := hrx
      have HBX : Hid (RowKit.Below w.heap.size w wc) := hbx
      clear hbc hrx hbx k0 k1 k2 k3 k4 k5 HRC
      by_cases hkK : k < K
      · rw [decide_eq_true hkK]
        clear x0 x1 x2 x3 x4 x5
        go_wp2
        go_roundw
        case rel => exact ⟨k + 1, by omega, by go_num, HBC.out⟩
        case measure => simp [intOf]; omega
      · rw [decide_eq_false hkK]
        have hke : k = K := by omega
        subst hke
        have HTL : Hid ((L.take k).length = k) := by show _ = _; rw [List.length_take]; omega
        have HDL : Hid ((L.drop k).length = L.length - k) := List.length_drop
        have HTK : Hid (p = none → L.take k = [] ∧ c = 0) := fun e => ⟨by rw [(HN.out e).1, List.take_nil], (HN.out e).2⟩
        have HTR : Hid (Rec kepE wc p (L.take k)) := HRX.out.take k
        have HDR : Hid (Rec kepE wc (if c = k then p else p.map (·.add (k * 6))) (L.drop k) ∧ ((if c = k then p else p.map (·.add (k * 6))) = none → L.drop k = [] ∧ c - k = 0)) := HRX.out.drop (c := c) hkL hc HN.out
        have hlt1 : (L.take k).length ≤ 900000 := by rw [List.length_take]; omega
        have hld1 : (L.drop k).length ≤ 900000 := by rw [List.length_drop]; omega
        clear hkK HRX HLO HHI HBEF
        have HQQ : Hid (∀ W, RowKit.Below wc.heap.size wc W → W.cell? ⟨h, 0, none⟩ = some (.slice p L.length c) ∧ W.cell? ⟨w.heap.size, 0, none⟩ = some (.int .i64 v.n) ∧ W.cell? ⟨w.heap.size, 1, none⟩ = some (.int .i64 v.who) ∧ W.cell? ⟨w.heap.size, 2, none⟩ = some (.int .i64 v.size) ∧ W.cell? ⟨w.heap.size, 3, none⟩ = some (.int .i64 v.at_) ∧ W.cell? ⟨w.heap.size, 4, none⟩ = some (.string v.text)) := fun W hW => (HALL.out W (HBC.out.trans (hW.mono HBC.out.size))).1
        have HDR1 : Hid (∀ W, RowKit.Below wc.heap.size wc W → Rec kepE W (if c = k then p else p.map (·.add (k * 6))) (L.drop k)) := fun W hW => HDR.out.1.below hW
        have HKN : Hid (∀ z1 : World, ∀ j u, (kepE.enc (key, v))[j]? = some u → (z1.alloc (.cells #[.string key, .int .i64 v.n, .int .i64 v.who, .int .i64 v.size, .int .i64 v.at_, .string v.text] 51)).cell? ⟨z1.heap.size, 0 + j, none⟩ = some u) := fun z1 => kep_new key v z1
        go_wp2_with (first | (at_builtin; refine wpList_append_recs (E := kepE) rfl (.tmp 66) (.tmp 72) 41 51 rfl (.agg #[.string ⟨#[]⟩, .int .i64 0, .int .i64 0, .int .i64 0, .int .i64 0, .string ⟨#[]⟩]) 64 Tryz.underlying41 kepinfo rfl wc.heap.size (.slice none 0 0) [] rfl (OwnR.nil _ _ _) p (L.take k) c (by rw [HTL.out]; rfl) HTR.out HTK.out (by show 0 + (L.take k).length ≤ maxLen; unfold maxLen; omega) (by show (0 + (L.take k).length) * 64 ≤ _; omega) (Nat.le_refl _) ?_; intro y1 z1 hy1 hd1; rw [List.nil_append] at hy1; obtain ⟨n0, n1, n2, n3, n4, n5⟩ := HQQ.out z1 hd1; have HZ1 : Hid (RowKit.Below wc.heap.size wc z1) := hd1; have HY1 : Hid (OwnR kepE 51 (z1.alloc (.cells #[.string key, .int .i64 v.n, .int .i64 v.who, .int .i64 v.size, .int .i64 v.at_, .string v.text] 51)) wc.heap.size y1 (L.take k)) := hy1.kept ((RowKit.Below.refl _ _).alloc (Nat.le_refl _) _); have HZA : Hid (RowKit.Below wc.heap.size wc (z1.alloc (.cells #[.string key, .int .i64 v.n, .int .i64 v.who, .int .i64 v.size, .int .i64 v.at_, .string v.text] 51))) := hd1.alloc hd1.size _; clear hy1 hd1 x0 x1 x2 x3 x4 x5) | (at_builtin; refine wpList_append_rec (E := kepE) rfl (.tmp 74) (.tmp 78) 41 51 rfl (.agg #[.string ⟨#[]⟩, .int .i64 0, .int .i64 0, .int .i64 0, .int .i64 0, .string ⟨#[]⟩]) 64 Tryz.underlying41 kepinfo rfl wc.heap.size y1 (L.take k) rfl HY1.out z1.heap.size 0 1 (key, v) rfl (HKN.out z1) (by unfold maxLen; omega) (by omega) HZA.out.size (by simp) ?_; intro y2 z2 hy2 hd2; have HZ2 : Hid (RowKit.Below wc.heap.size wc z2) := HZA.out.trans hd2; obtain ⟨m0, m1, m2, m3, m4, m5⟩ := HQQ.out z2 HZ2.out; have HY2 : Hid (OwnR kepE 51 z2 wc.heap.size y2 (L.take k ++ [(key, v)])) := hy2; clear hy2 hd2 n0 n1 n2 n3 n4 n5) | (at_builtin; refine wpList_append_recs (E := kepE) rfl (.tmp 81) (.tmp 87) 41 51 rfl (.agg #[.string ⟨#[]⟩, .int .i64 0, .int .i64 0, .int .i64 0, .int .i64 0, .string ⟨#[]⟩]) 64 Tryz.underlying41 kepinfo rfl wc.heap.size y2 (L.take k ++ [(key, v)]) rfl HY2.out (if c = k then p else p.map (·.add (k * 6))) (L.drop k) (c - k) (by rw [HDL.out]; rfl) (HDR1.out z2 HZ2.out) HDR.out.2 (by rw [List.length_append]; show (L.take k).length + 1 + (L.drop k).length ≤ maxLen; unfold maxLen; omega) (by rw [List.length_append]; show ((L.take k).length + 1 + (L.drop k).length) * 64 ≤ _; omega) HZ2.out.size ?_; intro y3 z3 hy3 hd3; obtain ⟨l0, l1, l2, l3, l4, l5⟩ := HQQ.out z3 (HZ2.out.trans hd3); have hb3 : RowKit.Below w.heap.size w z3 := HBX.out.trans ((HZ2.out.trans hd3).mono HBX.out.size); have hfr : z3.frozen? ⟨h, 0, none⟩ = false := (HM.out.below hb3).free0; have HST : Hid (MHold (z3.setCell ⟨h, 0, none⟩ y3) h PL s ∧ Turn h w (z3.setCell ⟨h, 0, none⟩ y3)) := HM.out.store hb3 (by have h9 := hy3.base HBX.out.size; rw [HPL.out] at h9; exact h9); obtain ⟨p3, c3, hy3v, _⟩ := hy3.form; obtain ⟨m3, hm3⟩ : ∃ m3, m3 = (L.take k ++ [(key, v)] ++ L.drop k).length := ⟨_, rfl⟩; rw [← hm3] at hy3v; subst hy3v; clear hm3 hy3 hd3 hb3))
        all_goals (go_ret; exact ⟨rfl, HST.out⟩)
set_option maxRecDepth 10000 in
set_option maxHeartbeats 2000000 in
theorem rput_not (h : Nat) (L : List Kep) (s : Bool) (key : ByteArray) (v : Ver) (w : World) (hl : L.length ≤ 900000) (htx : v.text.size ≤ maxLen) (hm : MHold w h L s) (h0 : putErr L s key v ≠ 0) :
    Calls Tryz.prog 26 #[.pointer (some ⟨h, 0, none⟩), .string key, .agg #[.int .i64 v.n, .int .i64 v.who, .int .i64 v.size, .int .i64 v.at_, .string v.text]] w fun e w' => e = .returned (.int .i64 (putR L s key v).1) ∧ RowKit.Below w.heap.size w w' := by
  obtain ⟨w0, hw0⟩ : ∃ w0, w0 = w.alloc (.cells #[.int .i64 v.n, .int .i64 v.who, .int .i64 v.size, .int .i64 v.at_, .string v.text] 49) := ⟨_, rfl⟩
  have hb0 : RowKit.Below w.heap.size w w0 := by rw [hw0]; exact (RowKit.Below.refl _ _).alloc (Nat.le_refl _) _
  have b0 : w0.cell? ⟨w.heap.size, 0, none⟩ = some (.int .i64 v.n) := by rw [hw0, World.cell?_alloc_at _ _ _ _ rfl]; rfl
  have b1 : w0.cell? ⟨w.heap.size, 1, none⟩ = some (.int .i64 v.who) := by rw [hw0, World.cell?_alloc_at _ _ _ _ rfl]; rfl
  have b2 : w0.cell? ⟨w.heap.size, 2, none⟩ = some (.int .i64 v.size) := by rw [hw0, World.cell?_alloc_at _ _ _ _ rfl]; rfl
  have b3 : w0.cell? ⟨w.heap.size, 3, none⟩ = some (.int .i64 v.at_) := by rw [hw0, World.cell?_alloc_at _ _ _ _ rfl]; rfl
  have b4 : w0.cell? ⟨w.heap.size, 4, none⟩ = some (.string v.text) := by rw [hw0, World.cell?_alloc_at _ _ _ _ rfl]; rfl
  have HPE := putErr_any h L s key v w0 (by omega) htx (hm.below hb0)
  have HW0 : Hid (w0 = w.alloc (.cells #[.int .i64 v.n, .int .i64 v.who, .int .i64 v.size, .int .i64 v.at_, .string v.text] 49)) := hw0
  have HB0 : Hid (RowKit.Below w.heap.size w w0) := hb0
  by_cases hneg : putErr L s key v < 0
  · have HR : Hid ((putR L s key v).1 = 0) := by show _ = _; unfold putR; rw [if_neg h0, if_pos hneg]
    rw [HR.out]
    generalize putErr L s key v = e0 at *
    have d1 : decide (e0 < 0) = true := decide_eq_true hneg
    clear hm hw0 hb0
    go_enter Tryz.func26, Tryz.ntmps26
    go_wp2_with (rw [← HW0.out])
    refine HPE.mono ?_
    rintro e w1 ⟨rfl, hb1⟩
    clear HPE
    go_wp2
    go_ret
    exact ⟨rfl, HB0.out.trans (hb1.mono HB0.out.size)⟩
  · have HR : Hid ((putR L s key v).1 = putErr L s key v) := by show _ = _; unfold putR; rw [if_neg h0, if_neg hneg]
    rw [HR.out]
    clear HR
    generalize putErr L s key v = e0 at *
    have d1 : decide (e0 < 0) = false := decide_eq_false hneg
    have d2 : decide (0 < e0) = true := decide_eq_true (by omega)
    clear hm hw0 hb0
    go_enter Tryz.func26, Tryz.ntmps26
    go_wp2_with (rw [← HW0.out])
    refine HPE.mono ?_
    rintro e w1 ⟨rfl, hb1⟩
    clear HPE
    go_wp2
    go_ret
    exact ⟨rfl, HB0.out.trans (hb1.mono HB0.out.size)⟩
theorem rput_any (h : Nat) (L : List Kep) (s : Bool) (key : ByteArray) (v : Ver) (w : World) (hl : L.length ≤ 900000) (htx : v.text.size ≤ maxLen) (hm : MHold w h L s) :
    Calls Tryz.prog 26 #[.pointer (some ⟨h, 0, none⟩), .string key, .agg #[.int .i64 v.n, .int .i64 v.who, .int .i64 v.size, .int .i64 v.at_, .string v.text]] w fun e w' => e = .returned (.int .i64 (putR L s key v).1) ∧ MHold w' h (putR L s key v).2 s ∧ Turn h w w' := by
  by_cases h0 : putErr L s key v = 0
  · have e1 : putR L s key v = (0, putL L key v) := if_pos h0
    rw [e1]
    exact rput_in h L s key v w hl htx hm h0
  · refine (rput_not h L s key v w hl htx hm h0).mono ?_
    rintro e w' ⟨rfl, hb⟩
    have e2 : (putR L s key v).2 = L := by unfold putR; rw [if_neg h0]; split <;> rfl
    rw [e2]
    obtain ⟨p, c, q0, _⟩ := hm.row
    exact ⟨rfl, hm.below hb, Turn.of_below (lt_of_cellH q0) hb⟩
end
set_option maxRecDepth 10000 in
set_option maxHeartbeats 8000000 in
theorem rkeys_any (h : Nat) (L : List Kep) (s : Bool) (w : World) (hl : L.length ≤ 900000) (hm : MHold w h L s) :
    Calls Tryz.prog 35 #[.pointer (some ⟨h, 0, none⟩)] w fun e w' => (∃ v, e = .returned v ∧ OwnT w' w.heap.size v (keysTo L L.length)) ∧ Below w.heap.size w w' := by
  obtain ⟨p, c, q0, hrec, hc, hn, hne⟩ := hm.row
  have HREC : Hid (Rec kepE w p L) := hrec
  have hlt := lt_of_cellH q0
  have HQ0 : Hid (w.cell? ⟨h, 0, none⟩ = some (.slice p L.length c)) := q0
  clear hrec hm q0 hne hn
  go_enter Tryz.func35, Tryz.ntmps35
  go_wp2
  go_loopw [3, 4] (fun v x wq => ∃ i : Nat, i ≤ L.length ∧ x = .int .i64 i ∧ OwnT wq w.heap.size v (keysTo L i) ∧ Below w.heap.size w wq) (fun _ x _ => L.length - (intOf x).toNat)
  case atStart => exact ⟨0, Nat.zero_le _, rfl, OwnT.nil _ _, Below.refl _ _⟩
  case round =>
    obtain ⟨i, hi, rfl, hO, hB⟩ := hrel
    obtain ⟨w1, rfl⟩ : ∃ w1, w1 = wr := ⟨_, rfl⟩
    obtain ⟨po, co, hvf, hSo, _, _, _⟩ := hO.form
    subst hvf
    have HO : Hid (OwnT w1 w.heap.size (.slice po (keysTo L i).length co) (keysTo L i)) := hO
    have HB : Hid (Below w.heap.size w w1) := hB
    have q0 : w1.cell? ⟨h, 0, none⟩ = some (.slice p L.length c) := (hB.cell (p := ⟨h, 0, none⟩) hlt).trans HQ0.out
    have hz1 : w.heap.size ≤ w1.heap.size := hB.size
    have hkl := keysTo_le L i
    clear hO hB
    by_cases hil : i < L.length
    · obtain ⟨b, o, hpp, hblt, c0, c1, c2, c3, c4, c5⟩ := kep_cells (HREC.out.below HB.out) hil
      subst hpp
      clear c1 c2 c3 c4 c5
      have HNEW := @keysTo_new L i
      have HOLD := @keysTo_old L i
      by_cases h0 : (keysTo L i).length = 0
      · have HNX : Hid (keysTo L (i + 1) = keysTo L i ++ [(kepAt L i).1]) := HNEW (Or.inl h0)
        have hks : keysTo L i = [] := List.length_eq_zero_iff.1 h0
        have HKS : Hid (keysTo L i = []) := hks
        rw [h0] at *
        clear HNEW HOLD hks hSo
        generalize (kepAt L i).1 = t at *
        go_wp2
        go_quiet (fail)
        have HB2 : Hid (Below w.heap.size w (w1.drewN nq)) := below_drewN HB.out nq
        have HO2 : Hid (OwnT (w1.drewN nq) w.heap.size (.slice po 0 co) []) := by
          have := HO.out
          rw [HKS.out] at this
          exact this.kept (below_drewN (Below.refl _ _) nq)
        have q0' : (w1.drewN nq).cell? ⟨h, 0, none⟩ = some (.slice (some ⟨b, o, none⟩) L.length c) := q0
        have c0' : (w1.drewN nq).cell? ⟨b, o + i * 6, none⟩ = some (.string t) := c0
        have hz2 : w.heap.size ≤ (w1.drewN nq).heap.size := hz1
        clear q0 c0 HO HB hz1
        generalize w1.drewN nq = w2 at HB2 HO2 q0' c0' hz2 ⊢
        go_wp2_with (first | (at_builtin; refine wpList_append_str rfl (.tmp 34) (.tmp 43) rfl w.heap.size (.slice po 0 co) [] rfl (HO2.out.kept ((Below.refl _ _).alloc (Nat.le_refl _) _)) ⟨w2.heap.size, 0, none⟩ t 1 rfl (by rw [World.cell?_alloc_at _ _ _ _ rfl]; rfl) (by decide) (by simp; omega) ?_; intro v3 w3 hO3 hb3))
        have HO3 : Hid (OwnT w3 w.heap.size v3 ([] ++ [t])) := hO3
        have HB3 : Hid (Below w.heap.size w w3) := (HB2.out.alloc hz2 _).trans hb3
        clear hO3 hb3
        go_wp2
        go_roundw
        case rel => exact ⟨i + 1, by omega, by go_num, by rw [HNX.out, HKS.out]; exact HO3.out, HB3.out⟩
        case measure => simp [intOf]; omega
      · by_cases he : txt (keysTo L i) ((keysTo L i).length - 1) = (kepAt L i).1
        · have HNX : Hid (keysTo L (i + 1) = keysTo L i) := HOLD (by
            rintro (h1 | h1)
            · exact h0 h1
            · exact h1 he)
          rcases hSo with hz | ⟨bo, oo, hpo, holt, hoc⟩
          · rw [hz] at h0; exact absurd rfl h0
          subst hpo
          have q1 := hoc ((keysTo L i).length - 1) (by omega)
          rw [he] at q1
          clear hoc HNEW HOLD he
          generalize (kepAt L i).1 = t at *
          generalize keysTo L i = ks at *
          have f1 : decide (ks.length = 0) = false := decide_eq_false h0
          have f2 : ((ks.length : Int) == 0) = false := by
            rw [beq_eq_false_iff_ne]
            omega
          have l3 : IntKind.i64.wrap ((ks.length : Int) - 1) = ((ks.length - 1 : Nat) : Int) := by rw [IntKind.wrap_i64]; omega
          have l5 : (ks.length : Int) - 1 < (ks.length : Int) := by omega
          have l6 : (0 : Int) ≤ (ks.length : Int) - 1 := by omega
          have l7 : ((ks.length : Int) - 1).toNat = ks.length - 1 := by omega
          go_wp2
          go_quiet (fail)
          go_wp2
          go_roundw
          case rel => exact ⟨i + 1, by omega, by go_num, by rw [HNX.out]; exact HO.out.kept (below_drewN (Below.refl _ _) _), below_drewN HB.out _⟩
          case measure => simp [intOf]; omega
        · have HNX : Hid (keysTo L (i + 1) = keysTo L i ++ [(kepAt L i).1]) := HNEW (Or.inr he)
          rcases hSo with hz | ⟨bo, oo, hpo, holt, hoc⟩
          · rw [hz] at h0; exact absurd rfl h0
          subst hpo
          have q1 := hoc ((keysTo L i).length - 1) (by omega)
          have d1 := toList_ne he
          have d2 := toList_beq he
          have d3 := bytes_beq he
          clear hoc HNEW HOLD he
          generalize txt (keysTo L i) ((keysTo L i).length - 1) = u at *
          generalize (kepAt L i).1 = t at *
          generalize keysTo L i = ks at *
          have f2 : ((ks.length : Int) == 0) = false := by
            rw [beq_eq_false_iff_ne]
            omega
          have l3 : IntKind.i64.wrap ((ks.length : Int) - 1) = ((ks.length - 1 : Nat) : Int) := by rw [IntKind.wrap_i64]; omega
          have l5 : (ks.length : Int) - 1 < (ks.length : Int) := by omega
          have l6 : (0 : Int) ≤ (ks.length : Int) - 1 := by omega
          have l7 : ((ks.length : Int) - 1).toNat = ks.length - 1 := by omega
          go_wp2
          go_quiet (fail)
          have HB2 : Hid (Below w.heap.size w (w1.drewN nq)) := below_drewN HB.out nq
          have HO2 : Hid (OwnT (w1.drewN nq) w.heap.size (.slice (some ⟨bo, oo, none⟩) ks.length co) ks) := HO.out.kept (below_drewN (Below.refl _ _) nq)
          have q0' : (w1.drewN nq).cell? ⟨h, 0, none⟩ = some (.slice (some ⟨b, o, none⟩) L.length c) := q0
          have c0' : (w1.drewN nq).cell? ⟨b, o + i * 6, none⟩ = some (.string t) := c0
          have hz2 : w.heap.size ≤ (w1.drewN nq).heap.size := hz1
          clear q0 c0 HO HB hz1 q1 d1 d2 d3
          generalize w1.drewN nq = w2 at HB2 HO2 q0' c0' hz2 ⊢
          go_wp2_with (first | (at_builtin; refine wpList_append_str rfl (.tmp 34) (.tmp 43) rfl w.heap.size (.slice (some ⟨bo, oo, none⟩) ks.length co) ks rfl (HO2.out.kept ((Below.refl _ _).alloc (Nat.le_refl _) _)) ⟨w2.heap.size, 0, none⟩ t 1 rfl (by rw [World.cell?_alloc_at _ _ _ _ rfl]; rfl) (by omega) (by simp; omega) ?_; intro v3 w3 hO3 hb3))
          have HO3 : Hid (OwnT w3 w.heap.size v3 (ks ++ [t])) := hO3
          have HB3 : Hid (Below w.heap.size w w3) := (HB2.out.alloc hz2 _).trans hb3
          clear hO3 hb3
          go_wp2
          go_roundw
          case rel => exact ⟨i + 1, by omega, by go_num, by rw [HNX.out]; exact HO3.out, HB3.out⟩
          case measure => simp [intOf]; omega
    · have hie : i = L.length := by omega
      subst hie
      go_wp2
      go_ret
      exact ⟨⟨_, rfl, HO.out⟩, HB.out⟩
set_option maxRecDepth 10000 in
set_option maxHeartbeats 2000000 in
theorem sameVers_any (pa pb : Option Addr) (l m : List Ver) (ca cb : Nat) (w : World) (hl : l.length ≤ 1000000) (ha : Rec verE w pa l) (hb : Rec verE w pb m) :
    Calls Tryz.prog 32 #[.slice pa l.length ca, .slice pb m.length cb] w fun e w' => e = .returned (.bool (decide (l = m))) ∧ Below w.heap.size w w' := by
  by_cases hlen : l.length = m.length
  · have HT : Hid ((∀ i, i < l.length → verAt l i = verAt m i) → decide (l = m) = true) := fun h => decide_eq_true (ver_ext hlen h)
    have HF : Hid (∀ i, i < l.length → verAt l i ≠ verAt m i → decide (l = m) = false) := fun i _ h => decide_eq_false (fun e => h (by rw [e]))
    generalize decide (l = m) = r at *
    have HM : Hid (m.length = l.length) := hlen.symm
    rw [← hlen]
    clear hlen
    go_enter Tryz.func32, Tryz.ntmps32
    go_wp2
    go_loopw [5] (fun x wq => ∃ i : Nat, i ≤ l.length ∧ x = .int .i64 i ∧ (∀ j, j < i → verAt l j = verAt m j) ∧ ∃ n, wq = w.drewN n) (fun x _ => l.length - (intOf x).toNat)
    case atStart => exact ⟨0, Nat.zero_le _, rfl, fun j hj => absurd hj (Nat.not_lt_zero _), 0, rfl⟩
    case round =>
      obtain ⟨i, hi, rfl, hall, n, hw⟩ := hrel
      obtain ⟨w1, rfl⟩ : ∃ w1, w1 = wr := ⟨_, rfl⟩
      have HALL : Hid (∀ j, j < i → verAt l j = verAt m j) := hall
      have HW : Hid (∃ n, w1 = w.drewN n) := ⟨n, hw⟩
      have HA : Hid (Rec verE w1 pa l) := by show Rec verE w1 pa l; rw [hw]; exact ha.drewN n
      have HB : Hid (Rec verE w1 pb m) := by show Rec verE w1 pb m; rw [hw]; exact hb.drewN n
      clear hw hall
      by_cases hil : i < l.length
      · obtain ⟨b1, o1, hp1, _, a0, a1, a2, a3, a4⟩ := ver_cells HA.out hil
        obtain ⟨b2, o2, hp2, _, e0, e1, e2, e3, e4⟩ := ver_cells HB.out (show i < m.length by have := HM.out; omega)
        subst hp1 hp2
        by_cases he : verAt l i = verAt m i
        · have HNX : Hid (∀ j, j < i + 1 → verAt l j = verAt m j) := fun j hj => by
            rcases Nat.lt_or_ge j i with h | h
            · exact HALL.out j h
            · obtain rfl : j = i := by omega
              exact he
          rw [← he] at e0 e1 e2 e3 e4
          clear he HALL
          generalize verAt l i = x at *
          obtain ⟨xn, xw, xs, xa, xt⟩ := x
          go_wp2
          go_quiet (fail)
          go_wp2
          go_roundw
          case rel => exact ⟨i + 1, by omega, by go_num, HNX.out, by obtain ⟨n, hn⟩ := HW.out; exact ⟨_, by rw [hn, World.drewN_drewN]⟩⟩
          case measure => simp [intOf]; omega
        · have HR : Hid (r = false) := HF.out i hil he
          have HNE : Hid (verAt l i ≠ verAt m i) := he
          clear he HF HT HALL
          generalize verAt l i = x at *
          generalize verAt m i = y at *
          obtain ⟨xn, xw, xs, xa, xt⟩ := x
          obtain ⟨yn, yw, ys, ya, yt⟩ := y
          have walk : ((xn == yn) = false) ∨ xn = yn ∧ (((xw == yw) = false) ∨ xw = yw ∧ (((xs == ys) = false) ∨ xs = ys ∧ (((xa == ya) = false) ∨ xa = ya ∧ xt ≠ yt))) := by
            by_cases h1 : xn = yn
            · refine Or.inr ⟨h1, ?_⟩
              by_cases h2 : xw = yw
              · refine Or.inr ⟨h2, ?_⟩
                by_cases h3 : xs = ys
                · refine Or.inr ⟨h3, ?_⟩
                  by_cases h4 : xa = ya
                  · refine Or.inr ⟨h4, fun h5 => HNE.out (by rw [h1, h2, h3, h4, h5])⟩
                  · exact Or.inl (beq_eq_false_iff_ne.2 h4)
                · exact Or.inl (beq_eq_false_iff_ne.2 h3)
              · exact Or.inl (beq_eq_false_iff_ne.2 h2)
            · exact Or.inl (beq_eq_false_iff_ne.2 h1)
          clear HNE
          rcases walk with g | ⟨rfl, g | ⟨rfl, g | ⟨rfl, g | ⟨rfl, g⟩⟩⟩⟩
          rotate_right
          · have d1 := toList_ne g
            have d2 := toList_beq g
            have d3 := bytes_beq g
            clear g
            go_wp2
            go_quiet (fail)
            go_wp2
            go_ret
            exact ⟨by rw [HR.out]; rfl, by obtain ⟨n, hn⟩ := HW.out; rw [hn]; exact below_drewN (below_drewN (Below.refl _ _) n) _⟩
          all_goals
            go_wp2
            go_quiet (fail)
            go_wp2
            go_ret
            exact ⟨by rw [HR.out]; rfl, by obtain ⟨n, hn⟩ := HW.out; rw [hn]; exact below_drewN (below_drewN (Below.refl _ _) n) _⟩
      · have HR : Hid (r = true) := HT.out (fun j hj => HALL.out j (by omega))
        go_wp2
        go_ret
        exact ⟨by rw [HR.out]; rfl, by obtain ⟨n, hn⟩ := HW.out; rw [hn]; exact below_drewN (Below.refl _ _) n⟩
  · have HR : Hid (decide (l = m) = false) := decide_eq_false (fun e => hlen (by rw [e]))
    rw [HR.out]
    have h6 : ((l.length : Int) != (m.length : Int)) = true := by rw [bne_iff_ne]; omega
    clear hlen
    go_enter Tryz.func32, Tryz.ntmps32
    go_wp2
    go_ret
    exact ⟨rfl, Below.refl _ _⟩
section
open Go.Extern.Stop Go.Stop Go.Extern
theorem coded2_nil (w : World) : Calls Tryz.prog 9 #[.nilIface, .int .i64 0] w fun e w' => e = .returned (.bool true) ∧ w' = w := by
  go_enter Tryz.func9, Tryz.ntmps9
  go_wp2_with (go_at_call 24; refine (code_nil _).mono ?_; rintro e w' ⟨rfl, rfl⟩)
  go_ret
  exact ⟨rfl, rfl⟩
/-- 'coded' of a sentinel and its own number. -/
theorem coded2_sent (ad : Nat → Addr) (i : Nat) (hi : i < 12) (w : World) (hS : Sent w ad) :
    Calls Tryz.prog 9 #[.iface 206 (.pointer (some (ad i))), .int .i64 ((i + 1 : Nat) : Int)] w fun e w' => e = .returned (.bool true) ∧ Below w.heap.size w w' := by
  go_enter Tryz.func9, Tryz.ntmps9
  go_wp2_with fail
  refine (code_sent ad i hi _ hS).mono ?_
  rintro e w2 ⟨rfl, hb2⟩
  go_wp2
  go_ret
  exact ⟨rfl, hb2⟩
theorem coded2_any {ad : Nat → Addr} {ev : Value} {c : Int} (h : BareIs ad ev c) (w : World) (hS : Sent w ad) :
    Calls Tryz.prog 9 #[ev, .int .i64 c] w fun e w' => e = .returned (.bool true) ∧ Below w.heap.size w w' := by
  rcases h with ⟨rfl, rfl⟩ | ⟨i, hi, rfl, rfl⟩
  · exact (coded2_nil w).mono fun e w' ⟨h1, h2⟩ => ⟨h1, by rw [h2]; exact Below.refl _ _⟩
  · exact coded2_sent ad i hi w hS
end
end Go.Proofs.YtmbpfbhpmafheaaGreatDoor
