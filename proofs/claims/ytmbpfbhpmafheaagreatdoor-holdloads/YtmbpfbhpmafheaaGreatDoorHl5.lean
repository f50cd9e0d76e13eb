/- Texts laid together. -/
import Derived.Test.YtmbpfbhpmafheaaGreatDoorHl4
import Derived.Lib.SmallJoins
import Derived.Handed
import Derived.Lib.LaidTab
import Derived.Shelf.Vars
namespace Go.Proofs.YtmbpfbhpmafheaaGreatDoor
open Go.RowKit
/-- What the library's own variables hold. -/
structure LibX (w : World) : Prop where
  tab : Lib.TabIs Tryz.prog w "internal/strconv.uint64pow10" .u64 Lib.pow10Tab
  syn : ∃ tp p, w.var? Tryz.prog "strconv.ErrSyntax" = some #[.iface tp p]
  rng : ∃ tp p, w.var? Tryz.prog "strconv.ErrRange" = some #[.iface tp p]
  max : ∃ m : Int, w.cell? ⟨13, 0, none⟩ = some (.int .i64 m)
theorem LibX.below {w w' : World} (h : LibX w) (hb : Below w.heap.size w w') : LibX w' := by
  obtain ⟨t1, p1, h1⟩ := h.syn
  obtain ⟨t2, p2, h2⟩ := h.rng
  obtain ⟨m, h3⟩ := h.max
  exact ⟨Joins.tab_stays (by kernel_rfl : Tryz.prog.globalNamed "internal/strconv.uint64pow10" = some 16) h.tab hb (Nat.le_refl _), ⟨t1, p1, Joins.var_stays (by kernel_rfl : Tryz.prog.globalNamed "strconv.ErrSyntax" = some 14) h1 hb (Nat.le_refl _)⟩, ⟨t2, p2, Joins.var_stays (by kernel_rfl : Tryz.prog.globalNamed "strconv.ErrRange" = some 15) h2 hb (Nat.le_refl _)⟩, ⟨m, (hb.cell (p := ⟨13, 0, none⟩) (lt_of_cellH h3)).trans h3⟩⟩
theorem Bld.below {w w' : World} {B b : Nat} {l : List UInt8} (h : Bld w B b l) (hb : Below w.heap.size w w') : Bld w' B b l := by
  have one : ∀ {p}, Lib.BuilderAtF 92 5 B b p (Lib.byteCells l) w → Lib.BuilderAtF 92 5 B b p (Lib.byteCells l) w' := fun {p} hp => by
    obtain ⟨hB, v, hbk, hown, hne⟩ := hp
    refine ⟨hB, v, (hb.block b (Array.getElem?_eq_some_iff.1 hbk).1).trans hbk, hown.kept (row := none) ⟨hb.os, hb.tape, hb.output, hb.size, fun k hk _ => hb.block k hk⟩ (by cases v.ownBlock <;> simp), hne⟩
  rcases h with h | h
  · exact Or.inl (one h)
  · exact Or.inr (one h)
theorem wrote_below {w w' : World} {B b : Nat} {l : List UInt8} (h : Bld w B b l) (hB : B ≤ w.heap.size) (hb : Below w.heap.size w w') : Wrote w w' B b l := ⟨h.below hb, hb.mono hB, fun k _ hk _ _ => (hb.block k (Array.getElem?_eq_some_iff.1 hk).1).trans hk⟩
theorem below_of_grow {w w' : World} (h : ∃ k os, w' = Sort.grow (w.drewN k) os) : Below w.heap.size w w' := by
  obtain ⟨k, os, rfl⟩ := h
  exact below_grow w k os
set_option maxRecDepth 10000 in
set_option maxHeartbeats 1600000 in
/-- The closure that writes a number. -/
theorem num_any (B b : Nat) (l : List UInt8) (n : Int) (w : World) (hX : LibX w) (h : Bld w B b l) (h0 : 0 ≤ n) (h1 : n ≤ 1099511627776) (hl : l.length ≤ 900000) (hB0 : B ≤ w.heap.size) :
    Calls Tryz.prog 47 #[.int .i64 n, .pointer (some ⟨b, 0, none⟩)] w fun e w' => e = .returned (.tuple #[]) ∧ Wrote w w' B b (l ++ wrN n) := by
  have HIT : Hid (Calls Tryz.prog 49 #[.int .i64 n] w fun e w' => e = .returned (.string (ofL (Lib.itoa n))) ∧ ∃ k os, w' = Sort.grow (w.drewN k) os) := Tryz.strconv_Itoa n (by omega) (by omega) w hX.tab
  have hlen := wrN_len h0 h1
  have hle : (Lib.itoa n).length ≤ 15 := by unfold wrN at hlen; rw [List.length_append] at hlen; omega
  have HWS : Hid (∀ W, Bld W B b l → B ≤ W.heap.size → Calls Tryz.prog 48 #[.pointer (some ⟨b, 0, none⟩), .string (ofL (Lib.itoa n))] W fun e w' => e = .returned (.tuple #[.int .i64 ((ofL (Lib.itoa n)).size : Int), .nilIface]) ∧ Wrote W w' B b (l ++ Lib.itoa n)) := fun W hW hBW => by
    have := wstr_any B b l (ofL (Lib.itoa n)) W hW (by rw [ofL_size]; omega) hBW
    rw [ofL_data] at this
    exact this
  have HWB : Hid (∀ W, Bld W B b (l ++ Lib.itoa n) → B ≤ W.heap.size → Calls Tryz.prog 50 #[.pointer (some ⟨b, 0, none⟩), .int .u8 58] W fun e w' => e = .returned .nilIface ∧ Wrote W w' B b (l ++ wrN n)) := fun W hW hBW => by
    have := wbyte_any B b (l ++ Lib.itoa n) 58 W hW (by rw [List.length_append]; omega) hBW
    rw [List.append_assoc] at this
    exact this
  have HB : Hid (Bld w B b l) := h
  clear h hX hlen hle
  generalize ofL (Lib.itoa n) = t at *
  go_enter Tryz.func47, Tryz.ntmps47
  go_wp2_with fail
  refine HIT.out.mono ?_
  rintro e w1 ⟨rfl, hw1⟩
  have hb1 := below_of_grow hw1
  have HW1 : Hid (Wrote w w1 B b l) := wrote_below HB.out hB0 hb1
  have hB1 : B ≤ w1.heap.size := Nat.le_trans hB0 hb1.size
  clear hw1 hb1 HIT
  go_wp2_with fail
  refine (HWS.out w1 HW1.out.bld hB1).mono ?_
  rintro e w2 ⟨rfl, hW2⟩
  have HW2 : Hid (Wrote w w2 B b (l ++ Lib.itoa n)) := HW1.out.trans hW2
  have hB2 : B ≤ w2.heap.size := Nat.le_trans hB1 hW2.low.size
  clear hW2 HW1 HWS
  go_wp2_with fail
  refine (HWB.out w2 HW2.out.bld hB2).mono ?_
  rintro e w3 ⟨rfl, hW3⟩
  have HW3 : Hid (Wrote w w3 B b (l ++ wrN n)) := HW2.out.trans hW3
  clear hW3 HW2 HWB
  go_wp2
  go_end0
  exact ⟨rfl, HW3.out⟩
/-- The closure's own value. -/
def numV (b : Nat) : Value := .func (.func 47) #[] #[.pointer (some ⟨b, 0, none⟩)]
set_option maxRecDepth 10000 in
set_option maxHeartbeats 1600000 in
/-- The closure that writes a text. -/
theorem text_any (B b nb : Nat) (l : List UInt8) (s : ByteArray) (w : World) (hX : LibX w) (h : Bld w B b l) (q : w.cell? ⟨nb, 0, none⟩ = some (numV b)) (hs : s.size ≤ 1000) (hl : l.length ≤ 800000) (hB0 : B ≤ w.heap.size) :
    Calls Tryz.prog 51 #[.string s, .pointer (some ⟨nb, 0, none⟩), .pointer (some ⟨b, 0, none⟩)] w fun e w' => e = .returned (.tuple #[]) ∧ Wrote w w' B b (l ++ wrT s) := by
  have HN : Hid (Calls Tryz.prog 47 #[.int .i64 (s.size : Int), .pointer (some ⟨b, 0, none⟩)] w fun e w' => e = .returned (.tuple #[]) ∧ Wrote w w' B b (l ++ wrN (s.size : Int))) := num_any B b l (s.size : Int) w hX h (by omega) (by omega) (by omega) hB0
  have hlen := wrN_len (n := (s.size : Int)) (by omega) (by omega)
  have HWS : Hid (∀ W, Bld W B b (l ++ wrN (s.size : Int)) → B ≤ W.heap.size → Calls Tryz.prog 48 #[.pointer (some ⟨b, 0, none⟩), .string s] W fun e w' => e = .returned (.tuple #[.int .i64 (s.size : Int), .nilIface]) ∧ Wrote W w' B b (l ++ wrT s)) := fun W hW hBW => by
    have := wstr_any B b (l ++ wrN (s.size : Int)) s W hW (by rw [List.length_append]; omega) hBW
    rw [List.append_assoc] at this
    exact this
  unfold numV at q
  clear h hX hlen
  go_enter Tryz.func51, Tryz.ntmps51
  go_wp2_with fail
  refine HN.out.mono ?_
  rintro e w1 ⟨rfl, hW1⟩
  have HW1 : Hid (Wrote w w1 B b (l ++ wrN (s.size : Int))) := hW1
  have hB1 : B ≤ w1.heap.size := Nat.le_trans hB0 hW1.low.size
  clear hW1 HN
  go_wp2_with fail
  refine (HWS.out w1 HW1.out.bld hB1).mono ?_
  rintro e w2 ⟨rfl, hW2⟩
  have HW2 : Hid (Wrote w w2 B b (l ++ wrT s)) := HW1.out.trans hW2
  clear hW2 HW1 HWS
  go_wp2
  go_end0
  exact ⟨rfl, HW2.out⟩
section
open Go.ChangeShapes Go.WideShapes Go.RowKit

/-- The twelve and the library's two, by name and text. -/
def L14 : List (String × List UInt8) := (Rows.holdLoadsRow.laid.drop (3 + 1)).map fun x => (x.1, match x.2 with | .iface _ (.ptr (.agg [.lit (.string t)])) => t | _ => [])
theorem L14_laid : (L14.map fun x => (x.1, errD x.2)) = Rows.holdLoadsRow.laid.drop (3 + 1) := rfl
theorem laid_split (W : World) : laidMetH Tryz.prog Rows.holdLoadsRow.laid W = (laidMet Tryz.prog (Rows.holdLoadsRow.laid.take 3 ++ L14.map fun x => (x.1, errD x.2)) W ∧ handlesMet Tryz.prog ((Rows.holdLoadsRow.laid.drop 3).take 1) W) := by kernel_rfl
theorem L14_named : (L14.all fun x => match Tryz.prog.globalNamed x.1 with | some g => (Tryz.prog.globals[g]?).map (·.type) == some 25 | none => false) = true := by kernel_rfl
theorem g14 : L14.map (fun x => Tryz.prog.globalNamed x.1) = [some 0, some 3, some 7, some 2, some 8, some 4, some 5, some 9, some 6, some 1, some 10, some 11, some 15, some 14] := by kernel_rfl
theorem etNamed : Tryz.prog.globalNamed "errors.errorType" = some 12 := by kernel_rfl
theorem errOneRow : ((List.range 237).filter fun t => Tryz.prog.rowNamed t [101, 114, 114, 111, 114]) = [25] := by kernel_rfl
theorem typesSize : Tryz.prog.types.size = 237 := by kernel_rfl
/-- The three tables stand ahead: the third is of the powers of ten. -/
theorem tab_of_laid {W : World} {ps : List MemPlace} (h : DataW.LaidVars Tryz.prog W (Rows.holdLoadsRow.laid.take 3 ++ L14.map fun x => (x.1, errD x.2)) ps) : Lib.TabIs Tryz.prog W "internal/strconv.uint64pow10" .u64 Lib.pow10Tab := by
  obtain ⟨pp, qq, _, h2⟩ := laid_peel (Rows.holdLoadsRow.laid.take 2) (("internal/strconv.uint64pow10", Lib.tabData .u64 Lib.pow10Tab) :: L14.map fun x => (x.1, errD x.2)) ps h
  obtain ⟨g', t', cs, fuel, p, q, hg', ht', hvar, hd, _, _⟩ := h2
  obtain rfl := Option.some.inj ((show Tryz.prog.globalNamed "internal/strconv.uint64pow10" = some 16 by kernel_rfl).symm.trans hg')
  obtain rfl := Option.some.inj ((show (Tryz.prog.globals[16]?).map (·.type) = some 199 by kernel_rfl).symm.trans ht')
  unfold Lib.TabIs
  have hc := Lib.cells_of_tab Tryz.underlying199 Tryz.underlying171 (by kernel_rfl) (by kernel_rfl) hd
  rw [hvar]
  congr 1
  exact Array.toList_inj.1 (by simpa using hc)
/-- As the wrap for a change under a condition, the world's shape at hand. -/
theorem change_and_shaped {H : Type} {enc : TypeId × Value → H} {a : Assume} {C : Checked} {os : Os} {f : FuncId} {fn : Func} {s : ChangeSpec} {conds : List PathCond} {apart fresh handsOn again : Bool} {X : World → Array Value → Prop}
    (hX : ∀ (w w' : World) (args : Array Value), w.heap = w'.heap → X w args → X w' args)
    (own : ownKnob C.prog.godebug = none) (started : os.Started) (noInit : C.prog.inits.idxOf? f = none) (hfn : C.prog.funcs[f]? = some fn)
    (witness : ∃ (w : World) (tape : Tape) (i : Input), w.os = os ∧ (w.forCall tape i).Shaped C.prog ∧ i.vars = [] ∧ Input.okWide C.prog (w.forCall tape i) .any w.heap.size f i ∧
      ((s.pre enc C.prog fn conds apart (w.forCall tape i).memory i.args ∧ X (w.forCall tape i).memory i.args) ∧ sizedMet enc C.prog fn (OpenSpec.ofChange s) apart (w.forCall tape i).memory i.args) ∧ a.holds C.prog (lone (Frame.enter C.prog f i.args .normal) [] (w.forCall tape i)))
    (contract : ∀ (W : World) (base : Nat) (args : Array Value) (ds gs : List (DataW H)) (before : List MemPlace),
      (∀ (j : Nat) t v, fn.params[j]? = some t → args[j]? = some v → Value.okWide C.prog W .any base t v) →
      DataW.Whole enc C.prog fn.params.toList s.vars apart W args.toList ds gs before → X W args → W.ShapedOpen C.prog →
      Calls C.prog f args W fun e W' => ∃ v, e = .returned v ∧ s.post enc C.prog fn apart fresh handsOn again W args v W') :
    ReturnsInHanded a C os f .any (fun w args => (s.pre enc C.prog fn conds apart w args ∧ X w args) ∧ sizedMet enc C.prog fn (OpenSpec.ofChange s) apart w args) (s.post enc C.prog fn apart fresh handsOn again) := by
  refine returnsInHanded_of_calls own started noInit witness ?_
  intro w tape i _ hsh _ hok hpre _
  obtain ⟨_, _, _, fn', hfn', _, _, _, _, hval⟩ := hok
  obtain rfl : fn' = fn := Option.some.inj (hfn'.symm.trans hfn)
  obtain ⟨⟨⟨ds, gs, before, hw, _⟩, hx⟩, _⟩ := hpre
  refine (contract (w.forCall tape i) w.heap.size i.args ds gs before hval (DataW.Whole.of_heap (w' := w.forCall tape i) (by rfl) hw) (hX _ _ _ (by rfl) hx) hsh).mono fun e W' ⟨v, he, hp⟩ => ?_
  subst he
  exact ChangeSpec.post_blind hp
theorem max_of_shape {W : World} (h : W.ShapedOpen Tryz.prog) : ∃ m, W.cell? ⟨13, 0, none⟩ = some (.int .i64 m) :=
  Go.Proofs.cell_of_shapedOpen_int (t := 3) (zero := #[.int .i64 0]) h (of_decide_eq_true (by kernel_rfl)) (by kernel_rfl) rfl (by kernel_rfl) (by kernel_rfl) Tryz.underlying3
theorem sent_of_laid {W : World} (h : laidMetH Tryz.prog Rows.holdLoadsRow.laid W) : ∃ ad, Sent W ad ∧ Lib.TabIs Tryz.prog W "internal/strconv.uint64pow10" .u64 Lib.pow10Tab ∧ (∃ tp p, W.var? Tryz.prog "strconv.ErrSyntax" = some #[.iface tp p]) ∧ ∃ tp p, W.var? Tryz.prog "strconv.ErrRange" = some #[.iface tp p] := by
  rw [laid_split] at h
  obtain ⟨⟨ps0, hl0, hnd0, hr0⟩, hH⟩ := h
  have htab : Lib.TabIs Tryz.prog W "internal/strconv.uint64pow10" .u64 Lib.pow10Tab := tab_of_laid hl0
  obtain ⟨pp, ps, rfl, hl⟩ := laid_peel _ _ _ hl0
  have hnd : ps.Nodup := List.Nodup.sublist (List.sublist_append_right _ _) hnd0
  have hr := fun b off (hm : MemPlace.cell b off ∈ ps) => hr0 b off (List.mem_append_right _ hm)
  clear hl0 hnd0 hr0
  have hn : ∀ x ∈ L14, ∃ g, Tryz.prog.globalNamed x.1 = some g ∧ (Tryz.prog.globals[g]?).map (·.type) = some 25 := by
    intro x hx
    have := List.all_eq_true.1 L14_named x hx
    split at this
    · rename_i g hg
      exact ⟨g, hg, by simpa using this⟩
    · cases this
  have c57 : Tryz.prog.cellsOf 208 = 1 := by kernel_rfl
  have c9 : Tryz.prog.cellsOf 9 = 1 := by kernel_rfl
  obtain ⟨ad, h1, h2⟩ := sents Tryz.underlying25 row_es Tryz.underlying206 Tryz.underlying208 rfl rfl Tryz.underlying9 c57 c9 L14 ps hl hn hr
  have cell : ∀ i g x, L14[i]? = some x → Tryz.prog.globalNamed x.1 = some g → W.cell? ⟨g, 0, none⟩ = some (.iface 206 (.pointer (some (ad i)))) := by
    intro i g x hx hg
    simpa using World.var?_cell hg (h1 i x hx).2 0
  have cellg : ∀ i g, (L14.map (fun x => Tryz.prog.globalNamed x.1))[i]? = some (some g) → W.cell? ⟨g, 0, none⟩ = some (.iface 206 (.pointer (some (ad i)))) := by
    intro i g hx
    rw [List.getElem?_map] at hx
    obtain ⟨x, hx1, hx2⟩ := Option.map_eq_some_iff.1 hx
    exact cell i g x hx1 hx2
  rw [g14] at cellg
  have len : L14.length = 14 := rfl
  have v12 := (h1 12 _ rfl).2
  have v13 := (h1 13 _ rfl).2
  refine ⟨ad, ⟨cellg 0 _ rfl, cellg 1 _ rfl, cellg 2 _ rfl, cellg 3 _ rfl, cellg 4 _ rfl, cellg 5 _ rfl, cellg 6 _ rfl, cellg 7 _ rfl, cellg 8 _ rfl, cellg 9 _ rfl, cellg 10 _ rfl, cellg 11 _ rfl, ?_, ?_, fun i j hi hj => h2 hnd i j (by rw [len]; omega) (by rw [len]; omega)⟩, htab, ⟨_, _, v13⟩, _, _, v12⟩
  · obtain ⟨name, u, ty, e1, e2, e3, e4, e5⟩ := hH _ (List.mem_singleton.2 rfl)
    have en : name = [101, 114, 114, 111, 114] := (Option.some.inj e1).symm
    subst en
    obtain rfl : 147 = u := Option.some.inj ((show _ = some 147 by kernel_rfl).symm.trans e2)
    have hm : ty ∈ (List.range 237).filter fun t => Tryz.prog.rowNamed t [101, 114, 114, 111, 114] := List.mem_filter.2 ⟨List.mem_range.2 (by rw [← typesSize]; exact e3), e4⟩
    rw [errOneRow] at hm
    obtain rfl := List.mem_singleton.1 hm
    have hh : typeHandle Tryz.prog 25 = .pointer (some ⟨19, 25, none⟩) := by kernel_rfl
    rw [hh] at e5
    simpa using World.var?_cell etNamed e5 0
  · intro i hi
    obtain ⟨x, hx⟩ : ∃ x, L14[i]? = some x := ⟨L14[i]'(by rw [len]; omega), List.getElem?_eq_getElem (by rw [len]; omega)⟩
    exact (hr _ _ (h1 i x hx).1).1
theorem own : ownKnob Tryz.prog.godebug = none := by kernel_rfl
theorem doorAll_met (os : Os) (args : Array Value) : laidMetH Tryz.prog Rows.holdLoadsRow.laid ((World.doorLaid Tryz.prog 297 os).forCall (fun _ _ => 0) ⟨#[], args, []⟩).memory :=
  laidMetH_of_parts3 (fuel := 8) (laidMet_of_run' 8 (by kernel_rfl) (by kernel_rfl)) (by kernel_rfl) (by kernel_rfl)
end
/-- The reader at block rb has r left to read, and has failed or not. -/
def RdAt (w : World) (rb : Nat) (r : ByteArray) (f : Bool) : Prop := w.heap[rb]? = some (.cells #[.string r, .bool f] 87 (0, 0))
theorem RdAt.cells {w : World} {rb : Nat} {r : ByteArray} {f : Bool} (h : RdAt w rb r f) : w.cell? ⟨rb, 0, none⟩ = some (.string r) ∧ w.cell? ⟨rb, 1, none⟩ = some (.bool f) ∧ w.frozen? ⟨rb, 0, none⟩ = false ∧ w.frozen? ⟨rb, 1, none⟩ = false := by
  unfold RdAt at h
  exact ⟨by simp [World.cell?, h], by simp [World.cell?, h], by simp [World.frozen?, h], by simp [World.frozen?, h]⟩
/-- From w to w' nothing that was there has turned but the reader. -/
structure RdSt (w w' : World) (rb : Nat) (r : ByteArray) (f : Bool) : Prop where
  at_ : RdAt w' rb r f
  grown : w.grownBy w' (some rb)
theorem RdSt.trans {w w' w'' : World} {rb : Nat} {r r' : ByteArray} {f f' : Bool} (h1 : RdSt w w' rb r f) (h2 : RdSt w' w'' rb r' f') : RdSt w w'' rb r' f' := ⟨h2.at_, h2.grown.os.trans h1.grown.os, h2.grown.tape.trans h1.grown.tape, h2.grown.output.trans h1.grown.output, Nat.le_trans h1.grown.size h2.grown.size, fun k hk hne => (h2.grown.block k (Nat.lt_of_lt_of_le hk h1.grown.size) hne).trans (h1.grown.block k hk hne)⟩
theorem RdSt.low {w0 w w' : World} {B rb : Nat} {r : ByteArray} {f : Bool} (h : RdSt w w' rb r f) (hw0 : Below B w0 w) (hB : B ≤ w.heap.size) (hrb : B ≤ rb) : Below B w0 w' := hw0.trans ⟨h.grown.os, h.grown.tape, h.grown.output, h.grown.size, fun k hk => h.grown.block k (by omega) (fun e => by injection e with e; omega)⟩
theorem RdSt.below {w w' : World} {rb : Nat} {r : ByteArray} {f : Bool} (h : RdAt w rb r f) (hb : Below w.heap.size w w') : RdSt w w' rb r f := ⟨(hb.block rb (Array.getElem?_eq_some_iff.1 h).1).trans h, hb.os, hb.tape, hb.output, hb.size, fun k hk _ => hb.block k hk⟩
theorem rd_set0 {w : World} {rb : Nat} {r r' : ByteArray} {f : Bool} (h : RdAt w rb r f) : RdSt w (w.setCell ⟨rb, 0, none⟩ (.string r')) rb r' f := ⟨by unfold RdAt; rw [Joins.block_setCell h]; rfl, rfl, rfl, rfl, by simp, fun k _ hne => Deep.blk_setCell_other _ _ _ _ (fun e => hne (by rw [e]))⟩
theorem rd_set1 {w : World} {rb : Nat} {r : ByteArray} {f f' : Bool} (h : RdAt w rb r f) : RdSt w (w.setCell ⟨rb, 1, none⟩ (.bool f')) rb r f' := ⟨by unfold RdAt; rw [Joins.block_setCell h]; rfl, rfl, rfl, rfl, by simp, fun k _ hne => Deep.blk_setCell_other _ _ _ _ (fun e => hne (by rw [e]))⟩
set_option maxRecDepth 10000 in
theorem rfail_any (rb : Nat) (r : ByteArray) (f : Bool) (w : World) (h : RdAt w rb r f) : Calls Tryz.prog 73 #[.pointer (some ⟨rb, 0, none⟩)] w fun e w' => e = .returned (.tuple #[]) ∧ RdSt w w' rb (ofL []) true := by
  obtain ⟨c0, c1, f0, f1⟩ := h.cells
  have HE : Hid (RdSt w ((w.setCell ⟨rb, 0, none⟩ (.string ⟨#[]⟩)).setCell ⟨rb, 1, none⟩ (.bool true)) rb (ofL []) true) := (rd_set0 (r' := ofL []) h).trans (rd_set1 (f' := true) (rd_set0 (r' := ofL []) h).at_)
  clear h
  go_enter Tryz.func73, Tryz.ntmps73
  go_wp2
  go_end0
  exact ⟨rfl, HE.out⟩
theorem numF_ok {r : ByteArray} {f : Bool} {n : Int} (hA : Lib.atoiAll (Lib.cut r.data.toList [58]).1 = .ok n) (hF : (Lib.cut r.data.toList [58]).2.2 = true) : numF r f = (n, ofL (Lib.cut r.data.toList [58]).2.1, f) := by
  unfold numF
  rw [hA]
  simp [hF]
theorem numF_not {r : ByteArray} {f : Bool} {n : Int} (hA : Lib.atoiAll (Lib.cut r.data.toList [58]).1 = .ok n) (hF : (Lib.cut r.data.toList [58]).2.2 = false) : numF r f = (0, ofL [], true) := by
  unfold numF
  rw [hA]
  simp [hF]
theorem numF_bad {r : ByteArray} {f : Bool} (hA : ∀ n, Lib.atoiAll (Lib.cut r.data.toList [58]).1 ≠ .ok n) : numF r f = (0, ofL [], true) := by
  unfold numF
  split
  · rename_i n hn
    exact absurd hn (hA n)
  · rfl
theorem cut_size (l : List UInt8) : (Lib.cut l [58]).1.length ≤ l.length ∧ (Lib.cut l [58]).2.1.length ≤ l.length := by
  unfold Lib.cut
  split
  · simp
    omega
  · simp
theorem atoi_bounds {l : List UInt8} {n : Int} (h : Lib.atoiAll l = .ok n) : -9223372036854775808 ≤ n ∧ n ≤ 9223372036854775807 := Lib.atoiAll_bounds h
set_option maxRecDepth 10000 in
set_option maxHeartbeats 2000000 in
theorem rnum_any (rb : Nat) (r : ByteArray) (f : Bool) (w : World) (hX : LibX w) (h : RdAt w rb r f) (hr : r.size ≤ 1000000) :
    Calls Tryz.prog 45 #[.pointer (some ⟨rb, 0, none⟩)] w fun e w' => e = .returned (.int .i64 (numF r f).1) ∧ RdSt w w' rb (numF r f).2.1 (numF r f).2.2 := by
  obtain ⟨c0, c1, f0, f1⟩ := h.cells
  obtain ⟨mx, hmx⟩ := hX.max
  obtain ⟨t1, p1, hv1⟩ := hX.syn
  obtain ⟨t2, p2, hv2⟩ := hX.rng
  have HCUT : Hid (Calls Tryz.prog 71 #[.string r, .string ⟨#[58]⟩] w fun e w' => e = .returned (.tuple #[.string (ofL (Lib.cut r.data.toList [58]).1), .string (ofL (Lib.cut r.data.toList [58]).2.1), .bool (Lib.cut r.data.toList [58]).2.2]) ∧ ∃ n, w' = w.drewN n) := Tryz.strings_Cut r ⟨#[58]⟩ mx w (by omega) hmx
  have hcs : (ofL (Lib.cut r.data.toList [58]).1).size ≤ 1000000 := by
    rw [ofL_size]
    have := (cut_size r.data.toList).1
    have e : r.data.toList.length = r.size := by simp
    omega
  have hcd : (ofL (Lib.cut r.data.toList [58]).1).data.toList = (Lib.cut r.data.toList [58]).1 := ofL_data _
  have HFL : Hid (∀ W, RdAt W rb r f → Calls Tryz.prog 73 #[.pointer (some ⟨rb, 0, none⟩)] W fun e w' => e = .returned (.tuple #[]) ∧ RdSt W w' rb (ofL []) true) := fun W hW => rfail_any rb r f W hW
  have HAT : Hid (RdAt w rb r f) := h
  cases hA : Lib.atoiAll (Lib.cut r.data.toList [58]).1 with
  | ok n =>
    have hb := atoi_bounds hA
    have HAO : Hid (∀ W, Calls Tryz.prog 72 #[.string (ofL (Lib.cut r.data.toList [58]).1)] W fun e w' => e = .returned (.tuple #[.int .i64 n, .nilIface]) ∧ (w' = W ∨ ∃ t, w' = Lib.bytesWorld W 5 t)) := fun W => Tryz.strconv_Atoi_ok _ (by omega) n (by rw [hcd]; exact hA) W
    cases hF : (Lib.cut r.data.toList [58]).2.2 with
    | true =>
      rw [numF_ok hA hF]
      rw [hF] at HCUT
      generalize ofL (Lib.cut r.data.toList [58]).1 = dg at *
      generalize ofL (Lib.cut r.data.toList [58]).2.1 = rs at *
      clear hX h hA hF hmx hv1 hv2 hcs hcd HFL
      go_enter Tryz.func45, Tryz.ntmps45
      go_wp2_with fail
      refine HCUT.out.mono ?_
      rintro e w1 ⟨rfl, q, hw1⟩
      have hb1 : Below w.heap.size w w1 := by rw [hw1]; exact ⟨rfl, rfl, rfl, Nat.le_refl _, fun _ _ => rfl⟩
      have HS1 : Hid (RdSt w w1 rb r f) := RdSt.below HAT.out hb1
      clear hw1 hb1 HCUT
      go_wp2_with fail
      refine (HAO.out w1).mono ?_
      rintro e w2 ⟨rfl, hw2⟩
      have hb2 : Below w1.heap.size w1 w2 := by
        rcases hw2 with rfl | ⟨t, rfl⟩
        · exact Below.refl _ _
        · exact Joins.below_bytesWorld _ _ _ _ (Nat.le_refl _)
      have HS2 : Hid (RdSt w w2 rb r f) := HS1.out.trans (RdSt.below HS1.out.at_ hb2)
      obtain ⟨k0, k1, g0, g1⟩ := HS2.out.at_.cells
      clear hw2 hb2 HAO c0 c1 f0 f1
      have HE : Hid (RdSt w (w2.setCell ⟨rb, 0, none⟩ (.string rs)) rb rs f) := HS2.out.trans (rd_set0 HS2.out.at_)
      go_wp2
      go_ret
      exact ⟨rfl, HE.out⟩
    | false =>
      rw [numF_not hA hF]
      rw [hF] at HCUT
      generalize ofL (Lib.cut r.data.toList [58]).1 = dg at *
      generalize ofL (Lib.cut r.data.toList [58]).2.1 = rs at *
      clear hX h hA hF hmx hv1 hv2 hcs hcd
      go_enter Tryz.func45, Tryz.ntmps45
      go_wp2_with fail
      refine HCUT.out.mono ?_
      rintro e w1 ⟨rfl, q, hw1⟩
      have hb1 : Below w.heap.size w w1 := by rw [hw1]; exact ⟨rfl, rfl, rfl, Nat.le_refl _, fun _ _ => rfl⟩
      have HS1 : Hid (RdSt w w1 rb r f) := RdSt.below HAT.out hb1
      clear hw1 hb1 HCUT
      go_wp2_with fail
      refine (HAO.out w1).mono ?_
      rintro e w2 ⟨rfl, hw2⟩
      have hb2 : Below w1.heap.size w1 w2 := by
        rcases hw2 with rfl | ⟨t, rfl⟩
        · exact Below.refl _ _
        · exact Joins.below_bytesWorld _ _ _ _ (Nat.le_refl _)
      have HS2 : Hid (RdSt w w2 rb r f) := HS1.out.trans (RdSt.below HS1.out.at_ hb2)
      clear hw2 hb2 HAO c0 c1 f0 f1
      go_wp2_with fail
      refine (HFL.out w2 HS2.out.at_).mono ?_
      rintro e w3 ⟨rfl, hS3⟩
      have HE : Hid (RdSt w w3 rb (ofL []) true) := HS2.out.trans hS3
      clear hS3
      go_wp2
      go_ret
      exact ⟨rfl, HE.out⟩
  | «syntax» =>
    have HAO : Hid (∀ W, Below w.heap.size w W → Calls Tryz.prog 72 #[.string (ofL (Lib.cut r.data.toList [58]).1)] W fun e w' => (∃ N, e = .returned (.tuple #[.int .i64 0, .iface 178 (.pointer (some ⟨N, 0, none⟩))])) ∧ Below W.heap.size W w') := fun W hW => Tryz.strconv_Atoi_syntax _ (by omega) (by rw [hcd]; exact hA) t1 p1 W (Joins.var_stays (by kernel_rfl : Tryz.prog.globalNamed "strconv.ErrSyntax" = some 14) hv1 hW (Nat.le_refl _))
    rw [numF_bad (fun n => by rw [hA]; exact fun e => by cases e)]
    generalize ofL (Lib.cut r.data.toList [58]).1 = dg at *
    generalize ofL (Lib.cut r.data.toList [58]).2.1 = rs at *
    generalize (Lib.cut r.data.toList [58]).2.2 = fd at *
    clear hX h hA hmx hv1 hv2 hcs hcd
    go_enter Tryz.func45, Tryz.ntmps45
    go_wp2_with fail
    refine HCUT.out.mono ?_
    rintro e w1 ⟨rfl, q, hw1⟩
    have hb1 : Below w.heap.size w w1 := by rw [hw1]; exact ⟨rfl, rfl, rfl, Nat.le_refl _, fun _ _ => rfl⟩
    have HS1 : Hid (RdSt w w1 rb r f) := RdSt.below HAT.out hb1
    have HAO1 := HAO.out w1 hb1
    clear hw1 hb1 HCUT HAO
    go_wp2_with fail
    refine HAO1.mono ?_
    rintro e w2 ⟨⟨N, rfl⟩, hb2⟩
    have HS2 : Hid (RdSt w w2 rb r f) := HS1.out.trans (RdSt.below HS1.out.at_ hb2)
    clear hb2 HAO1 c0 c1 f0 f1
    cases fd with
    | true =>
      go_wp2_with fail
      refine (HFL.out w2 HS2.out.at_).mono ?_
      rintro e w3 ⟨rfl, hS3⟩
      have HE : Hid (RdSt w w3 rb (ofL []) true) := HS2.out.trans hS3
      clear hS3
      go_wp2
      go_ret
      exact ⟨rfl, HE.out⟩
    | false =>
      go_wp2_with fail
      refine (HFL.out w2 HS2.out.at_).mono ?_
      rintro e w3 ⟨rfl, hS3⟩
      have HE : Hid (RdSt w w3 rb (ofL []) true) := HS2.out.trans hS3
      clear hS3
      go_wp2
      go_ret
      exact ⟨rfl, HE.out⟩
  | range =>
    have HAO : Hid (∀ W, Below w.heap.size w W → Calls Tryz.prog 72 #[.string (ofL (Lib.cut r.data.toList [58]).1)] W fun e w' => (∃ N, e = .returned (.tuple #[.int .i64 (Lib.atoiSat (ofL (Lib.cut r.data.toList [58]).1).data.toList), .iface 178 (.pointer (some ⟨N, 0, none⟩))])) ∧ Below W.heap.size W w') := fun W hW => Tryz.strconv_Atoi_range _ (by omega) (by rw [hcd]; exact hA) t2 p2 W (Joins.var_stays (by kernel_rfl : Tryz.prog.globalNamed "strconv.ErrRange" = some 15) hv2 hW (Nat.le_refl _))
    rw [numF_bad (fun n => by rw [hA]; exact fun e => by cases e)]
    generalize Lib.atoiSat (ofL (Lib.cut r.data.toList [58]).1).data.toList = sat at *
    generalize ofL (Lib.cut r.data.toList [58]).1 = dg at *
    generalize ofL (Lib.cut r.data.toList [58]).2.1 = rs at *
    generalize (Lib.cut r.data.toList [58]).2.2 = fd at *
    clear hX h hA hmx hv1 hv2 hcs hcd
    go_enter Tryz.func45, Tryz.ntmps45
    go_wp2_with fail
    refine HCUT.out.mono ?_
    rintro e w1 ⟨rfl, q, hw1⟩
    have hb1 : Below w.heap.size w w1 := by rw [hw1]; exact ⟨rfl, rfl, rfl, Nat.le_refl _, fun _ _ => rfl⟩
    have HS1 : Hid (RdSt w w1 rb r f) := RdSt.below HAT.out hb1
    have HAO1 := HAO.out w1 hb1
    clear hw1 hb1 HCUT HAO
    go_wp2_with fail
    refine HAO1.mono ?_
    rintro e w2 ⟨⟨N, rfl⟩, hb2⟩
    have HS2 : Hid (RdSt w w2 rb r f) := HS1.out.trans (RdSt.below HS1.out.at_ hb2)
    clear hb2 HAO1 c0 c1 f0 f1
    cases fd with
    | true =>
      go_wp2_with fail
      refine (HFL.out w2 HS2.out.at_).mono ?_
      rintro e w3 ⟨rfl, hS3⟩
      have HE : Hid (RdSt w w3 rb (ofL []) true) := HS2.out.trans hS3
      clear hS3
      go_wp2
      go_ret
      exact ⟨rfl, HE.out⟩
    | false =>
      go_wp2_with fail
      refine (HFL.out w2 HS2.out.at_).mono ?_
      rintro e w3 ⟨rfl, hS3⟩
      have HE : Hid (RdSt w w3 rb (ofL []) true) := HS2.out.trans hS3
      clear hS3
      go_wp2
      go_ret
      exact ⟨rfl, HE.out⟩
theorem numF_le (r : ByteArray) (f : Bool) : (numF r f).2.1.size ≤ r.size := by
  unfold numF
  have h := (cut_size r.data.toList).2
  have e : r.data.toList.length = r.size := by simp
  split
  · split
    · rw [ofL_size]
      omega
    · rw [ofL_size]
      simp
  · rw [ofL_size]
    simp
theorem numF_i64 (r : ByteArray) (f : Bool) : -9223372036854775808 ≤ (numF r f).1 ∧ (numF r f).1 ≤ 9223372036854775807 := by
  unfold numF
  split
  · rename_i n hn
    have := atoi_bounds hn
    split
    · exact this
    · exact ⟨by decide, by decide⟩
  · exact ⟨by decide, by decide⟩
theorem textF_le (r : ByteArray) (f : Bool) : (textF r f).1.size ≤ r.size ∧ (textF r f).2.1.size ≤ r.size := by
  unfold textF
  have := numF_le r f
  split
  · simp only [ofL_size]
    simp
  · simp only [ByteArray.size_extract]
    omega
set_option maxRecDepth 10000 in
set_option maxHeartbeats 2000000 in
theorem rtext_any (rb : Nat) (r : ByteArray) (f : Bool) (w : World) (hX : LibX w) (h : RdAt w rb r f) (hr : r.size ≤ 1000000) :
    Calls Tryz.prog 74 #[.pointer (some ⟨rb, 0, none⟩)] w fun e w' => e = .returned (.string (textF r f).1) ∧ RdSt w w' rb (textF r f).2.1 (textF r f).2.2 := by
  have HN : Hid (Calls Tryz.prog 45 #[.pointer (some ⟨rb, 0, none⟩)] w fun e w' => e = .returned (.int .i64 (numF r f).1) ∧ RdSt w w' rb (numF r f).2.1 (numF r f).2.2) := rnum_any rb r f w hX h hr
  have hle := Nat.le_trans (numF_le r f) hr
  have hii := numF_i64 r f
  unfold textF
  generalize numF r f = q at *
  obtain ⟨n1, r1, f1⟩ := q
  simp only [] at *
  have HFL : Hid (∀ W, RdAt W rb r1 f1 → Calls Tryz.prog 73 #[.pointer (some ⟨rb, 0, none⟩)] W fun e w' => e = .returned (.tuple #[]) ∧ RdSt W w' rb (ofL []) true) := fun W hW => rfail_any rb r1 f1 W hW
  clear hX h hr
  by_cases hbad : n1 < 0 ∨ (r1.size : Int) < n1
  · rw [if_pos hbad]
    simp only []
    by_cases h1 : n1 < 0
    · have d1 : decide (n1 < 0) = true := decide_eq_true h1
      clear hbad hle hii
      go_enter Tryz.func74, Tryz.ntmps74
      go_wp2_with fail
      refine HN.out.mono ?_
      rintro e w1 ⟨rfl, hS1⟩
      have HS1 : Hid (RdSt w w1 rb r1 f1) := hS1
      clear hS1 HN
      go_wp2_with fail
      refine (HFL.out w1 HS1.out.at_).mono ?_
      rintro e w2 ⟨rfl, hS2⟩
      have HE : Hid (RdSt w w2 rb (ofL []) true) := HS1.out.trans hS2
      clear hS2
      go_wp2
      go_ret
      exact ⟨rfl, HE.out⟩
    · have d1 : decide (n1 < 0) = false := decide_eq_false h1
      have d2 : decide ((r1.size : Int) < n1) = true := decide_eq_true (by omega)
      clear hbad
      go_enter Tryz.func74, Tryz.ntmps74
      go_wp2_with fail
      refine HN.out.mono ?_
      rintro e w1 ⟨rfl, hS1⟩
      have HS1 : Hid (RdSt w w1 rb r1 f1) := hS1
      obtain ⟨c0, c1, f0, f1'⟩ := hS1.at_.cells
      clear hS1 HN
      go_wp2_with fail
      refine (HFL.out w1 HS1.out.at_).mono ?_
      rintro e w2 ⟨rfl, hS2⟩
      have HE : Hid (RdSt w w2 rb (ofL []) true) := HS1.out.trans hS2
      clear hS2
      go_wp2
      go_ret
      exact ⟨rfl, HE.out⟩
  · rw [if_neg hbad]
    simp only []
    have d1 : decide (n1 < 0) = false := decide_eq_false (by omega)
    have d2 : decide ((r1.size : Int) < n1) = false := decide_eq_false (by omega)
    have hc1 : ∀ W, Sem.run Tryz.prog (Instr.slice 9 (.string r1) none (some (.int .i64 n1)) none) W = .ok (.string (r1.extract 0 n1.toNat)) W := fun W => by
      rw [run_slice_string_h W 9 r1 Tryz.underlying9 .i64 _ (by omega) (by omega)]
    have hc2 : ∀ W, Sem.run Tryz.prog (Instr.slice 9 (.string r1) (some (.int .i64 n1)) none none) W = .ok (.string (r1.extract n1.toNat r1.size)) W := fun W => by
      rw [run_slice_string_l W 9 r1 Tryz.underlying9 .i64 _ (by omega) (by omega)]
    obtain ⟨ta, hta⟩ : ∃ ta, ta = r1.extract 0 n1.toNat := ⟨_, rfl⟩
    obtain ⟨tb, htb⟩ : ∃ tb, tb = r1.extract n1.toNat r1.size := ⟨_, rfl⟩
    rw [← hta, ← htb]
    rw [← hta] at hc1
    rw [← htb] at hc2
    clear hta htb
    go_enter Tryz.func74, Tryz.ntmps74
    go_wp2_with fail
    refine HN.out.mono ?_
    rintro e w1 ⟨rfl, hS1⟩
    have HS1 : Hid (RdSt w w1 rb r1 f1) := hS1
    obtain ⟨c0, c1, f0, f1'⟩ := hS1.at_.cells
    have HE : Hid (RdSt w (w1.setCell ⟨rb, 0, none⟩ (.string tb)) rb tb f1) := hS1.trans (rd_set0 hS1.at_)
    clear hS1 HN HFL
    go_wp2
    go_ret
    exact ⟨rfl, HE.out⟩
/-- While a version is read: its cells at block B + 1, the answer's at B, neither there before. -/
structure VrSt (w W : World) (rb B : Nat) (r : ByteArray) (f : Bool) (vs : Array Value) : Prop where
  at_ : RdAt W rb r f
  grown : w.grownBy W (some rb)
  res : W.heap[B]? = some (.cells #[.int .i64 0, .int .i64 0, .int .i64 0, .int .i64 0, .string ⟨#[]⟩] 49 (0, 0))
  box : W.heap[B + 1]? = some (.cells vs 49 (0, 0))
theorem VrSt.rd {w W W' : World} {rb B : Nat} {r r' : ByteArray} {f f' : Bool} {vs : Array Value} (h : VrSt w W rb B r f vs) (hs : RdSt W W' rb r' f') (hrb : rb < B) : VrSt w W' rb B r' f' vs := by
  have l1 := (Array.getElem?_eq_some_iff.1 h.res).1
  have l2 := (Array.getElem?_eq_some_iff.1 h.box).1
  exact ⟨hs.at_, (RdSt.trans ⟨h.at_, h.grown⟩ hs).grown, (hs.grown.block B l1 (fun e => by injection e with e; omega)).trans h.res, (hs.grown.block (B + 1) l2 (fun e => by injection e with e; omega)).trans h.box⟩
theorem VrSt.set {w W : World} {rb B : Nat} {r : ByteArray} {f : Bool} {vs : Array Value} (h : VrSt w W rb B r f vs) (hB : w.heap.size ≤ B) (hrb : rb < B) (i : Nat) (v : Value) : VrSt w (W.setCell ⟨B + 1, i, none⟩ v) rb B r f (vs.setIfInBounds i v) := by
  have other : ∀ k, k ≠ B + 1 → (W.setCell ⟨B + 1, i, none⟩ v).heap[k]? = W.heap[k]? := fun k hk => Deep.blk_setCell_other _ _ _ _ hk
  refine ⟨(other rb (by omega)).trans h.at_, ⟨h.grown.os, h.grown.tape, h.grown.output, by simpa using h.grown.size, fun k hk hne => (other k (by omega)).trans (h.grown.block k hk hne)⟩, (other B (by omega)).trans h.res, ?_⟩
  rw [Joins.block_setCell h.box]
theorem VrSt.cell {w W : World} {rb B : Nat} {r : ByteArray} {f : Bool} {vs : Array Value} (h : VrSt w W rb B r f vs) (i : Nat) : W.cell? ⟨B + 1, i, none⟩ = vs[i]? := by simp [World.cell?, h.box]
theorem VrSt.frozen {w W : World} {rb B : Nat} {r : ByteArray} {f : Bool} {vs : Array Value} (h : VrSt w W rb B r f vs) (i : Nat) : W.frozen? ⟨B + 1, i, none⟩ = false := by simp [World.frozen?, h.box]
theorem VrSt.rcell {w W : World} {rb B : Nat} {r : ByteArray} {f : Bool} {vs : Array Value} (h : VrSt w W rb B r f vs) : W.cell? ⟨B, 0, none⟩ = some (.int .i64 0) ∧ W.cell? ⟨B, 1, none⟩ = some (.int .i64 0) ∧ W.cell? ⟨B, 2, none⟩ = some (.int .i64 0) ∧ W.cell? ⟨B, 3, none⟩ = some (.int .i64 0) ∧ W.cell? ⟨B, 4, none⟩ = some (.string ⟨#[]⟩) := ⟨by simp [World.cell?, h.res], by simp [World.cell?, h.res], by simp [World.cell?, h.res], by simp [World.cell?, h.res], by simp [World.cell?, h.res]⟩
theorem VrSt.rfrozen {w W : World} {rb B : Nat} {r : ByteArray} {f : Bool} {vs : Array Value} (h : VrSt w W rb B r f vs) (i : Nat) : W.frozen? ⟨B, i, none⟩ = false := by simp [World.frozen?, h.res]
theorem VrSt.start {w : World} {rb : Nat} {r : ByteArray} {f : Bool} (h : RdAt w rb r f) : VrSt w ((w.alloc (.cells #[.int .i64 0, .int .i64 0, .int .i64 0, .int .i64 0, .string ⟨#[]⟩] 49)).alloc (.cells #[.int .i64 0, .int .i64 0, .int .i64 0, .int .i64 0, .string ⟨#[]⟩] 49)) rb w.heap.size r f #[.int .i64 0, .int .i64 0, .int .i64 0, .int .i64 0, .string ⟨#[]⟩] := by
  have hb : Below w.heap.size w ((w.alloc (.cells #[.int .i64 0, .int .i64 0, .int .i64 0, .int .i64 0, .string ⟨#[]⟩] 49)).alloc (.cells #[.int .i64 0, .int .i64 0, .int .i64 0, .int .i64 0, .string ⟨#[]⟩] 49)) := ((Below.refl _ _).alloc (Nat.le_refl _) _).alloc (by simp) _
  have hs := RdSt.below h hb
  have e2 : (w.alloc (.cells #[.int .i64 0, .int .i64 0, .int .i64 0, .int .i64 0, .string ⟨#[]⟩] 49)).heap.size = w.heap.size + 1 := by simp
  refine ⟨hs.at_, hs.grown, ?_, ?_⟩
  · rw [heap_alloc_old _ _ (by rw [e2]; omega)]
    exact heap_alloc_new _ _
  · rw [← e2]
    exact heap_alloc_new _ _
theorem RdSt.put {w W : World} {rb : Nat} {r : ByteArray} {f : Bool} (h : RdSt w W rb r f) (hrb : rb < w.heap.size) {b : Nat} (hb : w.heap.size ≤ b) (i : Nat) (v : Value) : RdSt w (W.setCell ⟨b, i, none⟩ v) rb r f := ⟨(Deep.blk_setCell_other _ _ _ _ (by show rb ≠ b; omega)).trans h.at_, ⟨h.grown.os, h.grown.tape, h.grown.output, by simpa using h.grown.size, fun k hk hne => (Deep.blk_setCell_other _ _ _ _ (by show k ≠ b; omega)).trans (h.grown.block k hk hne)⟩⟩
theorem RdSt.drew {w W : World} {rb : Nat} {r : ByteArray} {f : Bool} (h : RdSt w W rb r f) : RdSt w W.drew rb r f := ⟨h.at_, ⟨h.grown.os, h.grown.tape, h.grown.output, h.grown.size, h.grown.block⟩⟩
set_option maxRecDepth 10000 in
set_option maxHeartbeats 4000000 in
theorem rver_any (rb : Nat) (r : ByteArray) (f : Bool) {w0 w : World} (hX : LibX w0) (hw0 : Below w0.heap.size w0 w) (h : RdAt w rb r f) (hrb : w0.heap.size ≤ rb) (hr : r.size ≤ 1000000) :
    Calls Tryz.prog 46 #[.pointer (some ⟨rb, 0, none⟩)] w fun e w' => e = .returned (.tuple #[.string (verF r f).1.1, verA (verF r f).1.2]) ∧ RdSt w w' rb (verF r f).2.1 (verF r f).2.2 := by
  have hrl : rb < w.heap.size := (Array.getElem?_eq_some_iff.1 h).1
  have HLX : Hid (∀ W r f vs, VrSt w W rb w.heap.size r f vs → LibX W) := fun W r f vs hW => hX.below (RdSt.low ⟨hW.at_, hW.grown⟩ hw0 hw0.size hrb)
  have HT : Hid (∀ W r f vs, VrSt w W rb w.heap.size r f vs → r.size ≤ 1000000 → Calls Tryz.prog 74 #[.pointer (some ⟨rb, 0, none⟩)] W fun e w' => e = .returned (.string (textF r f).1) ∧ VrSt w w' rb w.heap.size (textF r f).2.1 (textF r f).2.2 vs) := fun W r f vs hW hr => (rtext_any rb r f W (HLX.out W r f vs hW) hW.at_ hr).mono fun e w' hp => ⟨hp.1, hW.rd hp.2 hrl⟩
  have HN : Hid (∀ W r f vs, VrSt w W rb w.heap.size r f vs → r.size ≤ 1000000 → Calls Tryz.prog 45 #[.pointer (some ⟨rb, 0, none⟩)] W fun e w' => e = .returned (.int .i64 (numF r f).1) ∧ VrSt w w' rb w.heap.size (numF r f).2.1 (numF r f).2.2 vs) := fun W r f vs hW hr => (rnum_any rb r f W (HLX.out W r f vs hW) hW.at_ hr).mono fun e w' hp => ⟨hp.1, hW.rd hp.2 hrl⟩
  have HST : Hid (∀ W r f vs, VrSt w W rb w.heap.size r f vs → ∀ i v, VrSt w (W.setCell ⟨w.heap.size + 1, i, none⟩ v) rb w.heap.size r f (vs.setIfInBounds i v)) := fun W r f vs hW i v => hW.set (Nat.le_refl _) hrl i v
  have hst0 := VrSt.start h
  have HC0 := HT.out _ _ _ _ hst0 hr
  have hk := textF_le r f
  unfold verF
  simp only []
  generalize hK : textF r f = k at *
  obtain ⟨key, r1, f1⟩ := k
  simp only [] at *
  clear hK
  have hr1 : r1.size ≤ 1000000 := by omega
  have ha := numF_le r1 f1
  have HC1 := fun W vs hW => HN.out W r1 f1 vs hW hr1
  generalize numF r1 f1 = a at *
  obtain ⟨a1, r2, f2⟩ := a
  simp only [] at *
  have hr2 : r2.size ≤ 1000000 := by omega
  have hb := numF_le r2 f2
  have HC2 := fun W vs hW => HN.out W r2 f2 vs hW hr2
  generalize numF r2 f2 = b at *
  obtain ⟨b1, r3, f3⟩ := b
  simp only [] at *
  have hr3 : r3.size ≤ 1000000 := by omega
  have hc := numF_le r3 f3
  have HC3 := fun W vs hW => HN.out W r3 f3 vs hW hr3
  generalize numF r3 f3 = c at *
  obtain ⟨c1, r4, f4⟩ := c
  simp only [] at *
  have hr4 : r4.size ≤ 1000000 := by omega
  have hd := numF_le r4 f4
  have HC4 := fun W vs hW => HN.out W r4 f4 vs hW hr4
  generalize numF r4 f4 = d at *
  obtain ⟨d1, r5, f5⟩ := d
  simp only [] at *
  have hr5 : r5.size ≤ 1000000 := by omega
  have HC5 := fun W vs hW => HT.out W r5 f5 vs hW hr5
  generalize textF r5 f5 = t at *
  obtain ⟨t1, r6, f6⟩ := t
  simp only [] at *
  unfold verA
  simp only []
  have HH0 : Hid (Calls Tryz.prog 74 #[.pointer (some ⟨rb, 0, none⟩)] ((w.alloc (.cells #[.int .i64 0, .int .i64 0, .int .i64 0, .int .i64 0, .string ⟨#[]⟩] 49)).alloc (.cells #[.int .i64 0, .int .i64 0, .int .i64 0, .int .i64 0, .string ⟨#[]⟩] 49)) fun e w' => e = .returned (.string key) ∧ VrSt w w' rb w.heap.size r1 f1 #[.int .i64 0, .int .i64 0, .int .i64 0, .int .i64 0, .string ⟨#[]⟩]) := HC0
  have HH1 : Hid (∀ (W : World) (vs : Array Value), VrSt w W rb w.heap.size r1 f1 vs → Calls Tryz.prog 45 #[.pointer (some ⟨rb, 0, none⟩)] W fun e w' => e = .returned (.int .i64 a1) ∧ VrSt w w' rb w.heap.size r2 f2 vs) := HC1
  have HH2 : Hid (∀ (W : World) (vs : Array Value), VrSt w W rb w.heap.size r2 f2 vs → Calls Tryz.prog 45 #[.pointer (some ⟨rb, 0, none⟩)] W fun e w' => e = .returned (.int .i64 b1) ∧ VrSt w w' rb w.heap.size r3 f3 vs) := HC2
  have HH3 : Hid (∀ (W : World) (vs : Array Value), VrSt w W rb w.heap.size r3 f3 vs → Calls Tryz.prog 45 #[.pointer (some ⟨rb, 0, none⟩)] W fun e w' => e = .returned (.int .i64 c1) ∧ VrSt w w' rb w.heap.size r4 f4 vs) := HC3
  have HH4 : Hid (∀ (W : World) (vs : Array Value), VrSt w W rb w.heap.size r4 f4 vs → Calls Tryz.prog 45 #[.pointer (some ⟨rb, 0, none⟩)] W fun e w' => e = .returned (.int .i64 d1) ∧ VrSt w w' rb w.heap.size r5 f5 vs) := HC4
  have HH5 : Hid (∀ (W : World) (vs : Array Value), VrSt w W rb w.heap.size r5 f5 vs → Calls Tryz.prog 74 #[.pointer (some ⟨rb, 0, none⟩)] W fun e w' => e = .returned (.string t1) ∧ VrSt w w' rb w.heap.size r6 f6 vs) := HC5
  clear HC0 HC1 HC2 HC3 HC4 HC5 hst0 HT HN HLX hk ha hb hc hd hr hr1 hr2 hr3 hr4 hr5 hX hw0 h hrb
  go_enter Tryz.func46, Tryz.ntmps46
  go_wp2_with fail
  refine HH0.out.mono ?_
  rintro e w1 ⟨rfl, hs1⟩
  have HS1 : Hid (VrSt w w1 rb w.heap.size r1 f1 #[.int .i64 0, .int .i64 0, .int .i64 0, .int .i64 0, .string ⟨#[]⟩]) := hs1
  clear hs1 HH0
  go_wp2_with fail
  refine (HH1.out _ _ HS1.out).mono ?_
  rintro e w2 ⟨rfl, hs2⟩
  have q2 : w2.cell? ⟨w.heap.size + 1, 0, none⟩ = some (.int .i64 0) := (hs2.cell 0).trans rfl
  have g2 := hs2.frozen 0
  have HS2 : Hid (VrSt w (w2.setCell ⟨w.heap.size + 1, 0, none⟩ (.int .i64 a1)) rb w.heap.size r2 f2 #[.int .i64 a1, .int .i64 0, .int .i64 0, .int .i64 0, .string ⟨#[]⟩]) := HST.out _ _ _ _ hs2 0 (.int .i64 a1)
  clear hs2 HS1 HH1
  go_wp2_with fail
  clear q2 g2
  refine (HH2.out _ _ HS2.out).mono ?_
  rintro e w3 ⟨rfl, hs3⟩
  have q3 : w3.cell? ⟨w.heap.size + 1, 1, none⟩ = some (.int .i64 0) := (hs3.cell 1).trans rfl
  have g3 := hs3.frozen 1
  have HS3 : Hid (VrSt w (w3.setCell ⟨w.heap.size + 1, 1, none⟩ (.int .i64 b1)) rb w.heap.size r3 f3 #[.int .i64 a1, .int .i64 b1, .int .i64 0, .int .i64 0, .string ⟨#[]⟩]) := HST.out _ _ _ _ hs3 1 (.int .i64 b1)
  clear hs3 HS2 HH2
  go_wp2_with fail
  clear q3 g3
  refine (HH3.out _ _ HS3.out).mono ?_
  rintro e w4 ⟨rfl, hs4⟩
  have q4 : w4.cell? ⟨w.heap.size + 1, 2, none⟩ = some (.int .i64 0) := (hs4.cell 2).trans rfl
  have g4 := hs4.frozen 2
  have HS4 : Hid (VrSt w (w4.setCell ⟨w.heap.size + 1, 2, none⟩ (.int .i64 c1)) rb w.heap.size r4 f4 #[.int .i64 a1, .int .i64 b1, .int .i64 c1, .int .i64 0, .string ⟨#[]⟩]) := HST.out _ _ _ _ hs4 2 (.int .i64 c1)
  clear hs4 HS3 HH3
  go_wp2_with fail
  clear q4 g4
  refine (HH4.out _ _ HS4.out).mono ?_
  rintro e w5 ⟨rfl, hs5⟩
  have q5 : w5.cell? ⟨w.heap.size + 1, 3, none⟩ = some (.int .i64 0) := (hs5.cell 3).trans rfl
  have g5 := hs5.frozen 3
  have HS5 : Hid (VrSt w (w5.setCell ⟨w.heap.size + 1, 3, none⟩ (.int .i64 d1)) rb w.heap.size r5 f5 #[.int .i64 a1, .int .i64 b1, .int .i64 c1, .int .i64 d1, .string ⟨#[]⟩]) := HST.out _ _ _ _ hs5 3 (.int .i64 d1)
  clear hs5 HS4 HH4
  go_wp2_with fail
  clear q5 g5
  refine (HH5.out _ _ HS5.out).mono ?_
  rintro e w6 ⟨rfl, hs6⟩
  have q6 : w6.cell? ⟨w.heap.size + 1, 4, none⟩ = some (.string ⟨#[]⟩) := (hs6.cell 4).trans rfl
  have g6 := hs6.frozen 4
  obtain ⟨w7, hw7⟩ : ∃ w7, w7 = w6.setCell ⟨w.heap.size + 1, 4, none⟩ (.string t1) := ⟨_, rfl⟩
  have HW7 : Hid (w7 = w6.setCell ⟨w.heap.size + 1, 4, none⟩ (.string t1)) := hw7
  have HS6 : Hid (VrSt w (w6.setCell ⟨w.heap.size + 1, 4, none⟩ (.string t1)) rb w.heap.size r6 f6 #[.int .i64 a1, .int .i64 b1, .int .i64 c1, .int .i64 d1, .string t1]) := HST.out _ _ _ _ hs6 4 (.string t1)
  clear hs6 HS5 HH5
  have HS7 : Hid (VrSt w w7 rb w.heap.size r6 f6 #[.int .i64 a1, .int .i64 b1, .int .i64 c1, .int .i64 d1, .string t1]) := by rw [hw7]; exact HS6.out
  clear HS6 hw7
  go_wp2
  rw [← HW7.out]
  have p0 : w7.cell? ⟨w.heap.size + 1, 0, none⟩ = some (.int .i64 a1) := (HS7.out.cell 0).trans rfl
  have p1 : w7.cell? ⟨w.heap.size + 1, 1, none⟩ = some (.int .i64 b1) := (HS7.out.cell 1).trans rfl
  have p2 : w7.cell? ⟨w.heap.size + 1, 2, none⟩ = some (.int .i64 c1) := (HS7.out.cell 2).trans rfl
  have p3 : w7.cell? ⟨w.heap.size + 1, 3, none⟩ = some (.int .i64 d1) := (HS7.out.cell 3).trans rfl
  have p4 : w7.cell? ⟨w.heap.size + 1, 4, none⟩ = some (.string t1) := (HS7.out.cell 4).trans rfl
  have g7 : ∀ o, w7.frozen? ⟨w.heap.size + 1, o, none⟩ = false := fun o => HS7.out.frozen o
  obtain ⟨c0, c1', c2, c3, c4⟩ := HS7.out.rcell
  have g8 : ∀ o, w7.frozen? ⟨w.heap.size, o, none⟩ = false := fun o => HS7.out.rfrozen o
  clear HW7 q6 g6
  go_region_with (fail)
  all_goals
    go_wp2
    refine bodyPost_ret (v := .tuple #[.string key, .agg #[.int .i64 a1, .int .i64 b1, .int .i64 c1, .int .i64 d1, .string t1]]) (by simp [results, Tryz.results46, go_sem, c0, c1', c2, c3, c4]) rfl ⟨rfl, ?_⟩
    exact (((((RdSt.put ⟨HS7.out.at_, HS7.out.grown⟩ hrl (Nat.le_refl _) _ _).put hrl (Nat.le_refl _) _ _).put hrl (Nat.le_refl _) _ _).put hrl (Nat.le_refl _) _ _).put hrl (Nat.le_refl _) _ _).drew
theorem lt_of_cellK {w : World} {b o : Nat} {v : Value} (h : w.cell? ⟨b, o, none⟩ = some v) : b < w.heap.size := by
  rcases Nat.lt_or_ge b w.heap.size with h' | h'
  · exact h'
  · simp [World.cell?, Array.getElem?_eq_none h'] at h
/-- Errors that a node's shards have lie in their variables. -/
structure HErrs (w : World) (ad : Nat → Addr) : Prop where
  c1 : w.cell? ⟨3, 0, none⟩ = some (.iface 206 (.pointer (some (ad 1))))
  c3 : w.cell? ⟨2, 0, none⟩ = some (.iface 206 (.pointer (some (ad 3))))
  c5 : w.cell? ⟨4, 0, none⟩ = some (.iface 206 (.pointer (some (ad 5))))
  c6 : w.cell? ⟨5, 0, none⟩ = some (.iface 206 (.pointer (some (ad 6))))
  c9 : w.cell? ⟨1, 0, none⟩ = some (.iface 206 (.pointer (some (ad 9))))
theorem HErrs.below {w w' : World} {ad : Nat → Addr} (h : HErrs w ad) (hb : Below w.heap.size w w') : HErrs w' ad where
  c1 := (hb.cell (lt_of_cellK h.c1)).trans h.c1
  c3 := (hb.cell (lt_of_cellK h.c3)).trans h.c3
  c5 := (hb.cell (lt_of_cellK h.c5)).trans h.c5
  c6 := (hb.cell (lt_of_cellK h.c6)).trans h.c6
  c9 := (hb.cell (lt_of_cellK h.c9)).trans h.c9
theorem HErrs.keepBlocks {W V : World} {ad : Nat → Addr} (h : HErrs W ad) (hk : ∀ k, k < W.heap.size → V.heap[k]? = W.heap[k]?) : HErrs V ad where
  c1 := (World.cell?_of_block (w := W) (w' := V) (hk _ (lt_of_cellK h.c1))).trans h.c1
  c3 := (World.cell?_of_block (w := W) (w' := V) (hk _ (lt_of_cellK h.c3))).trans h.c3
  c5 := (World.cell?_of_block (w := W) (w' := V) (hk _ (lt_of_cellK h.c5))).trans h.c5
  c6 := (World.cell?_of_block (w := W) (w' := V) (hk _ (lt_of_cellK h.c6))).trans h.c6
  c9 := (World.cell?_of_block (w := W) (w' := V) (hk _ (lt_of_cellK h.c9))).trans h.c9
end Go.Proofs.YtmbpfbhpmafheaaGreatDoor
