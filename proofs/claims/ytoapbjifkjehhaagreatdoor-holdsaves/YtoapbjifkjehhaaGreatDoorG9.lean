/- How much is written of what is held, step by step. -/
import Derived.Test.YtoapbjifkjehhaaGreatDoorG4
import Derived.Test.YtoapbjifkjehhaaGreatDoorHyShW
import Derived.Test.YtoapbjifkjehhaaGreatDoorRecB
import Derived.Lib.OthersKept
import Derived.Lib.FrozenHead
import Derived.Laws.Externs
import Derived.Test.YtoapbjifkjehhaaGreatDoorG14
import Derived.Test.YtoapbjifkjehhaaGreatDoorRLessW
import Derived.Lib.SmallJoins
namespace Go.Proofs.YtoapbjifkjehhaaGreatDoor
open Go.RowKit
theorem wrL_append (A B : List Kep) : wrL (A ++ B) = wrL A ++ wrL B := by unfold wrL; rw [List.flatMap_append]
theorem wrL_one (x : Kep) : wrL [x] = wrK x := by simp [wrL]
/-- The kept ones of the first i keys, and the first j of the next one. -/
def upTo (L : List Kep) (i j : Nat) : List Kep := byKey ((keysL L).take i) L ++ ((getL L (txt (keysL L) i)).take j).map fun v => (txt (keysL L) i, v)
theorem byKey_one (k : ByteArray) (L : List Kep) : byKey [k] L = (getL L k).map fun v => (k, v) := by simp [byKey]
theorem take_succ_txt {l : List ByteArray} {i : Nat} (hi : i < l.length) : l.take (i + 1) = l.take i ++ [txt l i] := by
  rw [List.take_add_one, List.getElem?_eq_getElem hi, txt_getElem l i hi]
  rfl
theorem upTo_zero (L : List Kep) (i : Nat) : upTo L i 0 = byKey ((keysL L).take i) L := by simp [upTo]
theorem upTo_next {L : List Kep} {i : Nat} (hi : i < (keysL L).length) : upTo L i (getL L (txt (keysL L) i)).length = byKey ((keysL L).take (i + 1)) L := by
  unfold upTo
  rw [List.take_length, take_succ_txt hi, byKey_append, byKey_one]
theorem upTo_succ {L : List Kep} {i j : Nat} (hj : j < (getL L (txt (keysL L) i)).length) : upTo L i (j + 1) = upTo L i j ++ [(txt (keysL L) i, verAt (getL L (txt (keysL L) i)) j)] := by
  unfold upTo
  rw [List.take_add_one, verAt_get hj]
  simp
theorem upTo_prefix {L : List Kep} (hs : SortedK L) {i j : Nat} (hi : i < (keysL L).length) : ∃ R, L = upTo L i j ++ R := by
  have hall := (keysOk L hs).all
  have hk : keysL L = (keysL L).take i ++ (txt (keysL L) i :: (keysL L).drop (i + 1)) := by
    conv => lhs; rw [← List.take_append_drop i (keysL L), List.drop_eq_getElem_cons hi]
    rw [txt_getElem (keysL L) i hi]
  refine ⟨((getL L (txt (keysL L) i)).drop j).map (fun v => (txt (keysL L) i, v)) ++ byKey ((keysL L).drop (i + 1)) L, ?_⟩
  unfold upTo
  conv => lhs; rw [← hall, hk, byKey_append]
  have e : byKey (txt (keysL L) i :: (keysL L).drop (i + 1)) L = byKey [txt (keysL L) i] L ++ byKey ((keysL L).drop (i + 1)) L := byKey_append [txt (keysL L) i] _ L
  rw [e, byKey_one, List.append_assoc]
  congr 1
  rw [← List.append_assoc, ← List.map_append, List.take_append_drop]
theorem upTo_len {L : List Kep} (hG : GoodL L) {i j : Nat} (hi : i < (keysL L).length) (s : Bool) : (wrN (if s then 1 else 0) ++ wrL (upTo L i j)).length ≤ 130000 := by
  obtain ⟨R, hR⟩ := upTo_prefix hG.sorted (j := j) hi
  have h := wrote_len hG s
  unfold wrote at h
  have e : wrL L = wrL (upTo L i j) ++ wrL R := by rw [← wrL_append, ← hR]
  rw [e] at h
  simp only [List.length_append] at h ⊢
  omega
theorem upTo_len0 {L : List Kep} (hG : GoodL L) {i : Nat} (hi : i ≤ (keysL L).length) (s : Bool) : (wrN (if s then 1 else 0) ++ wrL (byKey ((keysL L).take i) L)).length ≤ 130000 := by
  rcases Nat.lt_or_ge i (keysL L).length with h | h
  · have := upTo_len hG (j := 0) h s
    rw [upTo_zero] at this
    exact this
  · obtain rfl : i = (keysL L).length := by omega
    rw [List.take_length, (keysOk L hG.sorted).all]
    exact wrote_len hG s
end Go.Proofs.YtoapbjifkjehhaaGreatDoor
/- strings.Builder where the call made it: what is written stands behind what was. -/
namespace Go.Proofs.YtoapbjifkjehhaaGreatDoor
open Go.RowKit
/-- In the world w block b is a builder of the call's own, with the bytes l; its row lies from block B on. -/
def Bld (w : World) (B b : Nat) (l : List UInt8) : Prop := Lib.IsBuilderF 93 5 B b (Lib.byteCells l) w
/-- What a write leaves. -/
structure Wrote (w w' : World) (B b : Nat) (l : List UInt8) : Prop where
  bld : Bld w' B b l
  low : Below B w w'
  rest : Lib.OthersKept 5 (some b) w w'
theorem Wrote.trans {w w' w'' : World} {B b : Nat} {l l' : List UInt8} (h1 : Wrote w w' B b l) (h2 : Wrote w' w'' B b l') : Wrote w w'' B b l' := ⟨h2.bld, h1.low.trans h2.low, h1.rest.trans h2.rest⟩
theorem bldSize : ∃ j, Tryz.prog.info? 93 = some j ∧ j.size = 2 := by
  have h : (Tryz.prog.info? 93).map (·.size) = some 2 := by kernel_rfl
  obtain ⟨j, hj, hs⟩ := Option.map_eq_some_iff.1 h
  exact ⟨j, hj, hs⟩
theorem noEscape_run (W : World) (v : Value) : (callFunc 95 #[v]).run Tryz.prog W = .ok (.value v) W := by
  rw [run_callFunc_extern Tryz.func95 (by kernel_rfl) (by kernel_rfl) (by kernel_rfl) (e := Extern.AbiNoEscape.same) (by kernel_rfl)]
  rfl
set_option maxRecDepth 100000 in
set_option maxHeartbeats 1000000 in
/-- Before a write: the builder knows its own place. -/
theorem bcheck (B b : Nat) (l : List UInt8) (w : World) (h : Bld w B b l) :
    Calls Tryz.prog 74 #[.pointer (some ⟨b, 0, none⟩)] w fun e w' => e = .returned (.tuple #[]) ∧ Lib.BuilderAtF 93 5 B b (.pointer (some ⟨b, 0, none⟩)) (Lib.byteCells l) w' ∧ Below B w w' ∧ Lib.OthersKept 5 (some b) w w' := by
  obtain ⟨j, hj, hjs⟩ := bldSize
  have hne : ∀ W, (binOp .neq 91 (.pointer (some ⟨b, 0, none⟩)) (.pointer (some ⟨b, 0, none⟩))).run Tryz.prog W = .ok (.bool false) W := fun W => Lib.run_neq_ptr_same W _ Tryz.underlying91 hj
  rcases h with h | h
  · have q0 := h.cell0
    have f0 := h.frozen0
    have hto := Lib.run_to_unsafe w ⟨b, 0, none⟩ Tryz.underlying91 Tryz.underlying123 hj (by rw [hjs]; decide) h.shape (Nat.zero_lt_succ 1)
    have hfrom := Lib.run_from_unsafe w ⟨b, 0, none⟩ Tryz.underlying123 Tryz.underlying91 hj h.shape (by kernel_rfl)
    have hnoe := noEscape_run w
    have HE : Hid (Lib.BuilderAtF 93 5 B b (.pointer (some ⟨b, 0, none⟩)) (Lib.byteCells l) (w.setCell ⟨b, 0, none⟩ (.pointer (some ⟨b, 0, none⟩))) ∧ Below B w (w.setCell ⟨b, 0, none⟩ (.pointer (some ⟨b, 0, none⟩))) ∧ Lib.OthersKept 5 (some b) w (w.setCell ⟨b, 0, none⟩ (.pointer (some ⟨b, 0, none⟩)))) := ⟨h.used _, (Below.refl B w).setCell (p := ⟨b, 0, none⟩) h.1 _, (Lib.OthersKept.refl _ _ w).setCell ⟨b, 0, none⟩ rfl _⟩
    clear h hj hjs
    go_enter Tryz.func74, Tryz.ntmps74
    go_wp2_with (simp only [hnoe])
    all_goals
      go_end0
      exact ⟨rfl, HE.out⟩
  · have q0 := h.cell0
    have HE : Hid (Lib.BuilderAtF 93 5 B b (.pointer (some ⟨b, 0, none⟩)) (Lib.byteCells l) w ∧ Below B w w ∧ Lib.OthersKept 5 (some b) w w) := ⟨h, Below.refl B w, Lib.OthersKept.refl _ _ w⟩
    clear h hj hjs
    go_enter Tryz.func74, Tryz.ntmps74
    go_wp2
    go_end0
    exact ⟨rfl, HE.out⟩
theorem byteInfo : (Tryz.prog.info? 5).map (fun i => (i.zero, i.size, i.bytes)) = some (some (.int .u8 0), 1, 1) := by kernel_rfl
theorem byteCells_snoc (l : List UInt8) (c : UInt8) : Lib.byteCells l ++ [.int .u8 (c.toNat : Int)] = Lib.byteCells (l ++ [c]) := by simp [Lib.byteCells]
/-- The builder's block, behind an append to its row. -/
theorem bld_after {w1 w2 : World} {B b : Nat} {v v' : Value} {bs : List Value} (hB : B ≤ b) (hbk : w1.heap[b]? = some (.cells #[.pointer (some ⟨b, 0, none⟩), v] 93 (0, 0))) (hblk : w2.heap[b]? = w1.heap[b]?) (hown : w2.ownsRowF B 5 1 v' bs.length bs) : w2.cell? ⟨b, 1, none⟩ = some v ∧ w2.frozen? ⟨b, 1, none⟩ = false ∧ Lib.BuilderAtF 93 5 B b (.pointer (some ⟨b, 0, none⟩)) bs (w2.setCell ⟨b, 1, none⟩ v') := by
  have hb2 := hblk.trans hbk
  exact ⟨by rw [Lib.cell_of_heap hb2]; rfl, Lib.frozen_of_heap hb2 1, Lib.BuilderAtF.put hB hb2 hown (by decide)⟩
set_option maxRecDepth 100000 in
set_option maxHeartbeats 1600000 in
theorem wbyte_any (B b : Nat) (l : List UInt8) (c : UInt8) (w : World) (h : Bld w B b l) (hl : l.length ≤ 1000000) (hB0 : B ≤ w.heap.size) :
    Calls Tryz.prog 50 #[.pointer (some ⟨b, 0, none⟩), .int .u8 (c.toNat : Int)] w fun e w' => e = .returned .nilIface ∧ Wrote w w' B b (l ++ [c]) := by
  obtain ⟨i0, hi, hz0, hz1, hz2⟩ := info_parts byteInfo
  have HCK := bcheck B b l w h
  have hbl : (Lib.byteCells l).length = l.length := by simp [Lib.byteCells]
  have HSN : Hid (Lib.byteCells l ++ [.int .u8 (c.toNat : Int)] = Lib.byteCells (l ++ [c])) := byteCells_snoc l c
  clear h
  generalize hbs : Lib.byteCells l = bs at *
  generalize (c.toNat : Int) = ci at *
  go_enter Tryz.func50, Tryz.ntmps50
  go_wp2_with fail
  refine HCK.mono ?_
  rintro e w1 ⟨rfl, h1, hb1, hk1⟩
  obtain ⟨hB, v, hbk, hown, hne⟩ := h1
  have c1 : w1.cell? ⟨b, 1, none⟩ = some v := by rw [Lib.cell_of_heap hbk]; rfl
  have hlt : b < w1.heap.size := (Array.getElem?_eq_some_iff.1 hbk).1
  have hsz := hb1.size
  have HOW : Hid (w1.ownsRowF B 5 1 v bs.length bs) := hown
  have HBK : Hid (w1.heap[b]? = some (.cells #[.pointer (some ⟨b, 0, none⟩), v] 93 (0, 0))) := hbk
  have HNE : Hid (v.ownBlock ≠ some b) := hne
  have HB1 : Hid (Below B w w1) := hb1
  have HK1 : Hid (Lib.OthersKept 5 (some b) w w1) := hk1
  clear hown hbk hne hb1 hk1 HCK hbs
  go_wp2_with (at_builtin; refine wpList_append_ownF _ rfl _ _ 53 rfl B 5 i0 (.int .u8 0) 1 1 Tryz.underlying53 hi hz0 hz1 hz2 rfl (by decide) _ _ _ rfl (HOW.out.alloc _) ⟨w1.heap.size, 0, none⟩ 1 1 [.int .u8 ci] rfl rfl (fun j u hj => by match j, hj with | 0, hj => simp at hj; subst hj; simp [Addr.add]) (fun u hu => by simp at hu; subst hu; rfl) (by unfold maxLen; omega) (by omega) (by simp; omega) ?_; intro v' w2 hown2 hg2 _; obtain ⟨d1, f1, hat⟩ := bld_after (v' := v') (bs := bs ++ [.int .u8 ci]) hB HBK.out ((hg2.block b (by simp; omega) (fun e => HNE.out e.symm)).trans (heap_alloc_old _ _ hlt)) (by simpa using hown2); have HAT : Hid (Lib.BuilderAtF 93 5 B b (.pointer (some ⟨b, 0, none⟩)) (bs ++ [.int .u8 ci]) (w2.setCell ⟨b, 1, none⟩ v')) := hat; have HG2 : Hid ((w1.alloc (.cells #[.int .u8 ci] 5)).grownBy w2 v.ownBlock) := hg2; obtain ⟨vp, vn, vc, hvv⟩ : ∃ p n c, v' = .slice p n c := (by rcases hown2.2 with ⟨hv, _⟩ | ⟨g, cap, cur, fz, hv, _⟩ <;> exact ⟨_, _, _, hv⟩); subst hvv; clear hown2 hg2 hat)
  go_ret
  refine ⟨rfl, ⟨Or.inr ?_, ?_, ((HK1.out.alloc _).grown HG2.out (Lib.ownsRowF_kind (HOW.out.alloc _))).setCell ⟨b, 1, none⟩ rfl _⟩⟩
  · rw [← HSN.out]
    exact HAT.out
  · exact ((HB1.out.alloc (by omega) _).grown HG2.out (by simp; omega) (fun k hk => (HOW.out.lt k hk).1)).setCell (p := ⟨b, 1, none⟩) hB _
theorem strCells_ofL (s : ByteArray) : Lib.strCells s = Lib.byteCells s.data.toList := rfl
set_option maxRecDepth 100000 in
set_option maxHeartbeats 1600000 in
theorem wstr_any (B b : Nat) (l : List UInt8) (s : ByteArray) (w : World) (h : Bld w B b l) (hl : l.length + s.size ≤ 1000000) (hB0 : B ≤ w.heap.size) :
    Calls Tryz.prog 48 #[.pointer (some ⟨b, 0, none⟩), .string s] w fun e w' => e = .returned (.tuple #[.int .i64 (s.size : Int), .nilIface]) ∧ Wrote w w' B b (l ++ s.data.toList) := by
  obtain ⟨i0, hi, hz0, hz1, hz2⟩ := info_parts byteInfo
  have HCK := bcheck B b l w h
  have hbl : (Lib.byteCells l).length = l.length := by simp [Lib.byteCells]
  have HSN : Hid (Lib.byteCells l ++ Lib.strCells s = Lib.byteCells (l ++ s.data.toList)) := by show _ = _; rw [strCells_ofL, Lib.byteCells_append]
  clear h
  generalize hbs : Lib.byteCells l = bs at *
  go_enter Tryz.func48, Tryz.ntmps48
  go_wp2_with fail
  refine HCK.mono ?_
  rintro e w1 ⟨rfl, h1, hb1, hk1⟩
  obtain ⟨hB, v, hbk, hown, hne⟩ := h1
  have c1 : w1.cell? ⟨b, 1, none⟩ = some v := by rw [Lib.cell_of_heap hbk]; rfl
  have hlt : b < w1.heap.size := (Array.getElem?_eq_some_iff.1 hbk).1
  have hsz := hb1.size
  have HOW : Hid (w1.ownsRowF B 5 1 v bs.length bs) := hown
  have HBK : Hid (w1.heap[b]? = some (.cells #[.pointer (some ⟨b, 0, none⟩), v] 93 (0, 0))) := hbk
  have HNE : Hid (v.ownBlock ≠ some b) := hne
  have HB1 : Hid (Below B w w1) := hb1
  have HK1 : Hid (Lib.OthersKept 5 (some b) w w1) := hk1
  clear hown hbk hne hb1 hk1 HCK hbs
  go_wp2_with (at_builtin; refine Lib.wpList_append_own_stringF _ rfl _ _ 53 9 rfl B 5 i0 Tryz.underlying53 Tryz.underlying9 hi hz0 hz1 hz2 _ _ _ rfl HOW.out s rfl (by unfold maxLen; omega) (by omega) (by omega) ?_; intro v' w2 hown2 hg2 _; obtain ⟨d1, f1, hat⟩ := bld_after (v' := v') (bs := bs ++ Lib.strCells s) hB HBK.out (hg2.block b hlt (fun e => HNE.out e.symm)) (by simpa [Lib.strCells_length] using hown2); have HAT : Hid (Lib.BuilderAtF 93 5 B b (.pointer (some ⟨b, 0, none⟩)) (bs ++ Lib.strCells s) (w2.setCell ⟨b, 1, none⟩ v')) := hat; have HG2 : Hid (w1.grownBy w2 v.ownBlock) := hg2; obtain ⟨vp, vn, vc, hvv⟩ : ∃ p n c, v' = .slice p n c := (by rcases hown2.2 with ⟨hv, _⟩ | ⟨g, cap, cur, fz, hv, _⟩ <;> exact ⟨_, _, _, hv⟩); subst hvv; clear hown2 hg2 hat)
  go_ret2
  refine ⟨rfl, ⟨Or.inr ?_, ?_, (HK1.out.grown HG2.out (Lib.ownsRowF_kind HOW.out)).setCell ⟨b, 1, none⟩ rfl _⟩⟩
  · rw [← HSN.out]
    exact HAT.out
  · exact (HB1.out.grown HG2.out (by omega) (fun k hk => (HOW.out.lt k hk).1)).setCell (p := ⟨b, 1, none⟩) hB _
end Go.Proofs.YtoapbjifkjehhaaGreatDoor
/- Package hold: how what is held is written. -/
namespace Go.Proofs.YtoapbjifkjehhaaGreatDoor
open Go.RowKit
/-- What the library's own variables hold. -/
structure LibX (w : World) : Prop where
  tab : Lib.TabIs Tryz.prog w "internal/strconv.uint64pow10" .u64 Lib.pow10Tab
  syn : ∃ tp p, w.var? Tryz.prog "strconv.ErrSyntax" = some #[.iface tp p]
  rng : ∃ tp p, w.var? Tryz.prog "strconv.ErrRange" = some #[.iface tp p]
  max : ∃ m : Int, w.cell? ⟨13, 0, none⟩ = some (.int .i64 m)
theorem LibX.below {w w' : World} (h : LibX w) (hb : Below w.heap.size w w') : LibX w' := by
  obtain ⟨t1, p1, h1⟩ := h.syn
  obtain ⟨t2, p2, h2⟩ := h.rng
  obtain ⟨m, h3⟩ := h.max
  exact ⟨Joins.tab_stays (by kernel_rfl : Tryz.prog.globalNamed "internal/strconv.uint64pow10" = some 16) h.tab hb (Nat.le_refl _), ⟨t1, p1, Joins.var_stays (by kernel_rfl : Tryz.prog.globalNamed "strconv.ErrSyntax" = some 14) h1 hb (Nat.le_refl _)⟩, ⟨t2, p2, Joins.var_stays (by kernel_rfl : Tryz.prog.globalNamed "strconv.ErrRange" = some 15) h2 hb (Nat.le_refl _)⟩, ⟨m, (hb.cell (p := ⟨13, 0, none⟩) (lt_of_cellH h3)).trans h3⟩⟩
theorem Bld.below {w w' : World} {B b : Nat} {l : List UInt8} (h : Bld w B b l) (hb : Below w.heap.size w w') : Bld w' B b l := by
  have one : ∀ {p}, Lib.BuilderAtF 93 5 B b p (Lib.byteCells l) w → Lib.BuilderAtF 93 5 B b p (Lib.byteCells l) w' := fun {p} hp => by
    obtain ⟨hB, v, hbk, hown, hne⟩ := hp
    refine ⟨hB, v, (hb.block b (Array.getElem?_eq_some_iff.1 hbk).1).trans hbk, hown.kept (row := none) ⟨hb.os, hb.tape, hb.output, hb.size, fun k hk _ => hb.block k hk⟩ (by cases v.ownBlock <;> simp), hne⟩
  rcases h with h | h
  · exact Or.inl (one h)
  · exact Or.inr (one h)
theorem wrote_below {w w' : World} {B b : Nat} {l : List UInt8} (h : Bld w B b l) (hB : B ≤ w.heap.size) (hb : Below w.heap.size w w') : Wrote w w' B b l := ⟨h.below hb, hb.mono hB, fun k _ hk _ _ => (hb.block k (Array.getElem?_eq_some_iff.1 hk).1).trans hk⟩
theorem below_of_grow {w w' : World} (h : ∃ k os, w' = Sort.grow (w.drewN k) os) : Below w.heap.size w w' := by
  obtain ⟨k, os, rfl⟩ := h
  exact below_grow w k os
set_option maxRecDepth 10000 in
set_option maxHeartbeats 1600000 in
/-- The closure that writes a number. -/
theorem num_any (B b : Nat) (l : List UInt8) (n : Int) (w : World) (hX : LibX w) (h : Bld w B b l) (h0 : 0 ≤ n) (h1 : n ≤ 1099511627776) (hl : l.length ≤ 900000) (hB0 : B ≤ w.heap.size) :
    Calls Tryz.prog 47 #[.int .i64 n, .pointer (some ⟨b, 0, none⟩)] w fun e w' => e = .returned (.tuple #[]) ∧ Wrote w w' B b (l ++ wrN n) := by
  have HIT : Hid (Calls Tryz.prog 49 #[.int .i64 n] w fun e w' => e = .returned (.string (ofL (Lib.itoa n))) ∧ ∃ k os, w' = Sort.grow (w.drewN k) os) := Tryz.strconv_Itoa n (by omega) (by omega) w hX.tab
  have hlen := wrN_len h0 h1
  have hle : (Lib.itoa n).length ≤ 15 := by unfold wrN at hlen; rw [List.length_append] at hlen; omega
  have HWS : Hid (∀ W, Bld W B b l → B ≤ W.heap.size → Calls Tryz.prog 48 #[.pointer (some ⟨b, 0, none⟩), .string (ofL (Lib.itoa n))] W fun e w' => e = .returned (.tuple #[.int .i64 ((ofL (Lib.itoa n)).size : Int), .nilIface]) ∧ Wrote W w' B b (l ++ Lib.itoa n)) := fun W hW hBW => by
    have := wstr_any B b l (ofL (Lib.itoa n)) W hW (by rw [ofL_size]; omega) hBW
    rw [ofL_data] at this
    exact this
  have HWB : Hid (∀ W, Bld W B b (l ++ Lib.itoa n) → B ≤ W.heap.size → Calls Tryz.prog 50 #[.pointer (some ⟨b, 0, none⟩), .int .u8 58] W fun e w' => e = .returned .nilIface ∧ Wrote W w' B b (l ++ wrN n)) := fun W hW hBW => by
    have := wbyte_any B b (l ++ Lib.itoa n) 58 W hW (by rw [List.length_append]; omega) hBW
    rw [List.append_assoc] at this
    exact this
  have HB : Hid (Bld w B b l) := h
  clear h hX hlen hle
  generalize ofL (Lib.itoa n) = t at *
  go_enter Tryz.func47, Tryz.ntmps47
  go_wp2_with fail
  refine HIT.out.mono ?_
  rintro e w1 ⟨rfl, hw1⟩
  have hb1 := below_of_grow hw1
  have HW1 : Hid (Wrote w w1 B b l) := wrote_below HB.out hB0 hb1
  have hB1 : B ≤ w1.heap.size := Nat.le_trans hB0 hb1.size
  clear hw1 hb1 HIT
  go_wp2_with fail
  refine (HWS.out w1 HW1.out.bld hB1).mono ?_
  rintro e w2 ⟨rfl, hW2⟩
  have HW2 : Hid (Wrote w w2 B b (l ++ Lib.itoa n)) := HW1.out.trans hW2
  have hB2 : B ≤ w2.heap.size := Nat.le_trans hB1 hW2.low.size
  clear hW2 HW1 HWS
  go_wp2_with fail
  refine (HWB.out w2 HW2.out.bld hB2).mono ?_
  rintro e w3 ⟨rfl, hW3⟩
  have HW3 : Hid (Wrote w w3 B b (l ++ wrN n)) := HW2.out.trans hW3
  clear hW3 HW2 HWB
  go_wp2
  go_end0
  exact ⟨rfl, HW3.out⟩
/-- The closure's own value. -/
def numV (b : Nat) : Value := .func (.func 47) #[] #[.pointer (some ⟨b, 0, none⟩)]
set_option maxRecDepth 10000 in
set_option maxHeartbeats 1600000 in
/-- The closure that writes a text. -/
theorem text_any (B b nb : Nat) (l : List UInt8) (s : ByteArray) (w : World) (hX : LibX w) (h : Bld w B b l) (q : w.cell? ⟨nb, 0, none⟩ = some (numV b)) (hs : s.size ≤ 1000) (hl : l.length ≤ 800000) (hB0 : B ≤ w.heap.size) :
    Calls Tryz.prog 51 #[.string s, .pointer (some ⟨nb, 0, none⟩), .pointer (some ⟨b, 0, none⟩)] w fun e w' => e = .returned (.tuple #[]) ∧ Wrote w w' B b (l ++ wrT s) := by
  have HN : Hid (Calls Tryz.prog 47 #[.int .i64 (s.size : Int), .pointer (some ⟨b, 0, none⟩)] w fun e w' => e = .returned (.tuple #[]) ∧ Wrote w w' B b (l ++ wrN (s.size : Int))) := num_any B b l (s.size : Int) w hX h (by omega) (by omega) (by omega) hB0
  have hlen := wrN_len (n := (s.size : Int)) (by omega) (by omega)
  have HWS : Hid (∀ W, Bld W B b (l ++ wrN (s.size : Int)) → B ≤ W.heap.size → Calls Tryz.prog 48 #[.pointer (some ⟨b, 0, none⟩), .string s] W fun e w' => e = .returned (.tuple #[.int .i64 (s.size : Int), .nilIface]) ∧ Wrote W w' B b (l ++ wrT s)) := fun W hW hBW => by
    have := wstr_any B b (l ++ wrN (s.size : Int)) s W hW (by rw [List.length_append]; omega) hBW
    rw [List.append_assoc] at this
    exact this
  unfold numV at q
  clear h hX hlen
  go_enter Tryz.func51, Tryz.ntmps51
  go_wp2_with fail
  refine HN.out.mono ?_
  rintro e w1 ⟨rfl, hW1⟩
  have HW1 : Hid (Wrote w w1 B b (l ++ wrN (s.size : Int))) := hW1
  have hB1 : B ≤ w1.heap.size := Nat.le_trans hB0 hW1.low.size
  clear hW1 HN
  go_wp2_with fail
  refine (HWS.out w1 HW1.out.bld hB1).mono ?_
  rintro e w2 ⟨rfl, hW2⟩
  have HW2 : Hid (Wrote w w2 B b (l ++ wrT s)) := HW1.out.trans hW2
  clear hW2 HW1 HWS
  go_wp2
  go_end0
  exact ⟨rfl, HW2.out⟩
end Go.Proofs.YtoapbjifkjehhaaGreatDoor
/- Package hold: written. -/
namespace Go.Proofs.YtoapbjifkjehhaaGreatDoor
open Go.RowKit
variable {h : Nat} {S : Nat → Prop} {L : List Kep} {m : Option Nat} {D : DataW Value} {row : ByteArray → Value} {blk : ByteArray → Nat}
/-- While it is written: the builder at block B, behind it the closure's own cell. -/
structure WSt (w : World) (B : Nat) (W : World) (l : List UInt8) : Prop where
  bld : Bld W B B l
  low : Below B w W
  box : W.heap[B + 1]? = some (.cells #[numV B] 97 (0, 0))
  size : B + 2 ≤ W.heap.size
theorem Wrote.keep {w w' : World} {B b : Nat} {l : List UInt8} (hw : Wrote w w' B b l) {k : Nat} {cs : Array Value} {t : TypeId} (hk : w.heap[k]? = some (.cells cs t (0, 0))) (hkb : k ≠ b) (ht : t ≠ 5) : w'.heap[k]? = some (.cells cs t (0, 0)) :=
  hw.rest k _ hk (fun e => hkb (Option.some.inj e)) (fun c fz e => by injection e with _ e2 _; exact ht e2)
theorem WSt.wrote {w W W' : World} {B : Nat} {l l' : List UInt8} (h : WSt w B W l) (hw : Wrote W W' B B l') : WSt w B W' l' := ⟨hw.bld, h.low.trans hw.low, hw.keep h.box (by omega) (by decide), Nat.le_trans h.size hw.low.size⟩
theorem WSt.below {w W W' : World} {B : Nat} {l : List UInt8} (h : WSt w B W l) (hb : Below W.heap.size W W') : WSt w B W' l := h.wrote (wrote_below h.bld (by have := h.size; omega) hb)
theorem WSt.cell {w W : World} {B : Nat} {l : List UInt8} (h : WSt w B W l) : W.cell? ⟨B + 1, 0, none⟩ = some (numV B) := by simp [World.cell?, h.box]
theorem OwnT.wrote {w w' : World} {B b Bk : Nat} {l : List UInt8} {v : Value} {K : List ByteArray} (h : OwnT w Bk v K) (hw : Wrote w w' B b l) (hb : b < Bk) : OwnT w' Bk v K := by
  obtain ⟨h1, h2⟩ := h
  refine ⟨h1, ?_⟩
  rcases h2 with h2 | ⟨g, cap, cur, hv, hbg, hg, hrest⟩
  · exact Or.inl h2
  · exact Or.inr ⟨g, cap, cur, hv, hbg, hw.keep hg (by omega) (by decide), hrest⟩
theorem ver_block {W : World} {vb : Nat} {a b c d : Int} {t : ByteArray} (h : W.heap[vb]? = some (.cells #[.int .i64 a, .int .i64 b, .int .i64 c, .int .i64 d, .string t] 49 (0, 0))) : W.cell? ⟨vb, 0, none⟩ = some (.int .i64 a) ∧ W.cell? ⟨vb, 1, none⟩ = some (.int .i64 b) ∧ W.cell? ⟨vb, 2, none⟩ = some (.int .i64 c) ∧ W.cell? ⟨vb, 3, none⟩ = some (.int .i64 d) ∧ W.cell? ⟨vb, 4, none⟩ = some (.string t) := ⟨by simp [World.cell?, h], by simp [World.cell?, h], by simp [World.cell?, h], by simp [World.cell?, h], by simp [World.cell?, h]⟩
/-- The closure's own cell is written. -/
theorem run_box (w : World) : Sem.run Tryz.prog (store ⟨w.heap.size + 1, 0, none⟩ (.func (.func 47) #[] #[.pointer (some ⟨w.heap.size, 0, none⟩)])) ((w.alloc (.cells #[.pointer none, .slice none 0 0] 93)).alloc (.cells #[.nilFunc] 97)) = .ok () ((w.alloc (.cells #[.pointer none, .slice none 0 0] 93)).alloc (.cells #[.func (.func 47) #[] #[.pointer (some ⟨w.heap.size, 0, none⟩)]] 97)) := by
  have e2 : w.heap.size + 1 = (w.alloc (.cells #[.pointer none, .slice none 0 0] 93)).heap.size := by simp
  have hn := heap_alloc_new (w.alloc (.cells #[.pointer none, .slice none 0 0] 93)) (.cells #[.nilFunc] 97)
  rw [e2, run_store _ _ _ _ _ rfl]
  have hc : ((w.alloc (.cells #[.pointer none, .slice none 0 0] 93)).alloc (.cells #[.nilFunc] 97)).cell? ⟨(w.alloc (.cells #[.pointer none, .slice none 0 0] 93)).heap.size, 0, none⟩ = some .nilFunc := by rw [World.cell?_alloc_at _ _ _ _ rfl]; rfl
  have hf : ((w.alloc (.cells #[.pointer none, .slice none 0 0] 93)).alloc (.cells #[.nilFunc] 97)).frozen? ⟨(w.alloc (.cells #[.pointer none, .slice none 0 0] 93)).heap.size, 0, none⟩ = false := by unfold World.frozen?; rw [hn]; rfl
  rw [hc]
  simp only [hf, Bool.false_eq_true, if_false]
  rw [World.setCell_alloc_new]
  rfl
set_option maxRecDepth 10000 in
set_option maxHeartbeats 4000000 in
theorem written_open {w0 w : World} (hX : LibX w0) (hw0 : Below w0.heap.size w0 w) (hd : HdAt w h S L false m D row blk) :
    Calls Tryz.prog 22 #[.pointer (some ⟨h, 0, none⟩)] w fun e w' => e = .returned (.string (ofL (wrote L false))) ∧ Below w.heap.size w w' := by
  have hG : GoodL L := ⟨hd.sorted, hd.few, hd.fits⟩
  obtain ⟨B, hB⟩ : ∃ B, B = w.heap.size := ⟨_, rfl⟩
  obtain ⟨w2, hw2⟩ : ∃ w2, w2 = (w.alloc (.cells #[.pointer none, .slice none 0 0] 93)).alloc (.cells #[numV w.heap.size] 97) := ⟨_, rfl⟩
  have HW2 : Hid (w2 = (w.alloc (.cells #[.pointer none, .slice none 0 0] 93)).alloc (.cells #[numV w.heap.size] 97)) := hw2
  have hb2 : Below w.heap.size w w2 := by rw [hw2]; exact ((Below.refl _ _).alloc (Nat.le_refl _) _).alloc (by simp) _
  have hst2 : WSt w w.heap.size w2 [] := by
    rw [hw2]
    have e1 : (w.alloc (.cells #[.pointer none, .slice none 0 0] 93)).heap[w.heap.size]? = some (.cells #[.pointer none, .slice none 0 0] 93 (0, 0)) := heap_alloc_new w _
    have e2 : (w.alloc (.cells #[.pointer none, .slice none 0 0] 93)).heap.size = w.heap.size + 1 := by simp
    refine ⟨Or.inl ⟨Nat.le_refl _, .slice none 0 0, ?_, World.ownsRowF_nil _ _ _ _, by simp [Value.ownBlock]⟩, ((Below.refl _ _).alloc (Nat.le_refl _) _).alloc (by simp) _, ?_, by simp⟩
    · rw [heap_alloc_old _ _ (by rw [e2]; omega)]
      exact e1
    · rw [← e2]
      exact heap_alloc_new _ _
  have HLX : Hid (∀ W l, WSt w w.heap.size W l → LibX W) := fun W l hW => hX.below (hw0.trans (hW.low.mono hw0.size))
  have HD : Hid (∀ W l, WSt w w.heap.size W l → HdAt W h S L false m D row blk) := fun W l hW => hd.below hW.low
  have HSE : Hid (Calls Tryz.prog 12 #[.pointer (some ⟨h, 0, none⟩)] w2 fun e w' => e = .returned (.bool false) ∧ w' = w2) := sealed_any (hd.below hb2)
  have HST : Hid (WSt w w.heap.size w2 []) := hst2
  have HNM : Hid (∀ W l n, WSt w w.heap.size W l → 0 ≤ n → n ≤ 1099511627776 → l.length ≤ 900000 → Calls Tryz.prog 47 #[.int .i64 n, .pointer (some ⟨w.heap.size, 0, none⟩)] W fun e w' => e = .returned (.tuple #[]) ∧ Wrote W w' w.heap.size w.heap.size (l ++ wrN n)) := fun W l n hW h0 h1 hl => num_any _ _ l n W (HLX.out W l hW) hW.bld h0 h1 hl (by have := hW.size; omega)
  have HTX : Hid (∀ W l (s : ByteArray), WSt w w.heap.size W l → s.size ≤ 1000 → l.length ≤ 800000 → Calls Tryz.prog 51 #[.string s, .pointer (some ⟨w.heap.size + 1, 0, none⟩), .pointer (some ⟨w.heap.size, 0, none⟩)] W fun e w' => e = .returned (.tuple #[]) ∧ Wrote W w' w.heap.size w.heap.size (l ++ wrT s)) := fun W l s hW hs hl => text_any _ _ _ l s W (HLX.out W l hW) hW.bld hW.cell hs hl (by have := hW.size; omega)
  have HKY : Hid (∀ W l, WSt w w.heap.size W l → Calls Tryz.prog 34 #[.pointer (some ⟨h, 0, none⟩)] W fun e w' => (∃ v, e = .returned v ∧ OwnT w' (W.heap.size + 1) v (keysL L)) ∧ Below W.heap.size W w') := fun W l hW => keysO_any (HD.out W l hW)
  have HG : Hid (GoodL L) := hG
  have HKL : Hid ((keysL L).length ≤ 60) := Nat.le_trans (keysL_le L) hd.few
  have hq2 := hst2.cell
  have hr2 := HNM.out w2 [] 0 hst2 (by decide) (by decide) (by simp)
  rw [List.nil_append] at hr2
  have HN0 : Hid (Calls Tryz.prog 47 #[.int .i64 0, .pointer (some ⟨w.heap.size, 0, none⟩)] w2 fun e w' => e = .returned (.tuple #[]) ∧ Wrote w2 w' w.heap.size w.heap.size (wrN 0)) := hr2
  unfold numV at hq2
  clear hd hw2 hb2 hst2 hX hw0 hG hr2 hB B
  have hrs := run_box w
  go_enter Tryz.func22, Tryz.ntmps22
  go_wp2_with fail
  rw [show (w.alloc (.cells #[.pointer none, .slice none 0 0] 93)).alloc (.cells #[.func (.func 47) #[] #[.pointer (some ⟨w.heap.size, 0, none⟩)]] 97) = w2 from HW2.out.symm]
  refine HSE.out.mono ?_
  rintro e w1 ⟨rfl, hw1⟩
  rw [hw1]
  clear hw1 w1 HSE HW2 hrs
  go_wp2_with fail
  refine HN0.out.mono ?_
  rintro e w3 ⟨rfl, hW3⟩
  have hst3 := HST.out.wrote hW3
  have HST3 : Hid (WSt w w.heap.size w3 (wrN 0)) := hst3
  clear hW3 HN0 HST hst3 hq2
  go_wp2_with fail
  refine (HKY.out w3 _ HST3.out).mono ?_
  rintro e w4 ⟨⟨kv, rfl, hO4⟩, hb4⟩
  obtain ⟨Bk, hBk⟩ : ∃ Bk, Bk = w3.heap.size + 1 := ⟨_, rfl⟩
  rw [← hBk] at hO4
  have HBk : Hid (w.heap.size < Bk) := by show _ < _; have := HST3.out.size; omega
  have HST4 : Hid (WSt w w.heap.size w4 (wrN 0)) := HST3.out.below hb4
  have HO4 : Hid (OwnT w4 Bk kv (keysL L)) := hO4
  obtain ⟨kp, kc, hkv, _, _, _, _⟩ := hO4.form
  clear hb4 hO4 HKY HST3 hBk
  subst hkv
  have HEMP : Hid (wrN 0 = wrN 0 ++ wrL (byKey ((keysL L).take 0) L)) := by show _ = _; simp [byKey, wrL]
  have HEND : Hid (wrN 0 ++ wrL (byKey ((keysL L).take (keysL L).length) L) = wrote L false) := by show _ = _; rw [List.take_length, (keysOk L HG.out.sorted).all]; rfl
  have HSG : Hid (∀ W l, WSt w w.heap.size W l → Calls Tryz.prog 52 #[.pointer (some ⟨w.heap.size, 0, none⟩)] W fun e w' => e = .returned (.string (ofL l)) ∧ Below w.heap.size W w') := fun W l hW => (Tryz.Builder_String _ _ l W hW.bld (by have := hW.size; omega)).mono fun e w' hp => ⟨hp.1, hp.2.2.1⟩
  generalize hKK : keysL L = K at *
  go_wp2
  go_loopw [21] (fun x wr => ∃ i : Nat, i ≤ K.length ∧ x = .int .i64 i ∧ WSt w w.heap.size wr (wrN 0 ++ wrL (byKey (K.take i) L)) ∧ OwnT wr Bk (.slice kp K.length kc) K) (fun x _ => K.length - (intOf x).toNat)
  case atStart => exact ⟨0, Nat.zero_le _, rfl, by rw [← HEMP.out]; exact HST4.out, HO4.out⟩
  case round =>
    obtain ⟨i, hi, rfl, hst, hO⟩ := hrel
    obtain ⟨w5, rfl⟩ : ∃ w5, w5 = wr := ⟨_, rfl⟩
    have HST5 : Hid (WSt w w.heap.size w5 (wrN 0 ++ wrL (byKey (K.take i) L))) := hst
    have HO5 : Hid (OwnT w5 Bk (.slice kp K.length kc) K) := hO
    have hkl := HKL.out
    clear hst hO HST4 HO4 HEMP
    by_cases hil : i < K.length
    · obtain ⟨p', c', hv', hs', _, _, _⟩ := HO5.out.form
      obtain ⟨rfl, _, rfl⟩ := Value.slice.inj hv'
      have q0 : ∃ kb ko, kp = some ⟨kb, ko, none⟩ ∧ w5.cell? ⟨kb, ko + i, none⟩ = some (.string (txt K i)) := by
        rcases hs' with h0 | ⟨kb, ko, hp, _, hc⟩
        · rw [h0] at hil; exact absurd hil (Nat.not_lt_zero _)
        · exact ⟨kb, ko, hp, hc i hil⟩
      obtain ⟨kb, ko, rfl, q0⟩ := q0
      clear hv' hs'
      have hkm : txt K i ∈ keysL L := by rw [hKK]; exact List.mem_of_getElem? (by rw [List.getElem?_eq_getElem hil, txt_getElem K i hil])
      have hks : (txt K i).size ≤ 16 := keysL_size HG.out.sorted HG.out.fits hkm
      have HOF : Hid (Calls Tryz.prog 38 #[.pointer (some ⟨h, 0, none⟩), .string (txt K i)] w5 fun e w' => e = .returned (row (txt K i)) ∧ w' = w5) := of_any (HD.out w5 _ HST5.out) (txt K i) (by unfold maxLen; omega)
      obtain ⟨p, c, hrow, hrec, _, _, hpb⟩ := (HD.out w5 _ HST5.out).form (txt K i)
      have HROW : Hid (∀ W l, WSt w w.heap.size W l → Rec verE W p (getL L (txt K i))) := fun W l hW => by
        obtain ⟨p2, c2, hrow2, hrec2, _, _, _⟩ := (HD.out W l hW).form (txt K i)
        rw [hrow] at hrow2
        obtain ⟨rfl, _, _⟩ := Value.slice.inj hrow2
        exact hrec2
      rw [hrow] at HOF
      have hgl : (getL L (txt K i)).length ≤ 60 := Nat.le_trans (getL_le _ _) HG.out.few
      have HFT : Hid (∀ j, j < (getL L (txt K i)).length → verOk (verAt (getL L (txt K i)) j) = true) := fun j hj => getL_fits HG.out.fits hj
      have HU0 : Hid (byKey (K.take i) L = upTo L i 0) := by show _ = _; rw [upTo_zero, hKK]
      have HUN : Hid (upTo L i (getL L (txt K i)).length = byKey (K.take (i + 1)) L) := by show _ = _; rw [← hKK]; exact upTo_next (by rw [hKK]; exact hil)
      have HUS : Hid (∀ j, j < (getL L (txt K i)).length → upTo L i (j + 1) = upTo L i j ++ [(txt K i, verAt (getL L (txt K i)) j)]) := fun j hj => by
        have := upTo_succ (L := L) (i := i) (j := j) (by rw [hKK]; exact hj)
        rw [hKK] at this
        exact this
      have HUL : Hid (∀ j, (wrN 0 ++ wrL (upTo L i j)).length ≤ 130000) := fun j => upTo_len HG.out (by rw [hKK]; exact hil) false
      have HKS : Hid (txt K i ∈ keysL L) := hkm
      clear hrow hrec hpb hkm
      generalize hkey : txt K i = key at *
      generalize hlv : getL L key = lv at *
      go_wp2_with fail
      refine HOF.out.mono ?_
      rintro e w6 ⟨rfl, hw6⟩
      rw [hw6]
      clear hw6 w6 HOF q0
      go_wp2
      go_loopw [29] (fun x wr => ∃ j : Nat, j ≤ lv.length ∧ x = .int .i64 j ∧ WSt w w.heap.size wr (wrN 0 ++ wrL (upTo L i j)) ∧ OwnT wr Bk (.slice (some ⟨kb, ko, none⟩) K.length kc) K) (fun x _ => lv.length - (intOf x).toNat)
      case atStart => exact ⟨0, Nat.zero_le _, rfl, by rw [← HU0.out]; exact HST5.out, HO5.out⟩
      case round =>
        obtain ⟨j, hj, rfl, hst, hO⟩ := hrel
        obtain ⟨w7, rfl⟩ : ∃ w7, w7 = wr := ⟨_, rfl⟩
        have HST7 : Hid (WSt w w.heap.size w7 (wrN 0 ++ wrL (upTo L i j))) := hst
        have HO7 : Hid (OwnT w7 Bk (.slice (some ⟨kb, ko, none⟩) K.length kc) K) := hO
        clear hst hO HST5 HO5 HU0
        by_cases hjl : j < lv.length
        · obtain ⟨b, o, hpp, hblt, c0, c1, c2, c3, c4⟩ := ver_cells (HROW.out w7 _ HST7.out) hjl
          subst hpp
          have hok := HFT.out j hjl
          have hsu := HUS.out j hjl
          have hll := HUL.out j
          have hll2 := HUL.out (j + 1)
          rw [hsu, wrL_append, wrL_one] at hll2
          have HSU : Hid (wrN 0 ++ wrL (upTo L i (j + 1)) = (wrN 0 ++ wrL (upTo L i j)) ++ wrK (key, verAt lv j)) := by show _ = _; rw [hsu, wrL_append, wrL_one, List.append_assoc]
          generalize verAt lv j = x at *
          obtain ⟨xn, xw, xs, xa, xt⟩ := x
          have hok2 := hok
          unfold verOk tagB at hok2
          simp only [Bool.and_eq_true, decide_eq_true_eq] at hok2
          generalize hT : wrN 0 ++ wrL (upTo L i j) = T at *
          have HWK : Hid (T ++ wrK (key, ⟨xn, xw, xs, xa, xt⟩) = T ++ wrT key ++ wrN xn ++ wrN xw ++ wrN xs ++ wrN xa ++ wrT xt) := by show _ = _; simp [wrK, List.append_assoc]
          have hlk : (T ++ wrT key ++ wrN xn ++ wrN xw ++ wrN xs ++ wrN xa ++ wrT xt).length ≤ 130000 := by
            rw [← HWK.out, ← hT, ← List.append_assoc] at *
            exact hll2
          simp only [List.length_append] at hlk
          obtain ⟨w8, hw8⟩ : ∃ w8, w8 = w7.alloc (.cells #[.int .i64 xn, .int .i64 xw, .int .i64 xs, .int .i64 xa, .string xt] 49) := ⟨_, rfl⟩
          have HW8 : Hid (w8 = w7.alloc (.cells #[.int .i64 xn, .int .i64 xw, .int .i64 xs, .int .i64 xa, .string xt] 49)) := hw8
          have HV8 : Hid (w8.heap[w7.heap.size]? = some (.cells #[.int .i64 xn, .int .i64 xw, .int .i64 xs, .int .i64 xa, .string xt] 49 (0, 0))) := by rw [hw8]; exact heap_alloc_new _ _
          have hal : Below w7.heap.size w7 w8 := by rw [hw8]; exact (Below.refl _ w7).alloc (Nat.le_refl _) _
          have HST8 : Hid (WSt w w.heap.size w8 T) := HST7.out.below hal
          have HO8 : Hid (OwnT w8 Bk (.slice (some ⟨kb, ko, none⟩) K.length kc) K) := HO7.out.kept hal
          have hvb : w7.heap.size ≠ w.heap.size := by have := HST7.out.size; omega
          have HC8 : Hid (Calls Tryz.prog 51 #[.string key, .pointer (some ⟨w.heap.size + 1, 0, none⟩), .pointer (some ⟨w.heap.size, 0, none⟩)] w8 fun e w' => e = .returned (.tuple #[]) ∧ Wrote w8 w' w.heap.size w.heap.size (T ++ wrT key)) := HTX.out w8 T key HST8.out (by omega) (by omega)
          have HLK : Hid (T.length + (wrT key).length + (wrN xn).length + (wrN xw).length + (wrN xs).length + (wrN xa).length + (wrT xt).length ≤ 130000) := hlk
          have HOK : Hid (((0 ≤ xn ∧ xn ≤ 1099511627776) ∧ 0 ≤ xw ∧ xw ≤ 1099511627776) ∧ 0 ≤ xs ∧ xs ≤ 1000 ∧ 0 ≤ xa ∧ xa < 12 ∧ xt.size ≤ 1000) := by
            refine ⟨⟨⟨by omega, by omega⟩, by omega, by omega⟩, by omega, by omega, by omega, by omega, by omega⟩
          clear hw8 hal HST7 HO7 hlk hok hok2 hll hll2 hsu hT
          go_wp2_with fail
          rw [← HW8.out]
          clear HW8 c0 c1 c2 c3 c4
          refine HC8.out.mono ?_
          rintro e w9 ⟨rfl, hW9⟩
          have hst9 := HST8.out.wrote hW9
          have HST9 : Hid (WSt w w.heap.size w9 (T ++ wrT key)) := hst9
          have HV9 : Hid (w9.heap[w7.heap.size]? = some (.cells #[.int .i64 xn, .int .i64 xw, .int .i64 xs, .int .i64 xa, .string xt] 49 (0, 0))) := hW9.keep HV8.out hvb (by decide)
          have HO9 : Hid (OwnT w9 Bk (.slice (some ⟨kb, ko, none⟩) K.length kc) K) := HO8.out.wrote hW9 HBk.out
          have q9 := hst9.cell
          unfold numV at q9
          obtain ⟨r0, r1, r2, r3, r4⟩ := ver_block HV9.out
          have HC9 : Hid (Calls Tryz.prog 47 #[.int .i64 xn, .pointer (some ⟨w.heap.size, 0, none⟩)] w9 fun e w' => e = .returned (.tuple #[]) ∧ Wrote w9 w' w.heap.size w.heap.size (T ++ wrT key ++ wrN xn)) := HNM.out w9 _ xn hst9 (by have := HOK.out; omega) (by have := HOK.out; omega) (by have := HLK.out; simp only [List.length_append]; omega)
          clear hst9 hW9 HC8 HV8 HO8 HST8
          go_wp2_with fail
          clear q9 r0 r1 r2 r3 r4
          refine HC9.out.mono ?_
          rintro e w10 ⟨rfl, hW10⟩
          have hst10 := HST9.out.wrote hW10
          have HST10 : Hid (WSt w w.heap.size w10 (T ++ wrT key ++ wrN xn)) := hst10
          have HV10 : Hid (w10.heap[w7.heap.size]? = some (.cells #[.int .i64 xn, .int .i64 xw, .int .i64 xs, .int .i64 xa, .string xt] 49 (0, 0))) := hW10.keep HV9.out hvb (by decide)
          have HO10 : Hid (OwnT w10 Bk (.slice (some ⟨kb, ko, none⟩) K.length kc) K) := HO9.out.wrote hW10 HBk.out
          have q9 := hst10.cell
          unfold numV at q9
          obtain ⟨r0, r1, r2, r3, r4⟩ := ver_block HV10.out
          have HC10 : Hid (Calls Tryz.prog 47 #[.int .i64 xw, .pointer (some ⟨w.heap.size, 0, none⟩)] w10 fun e w' => e = .returned (.tuple #[]) ∧ Wrote w10 w' w.heap.size w.heap.size (T ++ wrT key ++ wrN xn ++ wrN xw)) := HNM.out w10 _ xw hst10 (by have := HOK.out; omega) (by have := HOK.out; omega) (by have := HLK.out; simp only [List.length_append]; omega)
          clear hst10 hW10 HC9 HV9 HO9 HST9
          go_wp2_with fail
          clear q9 r0 r1 r2 r3 r4
          refine HC10.out.mono ?_
          rintro e w11 ⟨rfl, hW11⟩
          have hst11 := HST10.out.wrote hW11
          have HST11 : Hid (WSt w w.heap.size w11 (T ++ wrT key ++ wrN xn ++ wrN xw)) := hst11
          have HV11 : Hid (w11.heap[w7.heap.size]? = some (.cells #[.int .i64 xn, .int .i64 xw, .int .i64 xs, .int .i64 xa, .string xt] 49 (0, 0))) := hW11.keep HV10.out hvb (by decide)
          have HO11 : Hid (OwnT w11 Bk (.slice (some ⟨kb, ko, none⟩) K.length kc) K) := HO10.out.wrote hW11 HBk.out
          have q9 := hst11.cell
          unfold numV at q9
          obtain ⟨r0, r1, r2, r3, r4⟩ := ver_block HV11.out
          have HC11 : Hid (Calls Tryz.prog 47 #[.int .i64 xs, .pointer (some ⟨w.heap.size, 0, none⟩)] w11 fun e w' => e = .returned (.tuple #[]) ∧ Wrote w11 w' w.heap.size w.heap.size (T ++ wrT key ++ wrN xn ++ wrN xw ++ wrN xs)) := HNM.out w11 _ xs hst11 (by have := HOK.out; omega) (by have := HOK.out; omega) (by have := HLK.out; simp only [List.length_append]; omega)
          clear hst11 hW11 HC10 HV10 HO10 HST10
          go_wp2_with fail
          clear q9 r0 r1 r2 r3 r4
          refine HC11.out.mono ?_
          rintro e w12 ⟨rfl, hW12⟩
          have hst12 := HST11.out.wrote hW12
          have HST12 : Hid (WSt w w.heap.size w12 (T ++ wrT key ++ wrN xn ++ wrN xw ++ wrN xs)) := hst12
          have HV12 : Hid (w12.heap[w7.heap.size]? = some (.cells #[.int .i64 xn, .int .i64 xw, .int .i64 xs, .int .i64 xa, .string xt] 49 (0, 0))) := hW12.keep HV11.out hvb (by decide)
          have HO12 : Hid (OwnT w12 Bk (.slice (some ⟨kb, ko, none⟩) K.length kc) K) := HO11.out.wrote hW12 HBk.out
          have q9 := hst12.cell
          unfold numV at q9
          obtain ⟨r0, r1, r2, r3, r4⟩ := ver_block HV12.out
          have HC12 : Hid (Calls Tryz.prog 47 #[.int .i64 xa, .pointer (some ⟨w.heap.size, 0, none⟩)] w12 fun e w' => e = .returned (.tuple #[]) ∧ Wrote w12 w' w.heap.size w.heap.size (T ++ wrT key ++ wrN xn ++ wrN xw ++ wrN xs ++ wrN xa)) := HNM.out w12 _ xa hst12 (by have := HOK.out; omega) (by have := HOK.out; omega) (by have := HLK.out; simp only [List.length_append]; omega)
          clear hst12 hW12 HC11 HV11 HO11 HST11
          go_wp2_with fail
          clear q9 r0 r1 r2 r3 r4
          refine HC12.out.mono ?_
          rintro e w13 ⟨rfl, hW13⟩
          have hst13 := HST12.out.wrote hW13
          have HST13 : Hid (WSt w w.heap.size w13 (T ++ wrT key ++ wrN xn ++ wrN xw ++ wrN xs ++ wrN xa)) := hst13
          have HV13 : Hid (w13.heap[w7.heap.size]? = some (.cells #[.int .i64 xn, .int .i64 xw, .int .i64 xs, .int .i64 xa, .string xt] 49 (0, 0))) := hW13.keep HV12.out hvb (by decide)
          have HO13 : Hid (OwnT w13 Bk (.slice (some ⟨kb, ko, none⟩) K.length kc) K) := HO12.out.wrote hW13 HBk.out
          have q9 := hst13.cell
          unfold numV at q9
          obtain ⟨r0, r1, r2, r3, r4⟩ := ver_block HV13.out
          have HC13 : Hid (Calls Tryz.prog 51 #[.string xt, .pointer (some ⟨w.heap.size + 1, 0, none⟩), .pointer (some ⟨w.heap.size, 0, none⟩)] w13 fun e w' => e = .returned (.tuple #[]) ∧ Wrote w13 w' w.heap.size w.heap.size (T ++ wrT key ++ wrN xn ++ wrN xw ++ wrN xs ++ wrN xa ++ wrT xt)) := HTX.out w13 _ xt hst13 (by have := HOK.out; omega) (by have := HLK.out; simp only [List.length_append]; omega)
          clear hst13 hW13 HC12 HV12 HO12 HST12
          go_wp2_with fail
          clear q9 r0 r1 r2 r3 r4
          refine HC13.out.mono ?_
          rintro e w14 ⟨rfl, hW14⟩
          have HST14 : Hid (WSt w w.heap.size w14 (T ++ wrT key ++ wrN xn ++ wrN xw ++ wrN xs ++ wrN xa ++ wrT xt)) := HST13.out.wrote hW14
          have HO14 : Hid (OwnT w14 Bk (.slice (some ⟨kb, ko, none⟩) K.length kc) K) := HO13.out.wrote hW14 HBk.out
          clear hW14 HC13 HV13 HO13 HST13
          go_wp2
          go_roundw
          case rel => exact ⟨j + 1, by omega, by go_num, by rw [HSU.out, HWK.out]; exact HST14.out, HO14.out⟩
          case measure => simp [intOf]; omega
        · have hje : j = lv.length := by omega
          subst hje
          go_wp2
          go_roundw
          case rel => exact ⟨i + 1, by omega, by go_num, by rw [← HUN.out]; exact HST7.out, HO7.out⟩
          case measure => simp [intOf]; omega
    · have hie : i = K.length := by omega
      subst hie
      have HSS : Hid (Calls Tryz.prog 52 #[.pointer (some ⟨w.heap.size, 0, none⟩)] w5 fun e w' => e = .returned (.string (ofL (wrN 0 ++ wrL (byKey (K.take K.length) L)))) ∧ Below w.heap.size w5 w') := HSG.out w5 _ HST5.out
      rw [HEND.out] at HSS
      have HLW : Hid (Below w.heap.size w w5) := HST5.out.low
      clear HST5 HO5 HSG
      obtain ⟨R, hR⟩ : ∃ R, R = ofL (wrote L false) := ⟨_, rfl⟩
      rw [← hR] at HSS
      have HR : Hid (R = ofL (wrote L false)) := hR
      clear hR
      go_wp2_with fail
      refine HSS.out.mono ?_
      rintro e w6 ⟨rfl, hb6⟩
      have HB6 : Hid (Below w.heap.size w w6) := HLW.out.trans hb6
      clear hb6 HSS
      go_wp2
      go_ret
      exact ⟨by rw [← HR.out]; rfl, HB6.out⟩
set_option maxRecDepth 10000 in
set_option maxHeartbeats 4000000 in
theorem written_shut {w0 w : World} (hX : LibX w0) (hw0 : Below w0.heap.size w0 w) (hd : HdAt w h S L true m D row blk) :
    Calls Tryz.prog 22 #[.pointer (some ⟨h, 0, none⟩)] w fun e w' => e = .returned (.string (ofL (wrote L true))) ∧ Below w.heap.size w w' := by
  have hG : GoodL L := ⟨hd.sorted, hd.few, hd.fits⟩
  obtain ⟨B, hB⟩ : ∃ B, B = w.heap.size := ⟨_, rfl⟩
  obtain ⟨w2, hw2⟩ : ∃ w2, w2 = (w.alloc (.cells #[.pointer none, .slice none 0 0] 93)).alloc (.cells #[numV w.heap.size] 97) := ⟨_, rfl⟩
  have HW2 : Hid (w2 = (w.alloc (.cells #[.pointer none, .slice none 0 0] 93)).alloc (.cells #[numV w.heap.size] 97)) := hw2
  have hb2 : Below w.heap.size w w2 := by rw [hw2]; exact ((Below.refl _ _).alloc (Nat.le_refl _) _).alloc (by simp) _
  have hst2 : WSt w w.heap.size w2 [] := by
    rw [hw2]
    have e1 : (w.alloc (.cells #[.pointer none, .slice none 0 0] 93)).heap[w.heap.size]? = some (.cells #[.pointer none, .slice none 0 0] 93 (0, 0)) := heap_alloc_new w _
    have e2 : (w.alloc (.cells #[.pointer none, .slice none 0 0] 93)).heap.size = w.heap.size + 1 := by simp
    refine ⟨Or.inl ⟨Nat.le_refl _, .slice none 0 0, ?_, World.ownsRowF_nil _ _ _ _, by simp [Value.ownBlock]⟩, ((Below.refl _ _).alloc (Nat.le_refl _) _).alloc (by simp) _, ?_, by simp⟩
    · rw [heap_alloc_old _ _ (by rw [e2]; omega)]
      exact e1
    · rw [← e2]
      exact heap_alloc_new _ _
  have HLX : Hid (∀ W l, WSt w w.heap.size W l → LibX W) := fun W l hW => hX.below (hw0.trans (hW.low.mono hw0.size))
  have HD : Hid (∀ W l, WSt w w.heap.size W l → HdAt W h S L true m D row blk) := fun W l hW => hd.below hW.low
  have HSE : Hid (Calls Tryz.prog 12 #[.pointer (some ⟨h, 0, none⟩)] w2 fun e w' => e = .returned (.bool true) ∧ w' = w2) := sealed_any (hd.below hb2)
  have HST : Hid (WSt w w.heap.size w2 []) := hst2
  have HNM : Hid (∀ W l n, WSt w w.heap.size W l → 0 ≤ n → n ≤ 1099511627776 → l.length ≤ 900000 → Calls Tryz.prog 47 #[.int .i64 n, .pointer (some ⟨w.heap.size, 0, none⟩)] W fun e w' => e = .returned (.tuple #[]) ∧ Wrote W w' w.heap.size w.heap.size (l ++ wrN n)) := fun W l n hW h0 h1 hl => num_any _ _ l n W (HLX.out W l hW) hW.bld h0 h1 hl (by have := hW.size; omega)
  have HTX : Hid (∀ W l (s : ByteArray), WSt w w.heap.size W l → s.size ≤ 1000 → l.length ≤ 800000 → Calls Tryz.prog 51 #[.string s, .pointer (some ⟨w.heap.size + 1, 0, none⟩), .pointer (some ⟨w.heap.size, 0, none⟩)] W fun e w' => e = .returned (.tuple #[]) ∧ Wrote W w' w.heap.size w.heap.size (l ++ wrT s)) := fun W l s hW hs hl => text_any _ _ _ l s W (HLX.out W l hW) hW.bld hW.cell hs hl (by have := hW.size; omega)
  have HKY : Hid (∀ W l, WSt w w.heap.size W l → Calls Tryz.prog 34 #[.pointer (some ⟨h, 0, none⟩)] W fun e w' => (∃ v, e = .returned v ∧ OwnT w' (W.heap.size + 1) v (keysL L)) ∧ Below W.heap.size W w') := fun W l hW => keysO_any (HD.out W l hW)
  have HG : Hid (GoodL L) := hG
  have HKL : Hid ((keysL L).length ≤ 60) := Nat.le_trans (keysL_le L) hd.few
  have hq2 := hst2.cell
  have hr2 := HNM.out w2 [] 1 hst2 (by decide) (by decide) (by simp)
  rw [List.nil_append] at hr2
  have HN0 : Hid (Calls Tryz.prog 47 #[.int .i64 1, .pointer (some ⟨w.heap.size, 0, none⟩)] w2 fun e w' => e = .returned (.tuple #[]) ∧ Wrote w2 w' w.heap.size w.heap.size (wrN 1)) := hr2
  unfold numV at hq2
  clear hd hw2 hb2 hst2 hX hw0 hG hr2 hB B
  have hrs := run_box w
  go_enter Tryz.func22, Tryz.ntmps22
  go_wp2_with fail
  rw [show (w.alloc (.cells #[.pointer none, .slice none 0 0] 93)).alloc (.cells #[.func (.func 47) #[] #[.pointer (some ⟨w.heap.size, 0, none⟩)]] 97) = w2 from HW2.out.symm]
  refine HSE.out.mono ?_
  rintro e w1 ⟨rfl, hw1⟩
  rw [hw1]
  clear hw1 w1 HSE HW2 hrs
  go_wp2_with fail
  refine HN0.out.mono ?_
  rintro e w3 ⟨rfl, hW3⟩
  have hst3 := HST.out.wrote hW3
  have HST3 : Hid (WSt w w.heap.size w3 (wrN 1)) := hst3
  clear hW3 HN0 HST hst3 hq2
  go_wp2_with fail
  refine (HKY.out w3 _ HST3.out).mono ?_
  rintro e w4 ⟨⟨kv, rfl, hO4⟩, hb4⟩
  obtain ⟨Bk, hBk⟩ : ∃ Bk, Bk = w3.heap.size + 1 := ⟨_, rfl⟩
  rw [← hBk] at hO4
  have HBk : Hid (w.heap.size < Bk) := by show _ < _; have := HST3.out.size; omega
  have HST4 : Hid (WSt w w.heap.size w4 (wrN 1)) := HST3.out.below hb4
  have HO4 : Hid (OwnT w4 Bk kv (keysL L)) := hO4
  obtain ⟨kp, kc, hkv, _, _, _, _⟩ := hO4.form
  clear hb4 hO4 HKY HST3 hBk
  subst hkv
  have HEMP : Hid (wrN 1 = wrN 1 ++ wrL (byKey ((keysL L).take 0) L)) := by show _ = _; simp [byKey, wrL]
  have HEND : Hid (wrN 1 ++ wrL (byKey ((keysL L).take (keysL L).length) L) = wrote L true) := by show _ = _; rw [List.take_length, (keysOk L HG.out.sorted).all]; rfl
  have HSG : Hid (∀ W l, WSt w w.heap.size W l → Calls Tryz.prog 52 #[.pointer (some ⟨w.heap.size, 0, none⟩)] W fun e w' => e = .returned (.string (ofL l)) ∧ Below w.heap.size W w') := fun W l hW => (Tryz.Builder_String _ _ l W hW.bld (by have := hW.size; omega)).mono fun e w' hp => ⟨hp.1, hp.2.2.1⟩
  generalize hKK : keysL L = K at *
  go_wp2
  go_loopw [21] (fun x wr => ∃ i : Nat, i ≤ K.length ∧ x = .int .i64 i ∧ WSt w w.heap.size wr (wrN 1 ++ wrL (byKey (K.take i) L)) ∧ OwnT wr Bk (.slice kp K.length kc) K) (fun x _ => K.length - (intOf x).toNat)
  case atStart => exact ⟨0, Nat.zero_le _, rfl, by rw [← HEMP.out]; exact HST4.out, HO4.out⟩
  case round =>
    obtain ⟨i, hi, rfl, hst, hO⟩ := hrel
    obtain ⟨w5, rfl⟩ : ∃ w5, w5 = wr := ⟨_, rfl⟩
    have HST5 : Hid (WSt w w.heap.size w5 (wrN 1 ++ wrL (byKey (K.take i) L))) := hst
    have HO5 : Hid (OwnT w5 Bk (.slice kp K.length kc) K) := hO
    have hkl := HKL.out
    clear hst hO HST4 HO4 HEMP
    by_cases hil : i < K.length
    · obtain ⟨p', c', hv', hs', _, _, _⟩ := HO5.out.form
      obtain ⟨rfl, _, rfl⟩ := Value.slice.inj hv'
      have q0 : ∃ kb ko, kp = some ⟨kb, ko, none⟩ ∧ w5.cell? ⟨kb, ko + i, none⟩ = some (.string (txt K i)) := by
        rcases hs' with h0 | ⟨kb, ko, hp, _, hc⟩
        · rw [h0] at hil; exact absurd hil (Nat.not_lt_zero _)
        · exact ⟨kb, ko, hp, hc i hil⟩
      obtain ⟨kb, ko, rfl, q0⟩ := q0
      clear hv' hs'
      have hkm : txt K i ∈ keysL L := by rw [hKK]; exact List.mem_of_getElem? (by rw [List.getElem?_eq_getElem hil, txt_getElem K i hil])
      have hks : (txt K i).size ≤ 16 := keysL_size HG.out.sorted HG.out.fits hkm
      have HOF : Hid (Calls Tryz.prog 38 #[.pointer (some ⟨h, 0, none⟩), .string (txt K i)] w5 fun e w' => e = .returned (row (txt K i)) ∧ w' = w5) := of_any (HD.out w5 _ HST5.out) (txt K i) (by unfold maxLen; omega)
      obtain ⟨p, c, hrow, hrec, _, _, hpb⟩ := (HD.out w5 _ HST5.out).form (txt K i)
      have HROW : Hid (∀ W l, WSt w w.heap.size W l → Rec verE W p (getL L (txt K i))) := fun W l hW => by
        obtain ⟨p2, c2, hrow2, hrec2, _, _, _⟩ := (HD.out W l hW).form (txt K i)
        rw [hrow] at hrow2
        obtain ⟨rfl, _, _⟩ := Value.slice.inj hrow2
        exact hrec2
      rw [hrow] at HOF
      have hgl : (getL L (txt K i)).length ≤ 60 := Nat.le_trans (getL_le _ _) HG.out.few
      have HFT : Hid (∀ j, j < (getL L (txt K i)).length → verOk (verAt (getL L (txt K i)) j) = true) := fun j hj => getL_fits HG.out.fits hj
      have HU0 : Hid (byKey (K.take i) L = upTo L i 0) := by show _ = _; rw [upTo_zero, hKK]
      have HUN : Hid (upTo L i (getL L (txt K i)).length = byKey (K.take (i + 1)) L) := by show _ = _; rw [← hKK]; exact upTo_next (by rw [hKK]; exact hil)
      have HUS : Hid (∀ j, j < (getL L (txt K i)).length → upTo L i (j + 1) = upTo L i j ++ [(txt K i, verAt (getL L (txt K i)) j)]) := fun j hj => by
        have := upTo_succ (L := L) (i := i) (j := j) (by rw [hKK]; exact hj)
        rw [hKK] at this
        exact this
      have HUL : Hid (∀ j, (wrN 1 ++ wrL (upTo L i j)).length ≤ 130000) := fun j => upTo_len HG.out (by rw [hKK]; exact hil) true
      have HKS : Hid (txt K i ∈ keysL L) := hkm
      clear hrow hrec hpb hkm
      generalize hkey : txt K i = key at *
      generalize hlv : getL L key = lv at *
      go_wp2_with fail
      refine HOF.out.mono ?_
      rintro e w6 ⟨rfl, hw6⟩
      rw [hw6]
      clear hw6 w6 HOF q0
      go_wp2
      go_loopw [29] (fun x wr => ∃ j : Nat, j ≤ lv.length ∧ x = .int .i64 j ∧ WSt w w.heap.size wr (wrN 1 ++ wrL (upTo L i j)) ∧ OwnT wr Bk (.slice (some ⟨kb, ko, none⟩) K.length kc) K) (fun x _ => lv.length - (intOf x).toNat)
      case atStart => exact ⟨0, Nat.zero_le _, rfl, by rw [← HU0.out]; exact HST5.out, HO5.out⟩
      case round =>
        obtain ⟨j, hj, rfl, hst, hO⟩ := hrel
        obtain ⟨w7, rfl⟩ : ∃ w7, w7 = wr := ⟨_, rfl⟩
        have HST7 : Hid (WSt w w.heap.size w7 (wrN 1 ++ wrL (upTo L i j))) := hst
        have HO7 : Hid (OwnT w7 Bk (.slice (some ⟨kb, ko, none⟩) K.length kc) K) := hO
        clear hst hO HST5 HO5 HU0
        by_cases hjl : j < lv.length
        · obtain ⟨b, o, hpp, hblt, c0, c1, c2, c3, c4⟩ := ver_cells (HROW.out w7 _ HST7.out) hjl
          subst hpp
          have hok := HFT.out j hjl
          have hsu := HUS.out j hjl
          have hll := HUL.out j
          have hll2 := HUL.out (j + 1)
          rw [hsu, wrL_append, wrL_one] at hll2
          have HSU : Hid (wrN 1 ++ wrL (upTo L i (j + 1)) = (wrN 1 ++ wrL (upTo L i j)) ++ wrK (key, verAt lv j)) := by show _ = _; rw [hsu, wrL_append, wrL_one, List.append_assoc]
          generalize verAt lv j = x at *
          obtain ⟨xn, xw, xs, xa, xt⟩ := x
          have hok2 := hok
          unfold verOk tagB at hok2
          simp only [Bool.and_eq_true, decide_eq_true_eq] at hok2
          generalize hT : wrN 1 ++ wrL (upTo L i j) = T at *
          have HWK : Hid (T ++ wrK (key, ⟨xn, xw, xs, xa, xt⟩) = T ++ wrT key ++ wrN xn ++ wrN xw ++ wrN xs ++ wrN xa ++ wrT xt) := by show _ = _; simp [wrK, List.append_assoc]
          have hlk : (T ++ wrT key ++ wrN xn ++ wrN xw ++ wrN xs ++ wrN xa ++ wrT xt).length ≤ 130000 := by
            rw [← HWK.out, ← hT, ← List.append_assoc] at *
            exact hll2
          simp only [List.length_append] at hlk
          obtain ⟨w8, hw8⟩ : ∃ w8, w8 = w7.alloc (.cells #[.int .i64 xn, .int .i64 xw, .int .i64 xs, .int .i64 xa, .string xt] 49) := ⟨_, rfl⟩
          have HW8 : Hid (w8 = w7.alloc (.cells #[.int .i64 xn, .int .i64 xw, .int .i64 xs, .int .i64 xa, .string xt] 49)) := hw8
          have HV8 : Hid (w8.heap[w7.heap.size]? = some (.cells #[.int .i64 xn, .int .i64 xw, .int .i64 xs, .int .i64 xa, .string xt] 49 (0, 0))) := by rw [hw8]; exact heap_alloc_new _ _
          have hal : Below w7.heap.size w7 w8 := by rw [hw8]; exact (Below.refl _ w7).alloc (Nat.le_refl _) _
          have HST8 : Hid (WSt w w.heap.size w8 T) := HST7.out.below hal
          have HO8 : Hid (OwnT w8 Bk (.slice (some ⟨kb, ko, none⟩) K.length kc) K) := HO7.out.kept hal
          have hvb : w7.heap.size ≠ w.heap.size := by have := HST7.out.size; omega
          have HC8 : Hid (Calls Tryz.prog 51 #[.string key, .pointer (some ⟨w.heap.size + 1, 0, none⟩), .pointer (some ⟨w.heap.size, 0, none⟩)] w8 fun e w' => e = .returned (.tuple #[]) ∧ Wrote w8 w' w.heap.size w.heap.size (T ++ wrT key)) := HTX.out w8 T key HST8.out (by omega) (by omega)
          have HLK : Hid (T.length + (wrT key).length + (wrN xn).length + (wrN xw).length + (wrN xs).length + (wrN xa).length + (wrT xt).length ≤ 130000) := hlk
          have HOK : Hid (((0 ≤ xn ∧ xn ≤ 1099511627776) ∧ 0 ≤ xw ∧ xw ≤ 1099511627776) ∧ 0 ≤ xs ∧ xs ≤ 1000 ∧ 0 ≤ xa ∧ xa < 12 ∧ xt.size ≤ 1000) := by
            refine ⟨⟨⟨by omega, by omega⟩, by omega, by omega⟩, by omega, by omega, by omega, by omega, by omega⟩
          clear hw8 hal HST7 HO7 hlk hok hok2 hll hll2 hsu hT
          go_wp2_with fail
          rw [← HW8.out]
          clear HW8 c0 c1 c2 c3 c4
          refine HC8.out.mono ?_
          rintro e w9 ⟨rfl, hW9⟩
          have hst9 := HST8.out.wrote hW9
          have HST9 : Hid (WSt w w.heap.size w9 (T ++ wrT key)) := hst9
          have HV9 : Hid (w9.heap[w7.heap.size]? = some (.cells #[.int .i64 xn, .int .i64 xw, .int .i64 xs, .int .i64 xa, .string xt] 49 (0, 0))) := hW9.keep HV8.out hvb (by decide)
          have HO9 : Hid (OwnT w9 Bk (.slice (some ⟨kb, ko, none⟩) K.length kc) K) := HO8.out.wrote hW9 HBk.out
          have q9 := hst9.cell
          unfold numV at q9
          obtain ⟨r0, r1, r2, r3, r4⟩ := ver_block HV9.out
          have HC9 : Hid (Calls Tryz.prog 47 #[.int .i64 xn, .pointer (some ⟨w.heap.size, 0, none⟩)] w9 fun e w' => e = .returned (.tuple #[]) ∧ Wrote w9 w' w.heap.size w.heap.size (T ++ wrT key ++ wrN xn)) := HNM.out w9 _ xn hst9 (by have := HOK.out; omega) (by have := HOK.out; omega) (by have := HLK.out; simp only [List.length_append]; omega)
          clear hst9 hW9 HC8 HV8 HO8 HST8
          go_wp2_with fail
          clear q9 r0 r1 r2 r3 r4
          refine HC9.out.mono ?_
          rintro e w10 ⟨rfl, hW10⟩
          have hst10 := HST9.out.wrote hW10
          have HST10 : Hid (WSt w w.heap.size w10 (T ++ wrT key ++ wrN xn)) := hst10
          have HV10 : Hid (w10.heap[w7.heap.size]? = some (.cells #[.int .i64 xn, .int .i64 xw, .int .i64 xs, .int .i64 xa, .string xt] 49 (0, 0))) := hW10.keep HV9.out hvb (by decide)
          have HO10 : Hid (OwnT w10 Bk (.slice (some ⟨kb, ko, none⟩) K.length kc) K) := HO9.out.wrote hW10 HBk.out
          have q9 := hst10.cell
          unfold numV at q9
          obtain ⟨r0, r1, r2, r3, r4⟩ := ver_block HV10.out
          have HC10 : Hid (Calls Tryz.prog 47 #[.int .i64 xw, .pointer (some ⟨w.heap.size, 0, none⟩)] w10 fun e w' => e = .returned (.tuple #[]) ∧ Wrote w10 w' w.heap.size w.heap.size (T ++ wrT key ++ wrN xn ++ wrN xw)) := HNM.out w10 _ xw hst10 (by have := HOK.out; omega) (by have := HOK.out; omega) (by have := HLK.out; simp only [List.length_append]; omega)
          clear hst10 hW10 HC9 HV9 HO9 HST9
          go_wp2_with fail
          clear q9 r0 r1 r2 r3 r4
          refine HC10.out.mono ?_
          rintro e w11 ⟨rfl, hW11⟩
          have hst11 := HST10.out.wrote hW11
          have HST11 : Hid (WSt w w.heap.size w11 (T ++ wrT key ++ wrN xn ++ wrN xw)) := hst11
          have HV11 : Hid (w11.heap[w7.heap.size]? = some (.cells #[.int .i64 xn, .int .i64 xw, .int .i64 xs, .int .i64 xa, .string xt] 49 (0, 0))) := hW11.keep HV10.out hvb (by decide)
          have HO11 : Hid (OwnT w11 Bk (.slice (some ⟨kb, ko, none⟩) K.length kc) K) := HO10.out.wrote hW11 HBk.out
          have q9 := hst11.cell
          unfold numV at q9
          obtain ⟨r0, r1, r2, r3, r4⟩ := ver_block HV11.out
          have HC11 : Hid (Calls Tryz.prog 47 #[.int .i64 xs, .pointer (some ⟨w.heap.size, 0, none⟩)] w11 fun e w' => e = .returned (.tuple #[]) ∧ Wrote w11 w' w.heap.size w.heap.size (T ++ wrT key ++ wrN xn ++ wrN xw ++ wrN xs)) := HNM.out w11 _ xs hst11 (by have := HOK.out; omega) (by have := HOK.out; omega) (by have := HLK.out; simp only [List.length_append]; omega)
          clear hst11 hW11 HC10 HV10 HO10 HST10
          go_wp2_with fail
          clear q9 r0 r1 r2 r3 r4
          refine HC11.out.mono ?_
          rintro e w12 ⟨rfl, hW12⟩
          have hst12 := HST11.out.wrote hW12
          have HST12 : Hid (WSt w w.heap.size w12 (T ++ wrT key ++ wrN xn ++ wrN xw ++ wrN xs)) := hst12
          have HV12 : Hid (w12.heap[w7.heap.size]? = some (.cells #[.int .i64 xn, .int .i64 xw, .int .i64 xs, .int .i64 xa, .string xt] 49 (0, 0))) := hW12.keep HV11.out hvb (by decide)
          have HO12 : Hid (OwnT w12 Bk (.slice (some ⟨kb, ko, none⟩) K.length kc) K) := HO11.out.wrote hW12 HBk.out
          have q9 := hst12.cell
          unfold numV at q9
          obtain ⟨r0, r1, r2, r3, r4⟩ := ver_block HV12.out
          have HC12 : Hid (Calls Tryz.prog 47 #[.int .i64 xa, .pointer (some ⟨w.heap.size, 0, none⟩)] w12 fun e w' => e = .returned (.tuple #[]) ∧ Wrote w12 w' w.heap.size w.heap.size (T ++ wrT key ++ wrN xn ++ wrN xw ++ wrN xs ++ wrN xa)) := HNM.out w12 _ xa hst12 (by have := HOK.out; omega) (by have := HOK.out; omega) (by have := HLK.out; simp only [List.length_append]; omega)
          clear hst12 hW12 HC11 HV11 HO11 HST11
          go_wp2_with fail
          clear q9 r0 r1 r2 r3 r4
          refine HC12.out.mono ?_
          rintro e w13 ⟨rfl, hW13⟩
          have hst13 := HST12.out.wrote hW13
          have HST13 : Hid (WSt w w.heap.size w13 (T ++ wrT key ++ wrN xn ++ wrN xw ++ wrN xs ++ wrN xa)) := hst13
          have HV13 : Hid (w13.heap[w7.heap.size]? = some (.cells #[.int .i64 xn, .int .i64 xw, .int .i64 xs, .int .i64 xa, .string xt] 49 (0, 0))) := hW13.keep HV12.out hvb (by decide)
          have HO13 : Hid (OwnT w13 Bk (.slice (some ⟨kb, ko, none⟩) K.length kc) K) := HO12.out.wrote hW13 HBk.out
          have q9 := hst13.cell
          unfold numV at q9
          obtain ⟨r0, r1, r2, r3, r4⟩ := ver_block HV13.out
          have HC13 : Hid (Calls Tryz.prog 51 #[.string xt, .pointer (some ⟨w.heap.size + 1, 0, none⟩), .pointer (some ⟨w.heap.size, 0, none⟩)] w13 fun e w' => e = .returned (.tuple #[]) ∧ Wrote w13 w' w.heap.size w.heap.size (T ++ wrT key ++ wrN xn ++ wrN xw ++ wrN xs ++ wrN xa ++ wrT xt)) := HTX.out w13 _ xt hst13 (by have := HOK.out; omega) (by have := HLK.out; simp only [List.length_append]; omega)
          clear hst13 hW13 HC12 HV12 HO12 HST12
          go_wp2_with fail
          clear q9 r0 r1 r2 r3 r4
          refine HC13.out.mono ?_
          rintro e w14 ⟨rfl, hW14⟩
          have HST14 : Hid (WSt w w.heap.size w14 (T ++ wrT key ++ wrN xn ++ wrN xw ++ wrN xs ++ wrN xa ++ wrT xt)) := HST13.out.wrote hW14
          have HO14 : Hid (OwnT w14 Bk (.slice (some ⟨kb, ko, none⟩) K.length kc) K) := HO13.out.wrote hW14 HBk.out
          clear hW14 HC13 HV13 HO13 HST13
          go_wp2
          go_roundw
          case rel => exact ⟨j + 1, by omega, by go_num, by rw [HSU.out, HWK.out]; exact HST14.out, HO14.out⟩
          case measure => simp [intOf]; omega
        · have hje : j = lv.length := by omega
          subst hje
          go_wp2
          go_roundw
          case rel => exact ⟨i + 1, by omega, by go_num, by rw [← HUN.out]; exact HST7.out, HO7.out⟩
          case measure => simp [intOf]; omega
    · have hie : i = K.length := by omega
      subst hie
      have HSS : Hid (Calls Tryz.prog 52 #[.pointer (some ⟨w.heap.size, 0, none⟩)] w5 fun e w' => e = .returned (.string (ofL (wrN 1 ++ wrL (byKey (K.take K.length) L)))) ∧ Below w.heap.size w5 w') := HSG.out w5 _ HST5.out
      rw [HEND.out] at HSS
      have HLW : Hid (Below w.heap.size w w5) := HST5.out.low
      clear HST5 HO5 HSG
      obtain ⟨R, hR⟩ : ∃ R, R = ofL (wrote L true) := ⟨_, rfl⟩
      rw [← hR] at HSS
      have HR : Hid (R = ofL (wrote L true)) := hR
      clear hR
      go_wp2_with fail
      refine HSS.out.mono ?_
      rintro e w6 ⟨rfl, hb6⟩
      have HB6 : Hid (Below w.heap.size w w6) := HLW.out.trans hb6
      clear hb6 HSS
      go_wp2
      go_ret
      exact ⟨by rw [← HR.out]; rfl, HB6.out⟩
theorem written_any {w0 w : World} {s : Bool} (hX : LibX w0) (hw0 : Below w0.heap.size w0 w) (hd : HdOf w h S L s) :
    Calls Tryz.prog 22 #[.pointer (some ⟨h, 0, none⟩)] w fun e w' => e = .returned (.string (ofL (wrote L s))) ∧ Below w.heap.size w w' := by
  obtain ⟨m, D, row, blk, hd⟩ := hd
  cases s with
  | false => exact written_open hX hw0 hd
  | true => exact written_shut hX hw0 hd
end Go.Proofs.YtoapbjifkjehhaaGreatDoor
