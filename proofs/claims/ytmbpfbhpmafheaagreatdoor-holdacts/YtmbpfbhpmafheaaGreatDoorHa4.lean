/- Texts laid together. -/
import Derived.Test.YtmbpfbhpmafheaaGreatDoorHa3
import Derived.OpenShut
import Derived.ChangeOld
import Derived.Deep.SlicePairs
import Derived.Lib.SmallJoins
import Derived.Deep.QuietTactic
import Derived.Maps.RangeWalk
import Derived.Maps.OwnOps
import Derived.Maps.OwnSet
namespace Go.Proofs.YtmbpfbhpmafheaaGreatDoor
open Go.RowKit
/-- Package hold answers as it is asked to; Hd: in the world w the hold at block h, in the blocks of S, holds L, and is sealed or not. -/
structure HoldOk (ad : Nat → Addr) (Hd : World → Nat → (Nat → Prop) → List Kep → Bool → Prop) : Prop extends HoldOk0 ad (fun w => Sent w ad) Hd where
  sealed_ : ∀ {w h S L s}, Hd w h S L s → Calls Tryz.prog 12 #[.pointer (some ⟨h, 0, none⟩)] w fun e w' => e = .returned (.bool s) ∧ Below w.heap.size w w'
  keys : ∀ {w h S L s}, Hd w h S L s → Calls Tryz.prog 34 #[.pointer (some ⟨h, 0, none⟩)] w fun e w' => (∃ p c, e = .returned (.slice p (keysTo L L.length).length c) ∧ Strs w' p (keysTo L L.length)) ∧ Below w.heap.size w w'
  trim : ∀ {w h S L s} (key : ByteArray) (n : Int), key.size ≤ maxLen → 0 ≤ n → n ≤ 9223372036854775807 → Hd w h S L s → Calls Tryz.prog 27 #[.pointer (some ⟨h, 0, none⟩), .string key, .int .i64 n] w fun e w' => e = .returned (.tuple #[.int .i64 ((goneN L key n : Nat) : Int), .nilIface]) ∧ ∃ S', Hd w' h S' (trimL L key n) s ∧ Upd S S' w w'
  trimBad : ∀ {w h S L s} (key : ByteArray) (n : Int), key.size ≤ maxLen → n < 0 → -9223372036854775808 ≤ n → Hd w h S L s → Sent w ad → Calls Tryz.prog 27 #[.pointer (some ⟨h, 0, none⟩), .string key, .int .i64 n] w fun e w' => (∃ ev, e = .returned (.tuple #[.int .i64 0, ev]) ∧ BareIs ad ev 2) ∧ Below w.heap.size w w'
  seals : ∀ {w h S L s}, Hd w h S L s → Calls Tryz.prog 29 #[.pointer (some ⟨h, 0, none⟩)] w fun e w' => e = .returned (.tuple #[]) ∧ ∃ S', Hd w' h S' L true ∧ Upd S S' w w'
  wipe : ∀ {w h S L s}, Hd w h S L s → Calls Tryz.prog 30 #[.pointer (some ⟨h, 0, none⟩)] w fun e w' => e = .returned (.tuple #[]) ∧ ∃ S', Hd w' h S' [] false ∧ Upd S S' w w'
theorem HoldOk.see {ad : Nat → Addr} {Hd : World → Nat → (Nat → Prop) → List Kep → Bool → Prop} (hO : HoldOk ad Hd) : HoldSee Hd := ⟨hO.lt, hO.keep, hO.count, hO.get, hO.last, hO.sealed_, hO.keys⟩
/-- The hold is changed, then its model: they are beside each other again. -/
theorem Two.step {ad : Nat → Addr} {Hd : World → Nat → (Nat → Prop) → List Kep → Bool → Prop} (hO : HoldOk ad Hd) {B : Nat} {w w' w'' : World} {hp hm : Nat} {L L' : List Kep} {s s' : Bool} {S S' : Nat → Prop} (h : Two Hd B w hp hm L s S) (hu : Upd S S' w w') (h' : Hd w' hp S' L' s') (hB : B ≤ w.heap.size) (hm'' : MHold w'' hm L' s') (ht : Turn hm w' w'') (hlen : L'.length ≤ 800000) (hnm : ∀ x ∈ L', x.1.size ≤ maxLen) :
    Two Hd B w'' hp hm L' s' S' ∧ Below B w w'' := by
  obtain ⟨hm', hb', ha', hr', hbw⟩ := h.upd hu hB
  obtain ⟨p0, c0, q0, _⟩ := hm'.row
  have hlt' := hO.lt h'
  refine ⟨⟨hO.keep h' ht.size (fun k hk => ht.block k (hlt' k hk) (fun e => ha' (e ▸ hk))), hb', ha', fun hL b o c e => ?_, hm'', h.bm, hlen, hnm⟩, hbw.trans ⟨ht.os, ht.tape, ht.output, ht.size, fun k hk => ht.block k (by have := hu.size; omega) (by have := h.bm; omega)⟩⟩
  rcases ht.row with h1 | h1
  · rw [h1] at e
    have e2 := e
    rw [q0] at e2
    obtain ⟨_, h3, _⟩ := Value.slice.inj (Option.some.inj e2)
    have hLL : L ≠ [] := fun h0 => hL (List.length_eq_zero_iff.1 (by rw [← h3, h0]; rfl))
    rw [← h3] at e
    exact (hr' hLL b o c e).1
  · have h2 := h1 b o L'.length c e
    intro hs
    have := hlt' b hs
    omega
/-- An act: its kind, a key, a version, a number. -/
structure HAct where
  kind : ByteArray
  key : ByteArray
  v : Ver
  n : Int
def actC (a : HAct) : List Value := .string a.kind :: .string a.key :: (verC a.v ++ [.int .i64 a.n])
def actE : Enc HAct := ⟨8, by decide, actC, fun _ => rfl, fun x u hu => by
  simp [actC, verC] at hu
  rcases hu with rfl | rfl | rfl | rfl | rfl | rfl | rfl | rfl <;> rfl⟩
def actAt (l : List HAct) (i : Nat) : HAct := l.getD i ⟨⟨#[]⟩, ⟨#[]⟩, ⟨0, 0, 0, 0, ⟨#[]⟩⟩, 0⟩
theorem actAt_get {l : List HAct} {i : Nat} (hi : i < l.length) : l[i]? = some (actAt l i) := by
  unfold actAt
  rw [List.getD_eq_getElem?_getD, List.getElem?_eq_getElem hi]
  rfl
theorem act_cells {w : World} {p : Option Addr} {l : List HAct} (h : Rec actE w p l) {i : Nat} (hi : i < l.length) : ∃ b o, p = some ⟨b, o, none⟩ ∧ b < w.heap.size ∧ w.cell? ⟨b, o + i * 8, none⟩ = some (.string (actAt l i).kind) ∧ w.cell? ⟨b, o + i * 8 + 1, none⟩ = some (.string (actAt l i).key) ∧ w.cell? ⟨b, o + i * 8 + 2, none⟩ = some (.int .i64 (actAt l i).v.n) ∧ w.cell? ⟨b, o + i * 8 + 3, none⟩ = some (.int .i64 (actAt l i).v.who) ∧ w.cell? ⟨b, o + i * 8 + 4, none⟩ = some (.int .i64 (actAt l i).v.size) ∧ w.cell? ⟨b, o + i * 8 + 5, none⟩ = some (.int .i64 (actAt l i).v.at_) ∧ w.cell? ⟨b, o + i * 8 + 6, none⟩ = some (.string (actAt l i).v.text) ∧ w.cell? ⟨b, o + i * 8 + 7, none⟩ = some (.int .i64 (actAt l i).n) := by
  rcases h with h | ⟨b, o, hp, hlt, hc⟩
  · rw [h] at hi; exact absurd hi (Nat.not_lt_zero _)
  · have hx := actAt_get hi
    exact ⟨b, o, hp, hlt, hc i _ hx 0 _ rfl, hc i _ hx 1 _ rfl, hc i _ hx 2 _ rfl, hc i _ hx 3 _ rfl, hc i _ hx 4 _ rfl, hc i _ hx 5 _ rfl, hc i _ hx 6 _ rfl, hc i _ hx 7 _ rfl⟩
theorem putScan_zero {L : List Kep} {key : ByteArray} {v : Ver} : ∀ (m i : Nat), putScan L key v i m = 0 → L.length < 60
  | 0, _, h => by
    have h' : (if 60 ≤ L.length then (7 : Int) else 0) = 0 := h
    by_cases hl : 60 ≤ L.length
    · rw [if_pos hl] at h'; cases h'
    · omega
  | m + 1, i, h => by
    have h' : (if sameTag (kepAt L i) key v then (if (kepAt L i).2 = v then (-1 : Int) else 6) else putScan L key v (i + 1) m) = 0 := h
    by_cases hs : sameTag (kepAt L i) key v = true
    · rw [if_pos hs] at h'
      split at h' <;> cases h'
    · rw [if_neg hs] at h'
      exact putScan_zero m (i + 1) h'
theorem putR_len {L : List Kep} {s : Bool} {key : ByteArray} {v : Ver} (h : L.length ≤ 800000) : (putR L s key v).2.length ≤ 800000 := by
  unfold putR
  by_cases h0 : putErr L s key v = 0
  · rw [if_pos h0]
    have hl : L.length < 60 := by
      unfold putErr at h0
      split at h0
      · cases h0
      · split at h0
        · split at h0
          · exact putScan_zero _ _ h0
          · cases h0
        · cases h0
    show (putL L key v).length ≤ 800000
    unfold putL
    rw [List.length_append, List.length_append, List.length_take, List.length_drop]
    show _ + 1 + _ ≤ _
    omega
  · rw [if_neg h0]
    split <;> exact h
theorem putR_names {L : List Kep} {s : Bool} {key : ByteArray} {v : Ver} (h : ∀ x ∈ L, x.1.size ≤ maxLen) (hk : key.size ≤ maxLen) : ∀ x ∈ (putR L s key v).2, x.1.size ≤ maxLen := by
  unfold putR
  split
  · intro x hx
    have hx' : x ∈ L.take (placeN L key v) ++ [(key, v)] ++ L.drop (placeN L key v) := hx
    rcases List.mem_append.1 hx' with h1 | h1
    · rcases List.mem_append.1 h1 with h2 | h2
      · exact h x (List.mem_of_mem_take h2)
      · rw [List.mem_singleton.1 h2]; exact hk
    · exact h x (List.mem_of_mem_drop h1)
  · split <;> exact h
theorem trimGo_subP (key : ByteArray) : ∀ (left : Nat) (L : List Kep), (trimGo key left L).length ≤ L.length ∧ ∀ x ∈ trimGo key left L, x ∈ L
  | _, [] => ⟨Nat.le_refl _, fun _ h => h⟩
  | left, y :: r => by
    by_cases hc : y.1 = key ∧ 0 < left
    · have e : trimGo key left (y :: r) = trimGo key (left - 1) r := if_pos hc
      rw [e]
      have ih := trimGo_subP key (left - 1) r
      exact ⟨Nat.le_trans ih.1 (Nat.le_succ _), fun x hx => List.mem_cons_of_mem _ (ih.2 x hx)⟩
    · have e : trimGo key left (y :: r) = y :: trimGo key left r := if_neg hc
      rw [e]
      have ih := trimGo_subP key left r
      refine ⟨Nat.succ_le_succ ih.1, fun x hx => ?_⟩
      rcases List.mem_cons.1 hx with rfl | h1
      · exact List.mem_cons_self
      · exact List.mem_cons_of_mem _ (ih.2 x h1)
section
open Go.ChangeShapes Go.WideShapes Go.ChangeAt Go.RowKit
theorem actLaidOut : laidOutB Tryz.prog = true := by kernel_rfl
theorem actFields : ∃ f0 f1 f2 f3, Tryz.prog.underlying 70 = some (.struct #[f0, f1, f2, f3]) ∧ f0.offset = 0 ∧ f1.offset = 1 ∧ f2.offset = 2 ∧ f3.offset = 7 ∧ f0.type = 9 ∧ f1.type = 9 ∧ f2.type = 49 ∧ f3.type = 3 := ⟨_, _, _, _, Tryz.underlying70, rfl, rfl, rfl, rfl, rfl, rfl, rfl, rfl⟩
theorem verFields : ∃ f0 f1 f2, Tryz.prog.underlying 49 = some (.struct #[f0, f1, f2]) ∧ f0.offset = 0 ∧ f1.offset = 2 ∧ f2.offset = 3 ∧ f0.type = 45 ∧ f1.type = 3 ∧ f2.type = 47 := ⟨_, _, _, Tryz.underlying49, rfl, rfl, rfl, rfl, rfl, rfl⟩
theorem tagFields2 : ∃ f0 f1, Tryz.prog.underlying 45 = some (.struct #[f0, f1]) ∧ f0.offset = 0 ∧ f1.offset = 1 ∧ f0.type = 3 ∧ f1.type = 3 := ⟨_, _, Tryz.underlying45, rfl, rfl, rfl, rfl⟩
theorem shardFields : ∃ f0 f1, Tryz.prog.underlying 47 = some (.struct #[f0, f1]) ∧ f0.offset = 0 ∧ f1.offset = 1 ∧ f0.type = 3 ∧ f1.type = 9 := ⟨_, _, Tryz.underlying47, rfl, rfl, rfl, rfl⟩
theorem cellsAct : Tryz.prog.cellsOf 70 = 8 := by kernel_rfl
theorem cellsVer : Tryz.prog.cellsOf 49 = 5 := by kernel_rfl
theorem cellsTag : Tryz.prog.cellsOf 45 = 2 := by kernel_rfl
theorem cellsShard : Tryz.prog.cellsOf 47 = 2 := by kernel_rfl
theorem cellsInt : Tryz.prog.cellsOf 3 = 1 := by kernel_rfl
theorem cellsStr : Tryz.prog.cellsOf 9 = 1 := by kernel_rfl
/-- An act fits. -/
def ActFits (x : HAct) : Prop := x.key.size ≤ maxLen ∧ x.v.text.size ≤ maxLen ∧ -9223372036854775808 ≤ x.n ∧ x.n ≤ 9223372036854775807
set_option maxRecDepth 100000 in
theorem act_elem {H : Type} {enc : TypeId × Value → H} {W : World} {fuel : Nat} {cs : List Value} {y : DataW H × List MemPlace} (h : DataW.trod enc Tryz.prog W 0 (fun _ => true) true fuel 70 cs = some y) : ∃ x : HAct, cs = actC x ∧ ActFits x := by
  obtain ⟨f0, f1, f2, f3, hst, o0, o1, o2, o3, t0, t1, t2, t3⟩ := actFields
  obtain ⟨g0, g1, g2, hsv, p0, p1, p2, u0, u1, u2⟩ := verFields
  obtain ⟨a0, a1, hta, b0, b1, c0, c1⟩ := tagFields2
  obtain ⟨d0, d1, hsh, e0, e1, i0, i1⟩ := shardFields
  obtain ⟨y0, y1, y2, y3, n, _, hlen, h0, h1, h2, h3⟩ := Joins.trod_struct4 hst h
  rw [cellsAct] at hlen
  match cs, hlen with
  | [v0, v1, v2, v3, v4, v5, v6, v7], _ =>
    rw [t0, o0, cellsStr] at h0
    rw [t1, o1, cellsStr] at h1
    rw [t2, o2, cellsVer] at h2
    rw [t3, o3, cellsInt] at h3
    obtain ⟨s0, hs0, _, _⟩ := DataW.trod_string Tryz.underlying9 h0
    obtain ⟨s1, hs1, _, hz1⟩ := DataW.trod_string Tryz.underlying9 h1
    obtain ⟨x3, hx3, _, hw3⟩ := DataW.trod_int Tryz.underlying3 h3
    obtain ⟨z0, z1, z2, n2, _, _, k0, k1, k2⟩ := Deep.trod_struct3 hsv h2
    rw [u0, p0, cellsTag] at k0
    rw [u1, p1, cellsInt] at k1
    rw [u2, p2, cellsShard] at k2
    obtain ⟨xs, hxs, _, _⟩ := DataW.trod_int Tryz.underlying3 k1
    obtain ⟨r0, r1, n3, _, _, l0, l1⟩ := trod_struct2 hta k0
    rw [c0, b0, cellsInt] at l0
    rw [c1, b1, cellsInt] at l1
    obtain ⟨xn, hxn, _, _⟩ := DataW.trod_int Tryz.underlying3 l0
    obtain ⟨xw, hxw, _, _⟩ := DataW.trod_int Tryz.underlying3 l1
    obtain ⟨q0, q1, n4, _, _, m0, m1⟩ := trod_struct2 hsh k2
    rw [i0, e0, cellsInt] at m0
    rw [i1, e1, cellsStr] at m1
    obtain ⟨xa, hxa, _, _⟩ := DataW.trod_int Tryz.underlying3 m0
    obtain ⟨xt, hxt, _, hzt⟩ := DataW.trod_string Tryz.underlying9 m1
    simp at hs0 hs1 hx3 hxs hxn hxw hxa hxt
    subst hs0 hs1 hx3 hxs hxn hxw hxa hxt
    have hb := bounds_i64 hw3
    exact ⟨⟨s0, s1, ⟨xn, xw, xs, xa, xt⟩, x3⟩, rfl, hz1, hzt, hb.1, hb.2⟩
set_option maxRecDepth 100000 in
theorem acts_arg {H : Type} {enc : TypeId × Value → H} {W : World} {base : Nat} {v : Value} {d : DataW H} {ps : List MemPlace} (hok : Value.okWide Tryz.prog W .any base 34 v)
    (h : DataW.Trod enc Tryz.prog W 0 (fun _ => true) true 34 v d ps) : ∃ p l cap, v = .slice p l.length cap ∧ Rec actE W p l ∧ l.length ≤ maxLen ∧ ∀ i, i < l.length → (actAt l i).key.size ≤ maxLen ∧ (actAt l i).v.text.size ≤ maxLen ∧ -9223372036854775808 ≤ (actAt l i).n ∧ (actAt l i).n ≤ 9223372036854775807 := by
  obtain ⟨a0, len0, cap0, rfl⟩ := okWide_slice Tryz.underlying34 hok
  obtain ⟨fuel, hf⟩ := h
  rcases Deep.open_slice Tryz.underlying34 hf with ⟨hcs, _⟩ | ⟨a, len, cp, m, nn, D, Pl, hcs, _, hle, hcm, hm, _, hx⟩
  · simp [Value.cells] at hcs
    obtain ⟨rfl, rfl, rfl⟩ := hcs
    exact ⟨none, [], 0, rfl, Or.inl rfl, Nat.zero_le _, fun i hi => absurd hi (Nat.not_lt_zero _)⟩
  · simp [Value.cells] at hcs
    obtain ⟨rfl, rfl, rfl⟩ := hcs
    have hlm : len0 ≤ m := by rw [hm]; split <;> omega
    have hv : ∀ i, ∃ x : HAct, i < len0 → (∀ j u, (actC x)[j]? = some u → W.cell? ((a.add (i * 8)).add j) = some u) ∧ ActFits x := fun i => by
      by_cases hi : i < len0
      · obtain ⟨cs', h1, h2⟩ := hx i (by omega)
        obtain ⟨x, hcx, hfx⟩ := act_elem h2
        rw [cellsAct] at h1
        obtain ⟨_, hlen, hcell⟩ := World.cells?_some h1
        refine ⟨x, fun _ => ⟨fun j u hj => ?_, hfx⟩⟩
        have hj8 : j < 8 := (List.getElem?_eq_some_iff.1 hj).1
        have := hcell j (by omega)
        rw [this, hcx]
        exact hj
      · exact ⟨⟨⟨#[]⟩, ⟨#[]⟩, ⟨0, 0, 0, 0, ⟨#[]⟩⟩, 0⟩, fun h => absurd h hi⟩
    have hlen : ((List.range len0).map fun i => Classical.choose (hv i)).length = len0 := by simp
    have hat : ∀ i, i < len0 → ((List.range len0).map fun i => Classical.choose (hv i))[i]? = some (Classical.choose (hv i)) := fun i hi => by
      rw [List.getElem?_map, List.getElem?_range hi]
      rfl
    refine ⟨some a, (List.range len0).map fun i => Classical.choose (hv i), cap0, by rw [hlen], ?_, by rw [hlen]; omega, fun i hi => ?_⟩
    · by_cases h0 : len0 = 0
      · exact Or.inl (List.length_eq_zero_iff.1 (by rw [hlen]; exact h0))
      · obtain ⟨u0, hx0⟩ : ∃ u, W.cell? ((a.add (0 * 8)).add 0) = some u := ⟨_, (Classical.choose_spec (hv 0) (by omega)).1 0 _ rfl⟩
        obtain ⟨b, off, sp⟩ := a
        have hsp : sp = none := by
          cases sp with
          | none => rfl
          | some q =>
            exfalso
            simp [Addr.add, World.cell?] at hx0
            revert hx0
            split <;> intro h9 <;> cases h9
        subst hsp
        refine Or.inr ⟨b, off, rfl, lt_of_cellH (by rw [Addr.add_lit, Addr.add_lit] at hx0; exact hx0), fun i x hxi j u hj => ?_⟩
        have hi : i < len0 := by have := (List.getElem?_eq_some_iff.1 hxi).1; rw [hlen] at this; exact this
        rw [hat i hi] at hxi
        have e := Option.some.inj hxi
        have hc := (Classical.choose_spec (hv i) hi).1 j u (by rw [e]; exact hj)
        rw [Addr.add_lit, Addr.add_lit] at hc
        exact hc
    · rw [hlen] at hi
      have hc := (Classical.choose_spec (hv i) hi).2
      have e := actAt_get (l := (List.range len0).map fun i => Classical.choose (hv i)) (i := i) (by rw [hlen]; exact hi)
      rw [hat i hi] at e
      rw [← Option.some.inj e]
      exact hc
end
set_option maxRecDepth 10000 in
theorem hwithin_any (x m : Int) (w : World) : Calls Tryz.prog 63 #[.int .i64 x, .int .i64 m] w fun e w' => e = .returned (.bool (decide (0 ≤ x ∧ x ≤ m))) ∧ w' = w := by
  by_cases h1 : 0 ≤ x
  · by_cases h2 : x ≤ m
    · have HE : Hid (decide (0 ≤ x ∧ x ≤ m) = true) := decide_eq_true ⟨h1, h2⟩
      rw [HE.out]
      go_enter Tryz.func63, Tryz.ntmps63
      go_wp2
      go_ret
      exact ⟨rfl, rfl⟩
    · have HE : Hid (decide (0 ≤ x ∧ x ≤ m) = false) := decide_eq_false fun h => h2 h.2
      rw [HE.out]
      go_enter Tryz.func63, Tryz.ntmps63
      go_wp2
      go_ret
      exact ⟨rfl, rfl⟩
  · have HE : Hid (decide (0 ≤ x ∧ x ≤ m) = false) := decide_eq_false fun h => h1 h.1
    rw [HE.out]
    go_enter Tryz.func63, Tryz.ntmps63
    go_wp2
    go_ret
    exact ⟨rfl, rfl⟩
/-- Numbers of a tag in their bounds. -/
def tagOk (a b : Int) : Bool := decide (0 ≤ a ∧ a ≤ 1099511627776) && decide (0 ≤ b ∧ b ≤ 1099511627776)
set_option maxRecDepth 10000 in
theorem istag_any (a b : Int) (w : World) : Calls Tryz.prog 62 #[.agg #[.int .i64 a, .int .i64 b]] w fun e w' => e = .returned (.bool (tagOk a b)) ∧ Below w.heap.size w w' := by
  obtain ⟨w1, hw1⟩ : ∃ w1, w1 = w.alloc (.cells #[.int .i64 a, .int .i64 b] 45) := ⟨_, rfl⟩
  have HB1 : Hid (Below w.heap.size w w1) := by rw [hw1]; exact (Below.refl _ _).alloc (Nat.le_refl _) _
  have f0 : w1.cell? ⟨w.heap.size, 0, none⟩ = some (.int .i64 a) := by rw [hw1, World.cell?_alloc_at _ _ _ _ rfl]; rfl
  have f1 : w1.cell? ⟨w.heap.size, 1, none⟩ = some (.int .i64 b) := by rw [hw1, World.cell?_alloc_at _ _ _ _ rfl]; rfl
  have HW1 : Hid (w1 = w.alloc (.cells #[.int .i64 a, .int .i64 b] 45)) := hw1
  have HA : Hid (Calls Tryz.prog 63 #[.int .i64 a, .int .i64 1099511627776] w1 fun e w' => e = .returned (.bool (decide (0 ≤ a ∧ a ≤ 1099511627776))) ∧ w' = w1) := hwithin_any _ _ w1
  have HC : Hid (Calls Tryz.prog 63 #[.int .i64 b, .int .i64 1099511627776] w1 fun e w' => e = .returned (.bool (decide (0 ≤ b ∧ b ≤ 1099511627776))) ∧ w' = w1) := hwithin_any _ _ w1
  have HT : Hid (tagOk a b = (decide (0 ≤ a ∧ a ≤ 1099511627776) && decide (0 ≤ b ∧ b ≤ 1099511627776))) := by show _ = _; rfl
  rw [HT.out]
  clear hw1 HT
  generalize decide (0 ≤ a ∧ a ≤ 1099511627776) = x at *
  generalize decide (0 ≤ b ∧ b ≤ 1099511627776) = y at *
  cases x with
  | false =>
    go_enter Tryz.func62, Tryz.ntmps62
    go_wp2_with fail
    rw [← HW1.out]
    refine HA.out.mono ?_
    rintro e w2 ⟨rfl, hw2⟩
    rw [hw2]
    clear hw2 w2 HA
    go_wp2
    go_ret
    exact ⟨rfl, HB1.out⟩
  | true =>
    go_enter Tryz.func62, Tryz.ntmps62
    go_wp2_with fail
    rw [← HW1.out]
    refine HA.out.mono ?_
    rintro e w2 ⟨rfl, hw2⟩
    rw [hw2]
    clear hw2 w2 HA
    go_wp2_with fail
    refine HC.out.mono ?_
    rintro e w2 ⟨rfl, hw2⟩
    rw [hw2]
    clear hw2 w2 HC
    go_wp2
    go_ret
    exact ⟨rfl, HB1.out⟩
set_option maxRecDepth 10000 in
theorem sclone_any (t : ByteArray) (w : World) (ht : t.size ≤ 140737488351232) : Calls Tryz.prog 44 #[.string t] w fun e w' => e = .returned (.string t) ∧ Below w.heap.size w w' := by
  have HC : Hid (∀ W, Calls Tryz.prog 70 #[.string t] W fun e w' => e = .returned (.string t) ∧ Below W.heap.size W w') := fun W => Tryz.stringslite_Clone t W (by omega)
  go_enter Tryz.func44, Tryz.ntmps44
  go_wp2_with fail
  refine (HC.out _).mono ?_
  rintro e w1 ⟨rfl, hb1⟩
  have HB1 : Hid (Below w.heap.size w w1) := hb1
  clear hb1
  go_wp2
  go_ret
  exact ⟨rfl, HB1.out⟩
/-- A key as the map tells it. -/
def litK (x : ByteArray) : Lit := .string x.data.toList
theorem litK_inj {x y : ByteArray} (h : litK x = litK y) : x = y := by
  unfold litK at h
  injection h with h
  exact ByteArray.ext (Array.toList_inj.1 h)
theorem litK_key (x : ByteArray) : WideAt.IsKeyLit (litK x) := trivial
theorem sameKey_litK (x : ByteArray) : (litK x).sameKey (litK x) = true := WideAt.sameKey_self (litK_key x)
/-- Whatever lies in the map, as it lies. -/
def anyR (v : Value) : Option (DataW Value × List MemPlace) := some (.held v, [])
theorem keyedK : Maps.Keyed Tryz.prog 9 := Maps.string_keyed Tryz.underlying9
theorem keyOfK {x : ByteArray} (hx : x.size ≤ maxLen) : keyOf Tryz.prog 9 (.string x) = some (litK x) := WideMaps.keyOf_string_mk Tryz.underlying9 hx
theorem keyOfK_inv {v : Value} {l : Lit} (h : keyOf Tryz.prog 9 v = some l) : ∃ x : ByteArray, v = .string x ∧ l = litK x ∧ x.size ≤ maxLen := by
  cases v <;> simp [keyOf, Tryz.underlying9, mapKey] at h
  rename_i s
  exact ⟨s, rfl, h.2.symm, h.1⟩
/-- In the world w block b is a map that tells D. -/
abbrev OwnM (w : World) (b n : Nat) (D : DataW Value) : Prop := w.ownsMap Tryz.prog 9 anyR b n D
theorem OwnM.tight {w : World} {b n : Nat} {D : DataW Value} (h : OwnM w b n D) : OwnM w b (Maps.size D) D := by
  obtain ⟨es, clock, hb, F, hs, rfl⟩ := h
  refine ⟨es, clock, hb, F, ?_, rfl⟩
  rw [Maps.size_eq, length_sorted]
  simp
theorem OwnM.keys {w : World} {b n : Nat} {D : DataW Value} (h : OwnM w b n D) : ∃ es, D = .map es ∧ es.Pairwise (fun p q => p.1 ≠ q.1) ∧ ∀ p ∈ es, ∃ x : ByteArray, x.size ≤ maxLen ∧ p.1 = litK x := by
  have ht := World.ownsMap.tidy h keyedK
  obtain ⟨es0, clock, hb, F, hs, rfl⟩ := h
  obtain ⟨es1, he, hp⟩ := ht
  injection he with he
  refine ⟨_, rfl, by rw [he]; exact hp, fun p hp' => ?_⟩
  obtain ⟨x, hx, rfl⟩ := List.mem_map.1 (mem_sorted.1 hp')
  obtain ⟨y, hy⟩ := F.reads x hx
  obtain ⟨z, h1, h2, h3⟩ := keyOfK_inv (WideElems.rd_key hy)
  exact ⟨z, h3, by rw [WideElems.rg_of hy]; exact h2⟩
theorem length_le_sub {α : Type} : ∀ {l m : List α}, l.Nodup → (∀ x ∈ l, x ∈ m) → l.length ≤ m.length
  | [], _, _, _ => Nat.zero_le _
  | a :: l, m, hn, hs => by
    classical
    obtain ⟨h1, h2⟩ := List.nodup_cons.1 hn
    have ha := hs a (by simp)
    have := length_le_sub (l := l) (m := m.erase a) h2 (fun x hx => (List.mem_erase_of_ne (show x ≠ a from fun e => h1 (e ▸ hx))).2 (hs x (by simp [hx])))
    rw [List.length_erase_of_mem ha] at this
    have := List.length_pos_of_mem ha
    simp only [List.length_cons]
    omega
theorem OwnR.same {T : TypeId} {w w' : World} {B : Nat} {v : Value} {l : List Ver} (h : OwnR verE T w B v l) (hb : ∀ k, v.ownBlock = some k → w'.heap[k]? = w.heap[k]?) : OwnR verE T w' B v l := by
  obtain ⟨h1, h2⟩ := h
  refine ⟨h1, ?_⟩
  rcases h2 with h2 | ⟨g, cap, cur, hv, hbg, hg, hrest⟩
  · exact Or.inl h2
  · refine Or.inr ⟨g, cap, cur, hv, hbg, ?_, hrest⟩
    rw [hb g (by rw [hv]; rfl)]
    exact hg
theorem OwnM.same {w w' : World} {b n : Nat} {D : DataW Value} (h : OwnM w b n D) (hb : w'.heap[b]? = w.heap[b]?) : OwnM w' b n D := by
  obtain ⟨es, clock, h1, h2⟩ := h
  exact ⟨es, clock, hb.trans h1, h2⟩
theorem cell_same {w w' : World} {b : Nat} (h : w'.heap[b]? = w.heap[b]?) (o : Nat) : w'.cell? ⟨b, o, none⟩ = w.cell? ⟨b, o, none⟩ ∧ w'.frozen? ⟨b, o, none⟩ = w.frozen? ⟨b, o, none⟩ := ⟨World.cell?_of_block (a := ⟨b, o, none⟩) h, World.frozen?_of_block (a := ⟨b, o, none⟩) h⟩
/-- Into a map that is there. -/
structure SetOk (w w' : World) (b : Nat) (D : DataW Value) (key : ByteArray) (v : Value) : Prop where
  own : ∃ n, OwnM w' b n (D.put (litK key) (.held v))
  grown : w.grownBy w' (some b)
theorem set_step {w W : World} {b n : Nat} {D : DataW Value} {key : ByteArray} {v : Value} (hown : OwnM w b n D) (hn : n < maxLen) (hk : key.size ≤ maxLen) (hb : Below w.heap.size w W) :
    ∃ w', (Instr.mapUpdate 37 (.map (some b)) (.string key) v).run Tryz.prog W = .ok () w' ∧ SetOk w w' b D key v := by
  have hlt : b < w.heap.size := World.ownsMap.lt hown
  have hown2 : OwnM W b n D := hown.same (hb.block b hlt)
  obtain ⟨w', hrun, h1, h2⟩ := World.ownsMap.update hown2 keyedK Tryz.underlying37 hn (val := v) (d := .held v) (ps := []) (keyOfK hk) rfl
  refine ⟨w', hrun, ⟨_, h1⟩, ⟨h2.os.trans hb.os, h2.tape.trans hb.tape, h2.output.trans hb.output, Nat.le_trans hb.size h2.size, fun k hk hne => ?_⟩⟩
  rw [h2.block k (Nat.lt_of_lt_of_le hk hb.size) hne]
  exact hb.block k hk
theorem map_not_nil (b : Nat) (W : World) : Sem.run Tryz.prog (binOp .eql 37 (.map (some b)) (.map none)) W = .ok (.bool false) W := by kernel_rfl
theorem map_is_nil (W : World) : Sem.run Tryz.prog (binOp .eql 37 (.map none) (.map none)) W = .ok (.bool true) W := by kernel_rfl
theorem below_drew' {B : Nat} {w W : World} (h : Below B w.drew W) : Below B w W := ⟨h.os, h.tape, h.output, h.size, h.block⟩
/-- A text of bytes. -/
def ofL (l : List UInt8) : ByteArray := ⟨l.toArray⟩
theorem ofL_size (l : List UInt8) : (ofL l).size = l.length := by
  show l.toArray.size = l.length
  simp
theorem ofL_data (l : List UInt8) : (ofL l).data.toList = l := by simp [ofL]
theorem ofL_self (s : ByteArray) : ofL s.data.toList = s := by
  unfold ofL
  rw [Array.toArray_toList]
theorem extract_ofL (l : List UInt8) (a b : Nat) : (ofL l).extract a b = ofL ((l.take b).drop a) := by
  refine ByteArray.ext (Array.toList_inj.1 ?_)
  rw [ByteArray.data_extract, Array.toList_extract, ofL_data, ofL_data, List.extract_eq_take_drop]
  rw [List.drop_take]
theorem ofL_left (a b : List UInt8) : (ofL (a ++ b)).extract 0 a.length = ofL a := by rw [extract_ofL]; simp
theorem ofL_right (a b : List UInt8) : (ofL (a ++ b)).extract a.length (ofL (a ++ b)).size = ofL b := by
  rw [extract_ofL, ofL_size, List.take_of_length_le (Nat.le_refl _), List.drop_left]
theorem ofL_append (a b : List UInt8) : ofL a ++ ofL b = ofL (a ++ b) := by
  apply ByteArray.ext
  simp [ofL]
theorem ofL_str (l : List Nat) : strOf l = ofL (l.map UInt8.ofNat) := by
  unfold strOf strOfNums ofL
  rw [List.map_map]
  rfl
end Go.Proofs.YtmbpfbhpmafheaaGreatDoor
