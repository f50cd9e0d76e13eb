/- Texts laid together. -/
import Derived.Test.YtppcijpgalaohaaGreatDoorGe7
import Derived.StillTailTactics
import Derived.Lib.AppendZerosOnto
import Derived.Deep.OwnRows
import Derived.Laws.RangeAny
namespace Go.Proofs.YtppcijpgalaohaaGreatDoor
open Go.RowKit
section
open Ring Go.Sort
/-- A point: its number, its node, which of the node's. -/
abbrev Pt := Nat × ByteArray × Nat
def pEnc (x : Pt) : List Value := [.int .u32 (x.1 : Int), .string x.2.1, .int .i64 (x.2.2 : Int)]
def pE : Enc Pt where
  k := 3
  pos := by decide
  enc := pEnc
  len := fun _ => rfl
  one := fun x u hu => by
    simp [pEnc] at hu
    rcases hu with rfl | rfl | rfl <;> rfl
/-- What two points compare as. -/
def pCf (p q : Pt) : Int := orI (cmpN p.1 q.1) (cmpT p.2.1 q.2.1) (cmpN p.2.2 q.2.2)
def nn (p : Pt) : Nat × ByteArray := (p.1, p.2.1)
/-- p comes ahead of q. -/
def tlt (p q : Pt) : Prop := plt (nn p) (nn q) ∨ nn p = nn q ∧ p.2.2 < q.2.2
theorem cmpN_lt {a b : Nat} : cmpN a b < 0 ↔ a < b := by
  unfold cmpN
  split
  · rename_i h; exact ⟨fun _ => h, fun _ => by decide⟩
  · rename_i h
    split
    · exact ⟨fun h3 => absurd h3 (by decide), fun h3 => absurd h3 h⟩
    · exact ⟨fun h3 => absurd h3 (by decide), fun h3 => absurd h3 h⟩
theorem cmpN_zero {a b : Nat} : cmpN a b = 0 ↔ a = b := by
  unfold cmpN
  split
  · rename_i h; exact ⟨fun h3 => absurd h3 (by decide), fun h3 => by omega⟩
  · split
    · exact ⟨fun h3 => absurd h3 (by decide), fun h3 => by omega⟩
    · exact ⟨fun _ => by omega, fun _ => rfl⟩
theorem cmpT_lt {x y : ByteArray} : cmpT x y < 0 ↔ bl x y := by
  unfold cmpT bl
  split
  · rename_i h; exact ⟨fun _ => h, fun _ => by decide⟩
  · rename_i h
    split
    · exact ⟨fun h3 => absurd h3 (by decide), fun h3 => absurd h3 h⟩
    · exact ⟨fun h3 => absurd h3 (by decide), fun h3 => absurd h3 h⟩
theorem cmpT_zero {x y : ByteArray} : cmpT x y = 0 ↔ x = y := by
  unfold cmpT
  split
  · rename_i h
    exact ⟨fun h3 => absurd h3 (by decide), fun h3 => by rw [h3, less_irrefl] at h; cases h⟩
  · rename_i h
    split
    · rename_i h2
      exact ⟨fun h3 => absurd h3 (by decide), fun h3 => by rw [h3, less_irrefl] at h2; cases h2⟩
    · rename_i h2
      refine ⟨fun _ => Classical.byContradiction fun hne => ?_, fun _ => rfl⟩
      rcases bl_total hne with h4 | h4
      · exact h h4
      · exact h2 h4
theorem pCf_lt {p q : Pt} : pCf p q < 0 ↔ tlt p q := by
  unfold pCf orI tlt plt nn
  by_cases h1 : p.1 = q.1
  · rw [if_neg (fun h => h (cmpN_zero.2 h1))]
    by_cases h2 : p.2.1 = q.2.1
    · rw [if_neg (fun h => h (cmpT_zero.2 h2)), cmpN_lt]
      constructor
      · intro h3
        exact Or.inr ⟨by rw [h1, h2], h3⟩
      · rintro ((h3 | ⟨_, h3⟩) | ⟨_, h3⟩)
        · have h4 : p.1 < q.1 := h3
          omega
        · have h4 : bl p.2.1 q.2.1 := h3
          rw [h2] at h4
          exact absurd h4 (bl_irrefl _)
        · exact h3
    · rw [if_pos (fun h => h2 (cmpT_zero.1 h)), cmpT_lt]
      constructor
      · intro h3
        exact Or.inl (Or.inr ⟨h1, h3⟩)
      · rintro ((h3 | ⟨_, h3⟩) | ⟨h3, _⟩)
        · have h4 : p.1 < q.1 := h3
          omega
        · exact h3
        · exact absurd (congrArg Prod.snd h3) h2
  · rw [if_pos (fun h => h1 (cmpN_zero.1 h)), cmpN_lt]
    constructor
    · intro h3
      exact Or.inl (Or.inl h3)
    · rintro ((h3 | ⟨h3, _⟩) | ⟨h3, _⟩)
      · exact h3
      · exact absurd h3 h1
      · exact absurd (congrArg Prod.fst h3) h1
theorem ltOf_iff {p q : Pt} : ltOf pCf p q = true ↔ tlt p q := by
  unfold ltOf
  rw [decide_eq_true_iff]
  exact pCf_lt
theorem tlt_irrefl (p : Pt) : ¬ tlt p p := by
  rintro (h | ⟨_, h⟩)
  · exact plt_irrefl _ h
  · exact Nat.lt_irrefl _ h
theorem tlt_trans {p q r : Pt} (h1 : tlt p q) (h2 : tlt q r) : tlt p r := by
  rcases h1 with h1 | ⟨e1, h1⟩
  · rcases h2 with h2 | ⟨e2, _⟩
    · exact Or.inl (plt_trans h1 h2)
    · exact Or.inl (by rw [← e2]; exact h1)
  · rcases h2 with h2 | ⟨e2, h2⟩
    · exact Or.inl (by rw [e1]; exact h2)
    · exact Or.inr ⟨e1.trans e2, by omega⟩
theorem tlt_not {p q r : Pt} (h1 : ¬ tlt p q) (h2 : ¬ tlt q r) : ¬ tlt p r := fun h3 => by
  by_cases e : nn p = nn q
  · have hle : q.2.2 ≤ p.2.2 := by
      rcases Nat.lt_or_ge p.2.2 q.2.2 with h4 | h4
      · exact absurd (Or.inr ⟨e, h4⟩) h1
      · exact h4
    rcases h3 with h3 | ⟨e3, h3⟩
    · exact h2 (Or.inl (by rw [← e]; exact h3))
    · exact h2 (Or.inr ⟨e.symm.trans e3, by omega⟩)
  · rcases plt_total e with h4 | h4
    · exact h1 (Or.inl h4)
    · exact h2 (tlt_trans (Or.inl h4) h3)
theorem swoP : SWO (ltOf pCf) where
  irrefl x := Bool.eq_false_iff.2 fun h => tlt_irrefl x (ltOf_iff.1 h)
  trans x y z h1 h2 := ltOf_iff.2 (tlt_trans (ltOf_iff.1 h1) (ltOf_iff.1 h2))
  ntrans x y z h1 h2 := Bool.eq_false_iff.2 fun h => tlt_not (fun h3 => by rw [ltOf_iff.2 h3] at h1; cases h1) (fun h3 => by rw [ltOf_iff.2 h3] at h2; cases h2) (ltOf_iff.1 h)
set_option maxRecDepth 10000 in
set_option maxHeartbeats 2000000 in
theorem pcmp_any (p q : Pt) (W : World) : Calls Tryz.prog 49 #[.agg (pEnc p).toArray, .agg (pEnc q).toArray] W fun e w' => e = .returned (.int .i64 (pCf p q)) ∧ ∃ n os, w' = grow (W.drewN n) os := by
  obtain ⟨a, x, i⟩ := p
  obtain ⟨b, y, j⟩ := q
  obtain ⟨W2, hW2⟩ : ∃ W2, W2 = (W.alloc (.cells #[.int .u32 (a : Int), .string x, .int .i64 (i : Int)] 92)).alloc (.cells #[.int .u32 (b : Int), .string y, .int .i64 (j : Int)] 92) := ⟨_, rfl⟩
  have HG : Hid (∃ os, W2 = grow W os) := ⟨_, by rw [hW2, alloc_eq_grow, alloc_eq_grow, grow_grow]⟩
  have q1 : W2.cell? ⟨W.heap.size, 0, none⟩ = some (.int .u32 (a : Int)) := by rw [hW2]; simp
  have q2 : W2.cell? ⟨W.heap.size, 1, none⟩ = some (.string x) := by rw [hW2]; simp
  have q3 : W2.cell? ⟨W.heap.size, 2, none⟩ = some (.int .i64 (i : Int)) := by rw [hW2]; simp
  have q4 : W2.cell? ⟨W.heap.size + 1, 0, none⟩ = some (.int .u32 (b : Int)) := by rw [hW2]; simp
  have q5 : W2.cell? ⟨W.heap.size + 1, 1, none⟩ = some (.string y) := by rw [hW2]; simp
  have q6 : W2.cell? ⟨W.heap.size + 1, 2, none⟩ = some (.int .i64 (j : Int)) := by rw [hW2]; simp
  have HW2 : Hid (W2 = (W.alloc (.cells #[.int .u32 (a : Int), .string x, .int .i64 (i : Int)] 92)).alloc (.cells #[.int .u32 (b : Int), .string y, .int .i64 (j : Int)] 92)) := hW2
  clear hW2
  show Calls Tryz.prog 49 #[.agg #[.int .u32 (a : Int), .string x, .int .i64 (i : Int)], .agg #[.int .u32 (b : Int), .string y, .int .i64 (j : Int)]] W fun e w' => e = .returned (.int .i64 (orI (cmpN a b) (cmpT x y) (cmpN i j))) ∧ ∃ n os, w' = grow (W.drewN n) os
  have c1 := fun W => cmp_u32 a b W
  have c2 := fun W => cmp_txt x y W
  have c3 := fun W => cmp_int i j W
  have c4 := fun g W h0 h1 h2 => or_three g 0 (cmpN a b) (cmpT x y) (cmpN i j) W h0 h1 h2
  generalize cmpN a b = r1 at *
  generalize cmpT x y = r2 at *
  generalize cmpN i j = r3 at *
  generalize orI r1 r2 r3 = r at *
  have C1 : Hid (∀ W, Calls Tryz.prog 51 #[.int .u32 (a : Int), .int .u32 (b : Int)] W fun e w' => e = .returned (.int .i64 r1) ∧ w' = W) := c1
  have C2 : Hid (∀ W, Calls Tryz.prog 52 #[.string x, .string y] W fun e w' => e = .returned (.int .i64 r2) ∧ w' = W) := c2
  have C3 : Hid (∀ W, Calls Tryz.prog 53 #[.int .i64 (i : Int), .int .i64 (j : Int)] W fun e w' => e = .returned (.int .i64 r3) ∧ w' = W) := c3
  have C4 : Hid (∀ g W, W.cell? ⟨g, 0, none⟩ = some (.int .i64 r1) → W.cell? ⟨g, 1, none⟩ = some (.int .i64 r2) → W.cell? ⟨g, 2, none⟩ = some (.int .i64 r3) → Calls Tryz.prog 50 #[.slice (some ⟨g, 0, none⟩) 3 3] W fun e w' => e = .returned (.int .i64 r) ∧ w' = W) := c4
  clear c1 c2 c3 c4
  go_enter Tryz.func49, Tryz.ntmps49
  go_wp2
  rw [← HW2.out]
  clear HW2
  refine wp_region_still_tail 15 (by kernel_rfl) (by kernel_rfl) ?_
  simp only [List.take_succ_cons, List.take_zero, List.drop_succ_cons, List.drop_zero]
  still_step
  still_step
  still_step
  still_step
  still_call (C1.out _)
  still_step
  still_step
  still_step
  still_step
  still_call (C2.out _)
  still_step
  still_step
  still_step
  still_step
  still_call (C3.out _)
  refine wpStill_nil ?_
  change wpList _ _ _ _ _ (W2.drewN 1)
  have HG3 : Hid (∃ os, W2.drewN 1 = grow (W.drewN 1) os) := by
    obtain ⟨os, h⟩ := HG.out
    exact ⟨os, by rw [h]; rfl⟩
  generalize W2.drewN 1 = W3 at HG3 ⊢
  clear q1 q2 q3 q4 q5 q6
  go_wp2_with (go_at_call 50; refine (C4.out _ _ (by simp) (by simp) (by simp)).mono ?_; rintro e w' ⟨rfl, rfl⟩)
  go_ret
  obtain ⟨os, h⟩ := HG3.out
  exact ⟨rfl, 1, _, by rw [h, alloc_eq_grow, grow_grow]⟩
theorem cmpLays (blk off size : Nat) (w : World) : CmpLays Tryz.prog 49 #[] pEnc 3 pCf blk off size w := fun _ _ _ _ x y => pcmp_any x y _
end
section
open Ring Go.Sort
theorem digit (k : Nat) (hk : k < 8) : (⟨(Lib.decDigits k).toArray⟩ : ByteArray) = strOf [48 + k] := by
  rcases (show k = 0 ∨ k = 1 ∨ k = 2 ∨ k = 3 ∨ k = 4 ∨ k = 5 ∨ k = 6 ∨ k = 7 by omega) with rfl | rfl | rfl | rfl | rfl | rfl | rfl | rfl <;> (unfold Lib.decDigits; rfl)
/-- Point j of all. -/
def ptAt (nodes : List ByteArray) (j : Nat) : Pt := (ptN (txt nodes (j / 8)) (j % 8), txt nodes (j / 8), j % 8)
def ptsL (nodes : List ByteArray) (m : Nat) : List Pt := (List.range m).map (ptAt nodes)
theorem ptsL_length (nodes : List ByteArray) (m : Nat) : (ptsL nodes m).length = m := by simp [ptsL]
theorem ptsL_succ (nodes : List ByteArray) (m : Nat) : ptsL nodes (m + 1) = ptsL nodes m ++ [ptAt nodes m] := by simp [ptsL, List.range_succ]
def qOf (ps : List Pt) (i : Nat) : Nat × ByteArray := nn (ps.getD i (0, ⟨#[]⟩, 0))
theorem qOf_get {ps : List Pt} {i : Nat} (h : i < ps.length) : qOf ps i = nn ps[i] := by
  unfold qOf
  rw [List.getD_eq_getElem?_getD, List.getElem?_eq_getElem h]
  rfl
/-- ps are the points of the nodes, in their order. -/
structure RingP (nodes : List ByteArray) (ps : List Pt) : Prop where
  len : ps.length = 8 * nodes.length
  sorted : ∀ i j, i < j → j < ps.length → ¬ plt (qOf ps j) (qOf ps i)
  mem : ∀ i, i < ps.length → (qOf ps i).2 ∈ nodes ∧ ∃ k, k < 8 ∧ (qOf ps i).1 = ptN (qOf ps i).2 k
  all : ∀ x ∈ nodes, ∀ k, k < 8 → ∃ i, i < ps.length ∧ qOf ps i = (ptN x k, x)
theorem ringP_of {nodes : List ByteArray} {d' : Array Pt} (hp : PermIn 0 (ptsL nodes (8 * nodes.length)).toArray.size (ptsL nodes (8 * nodes.length)).toArray d') (hs : SortedIn (ltOf pCf) 0 (ptsL nodes (8 * nodes.length)).toArray.size d') : RingP nodes d'.toList := by
  obtain ⟨h1, _, h3⟩ := hp
  have hsz : d'.size = 8 * nodes.length := by rw [h1]; simp [ptsL_length]
  have hd : (ptsL nodes (8 * nodes.length)).toArray.size = 8 * nodes.length := by simp [ptsL_length]
  have hperm : d'.toList.Perm (ptsL nodes (8 * nodes.length)) := by
    have e1 : d'.extract 0 (ptsL nodes (8 * nodes.length)).toArray.size = d' := by rw [← h1]; exact Array.extract_size
    have e2 : (ptsL nodes (8 * nodes.length)).toArray.extract 0 (ptsL nodes (8 * nodes.length)).toArray.size = (ptsL nodes (8 * nodes.length)).toArray := Array.extract_size
    rw [e1, e2] at h3
    exact h3
  have hlen : d'.toList.length = 8 * nodes.length := by rw [Array.length_toList, hsz]
  refine ⟨hlen, fun i j hij hj => ?_, fun i hi => ?_, fun x hx k hk => ?_⟩
  · have hj' : j < d'.size := by rw [hsz]; omega
    have hi' : i < d'.size := by omega
    have := hs i j (Nat.zero_le _) hij (by rw [hd]; omega)
    rw [getElem!_pos d' j hj', getElem!_pos d' i hi'] at this
    rw [qOf_get hj, qOf_get (by omega)]
    intro hq
    rw [ltOf_iff.2 (Or.inl (by simpa using hq))] at this
    cases this
  · have hm : d'.toList[i] ∈ ptsL nodes (8 * nodes.length) := hperm.mem_iff.1 (List.getElem_mem hi)
    rw [qOf_get hi]
    obtain ⟨j, hj, e⟩ := List.mem_map.1 hm
    rw [List.mem_range] at hj
    rw [← e]
    exact ⟨txt_mem (by omega), j % 8, Nat.mod_lt _ (by decide), rfl⟩
  · obtain ⟨q, hq, rfl⟩ := txt_of_mem hx
    have hm : ptAt nodes (8 * q + k) ∈ d'.toList := hperm.mem_iff.2 (List.mem_map.2 ⟨8 * q + k, List.mem_range.2 (by omega), rfl⟩)
    obtain ⟨i, hi, e⟩ := List.getElem_of_mem hm
    refine ⟨i, hi, ?_⟩
    rw [qOf_get hi, e]
    unfold nn ptAt
    rw [show (8 * q + k) / 8 = q by omega, show (8 * q + k) % 8 = k by omega]
/-- A row of points, as the sort asks for it. -/
theorem holdsP {w : World} {B g cap : Nat} {l : List Pt} (h : OwnR pE 92 w B (.slice (some ⟨g, 0, none⟩) l.length cap) l) : HoldsK pEnc 3 w g 0 l.toArray := by
  intro j hj
  rw [size_flatK] at hj
  have hj' : j < l.length * 3 := by simpa using hj
  have hk : w.ownsRow B 92 pE.k (.slice (some ⟨g, 0, none⟩) l.length cap) l.length (recVals pE l) := h
  obtain ⟨hl, h2⟩ := h
  rcases h2 with ⟨h0, _⟩ | ⟨g', cap', cur, hv, hbg, hg, h3, h4, h5, h6⟩
  · cases h0
  obtain rfl : g = g' := by
    have := congrArg Value.ownBlock hv
    simpa [Value.ownBlock] using this
  refine ⟨?_, by simp [World.frozen?, hg]⟩
  have hi : j / 3 < l.length := by omega
  have hx : l[j / 3]? = some l[j / 3] := List.getElem?_eq_getElem hi
  have hu : (pEnc l[j / 3])[j % 3]? = some ((pEnc l[j / 3])[j % 3]'(by show j % 3 < 3; omega)) := List.getElem?_eq_getElem (by show j % 3 < 3; omega)
  have hr := recVals_at pE l (j / 3) _ hx (j % 3) _ hu
  have hc := World.ownsRow.cells (g := g) hk rfl _ _ hr
  rw [Addr.add_lit] at hc
  have ej : j / 3 * pE.k + j % 3 = j := by show j / 3 * 3 + j % 3 = j; omega
  rw [ej] at hc
  rw [hc, get_flatK pEnc 3 l.toArray j (by simpa using hj')]
  have e1 : l.toArray[j / 3]! = l[j / 3] := by rw [getElem!_pos l.toArray (j / 3) (by simpa using hi)]; simp
  rw [e1, getElem!_pos (pEnc l[j / 3]) (j % 3) (by show j % 3 < 3; omega)]
  rfl
theorem sorted_below {w W : World} {B g n : Nat} {d : Array Pt} {os : Array Obj} (hb : Below B w W) (hB : B ≤ g) (hW : B ≤ W.heap.size) : Below B w (sortWorldK pEnc 3 W g 0 n d os) := by
  refine hb.trans ⟨rfl, rfl, rfl, size_sortWorldK_c pEnc 3 W g 0 n d os, fun k hk => ?_⟩
  unfold sortWorldK
  rw [heap_grow_old _ _ (by rw [show (putRowK pEnc 3 (Sort.ahead W n) g 0 d).heap.size = W.heap.size by simp [putRowK, putRow, mapBlock, Sort.ahead]]; omega)]
  have : g ≠ k := by omega
  simp [putRowK, putRow, mapBlock, Sort.ahead, Array.getElem?_modify, this]
set_option maxRecDepth 10000 in
set_option maxHeartbeats 4000000 in
theorem points_any (p : Option Addr) (nodes : List ByteArray) (c : Nat) (w : World) (hl1 : 1 ≤ nodes.length) (hl2 : nodes.length ≤ 16) (hx : ∀ x ∈ nodes, x.size ≤ 16) (hs : Strs w p nodes) :
    Calls Tryz.prog 34 #[.slice p nodes.length c] w fun e w' => (∃ g cap ps, e = .returned (.slice (some ⟨g, 0, none⟩) ps.length cap) ∧ ps.length ≤ cap ∧ w.heap.size ≤ g ∧ Rec pE w' (some ⟨g, 0, none⟩) ps ∧ RingP nodes ps) ∧ Below w.heap.size w w' := by
  have HX : Hid (∀ i, i < nodes.length → (txt nodes i).size ≤ 16) := fun i hi => hx _ (txt_mem hi)
  have HS : Hid (Strs w p nodes) := hs
  obtain ⟨b, o, rfl⟩ : ∃ b o, p = some ⟨b, o, none⟩ := by
    rcases hs with h0 | ⟨b, o, hp, _⟩
    · rw [h0] at hl1; exact absurd hl1 (by decide)
    · exact ⟨b, o, hp⟩
  clear hs hx
  go_enter Tryz.func34, Tryz.ntmps34
  go_wp2
  go_loopw [3, 9] (fun v x wq => ∃ i : Nat, i ≤ nodes.length ∧ x = .int .i64 i ∧ OwnR pE 92 wq w.heap.size v (ptsL nodes (8 * i)) ∧ Below w.heap.size w wq) (fun _ x _ => nodes.length - (intOf x).toNat)
  case atStart => exact ⟨0, Nat.zero_le _, rfl, OwnR.nil _ _ _, Below.refl _ _⟩
  case round =>
    obtain ⟨i, hi, rfl, hO, hB⟩ := hrel
    obtain ⟨w2, rfl⟩ : ∃ w2, w2 = wr := ⟨_, rfl⟩
    obtain ⟨v, rfl⟩ : ∃ v, v = u3 := ⟨_, rfl⟩
    have HO : Hid (OwnR pE 92 w2 w.heap.size v (ptsL nodes (8 * i))) := hO
    have HB : Hid (Below w.heap.size w w2) := hB
    clear hO hB
    by_cases hil : i < nodes.length
    · have q0 : w2.cell? ⟨b, o + i, none⟩ = some (.string (txt nodes i)) := by
        rcases (HS.out.below HB.out) with h0 | ⟨b', o', hp, _, hcell⟩
        · rw [h0] at hil; exact absurd hil (Nat.not_lt_zero _)
        · obtain ⟨rfl, rfl⟩ : b = b' ∧ o = o' := by simpa using hp
          exact hcell i hil
      have hsz := HX.out i hil
      obtain ⟨t, ht⟩ : ∃ t, t = txt nodes i := ⟨_, rfl⟩
      rw [← ht] at q0 hsz
      have HT : Hid (t = txt nodes i) := ht
      clear ht HS HX
      go_wp2
      clear q0
      go_loopw [3, 13] (fun v x wq => ∃ k : Nat, k ≤ 8 ∧ x = .int .i64 k ∧ OwnR pE 92 wq w.heap.size v (ptsL nodes (8 * i + k)) ∧ Below w.heap.size w wq) (fun _ x _ => 8 - (intOf x).toNat)
      case atStart => exact ⟨0, by omega, rfl, HO.out, HB.out⟩
      case round =>
        obtain ⟨k, hk, rfl, hO, hB⟩ := hrel
        obtain ⟨w3, rfl⟩ : ∃ w3, w3 = wr := ⟨_, rfl⟩
        obtain ⟨v, rfl⟩ : ∃ v, v = u3 := ⟨_, rfl⟩
        have HO3 : Hid (OwnR pE 92 w3 w.heap.size v (ptsL nodes (8 * i + k))) := hO
        have HB3 : Hid (Below w.heap.size w w3) := hB
        have HLEN : Hid ((ptsL nodes (8 * i + k)).length = 8 * i + k) := ptsL_length _ _
        clear hO hB HO HB
        by_cases hkl8 : k < 8
        · have HN : Hid (ptsL nodes (8 * i + (k + 1)) = ptsL nodes (8 * i + k) ++ [(ptN t k, t, k)]) := by
            show _ = _
            rw [show 8 * i + (k + 1) = 8 * i + k + 1 by omega, ptsL_succ, HT.out]
            unfold ptAt
            rw [show (8 * i + k) / 8 = i by omega, show (8 * i + k) % 8 = k by omega]
          have HDEC : Hid (∀ W, Calls Tryz.prog 47 #[.int .i64 (k : Int)] W fun e w' => e = .returned (.string (strOf [48 + k])) ∧ w' = W) := fun W => by
            have := Tryz.strconv_Itoa_small k (by omega) W
            rw [digit k hkl8] at this
            exact this
          have HHASH : Hid (∀ W, Calls Tryz.prog 37 #[.string (t ++ ⟨#[35]⟩ ++ strOf [48 + k])] W fun e w' => e = .returned (.int .u32 ((ptN t k : Nat) : Int)) ∧ w' = W) := fun W => hash_any _ W (by rw [ByteArray.size_append, ByteArray.size_append, strOf_size]; show _ + 1 + 1 ≤ _; omega)
          have hds : (strOf [48 + k]).size = 1 := strOf_size _
          generalize ptsL nodes (8 * i + k) = ps at *
          generalize ptN t k = m at *
          generalize strOf [48 + k] = d at *
          have hz1 : ¬ 9223372036854775807 < t.size + 1 := by omega
          go_wp2_with fail
          refine (HDEC.out _).mono ?_
          rintro e w4 ⟨rfl, hw4⟩
          rw [hw4]
          clear hw4 w4 HDEC
          go_wp2_with fail
          refine (HHASH.out _).mono ?_
          rintro e w4 ⟨rfl, hw4⟩
          rw [hw4]
          clear hw4 w4 HHASH
          have HO5 : Hid (OwnR pE 92 (w3.alloc (.cells #[.int .u32 (m : Int), .string t, .int .i64 (k : Int)] 92)) w.heap.size v ps) := HO3.out.kept ((Below.refl _ _).alloc (Nat.le_refl _) _)
          have HB5 : Hid (Below w.heap.size w (w3.alloc (.cells #[.int .u32 (m : Int), .string t, .int .i64 (k : Int)] 92))) := HB3.out.alloc HB3.out.size _
          have HLE : Hid (ps.length + 1 ≤ 200) := by show _ ≤ _; have := HLEN.out; omega
          have HLT : Hid (w3.heap.size < (w3.alloc (.cells #[.int .u32 (m : Int), .string t, .int .i64 (k : Int)] 92)).heap.size) := by show _ < _; simp
          have HNW : Hid (∀ j u, (pE.enc (m, t, k))[j]? = some u → (w3.alloc (.cells #[.int .u32 (m : Int), .string t, .int .i64 (k : Int)] 92)).cell? ⟨w3.heap.size, 0 + j, none⟩ = some u) := fun j u hu => by
            rw [Nat.zero_add, World.cell?_alloc_at _ _ _ _ rfl]
            rw [← hu]
            show (#[Value.int .u32 (m : Int), .string t, .int .i64 (k : Int)] : Array Value)[j]? = ([Value.int .u32 (m : Int), .string t, .int .i64 (k : Int)] : List Value)[j]?
            rw [← Array.getElem?_toList]
          go_wp2_with (first | (at_builtin; refine wpList_append_rec (E := pE) rfl (.tmp 16) (.tmp 26) 71 92 rfl (.agg #[.int .u32 0, .string ⟨#[]⟩, .int .i64 0]) 32 Tryz.underlying71 (by kernel_rfl) rfl w.heap.size v ps rfl HO5.out w3.heap.size 0 1 (m, t, k) rfl HNW.out (by have := HLE.out; unfold maxLen; omega) (by have := HLE.out; omega) HB5.out.size HLT.out ?_; intro v' w6 hO6 hb6))
          have HO6 : Hid (OwnR pE 92 w6 w.heap.size v' (ptsL nodes (8 * i + (k + 1)))) := by
            show OwnR pE 92 w6 w.heap.size v' (ptsL nodes (8 * i + (k + 1)))
            rw [HN.out]
            exact hO6
          have HB6 : Hid (Below w.heap.size w w6) := HB5.out.trans hb6
          clear hO6 hb6
          go_wp2
          go_roundw
          case rel => exact ⟨k + 1, by omega, by go_num, HO6.out, HB6.out⟩
          case measure => simp [intOf]; omega
        · have hk8 : k = 8 := by omega
          subst hk8
          have HE : Hid (8 * i + 8 = 8 * (i + 1)) := by show _ = _; omega
          go_wp2
          go_roundw
          case rel => exact ⟨i + 1, by omega, by go_num, by rw [← HE.out]; exact HO3.out, HB3.out⟩
          case measure => simp [intOf]; omega
    · have hie : i = nodes.length := by omega
      subst hie
      obtain ⟨pv, cv, rfl, hrec, hcv, hpn, hblk⟩ := HO.out.form
      obtain ⟨g, rfl⟩ : ∃ g, pv = some ⟨g, 0, none⟩ := by
        obtain ⟨_, h2⟩ := (show w2.ownsRow w.heap.size 92 pE.k (.slice pv (ptsL nodes (8 * nodes.length)).length cv) (ptsL nodes (8 * nodes.length)).length (recVals pE (ptsL nodes (8 * nodes.length))) from HO.out)
        rcases h2 with ⟨_, h0⟩ | ⟨g', cap', cur, hv, _⟩
        · rw [ptsL_length] at h0; omega
        · exact ⟨g', (Value.slice.inj hv).1⟩
      obtain ⟨hg1, hg2⟩ := hblk g 0 rfl
      have hH := holdsP HO.out
      have HSORT := Tryz.slices_SortFunc 3 Tryz.isAgg92 Tryz.sizeOf92 pEnc (fun _ => rfl) pE.one pCf swoP 49 #[] g 0 cv (ptsL nodes (8 * nodes.length)).toArray w2 (enters_of Tryz.func49 (by kernel_rfl) rfl) (cmpLays _ _ _ _) hH hg2 (by simp [ptsL_length]; omega)
      have HRP : Hid (∀ d' : Array Pt, PermIn 0 (ptsL nodes (8 * nodes.length)).toArray.size (ptsL nodes (8 * nodes.length)).toArray d' → SortedIn (ltOf pCf) 0 (ptsL nodes (8 * nodes.length)).toArray.size d' → RingP nodes d'.toList ∧ d'.size = (ptsL nodes (8 * nodes.length)).toArray.size) := fun d' h1 h2 => ⟨ringP_of h1 h2, h1.1⟩
      have HSZ : Hid ((ptsL nodes (8 * nodes.length)).toArray.size = (ptsL nodes (8 * nodes.length)).length) := by show _ = _; simp
      rw [HSZ.out] at HSORT
      have HH : Hid (HoldsK pEnc 3 w2 g 0 (ptsL nodes (8 * nodes.length)).toArray) := hH
      have HG1 : Hid (w.heap.size ≤ g) := hg1
      have HG2 : Hid (g < w2.heap.size) := hg2
      have HCV : Hid ((ptsL nodes (8 * nodes.length)).length ≤ cv) := hcv
      clear hrec hcv hpn hblk hg1 hg2 hH HO HS HX
      generalize ptsL nodes (8 * nodes.length) = ps at *
      go_wp2_with fail
      refine HSORT.mono ?_
      rintro e w3 ⟨rfl, d', n, os, hp, hso, hw3⟩
      clear HSORT
      obtain ⟨hRP, hsz⟩ := HRP.out d' hp hso
      have HRING : Hid (RingP nodes d'.toList) := hRP
      have HSZ' : Hid (d'.toList.length = ps.length) := by show _ = _; rw [Array.length_toList, hsz, HSZ.out]
      have HREC : Hid (Rec pE w3 (some ⟨g, 0, none⟩) d'.toList) := by
        have hk := holdsK_sortWorldK_c pEnc 3 w2 g 0 ps.toArray d' n os HH.out HG2.out hsz
        rw [← hw3] at hk
        refine Or.inr ⟨g, 0, rfl, ?_, fun i x hx j u hu => ?_⟩
        · rw [hw3]
          exact Nat.lt_of_lt_of_le HG2.out (size_sortWorldK_c pEnc 3 w2 g 0 n d' os)
        · have hi2 : i < d'.size := by
            have := (List.getElem?_eq_some_iff.1 hx).1
            rwa [Array.length_toList] at this
          have hj3 : j < 3 := (List.getElem?_eq_some_iff.1 hu).1
          have h5 := (hk.cell hi2 hj3).1
          have e1 : d'[i]! = x := by
            rw [getElem!_pos d' i hi2]
            have := (List.getElem?_eq_some_iff.1 hx).2
            simpa using this
          rw [e1] at h5
          have e2 : (pEnc x)[j]! = u := by
            have h6 := List.getElem?_eq_some_iff.1 hu
            rw [getElem!_pos (pEnc x) j h6.1]
            exact h6.2
          rw [e2] at h5
          exact h5
      have HB3 : Hid (Below w.heap.size w w3) := by
        show Below w.heap.size w w3
        rw [hw3]
        exact sorted_below HB.out HG1.out HB.out.size
      clear hw3 hp hso hRP hsz HRP HH
      go_wp2
      go_ret
      exact ⟨⟨g, cv, d'.toList, by rw [HSZ'.out]; rfl, by rw [HSZ'.out]; exact HCV.out, HG1.out, HREC.out, HRING.out⟩, HB3.out⟩
end
section
open Go.Sort
theorem ptinfo : (Tryz.prog.info? 92).map (fun i => (i.zero, i.size, i.bytes)) = some (some (.agg #[.int .u32 0, .string ⟨#[]⟩, .int .i64 0]), 3, 32) := by kernel_rfl
set_option maxRecDepth 10000 in
set_option maxHeartbeats 4000000 in
theorem grow_nil (n : Nat) (w : World) (h0 : 0 < n) (hn : n ≤ 1000) :
    Calls Tryz.prog 67 #[.slice none 0 0, .int .i64 (n : Int)] w fun e w' => (∃ v, e = .returned v ∧ OwnR pE 92 w' w.heap.size v []) ∧ Below w.heap.size w w' := by
  obtain ⟨i0, hi0, hz0, hz1, hzb⟩ := info_parts ptinfo
  have hold : (Builtin.firstCells i0.size 0 (.slice none 0 0)).run Tryz.prog w.drew = .ok ([] : List Value).toArray w.drew := run_firstCells_none w.drew i0.size 0 0 0
  have hrz : ∀ ty, (Builtin.append_ #[71, 3] ty #[.slice none 0 0, .int .i64 (n : Int)]).run Tryz.prog w =
      .ok (.slice (some ⟨w.heap.size, 0, none⟩) n (grownCap w n 0 92)) (w.drew.alloc (.cells (([] : List Value).toArray ++ Builtin.zeroCells (Value.agg #[.int .u32 0, .string ⟨#[]⟩, .int .i64 0]).cells n ++ Builtin.zeroCells (Value.agg #[.int .u32 0, .string ⟨#[]⟩, .int .i64 0]).cells (grownCap w n 0 92 - n)) 92)) := fun ty => by
    have h := Lib.run_append_grow_zeros w 71 3 ty 92 i0 _ .i64 .i64 Tryz.underlying71 Tryz.underlying3 hi0 hz0 none 0 0 [] hold n h0 (by rw [hz1]; decide) (by omega) (by omega) (by rw [hzb]; omega) (by rw [hzb]; exact growslice_fits (by omega) (by omega))
    rw [Nat.zero_add] at h
    exact h
  have hGn : n ≤ grownCap w n 0 92 := grownCap_ge w _ _ _
  have hGm : grownCap w n 0 92 ≤ maxLen := grownCap_le_maxLen w n 0 92 (by unfold maxLen; omega)
  generalize hG : grownCap w n 0 92 = G at *
  clear hG
  have hG63 : G ≤ 9223372036854775807 := by unfold maxLen at hGm; omega
  obtain ⟨cs, hcs⟩ : ∃ cs, cs = ([] : List Value).toArray ++ Builtin.zeroCells (Value.agg #[.int .u32 0, .string ⟨#[]⟩, .int .i64 0]).cells n ++ Builtin.zeroCells (Value.agg #[.int .u32 0, .string ⟨#[]⟩, .int .i64 0]).cells (G - n) := ⟨_, rfl⟩
  have hsz : cs.size = G * 3 := by
    have e3 : (Value.agg #[.int .u32 0, .string ⟨#[]⟩, .int .i64 0]).cells.size = 3 := rfl
    rw [hcs]
    simp [Builtin.zeroCells, e3]
    omega
  rw [← hcs] at hrz
  have HOWN : Hid (OwnR pE 92 (w.drew.alloc (.cells cs 92)) w.heap.size (.slice (some ⟨w.heap.size, 0, none⟩) 0 G) []) := by
    refine ⟨rfl, Or.inr ⟨w.heap.size, G, cs, rfl, Nat.le_refl _, ?_, Nat.zero_le _, hGm, hsz, ?_⟩⟩
    · have : w.drew.heap.size = w.heap.size := rfl
      rw [← this, heap_alloc_new]
    · simp [recVals]
  have HB : Hid (Below w.heap.size w (w.drew.alloc (.cells cs 92))) := (Below.refl _ _).drew.alloc (Nat.le_refl _) _
  have d1 : decide ((n : Int) < 0) = false := decide_eq_false (by omega)
  have d2 : decide (0 < (n : Int)) = true := decide_eq_true (by omega)
  clear hold hcs hGm hsz
  go_enter Tryz.func67, Tryz.ntmps67
  go_wp2_with (at_builtin; refine Lib.wpList_append_run _ rfl _ _ _ _ rfl _ _ rfl rfl _ _ (hrz _) ?_)
  go_ret
  exact ⟨⟨_, rfl, HOWN.out⟩, HB.out⟩
set_option maxRecDepth 10000 in
set_option maxHeartbeats 4000000 in
theorem concat_two (g c : Nat) (p1 p2 : Option Addr) (l1 l2 : List Pt) (c1 c2 : Nat) (w : World) (h0 : 0 < l1.length + l2.length) (hn : l1.length + l2.length ≤ 1000)
    (q1 : w.cell? ⟨g, 0, none⟩ = some (.slice p1 l1.length c1)) (q2 : w.cell? ⟨g, 1, none⟩ = some (.slice p2 l2.length c2)) (r1 : Rec pE w p1 l1) (r2 : Rec pE w p2 l2) (n1 : p1 = none → l1 = [] ∧ c1 = 0) (n2 : p2 = none → l2 = [] ∧ c2 = 0) :
    Calls Tryz.prog 56 #[.slice (some ⟨g, 0, none⟩) 2 c] w fun e w' => (∃ v, e = .returned v ∧ OwnR pE 92 w' w.heap.size v (l1 ++ l2)) ∧ Below w.heap.size w w' := by
  have hg : g < w.heap.size := by
    rcases Nat.lt_or_ge g w.heap.size with h' | h'
    · exact h'
    · simp [World.cell?, Array.getElem?_eq_none h'] at q1
  obtain ⟨P, hP⟩ : ∃ P : Nat → Option Addr, P = fun i => if i = 0 then p1 else p2 := ⟨_, rfl⟩
  obtain ⟨L, hL⟩ : ∃ L : Nat → List Pt, L = fun i => if i = 0 then l1 else l2 := ⟨_, rfl⟩
  obtain ⟨C, hC⟩ : ∃ C : Nat → Nat, C = fun i => if i = 0 then c1 else c2 := ⟨_, rfl⟩
  obtain ⟨T, hT⟩ : ∃ T : Nat → List Pt, T = fun i => if i = 0 then [] else if i = 1 then l1 else l1 ++ l2 := ⟨_, rfl⟩
  have HCELL : Hid (∀ W, Below w.heap.size w W → ∀ i, i < 2 → W.cell? ⟨g, i, none⟩ = some (.slice (P i) (L i).length (C i)) ∧ Rec pE W (P i) (L i) ∧ (P i = none → L i = [] ∧ C i = 0)) := fun W hW i hi => by
    subst hP hL hC
    match i, hi with
    | 0, _ => exact ⟨(hW.cell (p := ⟨g, 0, none⟩) hg).trans q1, r1.below hW, n1⟩
    | 1, _ => exact ⟨(hW.cell (p := ⟨g, 1, none⟩) hg).trans q2, r2.below hW, n2⟩
  have HT1 : Hid (∀ i, i < 2 → T (i + 1) = T i ++ L i) := fun i hi => by
    subst hT hL
    match i, hi with
    | 0, _ => rfl
    | 1, _ => rfl
  have HT0 : Hid (T 0 = []) := by show _ = _; rw [hT]; rfl
  have HT2 : Hid (T 2 = l1 ++ l2) := by show _ = _; rw [hT]; rfl
  have HTL : Hid (∀ i, (T i).length ≤ 1000) := fun i => by
    subst hT
    show (if i = 0 then [] else if i = 1 then l1 else l1 ++ l2 : List Pt).length ≤ 1000
    split
    · exact Nat.zero_le _
    · split
      · omega
      · rw [List.length_append]; exact hn
  have HTN : Hid (0 < (T 2).length) := by show _ < _; rw [hT]; show 0 < (l1 ++ l2).length; rw [List.length_append]; exact h0
  rw [← HT2.out]
  clear HT2 hT hP hL hC q1 q2 r1 r2 n1 n2 h0 hn hg
  go_enter Tryz.func56, Tryz.ntmps56
  go_wp2
  go_loop [3, 11] (fun s x => ∃ i : Nat, i ≤ 2 ∧ x = .int .i64 i ∧ s = .int .i64 (((T i).length : Nat) : Int)) (fun _ x => 2 - (intOf x).toNat)
  case atStart => exact ⟨0, by omega, rfl, by rw [HT0.out]; rfl⟩
  case round =>
    obtain ⟨i, hi, rfl, rfl⟩ := hrel
    by_cases hil : i < 2
    · obtain ⟨q1, _, _⟩ := HCELL.out w (Below.refl _ _) i hil
      have HNX : Hid ((T (i + 1)).length = (T i).length + (L i).length) := by show _ = _; rw [HT1.out i hil, List.length_append]
      have hle := HTL.out (i + 1)
      rw [HNX.out] at hle
      generalize (T i).length = a at *
      generalize (L i).length = b at *
      have d1 : decide ((a : Int) + (b : Int) < 0) = false := decide_eq_false (by omega)
      have d2 : wrap64 ((a : Int) + (b : Int)) = (a : Int) + (b : Int) := by unfold wrap64; omega
      have d3 : ¬ ((a : Int) + (b : Int) < 0) := by omega
      go_wp2
      go_round
      case rel => exact ⟨i + 1, by omega, by go_num, by rw [HNX.out]; congr 1⟩
      case measure => simp [intOf]; omega
    · have hie : i = 2 := by omega
      subst hie
      have HGROW : Hid (∀ W, Calls Tryz.prog 67 #[.slice none 0 0, .int .i64 (((T 2).length : Nat) : Int)] W fun e w' => (∃ v, e = .returned v ∧ OwnR pE 92 w' W.heap.size v []) ∧ Below W.heap.size W w') := fun W => grow_nil _ W HTN.out (HTL.out 2)
      generalize (T 2).length = m at *
      go_wp2_with fail
      refine (HGROW.out _).mono ?_
      rintro e w1 ⟨⟨v, rfl, hO1⟩, hb1⟩
      have HO1 : Hid (OwnR pE 92 w1 w.heap.size v (T 0)) := by show OwnR _ _ _ _ _ _; rw [HT0.out]; exact hO1
      have HB1 : Hid (Below w.heap.size w w1) := hb1
      clear hO1 hb1 HGROW
      go_wp2
      go_loopw [6, 27] (fun v x wq => ∃ i : Nat, i ≤ 2 ∧ x = .int .i64 i ∧ OwnR pE 92 wq w.heap.size v (T i) ∧ Below w.heap.size w wq) (fun _ x _ => 2 - (intOf x).toNat)
      case atStart => exact ⟨0, by omega, rfl, HO1.out, HB1.out⟩
      case round =>
        obtain ⟨i, hi, rfl, hO, hB⟩ := hrel
        obtain ⟨w2, rfl⟩ : ∃ w2, w2 = wr := ⟨_, rfl⟩
        obtain ⟨v2, rfl⟩ : ∃ v2, v2 = u6 := ⟨_, rfl⟩
        have HO2 : Hid (OwnR pE 92 w2 w.heap.size v2 (T i)) := hO
        have HB2 : Hid (Below w.heap.size w w2) := hB
        clear hO hB HO1 HB1
        by_cases hil : i < 2
        · obtain ⟨q1, hr1, hn1⟩ := HCELL.out w2 HB2.out i hil
          have HR1 : Hid (Rec pE w2 (P i) (L i)) := hr1
          have HN1 : Hid (P i = none → L i = [] ∧ C i = 0) := hn1
          have HNX : Hid (T (i + 1) = T i ++ L i) := HT1.out i hil
          have HLE : Hid ((T i).length + (L i).length ≤ 1000) := by
            show _ ≤ _
            have := HTL.out (i + 1)
            rw [HNX.out, List.length_append] at this
            exact this
          clear hr1 hn1
          generalize P i = pi at *
          generalize L i = li at *
          generalize C i = ci at *
          generalize T i = ti at *
          go_wp2_with (first | (at_builtin; refine wpList_append_recs (E := pE) rfl (.tmp 31) (.tmp 32) 71 92 rfl (.agg #[.int .u32 0, .string ⟨#[]⟩, .int .i64 0]) 32 Tryz.underlying71 ptinfo rfl w.heap.size v2 ti rfl HO2.out pi li ci rfl HR1.out HN1.out (by have := HLE.out; unfold maxLen; omega) (by have := HLE.out; omega) HB2.out.size ?_; intro v' w3 hO3 hb3))
          have HO3 : Hid (OwnR pE 92 w3 w.heap.size v' (T (i + 1))) := by
            show OwnR _ _ _ _ _ _
            rw [HNX.out]
            exact hO3
          have HB3 : Hid (Below w.heap.size w w3) := HB2.out.trans hb3
          clear hO3 hb3
          go_wp2
          go_roundw
          case rel => exact ⟨i + 1, by omega, by go_num, HO3.out, HB3.out⟩
          case measure => simp [intOf]; omega
        · have hie : i = 2 := by omega
          subst hie
          go_wp2
          go_ret
          exact ⟨⟨_, rfl, HO2.out⟩, HB2.out⟩
end
set_option maxRecDepth 10000 in
set_option maxHeartbeats 1000000 in
theorem sindex_miss (p : Option Addr) (l : List ByteArray) (c : Nat) (s : ByteArray) (w : World) (hl : l.length ≤ 1000000) (hs : Strs w p l) (h : s ∉ l) :
    Calls Tryz.prog 33 #[.slice p l.length c, .string s] w fun e w' => e = .returned (.int .i64 (-1)) ∧ w' = w := by
  have HH : Hid (s ∉ l) := h
  clear h
  go_enter Tryz.func33, Tryz.ntmps33
  go_wp2
  go_loop [8] (fun x => ∃ i : Nat, i ≤ l.length ∧ x = .int .i64 i) (fun x => l.length - (intOf x).toNat)
  case atStart => exact ⟨0, Nat.zero_le _, rfl⟩
  case round =>
    obtain ⟨i, hi, rfl⟩ := hrel
    by_cases hil : i < l.length
    · rcases hs with h0 | ⟨b, o, rfl, hlt, hc⟩
      · rw [h0] at hil; exact absurd hil (Nat.not_lt_zero _)
      have q1 := hc i hil
      have hne : txt l i ≠ s := fun e => HH.out (e ▸ txt_mem hil)
      have h1 := toList_ne (Ne.symm hne)
      have h2 := toList_beq (Ne.symm hne)
      have h3 := bytes_beq (Ne.symm hne)
      clear hne hc
      generalize txt l i = t at *
      go_wp2
      go_round
      case rel => exact ⟨i + 1, by omega, by go_num⟩
      case measure => simp [intOf]; omega
    · go_wp2
      go_ret
      exact ⟨rfl, rfl⟩
set_option maxRecDepth 10000 in
set_option maxHeartbeats 1000000 in
theorem sindex_hit (p : Option Addr) (l : List ByteArray) (c : Nat) (s : ByteArray) (w : World) (hl : l.length ≤ 1000000) (hs : Strs w p l) (h : s ∈ l) :
    Calls Tryz.prog 33 #[.slice p l.length c, .string s] w fun e w' => e = .returned (.int .i64 ((idxN l s : Nat) : Int)) ∧ w' = w := by
  have HH : Hid (s ∈ l) := h
  clear h
  go_enter Tryz.func33, Tryz.ntmps33
  go_wp2
  go_loop [8] (fun x => ∃ i : Nat, i ≤ l.length ∧ x = .int .i64 i ∧ ∀ j, j < i → txt l j ≠ s) (fun x => l.length - (intOf x).toNat)
  case atStart => exact ⟨0, Nat.zero_le _, rfl, fun j hj => absurd hj (Nat.not_lt_zero _)⟩
  case round =>
    obtain ⟨i, hi, rfl, hall⟩ := hrel
    have HALL : Hid (∀ j, j < i → txt l j ≠ s) := hall
    clear hall
    have hil : i < l.length := by
      rcases Nat.lt_or_ge i l.length with h | h
      · exact h
      · obtain ⟨j, hj, e⟩ := txt_of_mem HH.out
        exact absurd e (HALL.out j (by omega))
    rcases hs with h0 | ⟨b, o, rfl, hlt, hc⟩
    · rw [h0] at hil; exact absurd hil (Nat.not_lt_zero _)
    have q1 := hc i hil
    have HE : Hid (txt l i = txt l i) := by show _ = _; rfl
    clear hc
    by_cases hne : txt l i = s
    · have HI : Hid (idxN l s = i) := idxN_eq hil hne HALL.out
      rw [hne] at q1
      clear hne HE
      go_wp2
      go_ret
      exact ⟨by rw [HI.out]; rfl, rfl⟩
    · have HN : Hid (txt l i ≠ s) := hne
      have h1 := toList_ne (Ne.symm hne)
      have h2 := toList_beq (Ne.symm hne)
      have h3 := bytes_beq (Ne.symm hne)
      clear hne HE
      generalize htt : txt l i = t at *
      have HT : Hid (txt l i = t) := htt
      clear htt
      go_wp2
      go_round
      case rel => exact ⟨i + 1, by omega, by go_num, fun j hj => by
        rcases Nat.lt_or_ge j i with h | h
        · exact HALL.out j h
        · obtain rfl : j = i := by omega
          rw [HT.out]; exact HN.out⟩
      case measure => simp [intOf]; omega
set_option maxRecDepth 10000 in
theorem scont_any (p : Option Addr) (l : List ByteArray) (c : Nat) (s : ByteArray) (w : World) (hl : l.length ≤ 1000000) (hs : Strs w p l) :
    Calls Tryz.prog 19 #[.slice p l.length c, .string s] w fun e w' => e = .returned (.bool (inL l s)) ∧ w' = w := by
  by_cases h : s ∈ l
  · have HE : Hid (inL l s = true) := inL_iff.2 h
    have HI := sindex_hit p l c s w hl hs h
    rw [HE.out]
    clear h hs
    generalize idxN l s = k at *
    go_enter Tryz.func19, Tryz.ntmps19
    go_wp2_with fail
    refine HI.mono ?_
    rintro e w1 ⟨rfl, hw1⟩
    rw [hw1]
    clear hw1 w1 HI
    go_wp2
    go_ret
    exact ⟨rfl, rfl⟩
  · have HE : Hid (inL l s = false) := Bool.eq_false_iff.2 fun h2 => h (inL_iff.1 h2)
    have HI := sindex_miss p l c s w hl hs h
    rw [HE.out]
    clear h hs
    go_enter Tryz.func19, Tryz.ntmps19
    go_wp2_with fail
    refine HI.mono ?_
    rintro e w1 ⟨rfl, hw1⟩
    rw [hw1]
    clear hw1 w1 HI
    go_wp2
    go_ret
    exact ⟨rfl, rfl⟩
section
open Ring Go.Sort
set_option maxRecDepth 10000 in
theorem atleast_any (h B : Nat) (w : World) (hB : B < w.heap.size) (hcell : w.cell? ⟨B, 0, none⟩ = some (.int .u32 (h : Int))) :
    PredBelow Tryz.prog 55 #[.pointer (some ⟨B, 0, none⟩)] (fun x => .agg (pEnc x).toArray) (fun x : Pt => decide (h ≤ x.1)) w := fun W x hb => by
  have hc : W.cell? ⟨B, 0, none⟩ = some (.int .u32 (h : Int)) := (hb.cell (p := ⟨B, 0, none⟩) hB).trans hcell
  have hBW : B < W.heap.size := Nat.lt_of_lt_of_le hB hb.size
  have hne : B ≠ W.heap.size := by omega
  obtain ⟨a, y, i⟩ := x
  have HB2 : Hid (Below w.heap.size w (W.alloc (.cells #[.int .u32 (a : Int), .string y, .int .i64 (i : Int)] 92))) := hb.alloc hb.size _
  show Calls Tryz.prog 55 #[.agg #[.int .u32 (a : Int), .string y, .int .i64 (i : Int)], .pointer (some ⟨B, 0, none⟩)] W fun e w' => e = .returned (.bool (decide (h ≤ a))) ∧ _
  clear hb hcell
  by_cases hle : h ≤ a
  · have HE : Hid (decide (h ≤ a) = true) := decide_eq_true hle
    have d1 : decide ((h : Int) ≤ (a : Int)) = true := decide_eq_true (by omega)
    rw [HE.out]
    go_enter Tryz.func55, Tryz.ntmps55
    go_wp2
    go_ret
    exact ⟨rfl, HB2.out⟩
  · have HE : Hid (decide (h ≤ a) = false) := decide_eq_false hle
    have d1 : decide ((h : Int) ≤ (a : Int)) = false := decide_eq_false (by omega)
    rw [HE.out]
    go_enter Tryz.func55, Tryz.ntmps55
    go_wp2
    go_ret
    exact ⟨rfl, HB2.out⟩
/-- Where the first point stands that is not below h: f (M: none), as Go tells it r, from which one begins f'. -/
theorem first_cases (h : Nat) (nodes : List ByteArray) (ps : List Pt) (hr : RingP nodes ps) (h1 : 1 ≤ nodes.length) :
    ∃ f f' : Nat, ∃ r : Int, Lib.idxBy (fun _ y : Pt => decide (h ≤ y.1)) (ps.take ps.length) default = r ∧ (r = -1 ∧ f' = 0 ∨ r = (f' : Int)) ∧ f' ≤ ps.length ∧ RingR h nodes (rturned h f ps.length (qOf ps)) ps.length ∧ ∀ j, j < ps.length → (rturned h f ps.length (qOf ps) j).2 = (qOf ps ((f' + j) % ps.length)).2 := by
  have hM : 0 < ps.length := by rw [hr.len]; omega
  have hlt : ∀ i, i < ps.length → (qOf ps i).1 < 4294967296 := fun i hi => by
    obtain ⟨_, k, _, e⟩ := hr.mem i hi
    rw [e]
    exact hashOf_lt _
  have hget : ∀ i, i < ps.length → (ps[i]!).1 = (qOf ps i).1 := fun i hi => by rw [qOf_get hi, getElem!_pos ps i hi]; rfl
  by_cases hex : ∃ i, i < ps.length ∧ h ≤ (qOf ps i).1
  · -- the least such
    obtain ⟨f, hf, hle, hmin⟩ : ∃ f, f < ps.length ∧ h ≤ (qOf ps f).1 ∧ ∀ i, i < f → (qOf ps i).1 < h := by
      obtain ⟨i, hi⟩ := hex
      induction i using Nat.strongRecOn with
      | ind i ih =>
        by_cases hs : ∃ j, j < i ∧ h ≤ (qOf ps j).1
        · obtain ⟨j, hj, hle⟩ := hs
          exact ih j hj ⟨by omega, hle⟩
        · refine ⟨i, hi.1, hi.2, fun j hj => ?_⟩
          rcases Nat.lt_or_ge (qOf ps j).1 h with h3 | h3
          · exact h3
          · exact absurd ⟨j, hj, h3⟩ hs
    refine ⟨f, f, (f : Int), ?_, Or.inr rfl, by omega, ringR_of hM (by omega) hlt hr.sorted hmin (fun i h2 h3 => ?_) hr.mem hr.all, fun j _ => rfl⟩
    · have := Lib.idxBy_hit (fun _ y : Pt => decide (h ≤ y.1)) ps ps.length f default hf (Nat.le_refl _) (decide_eq_true (by rw [hget f hf]; exact hle)) (fun j hj => decide_eq_false (by rw [hget j (by omega)]; have := hmin j hj; omega))
      exact this
    · by_cases e : i = f
      · rw [e]; exact hle
      · have h4 := hr.sorted f i (by omega) h3
        rcases Nat.lt_or_ge (qOf ps i).1 (qOf ps f).1 with h5 | h5
        · exact absurd (Or.inl h5) h4
        · omega
  · have hall : ∀ i, i < ps.length → (qOf ps i).1 < h := fun i hi => by
      rcases Nat.lt_or_ge (qOf ps i).1 h with h3 | h3
      · exact h3
      · exact absurd ⟨i, hi, h3⟩ hex
    refine ⟨ps.length, 0, -1, ?_, Or.inl ⟨rfl, rfl⟩, Nat.zero_le _, ringR_of hM (Nat.le_refl _) hlt hr.sorted hall (fun i h2 h3 => by omega) hr.mem hr.all, fun j hj => ?_⟩
    · exact Lib.idxBy_miss (fun _ y : Pt => decide (h ≤ y.1)) ps ps.length default (fun j hj => decide_eq_false (by rw [hget j hj]; have := hall j hj; omega))
    · unfold rturned
      rw [Nat.zero_add, Nat.add_mod_left]
/-- Points from f' on, around. -/
theorem around_at (ps : List Pt) (f j : Nat) (hf : f ≤ ps.length) (hj : j < ps.length) : (ps.drop f ++ ps.take f)[j]? = ps[(f + j) % ps.length]? := by
  rcases Nat.lt_or_ge (f + j) ps.length with h | h
  · rw [List.getElem?_append_left (by rw [List.length_drop]; omega), List.getElem?_drop, Nat.mod_eq_of_lt h]
  · rw [List.getElem?_append_right (by rw [List.length_drop]; omega), List.length_drop, List.getElem?_take_of_lt (by omega), Nat.mod_eq_sub_mod h, Nat.mod_eq_of_lt (by omega)]
    congr 1
    omega
theorem run_pts_from (p : Option Addr) (l : List Pt) (c k : Nat) (hk : k ≤ l.length) (W : World) : Sem.run Tryz.prog (Instr.slice 71 (.slice p l.length c) (some (.int .i64 (k : Int))) none none) W = .ok (.slice (if c = k then p else p.map (·.add (k * 3))) (l.drop k).length (c - k)) W := by
  have hsz : (sizeOf (Tryz.prog.elem 71)).run Tryz.prog W = .ok 3 W := by kernel_rfl
  have hel : Tryz.prog.elem 71 = 92 := by kernel_rfl
  have hun : Tryz.prog.underlying 71 = some (.slice (Tryz.prog.elem 71)) := by rw [hel]; exact Tryz.underlying71
  rw [run_slice_l W 71 p l.length c hun .i64 (k : Int) (by omega) (by omega), hsz]
  simp [Result.andThen, sliced]
theorem run_pts_to (p : Option Addr) (l : List Pt) (c k : Nat) (hk : k ≤ l.length) (hc : l.length ≤ c) (W : World) : Sem.run Tryz.prog (Instr.slice 71 (.slice p l.length c) none (some (.int .i64 (k : Int))) none) W = .ok (.slice p (l.take k).length c) W := by
  have hsz : (sizeOf (Tryz.prog.elem 71)).run Tryz.prog W = .ok 3 W := by kernel_rfl
  have hel : Tryz.prog.elem 71 = 92 := by kernel_rfl
  have hun : Tryz.prog.underlying 71 = some (.slice (Tryz.prog.elem 71)) := by rw [hel]; exact Tryz.underlying71
  have hl : (l.take k).length = k := by rw [List.length_take]; omega
  rw [run_slice_h W 71 p l.length c hun .i64 (k : Int) (by omega) (by omega), hsz, hl]
  simp [Result.andThen, sliced, Addr.add]
theorem rstrinfo : (Tryz.prog.info? 9).map (fun i => (i.zero, i.size, i.bytes)) = some (some (.string ⟨#[]⟩), 1, 16) := by kernel_rfl
theorem run_make_strs (n : Nat) (hn : n ≤ 1000) (W : World) : Sem.run Tryz.prog (Instr.makeSlice 22 (.int .i64 0) (.int .i64 (n : Int))) W = .ok (.slice (some ⟨W.heap.size, 0, none⟩) 0 n) (W.alloc (.cells (madeCells #[.string ⟨#[]⟩] n) 9)) := by
  obtain ⟨i0, hi0, hz0, hz1, hzb⟩ := info_parts rstrinfo
  have hr := run_make (P := Tryz.prog) W 22 9 i0 (.string ⟨#[]⟩) Tryz.underlying22 hi0 hz0 .i64 .i64 0 n (by omega) (by omega) (by rw [hzb]; omega) (by omega)
  simp only [Int.toNat_natCast, hz1, Nat.mul_one] at hr
  exact hr
theorem made_strs (n : Nat) (hn : n ≤ 1000) (W : World) : OwnT (W.alloc (.cells (madeCells #[.string ⟨#[]⟩] n) 9)) W.heap.size (.slice (some ⟨W.heap.size, 0, none⟩) 0 n) [] := by
  refine ⟨rfl, Or.inr ⟨W.heap.size, n, madeCells #[.string ⟨#[]⟩] n, rfl, Nat.le_refl _, ?_, Nat.zero_le _, by unfold maxLen; omega, by simp [madeCells], by simp⟩⟩
  rw [heap_alloc_new]
/-- Since w4 nothing that lay there was written but block b; v lies in b or behind. -/
structure Side (b : Nat) (w4 : World) (v : Value) (w : World) : Prop where
  os : w.os = w4.os
  tape : w.tape = w4.tape
  output : w.output = w4.output
  size : w4.heap.size ≤ w.heap.size
  block : ∀ k, k < w4.heap.size → k ≠ b → w.heap[k]? = w4.heap[k]?
  own : ∀ k, v.ownBlock = some k → k = b ∨ w4.heap.size ≤ k
theorem Side.start {b : Nat} {w4 : World} {v : Value} (h : v.ownBlock = some b) : Side b w4 v w4 := ⟨rfl, rfl, rfl, Nat.le_refl _, fun _ _ _ => rfl, fun k hk => Or.inl (by rw [h] at hk; exact (Option.some.inj hk).symm)⟩
theorem Side.below {b : Nat} {w4 w w' : World} {v : Value} (h : Side b w4 v w) (hb : Below w.heap.size w w') : Side b w4 v w' := ⟨hb.os.trans h.os, hb.tape.trans h.tape, hb.output.trans h.output, Nat.le_trans h.size hb.size, fun k hk hne => (hb.block k (Nat.lt_of_lt_of_le hk h.size)).trans (h.block k hk hne), h.own⟩
theorem Side.app {b : Nat} {w4 w w' : World} {v v' : Value} (h : Side b w4 v w) (hg : w.grownBy w' v.ownBlock) (hv : v'.ownBlock = v.ownBlock ∨ v'.ownBlock = some w.heap.size) : Side b w4 v' w' := by
  obtain ⟨h1, h2, h3, h4, h5⟩ := hg
  refine ⟨h1.trans h.os, h2.trans h.tape, h3.trans h.output, Nat.le_trans h.size h4, fun k hk hne => (h5 k (Nat.lt_of_lt_of_le hk h.size) (fun e => ?_)).trans (h.block k hk hne), fun k hk => ?_⟩
  · rcases h.own k e.symm with h6 | h6
    · exact hne h6
    · omega
  · rcases hv with h6 | h6
    · exact h.own k (by rw [← h6]; exact hk)
    · rw [h6] at hk
      exact Or.inr (by rw [← Option.some.inj hk]; exact h.size)
theorem Side.toBelow {b : Nat} {w4 w : World} {v : Value} (h : Side b w4 v w) (hb : b ≤ w4.heap.size) : Below b w4 w := ⟨h.os, h.tape, h.output, h.size, fun k hk => h.block k (by omega) (by omega)⟩
theorem Side.cell {b : Nat} {w4 w : World} {v : Value} (h : Side b w4 v w) {p : Addr} (hp : p.block < w4.heap.size) (hne : p.block ≠ b) : w.cell? p = w4.cell? p := by
  unfold World.cell?
  rw [h.block p.block hp hne]
theorem wpList_append_strW {w : World} {ops : Array Oper} {rest : List Oper} {o : Oper} {a : Act} {Q : Exit → Act → World → Prop} (hgd : o.guard = none) (s x : Operand)
    (ho : o.op = .call { callee := .builtin .append, args := #[s, x], argTypes := #[22, 22] })
    (B : Nat) (v : Value) (l : List ByteArray) (hs : a.eval s = v) (hown : OwnT w B v l) (ad : Addr) (t : ByteArray) (c : Nat) (hx : a.eval x = .slice (some ad) 1 c) (hq : w.cell? ad = some (.string t)) (hl : l.length + 1 ≤ 1000000) (hbase : B ≤ w.heap.size)
    (h : ∀ v' w', OwnT w' B v' (l ++ [t]) → w.grownBy w' v.ownBlock → (v'.ownBlock = v.ownBlock ∨ v'.ownBlock = some w.heap.size) → wpList Tryz.prog ops Q rest (a.put o.dst v') w') : wpList Tryz.prog ops Q (o :: rest) a w := by
  obtain ⟨i0, hi0, hz0, hz1, hzb⟩ := info_parts rstrinfo
  refine wpList_append_val hgd s x _ ho B 9 i0 (.string ⟨#[]⟩) 16 Tryz.underlying22 hi0 hz0 rfl hz1 hzb (by decide) v (l.map Value.string) hs hown ad c (.string t) rfl hx hq (by rw [List.length_map]; exact hl) hbase fun v' w' h1 h2 h3 => h v' w' ?_ h2 h3
  unfold OwnT
  rw [List.map_append]
  exact h1
end
section
open Ring Go.Sort
theorem node_at {ps : List Pt} {f f' : Nat} {h : Nat} (hf : f' ≤ ps.length) (hn : ∀ j, j < ps.length → (rturned h f ps.length (qOf ps) j).2 = (qOf ps ((f' + j) % ps.length)).2) (hM : 0 < ps.length) {j : Nat} (hj : j < ps.length) :
    ∃ x : Pt, (ps.drop f' ++ ps.take f')[j]? = some x ∧ x.2.1 = (rturned h f ps.length (qOf ps) j).2 := by
  have hlt : (f' + j) % ps.length < ps.length := Nat.mod_lt _ hM
  refine ⟨ps[(f' + j) % ps.length], by rw [around_at ps f' j hf hj, List.getElem?_eq_getElem hlt], ?_⟩
  rw [hn j hj, qOf_get hlt]
  rfl
set_option maxRecDepth 10000 in
set_option maxHeartbeats 8000000 in
theorem rgfirst_any (g cap : Nat) (ps : List Pt) (nodes : List ByteArray) (h n : Nat) (w : World) (hr : RingP nodes ps) (hl1 : 1 ≤ nodes.length) (hl2 : nodes.length ≤ 16) (hn : n ≤ nodes.length) (hx : ∀ x ∈ nodes, x.size ≤ 16) (hnd : nodes.Nodup) (hcap : ps.length ≤ cap) (hrec : Rec pE w (some ⟨g, 0, none⟩) ps) :
    Calls Tryz.prog 36 #[.slice (some ⟨g, 0, none⟩) ps.length cap, .int .u32 (h : Int), .int .i64 (n : Int)] w fun e w' => (∃ v out, e = .returned v ∧ OwnT w' w.heap.size v out ∧ out.length = n ∧ Pref h nodes out) ∧ Below w.heap.size w w' := by
  have hlen := hr.len
  obtain ⟨f, f', r, hidx, hrf, hf', hRR, hnode⟩ := first_cases h nodes ps hr hl1
  have hg : g < w.heap.size := by
    rcases hrec with h0 | ⟨b, o, hp, hlt, _⟩
    · rw [h0] at hlen; simp at hlen; omega
    · obtain ⟨rfl, rfl⟩ : g = b ∧ 0 = o := by simpa using hp
      exact hlt
  obtain ⟨w1, hw1⟩ : ∃ w1, w1 = w.alloc (.cells #[.int .u32 (h : Int)] 74) := ⟨_, rfl⟩
  have hb1 : Below w.heap.size w w1 := by rw [hw1]; exact (Below.refl _ _).alloc (Nat.le_refl _) _
  have hs1 : w1.heap.size = w.heap.size + 1 := by rw [hw1]; simp
  have hr1 := hrec.below hb1
  have HIDX := Tryz.slices_IndexFunc 3 Tryz.isAgg92 Tryz.sizeOf92 pEnc (fun _ => rfl) (fun x : Pt => decide (h ≤ x.1)) 55 #[.pointer (some ⟨w.heap.size, 0, none⟩)] (enters_of Tryz.func55 (by kernel_rfl) rfl) g 0 ps.length cap ps w1
    (atleast_any h w.heap.size w1 (by omega) (by rw [hw1]; simp)) (Nat.le_refl _) (by omega) (by omega) (fun j hj i v hv => by
      rcases hr1 with h0 | ⟨b, o, hp, _, hc⟩
      · rw [h0] at hj; exact absurd hj (Nat.not_lt_zero _)
      · obtain ⟨rfl, rfl⟩ : g = b ∧ 0 = o := by simpa using hp
        have := hc j ps[j] (List.getElem?_eq_getElem hj) i v (by rw [getElem!_pos ps j hj] at hv; exact hv)
        exact this)
  rw [hidx] at HIDX
  have HW1 : Hid (w1 = w.alloc (.cells #[.int .u32 (h : Int)] 74)) := hw1
  have HB1 : Hid (Below w.heap.size w w1) := hb1
  have HREC : Hid (Rec pE w (some ⟨g, 0, none⟩) ps) := hrec
  have HRR : Hid (RingR h nodes (rturned h f ps.length (qOf ps)) ps.length) := hRR
  have HND : Hid nodes.Nodup := hnd
  have HX : Hid (∀ x ∈ nodes, x.size ≤ 16) := hx
  have HNODE : Hid (∀ j, j < ps.length → ∃ x : Pt, (ps.drop f' ++ ps.take f')[j]? = some x ∧ x.2.1 = (rturned h f ps.length (qOf ps) j).2) := fun j hj => node_at hf' hnode (by omega) hj
  have HAL : Hid ((ps.drop f' ++ ps.take f').length = ps.length) := by show _ = _; rw [List.length_append, List.length_drop, List.length_take]; omega
  have HLEN : Hid (ps.length = 8 * nodes.length) := hlen
  have hps : ps.length ≤ 128 := by omega
  have hps1 : 1 ≤ ps.length := by omega
  have sl1 := run_pts_from (some ⟨g, 0, none⟩) ps cap f' hf'
  have sl2 := run_pts_to (some ⟨g, 0, none⟩) ps cap f' hf' hcap
  have hmk := run_make_strs n (by omega)
  have HMADE : Hid (∀ W : World, OwnT (W.alloc (.cells (madeCells #[.string ⟨#[]⟩] n) 9)) W.heap.size (.slice (some ⟨W.heap.size, 0, none⟩) 0 n) []) := fun W => made_strs n (by omega) W
  have HD : Hid (∀ W, Below w.heap.size w W → (Rec pE W (if cap = f' then some ⟨g, 0, none⟩ else (some (⟨g, 0, none⟩ : Addr)).map (·.add (f' * 3))) (ps.drop f') ∧ ((if cap = f' then some ⟨g, 0, none⟩ else (some (⟨g, 0, none⟩ : Addr)).map (·.add (f' * 3))) = none → ps.drop f' = [] ∧ cap - f' = 0)) ∧ Rec pE W (some ⟨g, 0, none⟩) (ps.take f')) := fun W hW => ⟨(HREC.out.below hW).drop hf' hcap (fun e => by cases e), (HREC.out.below hW).take f'⟩
  clear hw1 hb1 hs1 hr1 hidx hrec hRR hnode hr hnd hx hlen hg
  generalize (if cap = f' then some ⟨g, 0, none⟩ else (some (⟨g, 0, none⟩ : Addr)).map (·.add (f' * 3))) = pd at *
  generalize rturned h f ps.length (qOf ps) = R at *
  have hmax : max (0 : Int) r = (f' : Int) := by
    rcases hrf with ⟨h1, h2⟩ | h1 <;> omega
  clear hrf
  go_enter Tryz.func36, Tryz.ntmps36
  go_wp2_with fail
  rw [← HW1.out]
  refine HIDX.mono ?_
  rintro e w2 ⟨rfl, hb2⟩
  have HB2 : Hid (Below w.heap.size w w2) := HB1.out.trans (hb2.mono HB1.out.size)
  clear hb2 HIDX HW1 HB1
  go_wp2
  have hO3 := HMADE.out w2
  have hb3 : Below w.heap.size w (w2.alloc (.cells (madeCells #[.string ⟨#[]⟩] n) 9)) := HB2.out.alloc HB2.out.size _
  generalize w2.alloc (.cells (madeCells #[.string ⟨#[]⟩] n) 9) = w3 at hO3 hb3 ⊢
  have HO3 : Hid (OwnT w3 w2.heap.size (.slice (some ⟨w2.heap.size, 0, none⟩) 0 n) []) := hO3
  have HB3 : Hid (Below w.heap.size w w3) := hb3
  have HZ : Hid (w.heap.size ≤ w2.heap.size) := HB2.out.size
  clear hO3 hb3 HB2 HMADE hmk
  have HCON : Hid (∀ W, Below w.heap.size w W → ∀ gq, W.cell? ⟨gq, 0, none⟩ = some (.slice pd (ps.drop f').length (cap - f')) → W.cell? ⟨gq, 1, none⟩ = some (.slice (some ⟨g, 0, none⟩) (ps.take f').length cap) → Calls Tryz.prog 56 #[.slice (some ⟨gq, 0, none⟩) 2 2] W fun e w' => (∃ v, e = .returned v ∧ OwnR pE 92 w' W.heap.size v (ps.drop f' ++ ps.take f')) ∧ Below W.heap.size W w') := fun W hW gq q1 q2 => by
    obtain ⟨⟨h1, h2⟩, h3⟩ := HD.out W hW
    exact concat_two gq 2 pd (some ⟨g, 0, none⟩) (ps.drop f') (ps.take f') (cap - f') cap W (by rw [List.length_drop, List.length_take]; omega) (by rw [List.length_drop, List.length_take]; omega) q1 q2 h1 h3 h2 (fun e => by cases e)
  have hf2 : (f' : Int) ≤ (ps.length : Int) := by omega
  generalize (ps.drop f').length = m1 at *
  generalize (ps.take f').length = m2 at *
  have HCW : Hid (Calls Tryz.prog 56 #[.slice (some ⟨w3.heap.size, 0, none⟩) 2 2] (w3.alloc (.cells #[.slice pd m1 (cap - f'), .slice (some ⟨g, 0, none⟩) m2 cap] 71)).drew fun e w' => (∃ v, e = .returned v ∧ OwnR pE 92 w' w3.heap.size v (ps.drop f' ++ ps.take f')) ∧ Below w3.heap.size w3 w') := by
    have hq := HCON.out (w3.alloc (.cells #[.slice pd m1 (cap - f'), .slice (some ⟨g, 0, none⟩) m2 cap] 71)).drew ((HB3.out.alloc HB3.out.size _).drew) w3.heap.size (by simp) (by simp)
    refine hq.mono ?_
    rintro e w' ⟨⟨v, rfl, hO⟩, hb⟩
    have hsz : (w3.alloc (.cells #[.slice pd m1 (cap - f'), .slice (some ⟨g, 0, none⟩) m2 cap] 71)).drew.heap.size = w3.heap.size + 1 := by simp
    exact ⟨⟨v, rfl, hO.base (by omega)⟩, (((Below.refl _ w3).alloc (Nat.le_refl _) _).drew).trans (hb.mono (by omega))⟩
  have HAL' : Hid ((ps.drop f' ++ ps.take f').length = ps.length) := HAL.out
  clear HCON HD HAL
  go_region_with (go_at_call 56; refine HCW.out.mono ?_; rintro e w4 ⟨⟨v4, rfl, hO4⟩, hb4⟩; obtain ⟨p4, c4, rfl, hR4, hc4, hn4, hbk4⟩ := hO4.form)
  rw [HAL'.out] at hc4
  have HREC4 : Hid (Rec pE w4 p4 (ps.drop f' ++ ps.take f')) := hR4
  have HB34 : Hid (Below w3.heap.size w3 w4) := hb4
  have HBW4 : Hid (Below w.heap.size w w4) := HB3.out.trans (hb4.mono HB3.out.size)
  have HO4' : Hid (OwnT w4 w2.heap.size (.slice (some ⟨w2.heap.size, 0, none⟩) 0 n) []) := HO3.out.kept hb4
  obtain ⟨g4, o4, rfl⟩ : ∃ b o, p4 = some ⟨b, o, none⟩ := by
    rcases hR4 with h0 | ⟨b, o, hp, _⟩
    · have := HAL'.out; rw [h0] at this; simp at this; omega
    · exact ⟨b, o, hp⟩
  have HZ4 : Hid (w2.heap.size ≤ w4.heap.size) := by
    show _ ≤ _
    have h1 : w2.heap.size ≤ w3.heap.size := by
      rcases Nat.lt_or_ge w2.heap.size w3.heap.size with h | h
      · omega
      · have := (HO3.out.block (k := w2.heap.size) rfl).2; omega
    have := hb4.size
    omega
  have HGNE : Hid (g4 ≠ w2.heap.size ∧ g4 < w4.heap.size) := by
    have h1 := hbk4 g4 o4 rfl
    have h2 := (HO3.out.block (k := w2.heap.size) rfl).2
    exact ⟨by omega, h1.2⟩
  clear hO4 hb4 hR4 hn4 hbk4 HO3 HB3 HCW HREC HLEN
  go_simp
  go_wp2
  go_loopw [8, 26] (fun v x wq => ∃ (j : Nat) (out : List ByteArray), j ≤ ps.length ∧ x = .int .i64 j ∧ OwnT wq w2.heap.size v out ∧ ScanInv h nodes R n j out ∧ Side w2.heap.size w4 v wq) (fun _ x _ => ps.length - (intOf x).toNat)
  case atStart => exact ⟨0, [], Nat.zero_le _, rfl, HO4'.out, ScanInv.start _ _ _ _, Side.start rfl⟩
  case round =>
    obtain ⟨j, out, hj, rfl, hOT, hSC, hB⟩ := hrel
    obtain ⟨w5, rfl⟩ : ∃ w5, w5 = wr := ⟨_, rfl⟩
    obtain ⟨po, co, rfl, hSo, _, _, hblk⟩ := hOT.form
    have HOT : Hid (OwnT w5 w2.heap.size (.slice po out.length co) out) := hOT
    have HSC : Hid (ScanInv h nodes R n j out) := hSC
    have HB5 : Hid (Side w2.heap.size w4 (.slice po out.length co) w5) := hB
    have HSO : Hid (Strs w5 po out) := hSo
    have HOL : Hid (out.length ≤ 16) := by show _ ≤ _; have := hSC.le; omega
    clear hOT hSC hB hSo hblk
    by_cases hjl : j < ps.length
    · obtain ⟨x, hx1, hx2⟩ := HNODE.out j hjl
      have hcells : ∀ i u, (pEnc x)[i]? = some u → w5.cell? ⟨g4, o4 + j * 3 + i, none⟩ = some u := fun i u hu => by
        rcases HREC4.out with h0 | ⟨b, o, hp, _, hc⟩
        · have := HAL'.out; rw [h0] at this; simp at this; omega
        · obtain ⟨rfl, rfl⟩ : g4 = b ∧ o4 = o := by simpa using hp
          exact (HB5.out.cell (p := ⟨g4, o4 + j * 3 + i, none⟩) HGNE.out.2 HGNE.out.1).trans (hc j x hx1 i u hu)
      have q1 := hcells 0 _ rfl
      have q2 := hcells 1 _ rfl
      have q3 := hcells 2 _ rfl
      rw [Nat.add_zero] at q1
      have HXN : Hid (x.2.1 = (R j).2) := hx2
      have hsz : x.2.1.size ≤ 16 := by rw [hx2]; exact HX.out _ (HRR.out.mem j hjl).1
      obtain ⟨a, y, i⟩ := x
      clear hcells hx1 hx2
      have HB6 : Hid (Side w2.heap.size w4 (.slice po out.length co) (w5.alloc (.cells #[.int .u32 (a : Int), .string y, .int .i64 (i : Int)] 92))) := HB5.out.below ((Below.refl _ _).alloc (Nat.le_refl _) _)
      have HO6 : Hid (OwnT (w5.alloc (.cells #[.int .u32 (a : Int), .string y, .int .i64 (i : Int)] 92)) w2.heap.size (.slice po out.length co) out) := HOT.out.kept ((Below.refl _ _).alloc (Nat.le_refl _) _)
      by_cases hol : out.length < n
      · have HCT : Hid (Calls Tryz.prog 19 #[.slice po out.length co, .string y] (w5.alloc (.cells #[.int .u32 (a : Int), .string y, .int .i64 (i : Int)] 92)) fun e w' => e = .returned (.bool (inL out y)) ∧ w' = (w5.alloc (.cells #[.int .u32 (a : Int), .string y, .int .i64 (i : Int)] 92))) := scont_any po out co y _ (by have := HOL.out; omega) (HSO.out.below ((Below.refl _ _).alloc (Nat.le_refl _) _))
        have e1 : (w5.alloc (.cells #[.int .u32 (a : Int), .string y, .int .i64 (i : Int)] 92)).cell? ⟨w5.heap.size, 1, none⟩ = some (.string y) := by simp
        by_cases hmem : y ∈ out
        · have HNX : Hid (ScanInv h nodes R n (j + 1) out) := HSC.out.skip (by rw [← HXN.out]; exact hmem)
          rw [inL_iff.2 hmem] at HCT
          clear hmem
          go_wp2_with fail
          refine HCT.out.mono ?_
          rintro e w7 ⟨rfl, hw7⟩
          rw [hw7]
          clear hw7 w7 HCT
          go_wp2
          go_roundw
          case rel => exact ⟨j + 1, out, by omega, by go_num, HO6.out, HNX.out, HB6.out⟩
          case measure => simp [intOf]; omega
        · have HNX : Hid (ScanInv h nodes R n (j + 1) (out ++ [y])) := by
            show ScanInv h nodes R n (j + 1) (out ++ [y])
            have hy : y = (R j).2 := HXN.out
            rw [hy]
            exact HSC.out.push HRR.out hjl hol (by rw [← hy]; exact hmem)
          rw [Bool.eq_false_iff.2 (fun h => hmem (inL_iff.1 h))] at HCT
          have hysz : y.size ≤ 1000000 := by have : y.size ≤ 16 := hsz; omega
          clear hmem hsz
          go_wp2_with fail
          refine HCT.out.mono ?_
          rintro e w7 ⟨rfl, hw7⟩
          rw [hw7]
          clear hw7 w7 HCT
          generalize w5.alloc (.cells #[.int .u32 (a : Int), .string y, .int .i64 (i : Int)] 92) = w6 at HB6 HO6 e1 ⊢
          go_wp2_with fail
          refine (sclone_any y w6 (by omega)).mono ?_
          rintro e w7 ⟨rfl, hb7⟩
          have HB7 : Hid (Side w2.heap.size w4 (.slice po out.length co) (w7.alloc (.cells #[.string y] 9))) := (HB6.out.below hb7).below ((Below.refl _ _).alloc (Nat.le_refl _) _)
          have HO7 : Hid (OwnT (w7.alloc (.cells #[.string y] 9)) w2.heap.size (.slice po out.length co) out) := (HO6.out.kept hb7).kept ((Below.refl _ _).alloc (Nat.le_refl _) _)
          have HZ7 : Hid (w2.heap.size ≤ (w7.alloc (.cells #[.string y] 9)).heap.size) := Nat.le_trans HZ4.out HB7.out.size
          clear hb7 e1 q1 q2 q3
          go_wp2_with (first | (at_builtin; refine wpList_append_strW rfl (.tmp 41) (.tmp 45) rfl w2.heap.size (.slice po out.length co) out rfl HO7.out ⟨w7.heap.size, 0, none⟩ y 1 rfl (by rw [World.cell?_alloc_at _ _ _ _ rfl]; rfl) (by have := HOL.out; omega) HZ7.out ?_; intro v' w8 hO8 hg8 hv8))
          have HO8 : Hid (OwnT w8 w2.heap.size v' (out ++ [y])) := hO8
          have HB8 : Hid (Side w2.heap.size w4 v' w8) := HB7.out.app hg8 hv8
          clear hO8 hg8 hv8
          go_wp2
          go_roundw
          case rel => exact ⟨j + 1, out ++ [y], by omega, by go_num, HO8.out, HNX.out, HB8.out⟩
          case measure => simp [intOf]; omega
      · have HNX : Hid (ScanInv h nodes R n (j + 1) out) := HSC.out.full hol
        go_wp2
        go_roundw
        case rel => exact ⟨j + 1, out, by omega, by go_num, HO6.out, HNX.out, HB6.out⟩
        case measure => simp [intOf]; omega
    · have hje : j = ps.length := by omega
      subst hje
      have HE : Hid (out.length = n) := HSC.out.done HRR.out hn HND.out
      go_wp2
      go_ret
      exact ⟨⟨_, out, rfl, HOT.out.base HZ.out, HE.out, HSC.out.pref⟩, HBW4.out.trans ((HB5.out.toBelow HZ4.out).mono HZ.out)⟩
end
set_option maxRecDepth 10000 in
set_option maxHeartbeats 1000000 in
theorem sign_any (r : Nat) (W : World) : Calls Tryz.prog 32 #[.int .i32 (r : Int)] W fun e w' => e = .returned (.bool (!letterB r)) ∧ w' = W := by
  have key : ∀ b, letterB r = b → Hid ((!letterB r) = (!b)) := fun b h => by show _ = _; rw [h]
  rcases (show (97 ≤ r ∧ r ≤ 122) ∨ (48 ≤ r ∧ r ≤ 57) ∨ r = 45 ∨ 122 < r ∨ (57 < r ∧ r < 97) ∨ (r < 48 ∧ r ≠ 45) by omega) with hc | hc | hc | hc | hc | hc
  · have HL := key true (by simp [letterB, hc])
    obtain ⟨hc1, hc2⟩ := hc
    have d1 : decide ((r : Int) < 97) = false := decide_eq_false (by omega)
    have d2 : decide (122 < (r : Int)) = false := decide_eq_false (by omega)
    rw [HL.out]
    clear key
    go_enter Tryz.func32, Tryz.ntmps32
    go_wp2
    go_ret
    exact ⟨rfl, rfl⟩
  · have HL := key true (by simp [letterB, hc])
    obtain ⟨hc1, hc2⟩ := hc
    have d1 : decide ((r : Int) < 97) = true := decide_eq_true (by omega)
    have d3 : decide ((r : Int) < 48) = false := decide_eq_false (by omega)
    have d4 : decide (57 < (r : Int)) = false := decide_eq_false (by omega)
    rw [HL.out]
    clear key
    go_enter Tryz.func32, Tryz.ntmps32
    go_wp2
    go_ret
    exact ⟨rfl, rfl⟩
  · have HL := key true (by simp [letterB, hc])
    subst hc
    rw [HL.out]
    clear key
    go_enter Tryz.func32, Tryz.ntmps32
    go_wp2
    go_ret
    exact ⟨rfl, rfl⟩
  · have HL := key false (by unfold letterB; rw [decide_eq_false (by omega), decide_eq_false (by omega), decide_eq_false (by omega)]; rfl)
    have d1 : decide ((r : Int) < 97) = false := decide_eq_false (by omega)
    have d2 : decide (122 < (r : Int)) = true := decide_eq_true (by omega)
    have d3 : decide ((r : Int) < 48) = false := decide_eq_false (by omega)
    have d4 : decide (57 < (r : Int)) = true := decide_eq_true (by omega)
    have d5 : ((r : Int) != 45) = true := by rw [bne_iff_ne]; omega
    have d6 : ((r : Int) == 45) = false := by rw [beq_eq_false_iff_ne]; omega
    rw [HL.out]
    clear key
    go_enter Tryz.func32, Tryz.ntmps32
    go_wp2
    go_ret
    exact ⟨rfl, rfl⟩
  · have HL := key false (by unfold letterB; rw [decide_eq_false (by omega), decide_eq_false (by omega), decide_eq_false (by omega)]; rfl)
    obtain ⟨hc1, hc2⟩ := hc
    have d1 : decide ((r : Int) < 97) = true := decide_eq_true (by omega)
    have d3 : decide ((r : Int) < 48) = false := decide_eq_false (by omega)
    have d4 : decide (57 < (r : Int)) = true := decide_eq_true (by omega)
    have d5 : ((r : Int) != 45) = true := by rw [bne_iff_ne]; omega
    have d6 : ((r : Int) == 45) = false := by rw [beq_eq_false_iff_ne]; omega
    rw [HL.out]
    clear key
    go_enter Tryz.func32, Tryz.ntmps32
    go_wp2
    go_ret
    exact ⟨rfl, rfl⟩
  · have HL := key false (by unfold letterB; rw [decide_eq_false (by omega), decide_eq_false (by omega), decide_eq_false (by omega)]; rfl)
    obtain ⟨hc1, hc2⟩ := hc
    have d1 : decide ((r : Int) < 97) = true := decide_eq_true (by omega)
    have d3 : decide ((r : Int) < 48) = true := decide_eq_true (by omega)
    have d5 : ((r : Int) != 45) = true := by rw [bne_iff_ne]; omega
    have d6 : ((r : Int) == 45) = false := by rw [beq_eq_false_iff_ne]; omega
    rw [HL.out]
    clear key
    go_enter Tryz.func32, Tryz.ntmps32
    go_wp2
    go_ret
    exact ⟨rfl, rfl⟩
/-- From place i on: a sign that no name has is found just where there is such a byte. -/
theorem idxFrom (s : ByteArray) : ∀ (f i : Nat), s.size ≤ i + f → (decide (0 ≤ Lib.idxFuncFrom (fun r => !letterB r) true s f i) = true ↔ ∃ j, i ≤ j ∧ j < s.size ∧ letterB (Gf.nth (bytesOf s) j) = false)
  | 0, i, h => by
    constructor
    · intro h1
      have h2 : decide ((0 : Int) ≤ -1) = true := h1
      cases h2
    · rintro ⟨j, h1, h2, _⟩
      omega
  | f + 1, i, h => by
    show decide (0 ≤ (if i < s.size then (if (!letterB (Utf8.decode s i).1) = true then (i : Int) else Lib.idxFuncFrom (fun r => !letterB r) true s f (i + (Utf8.decode s i).2)) else -1)) = true ↔ _
    by_cases hi : i < s.size
    · rw [if_pos hi]
      by_cases ha : (s[i]'hi).toNat < 128
      · rw [decode_ascii s i hi ha, ← bytesOf_nth s i hi]
        have ih := idxFrom s f (i + 1) (by omega)
        cases hl : letterB (Gf.nth (bytesOf s) i) with
        | false =>
          rw [if_pos (by rfl)]
          exact ⟨fun _ => ⟨i, Nat.le_refl _, hi, hl⟩, fun _ => decide_eq_true (by omega)⟩
        | true =>
          rw [if_neg (by simp), ih]
          constructor
          · rintro ⟨j, h1, h2, h3⟩
            exact ⟨j, by omega, h2, h3⟩
          · rintro ⟨j, h1, h2, h3⟩
            refine ⟨j, ?_, h2, h3⟩
            by_cases e : j = i
            · rw [e, hl] at h3; cases h3
            · omega
      · have h1 := (decode_high s i hi (by omega)).1
        have hl : letterB (Utf8.decode s i).1 = false := by
          unfold letterB
          rw [decide_eq_false (by omega), decide_eq_false (by omega), decide_eq_false (by omega)]
          rfl
        have hl2 : letterB (Gf.nth (bytesOf s) i) = false := by
          rw [bytesOf_nth s i hi]
          unfold letterB
          rw [decide_eq_false (by omega), decide_eq_false (by omega), decide_eq_false (by omega)]
          rfl
        rw [hl, if_pos (by rfl)]
        exact ⟨fun _ => ⟨i, Nat.le_refl _, hi, hl2⟩, fun _ => decide_eq_true (by omega)⟩
    · rw [if_neg hi]
      constructor
      · intro h1
        cases h1
      · rintro ⟨j, h1, h2, _⟩
        omega
theorem idxOf (s : ByteArray) : decide (0 ≤ Lib.idxFunc (fun r => !letterB r) true s) = !((bytesOf s).all letterB) := by
  have h := idxFrom s s.size 0 (by omega)
  cases ha : (bytesOf s).all letterB with
  | true =>
    rw [show (!true) = false from rfl, Bool.eq_false_iff]
    intro h1
    obtain ⟨j, _, hj, h3⟩ := h.1 h1
    have hj' : j < (bytesOf s).length := by rw [bytesOf_length]; exact hj
    rw [List.all_eq_true] at ha
    have := ha (Gf.nth (bytesOf s) j) (by rw [Gf.nth_getElem _ j hj']; exact List.getElem_mem hj')
    rw [h3] at this
    cases this
  | false =>
    obtain ⟨x, hx, hne⟩ := List.all_eq_false.1 ha
    obtain ⟨j, hj, rfl⟩ := List.getElem_of_mem hx
    refine h.2 ⟨j, Nat.zero_le _, by rw [bytesOf_length] at hj; exact hj, ?_⟩
    rw [Gf.nth_getElem _ j hj]
    exact Bool.eq_false_iff.2 hne
set_option maxRecDepth 10000 in
set_option maxHeartbeats 1000000 in
theorem pname_any (s : ByteArray) (w : World) : Calls Tryz.prog 18 #[.string s] w fun e w' => e = .returned (.bool (isN s)) ∧ Below w.heap.size w w' := by
  by_cases h1 : s.size < 1
  · have HE : Hid (isN s = false) := isN_len (by omega)
    have d1 : decide (1 ≤ (s.size : Int)) = false := decide_eq_false (by omega)
    rw [HE.out]
    go_enter Tryz.func18, Tryz.ntmps18
    go_wp2
    go_ret
    exact ⟨rfl, Below.refl _ _⟩
  have d1 : decide (1 ≤ (s.size : Int)) = true := decide_eq_true (by omega)
  by_cases h2 : 16 < s.size
  · have HE : Hid (isN s = false) := isN_len (by omega)
    have d2 : decide ((s.size : Int) ≤ 16) = false := decide_eq_false (by omega)
    rw [HE.out]
    go_enter Tryz.func18, Tryz.ntmps18
    go_wp2
    go_ret
    exact ⟨rfl, Below.refl _ _⟩
  have d2 : decide ((s.size : Int) ≤ 16) = true := decide_eq_true (by omega)
  have HC := Tryz.strings_ContainsFunc 32 #[] (enters_of Tryz.func32 (by kernel_rfl) rfl) (fun r => !letterB r) s w (fun W r _ => by
    unfold FnGives
    exact (sign_any r W).mono fun _ _ ⟨he, hw⟩ => ⟨he, 0, hw⟩)
  rw [idxOf] at HC
  have HE : Hid (isN s = (bytesOf s).all letterB) := by show _ = _; unfold isN; rw [decide_eq_true ⟨by omega, by omega⟩, Bool.true_and]
  rw [HE.out]
  generalize (bytesOf s).all letterB = r at *
  clear HE
  go_enter Tryz.func18, Tryz.ntmps18
  go_wp2_with fail
  refine HC.mono ?_
  rintro e w1 ⟨rfl, hb1⟩
  clear HC
  cases r with
  | true =>
    go_wp2
    go_ret
    exact ⟨rfl, hb1⟩
  | false =>
    go_wp2
    go_ret
    exact ⟨rfl, hb1⟩
end Go.Proofs.YtppcijpgalaohaaGreatDoor
