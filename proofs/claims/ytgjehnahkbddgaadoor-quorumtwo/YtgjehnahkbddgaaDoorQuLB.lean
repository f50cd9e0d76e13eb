/- The statements' own: the closed fact; a configuration in memory of its own; is one too long? -/
import Derived.Test.YtgjehnahkbddgaaDoorQuCB
import Derived.Deep.Heap
namespace Go.Proofs.YtgjehnahkbddgaaDoor
open Go.RowKit
set_option maxRecDepth 10000 in
set_option maxHeartbeats 2000000 in
theorem enough_any {ad : Nat → Addr} {X : World → Prop} (hO : EnoughOk ad X) (w : World) (hS : ∀ W, Below w.heap.size w W → ErrsQ W ad) (hX : ∀ W, Below w.heap.size w W → X W) :
    Calls Tryd.prog 5 #[] w fun e w' => e = .returned (.bool true) ∧ Below w.heap.size w w' := by
  obtain ⟨w1, hw1⟩ : ∃ w1, w1 = w.alloc (.cells #[.string ⟨#[97]⟩] 9) := ⟨_, rfl⟩
  have HW1 : Hid (w1 = w.alloc (.cells #[.string ⟨#[97]⟩] 9)) := hw1
  have hb1 : Below w.heap.size w w1 := by rw [hw1]; exact (Below.refl _ _).alloc (Nat.le_refl _) _
  have hc1 : w1.cell? ⟨w.heap.size, 0, none⟩ = some (.string ⟨#[97]⟩) := by rw [hw1, World.cell?_alloc_at _ _ _ _ rfl]; rfl
  have hat : CfgAt w1 ⟨1, 1, [⟨#[97]⟩]⟩ (some ⟨w.heap.size, 0, none⟩) 1 := ⟨Or.inr ⟨w.heap.size, 0, rfl, by rw [hw1]; simp, fun i hi => by
    obtain rfl : i = 0 := by simpa using hi
    exact hc1⟩, Nat.le_refl _, (fun e => by cases e), by decide, (fun x hx => by simp at hx; subst hx; decide), ⟨by decide, by decide⟩, by decide, by decide⟩
  have he := hO.enough ⟨1, 1, [⟨#[97]⟩]⟩ (some ⟨w.heap.size, 0, none⟩) 1 w1 hat (hS w1 hb1) (hX w1 hb1)
  rw [one_cfg] at he
  have HE : Hid (Calls Tryd.prog 11 #[.agg #[.int .i64 1, .int .i64 1, .slice (some ⟨w.heap.size, 0, none⟩) 1 1]] w1 fun e w' => e = .returned (.tuple #[.int .i64 1, .nilIface]) ∧ Below w1.heap.size w1 w') := he.mono fun e w' hp => by
    obtain ⟨⟨ev, h1, h2⟩, h3⟩ := hp
    obtain rfl := h2.isNil
    exact ⟨h1, h3⟩
  have HB1 : Hid (Below w.heap.size w w1) := hb1
  clear he hat hc1 hb1 hw1 hO hS hX
  go_enter Tryd.func5, Tryd.ntmps5
  go_wp2_with fail
  rw [← HW1.out]
  refine HE.out.mono ?_
  rintro e w2 ⟨rfl, hb2⟩
  have HB2 : Hid (Below w.heap.size w w2) := HB1.out.trans (hb2.mono HB1.out.size)
  clear hb2 HE HB1
  go_wp2
  go_ret
  exact ⟨rfl, HB2.out⟩
theorem OwnT.setC {w : World} {B b : Nat} {v : Value} {l : List ByteArray} (h : OwnT w B v l) (hb : b < B) (i : Nat) (x : Value) : OwnT (w.setCell ⟨b, i, none⟩ x) B v l :=
  World.ownsRow.kept (row := some b) h ⟨rfl, rfl, rfl, by simp, fun k _ hne => Deep.blk_setCell_other _ _ _ _ (fun e => hne (by rw [e]))⟩ (Or.inr fun e => by have := (h.block e).1; omega)
set_option maxRecDepth 10000 in
set_option maxHeartbeats 2000000 in
theorem ownConfig_any (c : Cfg) (p : Option Addr) (cap : Nat) (w : World) (hl : c.L.length ≤ 8796093021952) (hs : Strs w p c.L) (hn : p = none → c.L = [] ∧ cap = 0) :
    Calls Tryd.prog 10 #[cfgA c (.slice p c.L.length cap)] w fun e w' => (∃ q d, e = .returned (cfgA c (.slice q c.L.length d)) ∧ Strs w' q c.L ∧ c.L.length ≤ d ∧ (q = none → c.L = [] ∧ d = 0)) ∧ Below w.heap.size w w' := by
  obtain ⟨cn, ck, cL⟩ := c
  unfold cfgA
  simp only [] at *
  obtain ⟨w1, hw1⟩ : ∃ w1, w1 = (w.alloc (.cells #[.int .i64 cn, .int .i64 ck, .slice p cL.length cap] 24)).alloc (.cells #[.int .i64 0, .int .i64 0, .slice none 0 0] 24) := ⟨_, rfl⟩
  have HW1 : Hid (w1 = (w.alloc (.cells #[.int .i64 cn, .int .i64 ck, .slice p cL.length cap] 24)).alloc (.cells #[.int .i64 0, .int .i64 0, .slice none 0 0] 24)) := hw1
  have hb1 : Below w.heap.size w w1 := by rw [hw1]; exact ((Below.refl _ _).alloc (Nat.le_refl _) _).alloc (by simp) _
  have e2 : (w.alloc (.cells #[.int .i64 cn, .int .i64 ck, .slice p cL.length cap] 24)).heap.size = w.heap.size + 1 := by simp
  have hx1 : w1.heap[w.heap.size]? = some (.cells #[.int .i64 cn, .int .i64 ck, .slice p cL.length cap] 24 (0, 0)) := by
    rw [hw1, heap_alloc_old _ _ (by rw [e2]; omega)]
    exact heap_alloc_new _ _
  have hy1 : w1.heap[w.heap.size + 1]? = some (.cells #[.int .i64 0, .int .i64 0, .slice none 0 0] 24 (0, 0)) := by
    rw [hw1, ← e2]
    exact heap_alloc_new _ _
  have hs1 : w1.heap.size = w.heap.size + 2 := by rw [hw1]; simp
  have HS1 : Hid (Strs w1 p cL) := hs.below hb1
  have HF1 : Hid (w1.heap[w.heap.size]? = some (.cells #[.int .i64 cn, .int .i64 ck, .slice p cL.length cap] 24 (0, 0)) ∧ w1.heap[w.heap.size + 1]? = some (.cells #[.int .i64 0, .int .i64 0, .slice none 0 0] 24 (0, 0)) ∧ Below w.heap.size w w1 ∧ w1.heap.size = w.heap.size + 2) := ⟨hx1, hy1, hb1, hs1⟩
  have q2 : w1.cell? ⟨w.heap.size, 2, none⟩ = some (.slice p cL.length cap) := by simp [World.cell?, hx1]
  clear hw1 hb1 e2 hx1 hy1 hs1 hs
  go_enter Tryd.func10, Tryd.ntmps10
  go_wp2_with (first | (at_builtin; rw [← HW1.out]; refine wpList_append_strs rfl (.tmp 4) (.tmp 6) rfl w1.heap.size (.slice none 0 0) [] rfl (OwnT.nil _ _) p cL cap rfl HS1.out hn (by show 0 + cL.length ≤ _; omega) (Nat.le_refl _) ?_; intro v2 w2 hO2 hb2; rw [List.nil_append] at hO2; obtain ⟨q, d, hv2, hS2, hd2, hn2, hbk2⟩ := hO2.form; subst hv2; have hx2 := (hb2.block _ (by have := HF1.out.2.2.2; omega)).trans HF1.out.1; have hy2 := (hb2.block _ (by have := HF1.out.2.2.2; omega)).trans HF1.out.2.1; have HN2 : Hid (q = none → cL = [] ∧ d = 0) := (fun e => ⟨(by rcases hS2 with h | ⟨b, o, hq, _⟩; exact h; rw [e] at hq; cases hq), hn2 e⟩); have HO2 : Hid (OwnT w2 w1.heap.size (.slice q cL.length d) cL ∧ cL.length ≤ d ∧ Below w.heap.size w w2) := ⟨hO2, hd2, HF1.out.2.2.1.trans (hb2.mono HF1.out.2.2.1.size)⟩; have k0 : w2.cell? ⟨w.heap.size, 0, none⟩ = some (.int .i64 cn) := (by simp [World.cell?, hx2]); have k1 : w2.cell? ⟨w.heap.size, 1, none⟩ = some (.int .i64 ck) := (by simp [World.cell?, hx2]); have k2 : w2.cell? ⟨w.heap.size, 2, none⟩ = some (.slice p cL.length cap) := (by simp [World.cell?, hx2]); have k3 : w2.frozen? ⟨w.heap.size, 2, none⟩ = false := (by simp [World.frozen?, hx2]); have z0 : w2.cell? ⟨w.heap.size + 1, 0, none⟩ = some (.int .i64 0) := (by simp [World.cell?, hy2]); have z1 : w2.cell? ⟨w.heap.size + 1, 1, none⟩ = some (.int .i64 0) := (by simp [World.cell?, hy2]); have z2 : w2.cell? ⟨w.heap.size + 1, 2, none⟩ = some (.slice none 0 0) := (by simp [World.cell?, hy2]); have z3 : ∀ i, w2.frozen? ⟨w.heap.size + 1, i, none⟩ = false := (fun i => by simp [World.frozen?, hy2]); clear hO2 hb2 hS2 hd2 hn2 hbk2 hx2 hy2 q2))
  refine bodyPost_ret (v := .agg #[.int .i64 cn, .int .i64 ck, .slice q cL.length d]) (by simp [results, Tryd.results10, go_sem, z0, z1, z2]) rfl ?_
  have hsz := HF1.out.2.2.2
  have ho := (((HO2.out.1.setC (b := w.heap.size) (by omega) 2 (.slice q cL.length d)).setC (b := w.heap.size + 1) (by omega) 0 (.int .i64 cn)).setC (b := w.heap.size + 1) (by omega) 1 (.int .i64 ck)).setC (b := w.heap.size + 1) (by omega) 2 (.slice q cL.length d)
  obtain ⟨q', d', hv, hS, _⟩ := ho.form
  injection hv with e1 _ e2
  subst e1 e2
  exact ⟨⟨q, d, rfl, hS, HO2.out.2.1, HN2.out⟩, (((HO2.out.2.2.setCell (p := ⟨w.heap.size, 2, none⟩) (Nat.le_refl _) _).setCell (p := ⟨w.heap.size + 1, 0, none⟩) (by show w.heap.size ≤ w.heap.size + 1; omega) _).setCell (p := ⟨w.heap.size + 1, 1, none⟩) (by show w.heap.size ≤ w.heap.size + 1; omega) _).setCell (p := ⟨w.heap.size + 1, 2, none⟩) (by show w.heap.size ≤ w.heap.size + 1; omega) _⟩
/-- Is a configuration too long for a statement? -/
def longC (c : Cfg) : Bool := decide (30 < c.L.length) || c.L.any fun x => decide (60 < x.size)
theorem longC_fine {c : Cfg} (h : longC c = false) : c.L.length ≤ 30 ∧ ∀ x ∈ c.L, x.size ≤ 60 := by
  unfold longC at h
  rw [Bool.or_eq_false_iff] at h
  refine ⟨by have := of_decide_eq_false h.1; omega, fun x hx => ?_⟩
  have := List.any_eq_false.1 h.2 x hx
  simpa using this
set_option maxRecDepth 10000 in
set_option maxHeartbeats 1000000 in
theorem longConfig_any (c : Cfg) (p : Option Addr) (cap : Nat) (w : World) (hl : c.L.length ≤ maxLen) (hx : ∀ x ∈ c.L, x.size ≤ maxLen) (hs : Strs w p c.L) :
    Calls Tryd.prog 6 #[cfgA c (.slice p c.L.length cap)] w fun e w' => e = .returned (.bool (longC c)) ∧ Below w.heap.size w w' := by
  obtain ⟨cn, ck, l⟩ := c
  unfold maxLen at hl
  unfold cfgA
  simp only [] at *
  obtain ⟨w1, hw1⟩ : ∃ w1, w1 = w.alloc (.cells #[.int .i64 cn, .int .i64 ck, .slice p l.length cap] 24) := ⟨_, rfl⟩
  have HW1 : Hid (w1 = w.alloc (.cells #[.int .i64 cn, .int .i64 ck, .slice p l.length cap] 24)) := hw1
  have hb1 : Below w.heap.size w w1 := by rw [hw1]; exact (Below.refl _ _).alloc (Nat.le_refl _) _
  have q2 : w1.cell? ⟨w.heap.size, 2, none⟩ = some (.slice p l.length cap) := by rw [hw1, World.cell?_alloc_at _ _ _ _ rfl]; rfl
  have HB1 : Hid (Below w.heap.size w w1) := hb1
  by_cases h1 : 30 < l.length
  · have HR : Hid (longC ⟨cn, ck, l⟩ = true) := by show _ = _; unfold longC; rw [decide_eq_true h1, Bool.true_or]
    rw [HR.out]
    clear hw1 hb1 hs hx
    go_enter Tryd.func6, Tryd.ntmps6
    go_wp2
    go_ret
    exact ⟨rfl, by rw [← HW1.out]; exact HB1.out⟩
  have HX : Hid (∀ i, i < l.length → (txt l i).size ≤ 9223372036854775807) := fun i hi => by have := hx _ (txt_mem hi); unfold maxLen at this; omega
  have HT : Hid (∀ i, i < l.length → 60 < (txt l i).size → longC ⟨cn, ck, l⟩ = true) := fun i hi h => by
    unfold longC
    rw [decide_eq_false h1, Bool.false_or, List.any_eq_true]
    exact ⟨txt l i, txt_mem hi, decide_eq_true h⟩
  have HF : Hid ((∀ i, i < l.length → ¬ 60 < (txt l i).size) → longC ⟨cn, ck, l⟩ = false) := fun h => by
    unfold longC
    rw [decide_eq_false h1, Bool.false_or, List.any_eq_false]
    intro x hx h2
    obtain ⟨i, hi, rfl⟩ := txt_of_mem hx
    exact h i hi (of_decide_eq_true h2)
  generalize longC ⟨cn, ck, l⟩ = r at *
  have HS : Hid (Strs w1 p l) := hs.below hb1
  clear hs hx hw1 hb1
  go_enter Tryd.func6, Tryd.ntmps6
  go_wp2
  rw [show w.alloc (.cells #[.int .i64 cn, .int .i64 ck, .slice p l.length cap] 24) = w1 from HW1.out.symm]
  clear HW1
  go_loopw [3] (fun x wr => ∃ i : Nat, i ≤ l.length ∧ x = .int .i64 i ∧ (∀ j, j < i → ¬ 60 < (txt l j).size) ∧ wr = w1) (fun x _ => l.length - (intOf x).toNat)
  case atStart => exact ⟨0, Nat.zero_le _, rfl, (fun j hj => absurd hj (Nat.not_lt_zero _)), rfl⟩
  case round =>
    obtain ⟨i, hi, rfl, hall, hwr⟩ := hrel
    subst hwr
    have HALL : Hid (∀ j, j < i → ¬ 60 < (txt l j).size) := hall
    clear hall
    by_cases hil : i < l.length
    · rcases HS.out with h0 | ⟨b, o, rfl, hlt, hc⟩
      · rw [h0] at hil; exact absurd hil (Nat.not_lt_zero _)
      have q1 := hc i hil
      have hsz := HX.out i hil
      clear hc
      by_cases hbig : 60 < (txt l i).size
      · have HR : Hid (r = true) := HT.out i hil hbig
        clear HT HF HALL HX
        generalize txt l i = t at *
        go_wp2
        go_ret
        exact ⟨by rw [HR.out]; rfl, HB1.out⟩
      · have HBG : Hid (¬ 60 < (txt l i).size) := hbig
        clear HT HF HX
        generalize hti : txt l i = t at *
        have HTI : Hid (txt l i = t) := hti
        clear hti
        go_wp2
        go_roundw
        case rel => exact ⟨i + 1, by omega, by go_num, (fun j hj => by
          rcases Nat.lt_or_ge j i with h | h
          · exact HALL.out j h
          · obtain rfl : j = i := by omega
            rw [HTI.out]; exact HBG.out), trivial⟩
        case measure => simp [intOf]; omega
    · have HR : Hid (r = false) := HF.out (fun j hj => HALL.out j (by omega))
      go_wp2
      go_ret
      exact ⟨by rw [HR.out]; rfl, HB1.out⟩
theorem cfgAt_of {w : World} {c : Cfg} {p : Option Addr} {cap : Nat} (h1 : Strs w p c.L) (h2 : c.L.length ≤ cap) (h3 : p = none → c.L = [] ∧ cap = 0) (h4 : longC c = false) (h5 : CfgIn c) : CfgAt w c p cap :=
  ⟨h1, h2, h3, by have := (longC_fine h4).1; omega, fun x hx => by have := (longC_fine h4).2 x hx; omega, h5⟩
end Go.Proofs.YtgjehnahkbddgaaDoor
