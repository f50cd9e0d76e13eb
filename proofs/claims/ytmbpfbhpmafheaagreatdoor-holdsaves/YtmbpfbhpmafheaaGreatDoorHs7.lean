/- Texts laid together. -/
import Derived.Test.YtmbpfbhpmafheaaGreatDoorHs5
import Derived.OpenShut
import Derived.ChangeOld
import Derived.Deep.SlicePairs
namespace Go.Proofs.YtmbpfbhpmafheaaGreatDoor
open Go.RowKit
/-- What of a hold is to be seen, as package hold answers it; Hd: in the world w the hold at block h, in the blocks of S, holds L, and is sealed or not. -/
structure HoldSee (Hd : World → Nat → (Nat → Prop) → List Kep → Bool → Prop) : Prop where
  lt : ∀ {w h S L s}, Hd w h S L s → ∀ k, S k → k < w.heap.size
  keep : ∀ {w w' h S L s}, Hd w h S L s → w.heap.size ≤ w'.heap.size → (∀ k, S k → w'.heap[k]? = w.heap[k]?) → Hd w' h S L s
  count : ∀ {w h S L s}, Hd w h S L s → Calls Tryz.prog 11 #[.pointer (some ⟨h, 0, none⟩)] w fun e w' => e = .returned (.int .i64 (L.length : Int)) ∧ Below w.heap.size w w'
  get : ∀ {w h S L s} (key : ByteArray), key.size ≤ maxLen → Hd w h S L s → Calls Tryz.prog 17 #[.pointer (some ⟨h, 0, none⟩), .string key] w fun e w' => (∃ p c, e = .returned (.slice p (getL L key).length c) ∧ Rec verE w' p (getL L key)) ∧ Below w.heap.size w w'
  last : ∀ {w h S L s} (key : ByteArray), key.size ≤ maxLen → Hd w h S L s → Calls Tryz.prog 18 #[.pointer (some ⟨h, 0, none⟩), .string key] w fun e w' => e = .returned (.tuple #[.agg #[.int .i64 (lastT (getL L key)).1, .int .i64 (lastT (getL L key)).2], .bool (decide (0 < (getL L key).length))]) ∧ Below w.heap.size w w'
  sealed_ : ∀ {w h S L s}, Hd w h S L s → Calls Tryz.prog 12 #[.pointer (some ⟨h, 0, none⟩)] w fun e w' => e = .returned (.bool s) ∧ Below w.heap.size w w'
  keys : ∀ {w h S L s}, Hd w h S L s → Calls Tryz.prog 34 #[.pointer (some ⟨h, 0, none⟩)] w fun e w' => (∃ p c, e = .returned (.slice p (keysTo L L.length).length c) ∧ Strs w' p (keysTo L L.length)) ∧ Below w.heap.size w w'
/-- A hold and its model, beside each other, both behind B. -/
structure Two (Hd : World → Nat → (Nat → Prop) → List Kep → Bool → Prop) (B : Nat) (w : World) (hp hm : Nat) (L : List Kep) (s : Bool) (S : Nat → Prop) : Prop where
  own : Hd w hp S L s
  base : ∀ k, S k → B ≤ k
  apart : ¬ S hm
  rows : L ≠ [] → ∀ b o c, w.cell? ⟨hm, 0, none⟩ = some (.slice (some ⟨b, o, none⟩) L.length c) → ¬ S b
  model : MHold w hm L s
  bm : B ≤ hm
  len : L.length ≤ 800000
  names : ∀ x ∈ L, x.1.size ≤ maxLen
theorem Two.below {Hd : World → Nat → (Nat → Prop) → List Kep → Bool → Prop} (hO : HoldSee Hd) {B : Nat} {w w' : World} {hp hm : Nat} {L : List Kep} {s : Bool} {S : Nat → Prop} (h : Two Hd B w hp hm L s S) (hb : Below w.heap.size w w') : Two Hd B w' hp hm L s S := by
  obtain ⟨p, c, q0, _⟩ := h.model.row
  refine ⟨hO.keep h.own hb.size (fun k hk => hb.block k (hO.lt h.own k hk)), h.base, h.apart, fun hne b o c hc => h.rows hne b o c ?_, h.model.below hb, h.bm, h.len, h.names⟩
  rw [hb.cell (p := ⟨hm, 0, none⟩) (lt_of_cellH q0)] at hc
  exact hc
theorem MHold.upd {S S' : Nat → Prop} {w w' : World} {h : Nat} {L : List Kep} {s : Bool} (hm : MHold w h L s) (hu : Upd S S' w w') (h1 : ¬ S h) (h2 : L ≠ [] → ∀ b o c, w.cell? ⟨h, 0, none⟩ = some (.slice (some ⟨b, o, none⟩) L.length c) → ¬ S b) : MHold w' h L s := by
  obtain ⟨p, c, q0, hr, hc, hn, hne⟩ := hm.row
  have hlt := lt_of_cellH q0
  have hblk := hu.block h hlt h1
  have hcell : ∀ o, w'.cell? ⟨h, o, none⟩ = w.cell? ⟨h, o, none⟩ := fun o => by unfold World.cell?; rw [hblk]
  have hfr : ∀ o, w'.frozen? ⟨h, o, none⟩ = w.frozen? ⟨h, o, none⟩ := fun o => by unfold World.frozen?; rw [hblk]
  refine ⟨⟨p, c, (hcell 0).trans q0, ?_, hc, hn, hne⟩, (hcell 1).trans hm.sealed_, (hfr 0).trans hm.free0, (hfr 1).trans hm.free1⟩
  by_cases hL : L = []
  · exact Or.inl hL
  rcases hr with hr | ⟨b, o, rfl, hltb, hcc⟩
  · exact Or.inl hr
  · have hb := hu.block b hltb (h2 hL b o c q0)
    exact Or.inr ⟨b, o, rfl, Nat.lt_of_lt_of_le hltb hu.size, fun i x hx j u hj => by
      have := hcc i x hx j u hj
      unfold World.cell? at this ⊢
      rw [hb]
      exact this⟩
/-- What was done to the hold: the model lies as it did. -/
theorem Two.upd {Hd : World → Nat → (Nat → Prop) → List Kep → Bool → Prop} {B : Nat} {w w' : World} {hp hm : Nat} {L : List Kep} {s : Bool} {S S' : Nat → Prop} (h : Two Hd B w hp hm L s S) (hu : Upd S S' w w') (hB : B ≤ w.heap.size) :
    MHold w' hm L s ∧ (∀ k, S' k → B ≤ k) ∧ ¬ S' hm ∧ (L ≠ [] → ∀ b o c, w'.cell? ⟨hm, 0, none⟩ = some (.slice (some ⟨b, o, none⟩) L.length c) → ¬ S' b ∧ b < w.heap.size) ∧ Below B w w' := by
  obtain ⟨p, c, q0, hr, _, hn, _⟩ := h.model.row
  have hlt := lt_of_cellH q0
  have hblk := hu.block hm hlt h.apart
  have hcell : w'.cell? ⟨hm, 0, none⟩ = w.cell? ⟨hm, 0, none⟩ := by unfold World.cell?; rw [hblk]
  have hnew : ∀ k, k < w.heap.size → ¬ S k → ¬ S' k := fun k hk h1 h2 => by
    rcases hu.new k h2 with h3 | h3
    · exact h1 h3
    · omega
  refine ⟨h.model.upd hu h.apart h.rows, fun k hk => ?_, hnew hm hlt h.apart, fun hL b o c' e => ?_, ⟨hu.os, hu.tape, hu.output, hu.size, fun k hk => hu.block k (by omega) (fun h1 => by have := h.base k h1; omega)⟩⟩
  · rcases hu.new k hk with h1 | h1
    · exact h.base k h1
    · omega
  · rw [hcell] at e
    have hbs : ¬ S b := h.rows hL b o c' e
    have hbl : b < w.heap.size := by
      rw [q0] at e
      obtain ⟨h1, _, _⟩ := Value.slice.inj (Option.some.inj e)
      rcases hr with h0 | ⟨b', o', hp', hlt', _⟩
      · exact absurd h0 hL
      · rw [h1] at hp'
        obtain ⟨rfl, _⟩ : b = b' ∧ o = o' := by simpa using hp'
        exact hlt'
    exact ⟨hnew b hbl hbs, hbl⟩
theorem keysTo_mem {L : List Kep} {x : ByteArray} : ∀ {i : Nat}, x ∈ keysTo L i → ∃ j, j < i ∧ (kepAt L j).1 = x
  | 0, h => by cases h
  | i + 1, h => by
    by_cases hc : (keysTo L i).length = 0 ∨ txt (keysTo L i) ((keysTo L i).length - 1) ≠ (kepAt L i).1
    · rw [keysTo_new hc] at h
      rcases List.mem_append.1 h with h1 | h1
      · obtain ⟨j, hj, e⟩ := keysTo_mem h1
        exact ⟨j, by omega, e⟩
      · exact ⟨i, by omega, (List.mem_singleton.1 h1).symm⟩
    · rw [keysTo_old hc] at h
      obtain ⟨j, hj, e⟩ := keysTo_mem h
      exact ⟨j, by omega, e⟩
theorem keysTo_get {L : List Kep} {x : ByteArray} (h : x ∈ keysTo L L.length) : 0 < (getL L x).length := by
  obtain ⟨j, hj, e⟩ := keysTo_mem h
  unfold getL
  rw [List.length_map]
  refine List.length_pos_of_mem (a := kepAt L j) (List.mem_filter.2 ⟨?_, by simpa using e⟩)
  have := kepAt_get hj
  exact List.mem_of_getElem? this
/-- Package hold answers as it is asked to; Hd: in the world w the hold at block h, in the blocks of S, holds L, and is sealed or not. -/
structure HoldOk (ad : Nat → Addr) (Hd : World → Nat → (Nat → Prop) → List Kep → Bool → Prop) : Prop extends HoldOk0 ad (fun w => Sent w ad) Hd where
  sealed_ : ∀ {w h S L s}, Hd w h S L s → Calls Tryz.prog 12 #[.pointer (some ⟨h, 0, none⟩)] w fun e w' => e = .returned (.bool s) ∧ Below w.heap.size w w'
  keys : ∀ {w h S L s}, Hd w h S L s → Calls Tryz.prog 34 #[.pointer (some ⟨h, 0, none⟩)] w fun e w' => (∃ p c, e = .returned (.slice p (keysTo L L.length).length c) ∧ Strs w' p (keysTo L L.length)) ∧ Below w.heap.size w w'
  trim : ∀ {w h S L s} (key : ByteArray) (n : Int), key.size ≤ maxLen → 0 ≤ n → n ≤ 9223372036854775807 → Hd w h S L s → Calls Tryz.prog 27 #[.pointer (some ⟨h, 0, none⟩), .string key, .int .i64 n] w fun e w' => e = .returned (.tuple #[.int .i64 ((goneN L key n : Nat) : Int), .nilIface]) ∧ ∃ S', Hd w' h S' (trimL L key n) s ∧ Upd S S' w w'
  trimBad : ∀ {w h S L s} (key : ByteArray) (n : Int), key.size ≤ maxLen → n < 0 → -9223372036854775808 ≤ n → Hd w h S L s → Sent w ad → Calls Tryz.prog 27 #[.pointer (some ⟨h, 0, none⟩), .string key, .int .i64 n] w fun e w' => (∃ ev, e = .returned (.tuple #[.int .i64 0, ev]) ∧ BareIs ad ev 2) ∧ Below w.heap.size w w'
  seals : ∀ {w h S L s}, Hd w h S L s → Calls Tryz.prog 29 #[.pointer (some ⟨h, 0, none⟩)] w fun e w' => e = .returned (.tuple #[]) ∧ ∃ S', Hd w' h S' L true ∧ Upd S S' w w'
  wipe : ∀ {w h S L s}, Hd w h S L s → Calls Tryz.prog 30 #[.pointer (some ⟨h, 0, none⟩)] w fun e w' => e = .returned (.tuple #[]) ∧ ∃ S', Hd w' h S' [] false ∧ Upd S S' w w'
theorem HoldOk.see {ad : Nat → Addr} {Hd : World → Nat → (Nat → Prop) → List Kep → Bool → Prop} (hO : HoldOk ad Hd) : HoldSee Hd := ⟨hO.lt, hO.keep, hO.count, hO.get, hO.last, hO.sealed_, hO.keys⟩
/-- The hold is changed, then its model: they are beside each other again. -/
theorem Two.step {ad : Nat → Addr} {Hd : World → Nat → (Nat → Prop) → List Kep → Bool → Prop} (hO : HoldOk ad Hd) {B : Nat} {w w' w'' : World} {hp hm : Nat} {L L' : List Kep} {s s' : Bool} {S S' : Nat → Prop} (h : Two Hd B w hp hm L s S) (hu : Upd S S' w w') (h' : Hd w' hp S' L' s') (hB : B ≤ w.heap.size) (hm'' : MHold w'' hm L' s') (ht : Turn hm w' w'') (hlen : L'.length ≤ 800000) (hnm : ∀ x ∈ L', x.1.size ≤ maxLen) :
    Two Hd B w'' hp hm L' s' S' ∧ Below B w w'' := by
  obtain ⟨hm', hb', ha', hr', hbw⟩ := h.upd hu hB
  obtain ⟨p0, c0, q0, _⟩ := hm'.row
  have hlt' := hO.lt h'
  refine ⟨⟨hO.keep h' ht.size (fun k hk => ht.block k (hlt' k hk) (fun e => ha' (e ▸ hk))), hb', ha', fun hL b o c e => ?_, hm'', h.bm, hlen, hnm⟩, hbw.trans ⟨ht.os, ht.tape, ht.output, ht.size, fun k hk => ht.block k (by have := hu.size; omega) (by have := h.bm; omega)⟩⟩
  rcases ht.row with h1 | h1
  · rw [h1] at e
    have e2 := e
    rw [q0] at e2
    obtain ⟨_, h3, _⟩ := Value.slice.inj (Option.some.inj e2)
    have hLL : L ≠ [] := fun h0 => hL (List.length_eq_zero_iff.1 (by rw [← h3, h0]; rfl))
    rw [← h3] at e
    exact (hr' hLL b o c e).1
  · have h2 := h1 b o L'.length c e
    intro hs
    have := hlt' b hs
    omega
/-- An act: its kind, a key, a version, a number. -/
structure HAct where
  kind : ByteArray
  key : ByteArray
  v : Ver
  n : Int
def actC (a : HAct) : List Value := .string a.kind :: .string a.key :: (verC a.v ++ [.int .i64 a.n])
def actE : Enc HAct := ⟨8, by decide, actC, fun _ => rfl, fun x u hu => by
  simp [actC, verC] at hu
  rcases hu with rfl | rfl | rfl | rfl | rfl | rfl | rfl | rfl <;> rfl⟩
def actAt (l : List HAct) (i : Nat) : HAct := l.getD i ⟨⟨#[]⟩, ⟨#[]⟩, ⟨0, 0, 0, 0, ⟨#[]⟩⟩, 0⟩
theorem actAt_get {l : List HAct} {i : Nat} (hi : i < l.length) : l[i]? = some (actAt l i) := by
  unfold actAt
  rw [List.getD_eq_getElem?_getD, List.getElem?_eq_getElem hi]
  rfl
theorem act_cells {w : World} {p : Option Addr} {l : List HAct} (h : Rec actE w p l) {i : Nat} (hi : i < l.length) : ∃ b o, p = some ⟨b, o, none⟩ ∧ b < w.heap.size ∧ w.cell? ⟨b, o + i * 8, none⟩ = some (.string (actAt l i).kind) ∧ w.cell? ⟨b, o + i * 8 + 1, none⟩ = some (.string (actAt l i).key) ∧ w.cell? ⟨b, o + i * 8 + 2, none⟩ = some (.int .i64 (actAt l i).v.n) ∧ w.cell? ⟨b, o + i * 8 + 3, none⟩ = some (.int .i64 (actAt l i).v.who) ∧ w.cell? ⟨b, o + i * 8 + 4, none⟩ = some (.int .i64 (actAt l i).v.size) ∧ w.cell? ⟨b, o + i * 8 + 5, none⟩ = some (.int .i64 (actAt l i).v.at_) ∧ w.cell? ⟨b, o + i * 8 + 6, none⟩ = some (.string (actAt l i).v.text) ∧ w.cell? ⟨b, o + i * 8 + 7, none⟩ = some (.int .i64 (actAt l i).n) := by
  rcases h with h | ⟨b, o, hp, hlt, hc⟩
  · rw [h] at hi; exact absurd hi (Nat.not_lt_zero _)
  · have hx := actAt_get hi
    exact ⟨b, o, hp, hlt, hc i _ hx 0 _ rfl, hc i _ hx 1 _ rfl, hc i _ hx 2 _ rfl, hc i _ hx 3 _ rfl, hc i _ hx 4 _ rfl, hc i _ hx 5 _ rfl, hc i _ hx 6 _ rfl, hc i _ hx 7 _ rfl⟩
theorem putScan_zero {L : List Kep} {key : ByteArray} {v : Ver} : ∀ (m i : Nat), putScan L key v i m = 0 → L.length < 60
  | 0, _, h => by
    have h' : (if 60 ≤ L.length then (7 : Int) else 0) = 0 := h
    by_cases hl : 60 ≤ L.length
    · rw [if_pos hl] at h'; cases h'
    · omega
  | m + 1, i, h => by
    have h' : (if sameTag (kepAt L i) key v then (if (kepAt L i).2 = v then (-1 : Int) else 6) else putScan L key v (i + 1) m) = 0 := h
    by_cases hs : sameTag (kepAt L i) key v = true
    · rw [if_pos hs] at h'
      split at h' <;> cases h'
    · rw [if_neg hs] at h'
      exact putScan_zero m (i + 1) h'
theorem putR_len {L : List Kep} {s : Bool} {key : ByteArray} {v : Ver} (h : L.length ≤ 800000) : (putR L s key v).2.length ≤ 800000 := by
  unfold putR
  by_cases h0 : putErr L s key v = 0
  · rw [if_pos h0]
    have hl : L.length < 60 := by
      unfold putErr at h0
      split at h0
      · cases h0
      · split at h0
        · split at h0
          · exact putScan_zero _ _ h0
          · cases h0
        · cases h0
    show (putL L key v).length ≤ 800000
    unfold putL
    rw [List.length_append, List.length_append, List.length_take, List.length_drop]
    show _ + 1 + _ ≤ _
    omega
  · rw [if_neg h0]
    split <;> exact h
theorem putR_names {L : List Kep} {s : Bool} {key : ByteArray} {v : Ver} (h : ∀ x ∈ L, x.1.size ≤ maxLen) (hk : key.size ≤ maxLen) : ∀ x ∈ (putR L s key v).2, x.1.size ≤ maxLen := by
  unfold putR
  split
  · intro x hx
    have hx' : x ∈ L.take (placeN L key v) ++ [(key, v)] ++ L.drop (placeN L key v) := hx
    rcases List.mem_append.1 hx' with h1 | h1
    · rcases List.mem_append.1 h1 with h2 | h2
      · exact h x (List.mem_of_mem_take h2)
      · rw [List.mem_singleton.1 h2]; exact hk
    · exact h x (List.mem_of_mem_drop h1)
  · split <;> exact h
theorem trimGo_subP (key : ByteArray) : ∀ (left : Nat) (L : List Kep), (trimGo key left L).length ≤ L.length ∧ ∀ x ∈ trimGo key left L, x ∈ L
  | _, [] => ⟨Nat.le_refl _, fun _ h => h⟩
  | left, y :: r => by
    by_cases hc : y.1 = key ∧ 0 < left
    · have e : trimGo key left (y :: r) = trimGo key (left - 1) r := if_pos hc
      rw [e]
      have ih := trimGo_subP key (left - 1) r
      exact ⟨Nat.le_trans ih.1 (Nat.le_succ _), fun x hx => List.mem_cons_of_mem _ (ih.2 x hx)⟩
    · have e : trimGo key left (y :: r) = y :: trimGo key left r := if_neg hc
      rw [e]
      have ih := trimGo_subP key left r
      refine ⟨Nat.succ_le_succ ih.1, fun x hx => ?_⟩
      rcases List.mem_cons.1 hx with rfl | h1
      · exact List.mem_cons_self
      · exact List.mem_cons_of_mem _ (ih.2 x h1)
section
open Go.ChangeShapes Go.WideShapes Go.ChangeAt Go.RowKit
theorem actLaidOut : laidOutB Tryz.prog = true := by kernel_rfl
theorem actFields : ∃ f0 f1 f2 f3, Tryz.prog.underlying 70 = some (.struct #[f0, f1, f2, f3]) ∧ f0.offset = 0 ∧ f1.offset = 1 ∧ f2.offset = 2 ∧ f3.offset = 7 ∧ f0.type = 9 ∧ f1.type = 9 ∧ f2.type = 49 ∧ f3.type = 3 := ⟨_, _, _, _, Tryz.underlying70, rfl, rfl, rfl, rfl, rfl, rfl, rfl, rfl⟩
theorem verFields : ∃ f0 f1 f2, Tryz.prog.underlying 49 = some (.struct #[f0, f1, f2]) ∧ f0.offset = 0 ∧ f1.offset = 2 ∧ f2.offset = 3 ∧ f0.type = 45 ∧ f1.type = 3 ∧ f2.type = 47 := ⟨_, _, _, Tryz.underlying49, rfl, rfl, rfl, rfl, rfl, rfl⟩
theorem tagFields2 : ∃ f0 f1, Tryz.prog.underlying 45 = some (.struct #[f0, f1]) ∧ f0.offset = 0 ∧ f1.offset = 1 ∧ f0.type = 3 ∧ f1.type = 3 := ⟨_, _, Tryz.underlying45, rfl, rfl, rfl, rfl⟩
theorem shardFields : ∃ f0 f1, Tryz.prog.underlying 47 = some (.struct #[f0, f1]) ∧ f0.offset = 0 ∧ f1.offset = 1 ∧ f0.type = 3 ∧ f1.type = 9 := ⟨_, _, Tryz.underlying47, rfl, rfl, rfl, rfl⟩
theorem cellsAct : Tryz.prog.cellsOf 70 = 8 := by kernel_rfl
theorem cellsVer : Tryz.prog.cellsOf 49 = 5 := by kernel_rfl
theorem cellsTag : Tryz.prog.cellsOf 45 = 2 := by kernel_rfl
theorem cellsShard : Tryz.prog.cellsOf 47 = 2 := by kernel_rfl
theorem cellsInt : Tryz.prog.cellsOf 3 = 1 := by kernel_rfl
theorem cellsStr : Tryz.prog.cellsOf 9 = 1 := by kernel_rfl
/-- An act fits. -/
def ActFits (x : HAct) : Prop := x.key.size ≤ maxLen ∧ x.v.text.size ≤ maxLen ∧ -9223372036854775808 ≤ x.n ∧ x.n ≤ 9223372036854775807
set_option maxRecDepth 100000 in
theorem act_elem {H : Type} {enc : TypeId × Value → H} {W : World} {fuel : Nat} {cs : List Value} {y : DataW H × List MemPlace} (h : DataW.trod enc Tryz.prog W 0 (fun _ => true) true fuel 70 cs = some y) : ∃ x : HAct, cs = actC x ∧ ActFits x := by
  obtain ⟨f0, f1, f2, f3, hst, o0, o1, o2, o3, t0, t1, t2, t3⟩ := actFields
  obtain ⟨g0, g1, g2, hsv, p0, p1, p2, u0, u1, u2⟩ := verFields
  obtain ⟨a0, a1, hta, b0, b1, c0, c1⟩ := tagFields2
  obtain ⟨d0, d1, hsh, e0, e1, i0, i1⟩ := shardFields
  obtain ⟨y0, y1, y2, y3, n, _, hlen, h0, h1, h2, h3⟩ := Joins.trod_struct4 hst h
  rw [cellsAct] at hlen
  match cs, hlen with
  | [v0, v1, v2, v3, v4, v5, v6, v7], _ =>
    rw [t0, o0, cellsStr] at h0
    rw [t1, o1, cellsStr] at h1
    rw [t2, o2, cellsVer] at h2
    rw [t3, o3, cellsInt] at h3
    obtain ⟨s0, hs0, _, _⟩ := DataW.trod_string Tryz.underlying9 h0
    obtain ⟨s1, hs1, _, hz1⟩ := DataW.trod_string Tryz.underlying9 h1
    obtain ⟨x3, hx3, _, hw3⟩ := DataW.trod_int Tryz.underlying3 h3
    obtain ⟨z0, z1, z2, n2, _, _, k0, k1, k2⟩ := Deep.trod_struct3 hsv h2
    rw [u0, p0, cellsTag] at k0
    rw [u1, p1, cellsInt] at k1
    rw [u2, p2, cellsShard] at k2
    obtain ⟨xs, hxs, _, _⟩ := DataW.trod_int Tryz.underlying3 k1
    obtain ⟨r0, r1, n3, _, _, l0, l1⟩ := trod_struct2 hta k0
    rw [c0, b0, cellsInt] at l0
    rw [c1, b1, cellsInt] at l1
    obtain ⟨xn, hxn, _, _⟩ := DataW.trod_int Tryz.underlying3 l0
    obtain ⟨xw, hxw, _, _⟩ := DataW.trod_int Tryz.underlying3 l1
    obtain ⟨q0, q1, n4, _, _, m0, m1⟩ := trod_struct2 hsh k2
    rw [i0, e0, cellsInt] at m0
    rw [i1, e1, cellsStr] at m1
    obtain ⟨xa, hxa, _, _⟩ := DataW.trod_int Tryz.underlying3 m0
    obtain ⟨xt, hxt, _, hzt⟩ := DataW.trod_string Tryz.underlying9 m1
    simp at hs0 hs1 hx3 hxs hxn hxw hxa hxt
    subst hs0 hs1 hx3 hxs hxn hxw hxa hxt
    have hb := bounds_i64 hw3
    exact ⟨⟨s0, s1, ⟨xn, xw, xs, xa, xt⟩, x3⟩, rfl, hz1, hzt, hb.1, hb.2⟩
set_option maxRecDepth 100000 in
theorem acts_arg {H : Type} {enc : TypeId × Value → H} {W : World} {base : Nat} {v : Value} {d : DataW H} {ps : List MemPlace} (hok : Value.okWide Tryz.prog W .any base 34 v)
    (h : DataW.Trod enc Tryz.prog W 0 (fun _ => true) true 34 v d ps) : ∃ p l cap, v = .slice p l.length cap ∧ Rec actE W p l ∧ l.length ≤ maxLen ∧ ∀ i, i < l.length → (actAt l i).key.size ≤ maxLen ∧ (actAt l i).v.text.size ≤ maxLen ∧ -9223372036854775808 ≤ (actAt l i).n ∧ (actAt l i).n ≤ 9223372036854775807 := by
  obtain ⟨a0, len0, cap0, rfl⟩ := okWide_slice Tryz.underlying34 hok
  obtain ⟨fuel, hf⟩ := h
  rcases Deep.open_slice Tryz.underlying34 hf with ⟨hcs, _⟩ | ⟨a, len, cp, m, nn, D, Pl, hcs, _, hle, hcm, hm, _, hx⟩
  · simp [Value.cells] at hcs
    obtain ⟨rfl, rfl, rfl⟩ := hcs
    exact ⟨none, [], 0, rfl, Or.inl rfl, Nat.zero_le _, fun i hi => absurd hi (Nat.not_lt_zero _)⟩
  · simp [Value.cells] at hcs
    obtain ⟨rfl, rfl, rfl⟩ := hcs
    have hlm : len0 ≤ m := by rw [hm]; split <;> omega
    have hv : ∀ i, ∃ x : HAct, i < len0 → (∀ j u, (actC x)[j]? = some u → W.cell? ((a.add (i * 8)).add j) = some u) ∧ ActFits x := fun i => by
      by_cases hi : i < len0
      · obtain ⟨cs', h1, h2⟩ := hx i (by omega)
        obtain ⟨x, hcx, hfx⟩ := act_elem h2
        rw [cellsAct] at h1
        obtain ⟨_, hlen, hcell⟩ := World.cells?_some h1
        refine ⟨x, fun _ => ⟨fun j u hj => ?_, hfx⟩⟩
        have hj8 : j < 8 := (List.getElem?_eq_some_iff.1 hj).1
        have := hcell j (by omega)
        rw [this, hcx]
        exact hj
      · exact ⟨⟨⟨#[]⟩, ⟨#[]⟩, ⟨0, 0, 0, 0, ⟨#[]⟩⟩, 0⟩, fun h => absurd h hi⟩
    have hlen : ((List.range len0).map fun i => Classical.choose (hv i)).length = len0 := by simp
    have hat : ∀ i, i < len0 → ((List.range len0).map fun i => Classical.choose (hv i))[i]? = some (Classical.choose (hv i)) := fun i hi => by
      rw [List.getElem?_map, List.getElem?_range hi]
      rfl
    refine ⟨some a, (List.range len0).map fun i => Classical.choose (hv i), cap0, by rw [hlen], ?_, by rw [hlen]; omega, fun i hi => ?_⟩
    · by_cases h0 : len0 = 0
      · exact Or.inl (List.length_eq_zero_iff.1 (by rw [hlen]; exact h0))
      · obtain ⟨u0, hx0⟩ : ∃ u, W.cell? ((a.add (0 * 8)).add 0) = some u := ⟨_, (Classical.choose_spec (hv 0) (by omega)).1 0 _ rfl⟩
        obtain ⟨b, off, sp⟩ := a
        have hsp : sp = none := by
          cases sp with
          | none => rfl
          | some q =>
            exfalso
            simp [Addr.add, World.cell?] at hx0
            revert hx0
            split <;> intro h9 <;> cases h9
        subst hsp
        refine Or.inr ⟨b, off, rfl, lt_of_cellH (by rw [Addr.add_lit, Addr.add_lit] at hx0; exact hx0), fun i x hxi j u hj => ?_⟩
        have hi : i < len0 := by have := (List.getElem?_eq_some_iff.1 hxi).1; rw [hlen] at this; exact this
        rw [hat i hi] at hxi
        have e := Option.some.inj hxi
        have hc := (Classical.choose_spec (hv i) hi).1 j u (by rw [e]; exact hj)
        rw [Addr.add_lit, Addr.add_lit] at hc
        exact hc
    · rw [hlen] at hi
      have hc := (Classical.choose_spec (hv i) hi).2
      have e := actAt_get (l := (List.range len0).map fun i => Classical.choose (hv i)) (i := i) (by rw [hlen]; exact hi)
      rw [hat i hi] at e
      rw [← Option.some.inj e]
      exact hc
end
/-- The reader at block rb has r left to read, and has failed or not. -/
def RdAt (w : World) (rb : Nat) (r : ByteArray) (f : Bool) : Prop := w.heap[rb]? = some (.cells #[.string r, .bool f] 87 (0, 0))
theorem RdAt.cells {w : World} {rb : Nat} {r : ByteArray} {f : Bool} (h : RdAt w rb r f) : w.cell? ⟨rb, 0, none⟩ = some (.string r) ∧ w.cell? ⟨rb, 1, none⟩ = some (.bool f) ∧ w.frozen? ⟨rb, 0, none⟩ = false ∧ w.frozen? ⟨rb, 1, none⟩ = false := by
  unfold RdAt at h
  exact ⟨by simp [World.cell?, h], by simp [World.cell?, h], by simp [World.frozen?, h], by simp [World.frozen?, h]⟩
/-- From w to w' nothing that was there has turned but the reader. -/
structure RdSt (w w' : World) (rb : Nat) (r : ByteArray) (f : Bool) : Prop where
  at_ : RdAt w' rb r f
  grown : w.grownBy w' (some rb)
theorem RdSt.trans {w w' w'' : World} {rb : Nat} {r r' : ByteArray} {f f' : Bool} (h1 : RdSt w w' rb r f) (h2 : RdSt w' w'' rb r' f') : RdSt w w'' rb r' f' := ⟨h2.at_, h2.grown.os.trans h1.grown.os, h2.grown.tape.trans h1.grown.tape, h2.grown.output.trans h1.grown.output, Nat.le_trans h1.grown.size h2.grown.size, fun k hk hne => (h2.grown.block k (Nat.lt_of_lt_of_le hk h1.grown.size) hne).trans (h1.grown.block k hk hne)⟩
theorem RdSt.low {w0 w w' : World} {B rb : Nat} {r : ByteArray} {f : Bool} (h : RdSt w w' rb r f) (hw0 : Below B w0 w) (hB : B ≤ w.heap.size) (hrb : B ≤ rb) : Below B w0 w' := hw0.trans ⟨h.grown.os, h.grown.tape, h.grown.output, h.grown.size, fun k hk => h.grown.block k (by omega) (fun e => by injection e with e; omega)⟩
theorem RdSt.below {w w' : World} {rb : Nat} {r : ByteArray} {f : Bool} (h : RdAt w rb r f) (hb : Below w.heap.size w w') : RdSt w w' rb r f := ⟨(hb.block rb (Array.getElem?_eq_some_iff.1 h).1).trans h, hb.os, hb.tape, hb.output, hb.size, fun k hk _ => hb.block k hk⟩
theorem rd_set0 {w : World} {rb : Nat} {r r' : ByteArray} {f : Bool} (h : RdAt w rb r f) : RdSt w (w.setCell ⟨rb, 0, none⟩ (.string r')) rb r' f := ⟨by unfold RdAt; rw [Joins.block_setCell h]; rfl, rfl, rfl, rfl, by simp, fun k _ hne => Deep.blk_setCell_other _ _ _ _ (fun e => hne (by rw [e]))⟩
theorem rd_set1 {w : World} {rb : Nat} {r : ByteArray} {f f' : Bool} (h : RdAt w rb r f) : RdSt w (w.setCell ⟨rb, 1, none⟩ (.bool f')) rb r f' := ⟨by unfold RdAt; rw [Joins.block_setCell h]; rfl, rfl, rfl, rfl, by simp, fun k _ hne => Deep.blk_setCell_other _ _ _ _ (fun e => hne (by rw [e]))⟩
set_option maxRecDepth 10000 in
theorem rfail_any (rb : Nat) (r : ByteArray) (f : Bool) (w : World) (h : RdAt w rb r f) : Calls Tryz.prog 73 #[.pointer (some ⟨rb, 0, none⟩)] w fun e w' => e = .returned (.tuple #[]) ∧ RdSt w w' rb (ofL []) true := by
  obtain ⟨c0, c1, f0, f1⟩ := h.cells
  have HE : Hid (RdSt w ((w.setCell ⟨rb, 0, none⟩ (.string ⟨#[]⟩)).setCell ⟨rb, 1, none⟩ (.bool true)) rb (ofL []) true) := (rd_set0 (r' := ofL []) h).trans (rd_set1 (f' := true) (rd_set0 (r' := ofL []) h).at_)
  clear h
  go_enter Tryz.func73, Tryz.ntmps73
  go_wp2
  go_end0
  exact ⟨rfl, HE.out⟩
theorem numF_ok {r : ByteArray} {f : Bool} {n : Int} (hA : Lib.atoiAll (Lib.cut r.data.toList [58]).1 = .ok n) (hF : (Lib.cut r.data.toList [58]).2.2 = true) : numF r f = (n, ofL (Lib.cut r.data.toList [58]).2.1, f) := by
  unfold numF
  rw [hA]
  simp [hF]
theorem numF_not {r : ByteArray} {f : Bool} {n : Int} (hA : Lib.atoiAll (Lib.cut r.data.toList [58]).1 = .ok n) (hF : (Lib.cut r.data.toList [58]).2.2 = false) : numF r f = (0, ofL [], true) := by
  unfold numF
  rw [hA]
  simp [hF]
theorem numF_bad {r : ByteArray} {f : Bool} (hA : ∀ n, Lib.atoiAll (Lib.cut r.data.toList [58]).1 ≠ .ok n) : numF r f = (0, ofL [], true) := by
  unfold numF
  split
  · rename_i n hn
    exact absurd hn (hA n)
  · rfl
theorem cut_size (l : List UInt8) : (Lib.cut l [58]).1.length ≤ l.length ∧ (Lib.cut l [58]).2.1.length ≤ l.length := by
  unfold Lib.cut
  split
  · simp
    omega
  · simp
theorem atoi_bounds {l : List UInt8} {n : Int} (h : Lib.atoiAll l = .ok n) : -9223372036854775808 ≤ n ∧ n ≤ 9223372036854775807 := Lib.atoiAll_bounds h
set_option maxRecDepth 10000 in
set_option maxHeartbeats 2000000 in
theorem rnum_any (rb : Nat) (r : ByteArray) (f : Bool) (w : World) (hX : LibX w) (h : RdAt w rb r f) (hr : r.size ≤ 1000000) :
    Calls Tryz.prog 45 #[.pointer (some ⟨rb, 0, none⟩)] w fun e w' => e = .returned (.int .i64 (numF r f).1) ∧ RdSt w w' rb (numF r f).2.1 (numF r f).2.2 := by
  obtain ⟨c0, c1, f0, f1⟩ := h.cells
  obtain ⟨mx, hmx⟩ := hX.max
  obtain ⟨t1, p1, hv1⟩ := hX.syn
  obtain ⟨t2, p2, hv2⟩ := hX.rng
  have HCUT : Hid (Calls Tryz.prog 71 #[.string r, .string ⟨#[58]⟩] w fun e w' => e = .returned (.tuple #[.string (ofL (Lib.cut r.data.toList [58]).1), .string (ofL (Lib.cut r.data.toList [58]).2.1), .bool (Lib.cut r.data.toList [58]).2.2]) ∧ ∃ n, w' = w.drewN n) := Tryz.strings_Cut r ⟨#[58]⟩ mx w (by omega) hmx
  have hcs : (ofL (Lib.cut r.data.toList [58]).1).size ≤ 1000000 := by
    rw [ofL_size]
    have := (cut_size r.data.toList).1
    have e : r.data.toList.length = r.size := by simp
    omega
  have hcd : (ofL (Lib.cut r.data.toList [58]).1).data.toList = (Lib.cut r.data.toList [58]).1 := ofL_data _
  have HFL : Hid (∀ W, RdAt W rb r f → Calls Tryz.prog 73 #[.pointer (some ⟨rb, 0, none⟩)] W fun e w' => e = .returned (.tuple #[]) ∧ RdSt W w' rb (ofL []) true) := fun W hW => rfail_any rb r f W hW
  have HAT : Hid (RdAt w rb r f) := h
  cases hA : Lib.atoiAll (Lib.cut r.data.toList [58]).1 with
  | ok n =>
    have hb := atoi_bounds hA
    have HAO : Hid (∀ W, Calls Tryz.prog 72 #[.string (ofL (Lib.cut r.data.toList [58]).1)] W fun e w' => e = .returned (.tuple #[.int .i64 n, .nilIface]) ∧ (w' = W ∨ ∃ t, w' = Lib.bytesWorld W 5 t)) := fun W => Tryz.strconv_Atoi_ok _ (by omega) n (by rw [hcd]; exact hA) W
    cases hF : (Lib.cut r.data.toList [58]).2.2 with
    | true =>
      rw [numF_ok hA hF]
      rw [hF] at HCUT
      generalize ofL (Lib.cut r.data.toList [58]).1 = dg at *
      generalize ofL (Lib.cut r.data.toList [58]).2.1 = rs at *
      clear hX h hA hF hmx hv1 hv2 hcs hcd HFL
      go_enter Tryz.func45, Tryz.ntmps45
      go_wp2_with fail
      refine HCUT.out.mono ?_
      rintro e w1 ⟨rfl, q, hw1⟩
      have hb1 : Below w.heap.size w w1 := by rw [hw1]; exact ⟨rfl, rfl, rfl, Nat.le_refl _, fun _ _ => rfl⟩
      have HS1 : Hid (RdSt w w1 rb r f) := RdSt.below HAT.out hb1
      clear hw1 hb1 HCUT
      go_wp2_with fail
      refine (HAO.out w1).mono ?_
      rintro e w2 ⟨rfl, hw2⟩
      have hb2 : Below w1.heap.size w1 w2 := by
        rcases hw2 with rfl | ⟨t, rfl⟩
        · exact Below.refl _ _
        · exact Joins.below_bytesWorld _ _ _ _ (Nat.le_refl _)
      have HS2 : Hid (RdSt w w2 rb r f) := HS1.out.trans (RdSt.below HS1.out.at_ hb2)
      obtain ⟨k0, k1, g0, g1⟩ := HS2.out.at_.cells
      clear hw2 hb2 HAO c0 c1 f0 f1
      have HE : Hid (RdSt w (w2.setCell ⟨rb, 0, none⟩ (.string rs)) rb rs f) := HS2.out.trans (rd_set0 HS2.out.at_)
      go_wp2
      go_ret
      exact ⟨rfl, HE.out⟩
    | false =>
      rw [numF_not hA hF]
      rw [hF] at HCUT
      generalize ofL (Lib.cut r.data.toList [58]).1 = dg at *
      generalize ofL (Lib.cut r.data.toList [58]).2.1 = rs at *
      clear hX h hA hF hmx hv1 hv2 hcs hcd
      go_enter Tryz.func45, Tryz.ntmps45
      go_wp2_with fail
      refine HCUT.out.mono ?_
      rintro e w1 ⟨rfl, q, hw1⟩
      have hb1 : Below w.heap.size w w1 := by rw [hw1]; exact ⟨rfl, rfl, rfl, Nat.le_refl _, fun _ _ => rfl⟩
      have HS1 : Hid (RdSt w w1 rb r f) := RdSt.below HAT.out hb1
      clear hw1 hb1 HCUT
      go_wp2_with fail
      refine (HAO.out w1).mono ?_
      rintro e w2 ⟨rfl, hw2⟩
      have hb2 : Below w1.heap.size w1 w2 := by
        rcases hw2 with rfl | ⟨t, rfl⟩
        · exact Below.refl _ _
        · exact Joins.below_bytesWorld _ _ _ _ (Nat.le_refl _)
      have HS2 : Hid (RdSt w w2 rb r f) := HS1.out.trans (RdSt.below HS1.out.at_ hb2)
      clear hw2 hb2 HAO c0 c1 f0 f1
      go_wp2_with fail
      refine (HFL.out w2 HS2.out.at_).mono ?_
      rintro e w3 ⟨rfl, hS3⟩
      have HE : Hid (RdSt w w3 rb (ofL []) true) := HS2.out.trans hS3
      clear hS3
      go_wp2
      go_ret
      exact ⟨rfl, HE.out⟩
  | «syntax» =>
    have HAO : Hid (∀ W, Below w.heap.size w W → Calls Tryz.prog 72 #[.string (ofL (Lib.cut r.data.toList [58]).1)] W fun e w' => (∃ N, e = .returned (.tuple #[.int .i64 0, .iface 178 (.pointer (some ⟨N, 0, none⟩))])) ∧ Below W.heap.size W w') := fun W hW => Tryz.strconv_Atoi_syntax _ (by omega) (by rw [hcd]; exact hA) t1 p1 W (Joins.var_stays (by kernel_rfl : Tryz.prog.globalNamed "strconv.ErrSyntax" = some 14) hv1 hW (Nat.le_refl _))
    rw [numF_bad (fun n => by rw [hA]; exact fun e => by cases e)]
    generalize ofL (Lib.cut r.data.toList [58]).1 = dg at *
    generalize ofL (Lib.cut r.data.toList [58]).2.1 = rs at *
    generalize (Lib.cut r.data.toList [58]).2.2 = fd at *
    clear hX h hA hmx hv1 hv2 hcs hcd
    go_enter Tryz.func45, Tryz.ntmps45
    go_wp2_with fail
    refine HCUT.out.mono ?_
    rintro e w1 ⟨rfl, q, hw1⟩
    have hb1 : Below w.heap.size w w1 := by rw [hw1]; exact ⟨rfl, rfl, rfl, Nat.le_refl _, fun _ _ => rfl⟩
    have HS1 : Hid (RdSt w w1 rb r f) := RdSt.below HAT.out hb1
    have HAO1 := HAO.out w1 hb1
    clear hw1 hb1 HCUT HAO
    go_wp2_with fail
    refine HAO1.mono ?_
    rintro e w2 ⟨⟨N, rfl⟩, hb2⟩
    have HS2 : Hid (RdSt w w2 rb r f) := HS1.out.trans (RdSt.below HS1.out.at_ hb2)
    clear hb2 HAO1 c0 c1 f0 f1
    cases fd with
    | true =>
      go_wp2_with fail
      refine (HFL.out w2 HS2.out.at_).mono ?_
      rintro e w3 ⟨rfl, hS3⟩
      have HE : Hid (RdSt w w3 rb (ofL []) true) := HS2.out.trans hS3
      clear hS3
      go_wp2
      go_ret
      exact ⟨rfl, HE.out⟩
    | false =>
      go_wp2_with fail
      refine (HFL.out w2 HS2.out.at_).mono ?_
      rintro e w3 ⟨rfl, hS3⟩
      have HE : Hid (RdSt w w3 rb (ofL []) true) := HS2.out.trans hS3
      clear hS3
      go_wp2
      go_ret
      exact ⟨rfl, HE.out⟩
  | range =>
    have HAO : Hid (∀ W, Below w.heap.size w W → Calls Tryz.prog 72 #[.string (ofL (Lib.cut r.data.toList [58]).1)] W fun e w' => (∃ N, e = .returned (.tuple #[.int .i64 (Lib.atoiSat (ofL (Lib.cut r.data.toList [58]).1).data.toList), .iface 178 (.pointer (some ⟨N, 0, none⟩))])) ∧ Below W.heap.size W w') := fun W hW => Tryz.strconv_Atoi_range _ (by omega) (by rw [hcd]; exact hA) t2 p2 W (Joins.var_stays (by kernel_rfl : Tryz.prog.globalNamed "strconv.ErrRange" = some 15) hv2 hW (Nat.le_refl _))
    rw [numF_bad (fun n => by rw [hA]; exact fun e => by cases e)]
    generalize Lib.atoiSat (ofL (Lib.cut r.data.toList [58]).1).data.toList = sat at *
    generalize ofL (Lib.cut r.data.toList [58]).1 = dg at *
    generalize ofL (Lib.cut r.data.toList [58]).2.1 = rs at *
    generalize (Lib.cut r.data.toList [58]).2.2 = fd at *
    clear hX h hA hmx hv1 hv2 hcs hcd
    go_enter Tryz.func45, Tryz.ntmps45
    go_wp2_with fail
    refine HCUT.out.mono ?_
    rintro e w1 ⟨rfl, q, hw1⟩
    have hb1 : Below w.heap.size w w1 := by rw [hw1]; exact ⟨rfl, rfl, rfl, Nat.le_refl _, fun _ _ => rfl⟩
    have HS1 : Hid (RdSt w w1 rb r f) := RdSt.below HAT.out hb1
    have HAO1 := HAO.out w1 hb1
    clear hw1 hb1 HCUT HAO
    go_wp2_with fail
    refine HAO1.mono ?_
    rintro e w2 ⟨⟨N, rfl⟩, hb2⟩
    have HS2 : Hid (RdSt w w2 rb r f) := HS1.out.trans (RdSt.below HS1.out.at_ hb2)
    clear hb2 HAO1 c0 c1 f0 f1
    cases fd with
    | true =>
      go_wp2_with fail
      refine (HFL.out w2 HS2.out.at_).mono ?_
      rintro e w3 ⟨rfl, hS3⟩
      have HE : Hid (RdSt w w3 rb (ofL []) true) := HS2.out.trans hS3
      clear hS3
      go_wp2
      go_ret
      exact ⟨rfl, HE.out⟩
    | false =>
      go_wp2_with fail
      refine (HFL.out w2 HS2.out.at_).mono ?_
      rintro e w3 ⟨rfl, hS3⟩
      have HE : Hid (RdSt w w3 rb (ofL []) true) := HS2.out.trans hS3
      clear hS3
      go_wp2
      go_ret
      exact ⟨rfl, HE.out⟩
theorem numF_le (r : ByteArray) (f : Bool) : (numF r f).2.1.size ≤ r.size := by
  unfold numF
  have h := (cut_size r.data.toList).2
  have e : r.data.toList.length = r.size := by simp
  split
  · split
    · rw [ofL_size]
      omega
    · rw [ofL_size]
      simp
  · rw [ofL_size]
    simp
theorem numF_i64 (r : ByteArray) (f : Bool) : -9223372036854775808 ≤ (numF r f).1 ∧ (numF r f).1 ≤ 9223372036854775807 := by
  unfold numF
  split
  · rename_i n hn
    have := atoi_bounds hn
    split
    · exact this
    · exact ⟨by decide, by decide⟩
  · exact ⟨by decide, by decide⟩
theorem textF_le (r : ByteArray) (f : Bool) : (textF r f).1.size ≤ r.size ∧ (textF r f).2.1.size ≤ r.size := by
  unfold textF
  have := numF_le r f
  split
  · simp only [ofL_size]
    simp
  · simp only [ByteArray.size_extract]
    omega
set_option maxRecDepth 10000 in
set_option maxHeartbeats 2000000 in
theorem rtext_any (rb : Nat) (r : ByteArray) (f : Bool) (w : World) (hX : LibX w) (h : RdAt w rb r f) (hr : r.size ≤ 1000000) :
    Calls Tryz.prog 74 #[.pointer (some ⟨rb, 0, none⟩)] w fun e w' => e = .returned (.string (textF r f).1) ∧ RdSt w w' rb (textF r f).2.1 (textF r f).2.2 := by
  have HN : Hid (Calls Tryz.prog 45 #[.pointer (some ⟨rb, 0, none⟩)] w fun e w' => e = .returned (.int .i64 (numF r f).1) ∧ RdSt w w' rb (numF r f).2.1 (numF r f).2.2) := rnum_any rb r f w hX h hr
  have hle := Nat.le_trans (numF_le r f) hr
  have hii := numF_i64 r f
  unfold textF
  generalize numF r f = q at *
  obtain ⟨n1, r1, f1⟩ := q
  simp only [] at *
  have HFL : Hid (∀ W, RdAt W rb r1 f1 → Calls Tryz.prog 73 #[.pointer (some ⟨rb, 0, none⟩)] W fun e w' => e = .returned (.tuple #[]) ∧ RdSt W w' rb (ofL []) true) := fun W hW => rfail_any rb r1 f1 W hW
  clear hX h hr
  by_cases hbad : n1 < 0 ∨ (r1.size : Int) < n1
  · rw [if_pos hbad]
    simp only []
    by_cases h1 : n1 < 0
    · have d1 : decide (n1 < 0) = true := decide_eq_true h1
      clear hbad hle hii
      go_enter Tryz.func74, Tryz.ntmps74
      go_wp2_with fail
      refine HN.out.mono ?_
      rintro e w1 ⟨rfl, hS1⟩
      have HS1 : Hid (RdSt w w1 rb r1 f1) := hS1
      clear hS1 HN
      go_wp2_with fail
      refine (HFL.out w1 HS1.out.at_).mono ?_
      rintro e w2 ⟨rfl, hS2⟩
      have HE : Hid (RdSt w w2 rb (ofL []) true) := HS1.out.trans hS2
      clear hS2
      go_wp2
      go_ret
      exact ⟨rfl, HE.out⟩
    · have d1 : decide (n1 < 0) = false := decide_eq_false h1
      have d2 : decide ((r1.size : Int) < n1) = true := decide_eq_true (by omega)
      clear hbad
      go_enter Tryz.func74, Tryz.ntmps74
      go_wp2_with fail
      refine HN.out.mono ?_
      rintro e w1 ⟨rfl, hS1⟩
      have HS1 : Hid (RdSt w w1 rb r1 f1) := hS1
      obtain ⟨c0, c1, f0, f1'⟩ := hS1.at_.cells
      clear hS1 HN
      go_wp2_with fail
      refine (HFL.out w1 HS1.out.at_).mono ?_
      rintro e w2 ⟨rfl, hS2⟩
      have HE : Hid (RdSt w w2 rb (ofL []) true) := HS1.out.trans hS2
      clear hS2
      go_wp2
      go_ret
      exact ⟨rfl, HE.out⟩
  · rw [if_neg hbad]
    simp only []
    have d1 : decide (n1 < 0) = false := decide_eq_false (by omega)
    have d2 : decide ((r1.size : Int) < n1) = false := decide_eq_false (by omega)
    have hc1 : ∀ W, Sem.run Tryz.prog (Instr.slice 9 (.string r1) none (some (.int .i64 n1)) none) W = .ok (.string (r1.extract 0 n1.toNat)) W := fun W => by
      rw [run_slice_string_h W 9 r1 Tryz.underlying9 .i64 _ (by omega) (by omega)]
    have hc2 : ∀ W, Sem.run Tryz.prog (Instr.slice 9 (.string r1) (some (.int .i64 n1)) none none) W = .ok (.string (r1.extract n1.toNat r1.size)) W := fun W => by
      rw [run_slice_string_l W 9 r1 Tryz.underlying9 .i64 _ (by omega) (by omega)]
    obtain ⟨ta, hta⟩ : ∃ ta, ta = r1.extract 0 n1.toNat := ⟨_, rfl⟩
    obtain ⟨tb, htb⟩ : ∃ tb, tb = r1.extract n1.toNat r1.size := ⟨_, rfl⟩
    rw [← hta, ← htb]
    rw [← hta] at hc1
    rw [← htb] at hc2
    clear hta htb
    go_enter Tryz.func74, Tryz.ntmps74
    go_wp2_with fail
    refine HN.out.mono ?_
    rintro e w1 ⟨rfl, hS1⟩
    have HS1 : Hid (RdSt w w1 rb r1 f1) := hS1
    obtain ⟨c0, c1, f0, f1'⟩ := hS1.at_.cells
    have HE : Hid (RdSt w (w1.setCell ⟨rb, 0, none⟩ (.string tb)) rb tb f1) := hS1.trans (rd_set0 hS1.at_)
    clear hS1 HN HFL
    go_wp2
    go_ret
    exact ⟨rfl, HE.out⟩
/-- While a version is read: its cells at block B + 1, the answer's at B, neither there before. -/
structure VrSt (w W : World) (rb B : Nat) (r : ByteArray) (f : Bool) (vs : Array Value) : Prop where
  at_ : RdAt W rb r f
  grown : w.grownBy W (some rb)
  res : W.heap[B]? = some (.cells #[.int .i64 0, .int .i64 0, .int .i64 0, .int .i64 0, .string ⟨#[]⟩] 49 (0, 0))
  box : W.heap[B + 1]? = some (.cells vs 49 (0, 0))
theorem VrSt.rd {w W W' : World} {rb B : Nat} {r r' : ByteArray} {f f' : Bool} {vs : Array Value} (h : VrSt w W rb B r f vs) (hs : RdSt W W' rb r' f') (hrb : rb < B) : VrSt w W' rb B r' f' vs := by
  have l1 := (Array.getElem?_eq_some_iff.1 h.res).1
  have l2 := (Array.getElem?_eq_some_iff.1 h.box).1
  exact ⟨hs.at_, (RdSt.trans ⟨h.at_, h.grown⟩ hs).grown, (hs.grown.block B l1 (fun e => by injection e with e; omega)).trans h.res, (hs.grown.block (B + 1) l2 (fun e => by injection e with e; omega)).trans h.box⟩
theorem VrSt.set {w W : World} {rb B : Nat} {r : ByteArray} {f : Bool} {vs : Array Value} (h : VrSt w W rb B r f vs) (hB : w.heap.size ≤ B) (hrb : rb < B) (i : Nat) (v : Value) : VrSt w (W.setCell ⟨B + 1, i, none⟩ v) rb B r f (vs.setIfInBounds i v) := by
  have other : ∀ k, k ≠ B + 1 → (W.setCell ⟨B + 1, i, none⟩ v).heap[k]? = W.heap[k]? := fun k hk => Deep.blk_setCell_other _ _ _ _ hk
  refine ⟨(other rb (by omega)).trans h.at_, ⟨h.grown.os, h.grown.tape, h.grown.output, by simpa using h.grown.size, fun k hk hne => (other k (by omega)).trans (h.grown.block k hk hne)⟩, (other B (by omega)).trans h.res, ?_⟩
  rw [Joins.block_setCell h.box]
theorem VrSt.cell {w W : World} {rb B : Nat} {r : ByteArray} {f : Bool} {vs : Array Value} (h : VrSt w W rb B r f vs) (i : Nat) : W.cell? ⟨B + 1, i, none⟩ = vs[i]? := by simp [World.cell?, h.box]
theorem VrSt.frozen {w W : World} {rb B : Nat} {r : ByteArray} {f : Bool} {vs : Array Value} (h : VrSt w W rb B r f vs) (i : Nat) : W.frozen? ⟨B + 1, i, none⟩ = false := by simp [World.frozen?, h.box]
theorem VrSt.rcell {w W : World} {rb B : Nat} {r : ByteArray} {f : Bool} {vs : Array Value} (h : VrSt w W rb B r f vs) : W.cell? ⟨B, 0, none⟩ = some (.int .i64 0) ∧ W.cell? ⟨B, 1, none⟩ = some (.int .i64 0) ∧ W.cell? ⟨B, 2, none⟩ = some (.int .i64 0) ∧ W.cell? ⟨B, 3, none⟩ = some (.int .i64 0) ∧ W.cell? ⟨B, 4, none⟩ = some (.string ⟨#[]⟩) := ⟨by simp [World.cell?, h.res], by simp [World.cell?, h.res], by simp [World.cell?, h.res], by simp [World.cell?, h.res], by simp [World.cell?, h.res]⟩
theorem VrSt.rfrozen {w W : World} {rb B : Nat} {r : ByteArray} {f : Bool} {vs : Array Value} (h : VrSt w W rb B r f vs) (i : Nat) : W.frozen? ⟨B, i, none⟩ = false := by simp [World.frozen?, h.res]
theorem VrSt.start {w : World} {rb : Nat} {r : ByteArray} {f : Bool} (h : RdAt w rb r f) : VrSt w ((w.alloc (.cells #[.int .i64 0, .int .i64 0, .int .i64 0, .int .i64 0, .string ⟨#[]⟩] 49)).alloc (.cells #[.int .i64 0, .int .i64 0, .int .i64 0, .int .i64 0, .string ⟨#[]⟩] 49)) rb w.heap.size r f #[.int .i64 0, .int .i64 0, .int .i64 0, .int .i64 0, .string ⟨#[]⟩] := by
  have hb : Below w.heap.size w ((w.alloc (.cells #[.int .i64 0, .int .i64 0, .int .i64 0, .int .i64 0, .string ⟨#[]⟩] 49)).alloc (.cells #[.int .i64 0, .int .i64 0, .int .i64 0, .int .i64 0, .string ⟨#[]⟩] 49)) := ((Below.refl _ _).alloc (Nat.le_refl _) _).alloc (by simp) _
  have hs := RdSt.below h hb
  have e2 : (w.alloc (.cells #[.int .i64 0, .int .i64 0, .int .i64 0, .int .i64 0, .string ⟨#[]⟩] 49)).heap.size = w.heap.size + 1 := by simp
  refine ⟨hs.at_, hs.grown, ?_, ?_⟩
  · rw [heap_alloc_old _ _ (by rw [e2]; omega)]
    exact heap_alloc_new _ _
  · rw [← e2]
    exact heap_alloc_new _ _
theorem RdSt.put {w W : World} {rb : Nat} {r : ByteArray} {f : Bool} (h : RdSt w W rb r f) (hrb : rb < w.heap.size) {b : Nat} (hb : w.heap.size ≤ b) (i : Nat) (v : Value) : RdSt w (W.setCell ⟨b, i, none⟩ v) rb r f := ⟨(Deep.blk_setCell_other _ _ _ _ (by show rb ≠ b; omega)).trans h.at_, ⟨h.grown.os, h.grown.tape, h.grown.output, by simpa using h.grown.size, fun k hk hne => (Deep.blk_setCell_other _ _ _ _ (by show k ≠ b; omega)).trans (h.grown.block k hk hne)⟩⟩
theorem RdSt.drew {w W : World} {rb : Nat} {r : ByteArray} {f : Bool} (h : RdSt w W rb r f) : RdSt w W.drew rb r f := ⟨h.at_, ⟨h.grown.os, h.grown.tape, h.grown.output, h.grown.size, h.grown.block⟩⟩
set_option maxRecDepth 10000 in
set_option maxHeartbeats 4000000 in
theorem rver_any (rb : Nat) (r : ByteArray) (f : Bool) {w0 w : World} (hX : LibX w0) (hw0 : Below w0.heap.size w0 w) (h : RdAt w rb r f) (hrb : w0.heap.size ≤ rb) (hr : r.size ≤ 1000000) :
    Calls Tryz.prog 46 #[.pointer (some ⟨rb, 0, none⟩)] w fun e w' => e = .returned (.tuple #[.string (verF r f).1.1, verA (verF r f).1.2]) ∧ RdSt w w' rb (verF r f).2.1 (verF r f).2.2 := by
  have hrl : rb < w.heap.size := (Array.getElem?_eq_some_iff.1 h).1
  have HLX : Hid (∀ W r f vs, VrSt w W rb w.heap.size r f vs → LibX W) := fun W r f vs hW => hX.below (RdSt.low ⟨hW.at_, hW.grown⟩ hw0 hw0.size hrb)
  have HT : Hid (∀ W r f vs, VrSt w W rb w.heap.size r f vs → r.size ≤ 1000000 → Calls Tryz.prog 74 #[.pointer (some ⟨rb, 0, none⟩)] W fun e w' => e = .returned (.string (textF r f).1) ∧ VrSt w w' rb w.heap.size (textF r f).2.1 (textF r f).2.2 vs) := fun W r f vs hW hr => (rtext_any rb r f W (HLX.out W r f vs hW) hW.at_ hr).mono fun e w' hp => ⟨hp.1, hW.rd hp.2 hrl⟩
  have HN : Hid (∀ W r f vs, VrSt w W rb w.heap.size r f vs → r.size ≤ 1000000 → Calls Tryz.prog 45 #[.pointer (some ⟨rb, 0, none⟩)] W fun e w' => e = .returned (.int .i64 (numF r f).1) ∧ VrSt w w' rb w.heap.size (numF r f).2.1 (numF r f).2.2 vs) := fun W r f vs hW hr => (rnum_any rb r f W (HLX.out W r f vs hW) hW.at_ hr).mono fun e w' hp => ⟨hp.1, hW.rd hp.2 hrl⟩
  have HST : Hid (∀ W r f vs, VrSt w W rb w.heap.size r f vs → ∀ i v, VrSt w (W.setCell ⟨w.heap.size + 1, i, none⟩ v) rb w.heap.size r f (vs.setIfInBounds i v)) := fun W r f vs hW i v => hW.set (Nat.le_refl _) hrl i v
  have hst0 := VrSt.start h
  have HC0 := HT.out _ _ _ _ hst0 hr
  have hk := textF_le r f
  unfold verF
  simp only []
  generalize hK : textF r f = k at *
  obtain ⟨key, r1, f1⟩ := k
  simp only [] at *
  clear hK
  have hr1 : r1.size ≤ 1000000 := by omega
  have ha := numF_le r1 f1
  have HC1 := fun W vs hW => HN.out W r1 f1 vs hW hr1
  generalize numF r1 f1 = a at *
  obtain ⟨a1, r2, f2⟩ := a
  simp only [] at *
  have hr2 : r2.size ≤ 1000000 := by omega
  have hb := numF_le r2 f2
  have HC2 := fun W vs hW => HN.out W r2 f2 vs hW hr2
  generalize numF r2 f2 = b at *
  obtain ⟨b1, r3, f3⟩ := b
  simp only [] at *
  have hr3 : r3.size ≤ 1000000 := by omega
  have hc := numF_le r3 f3
  have HC3 := fun W vs hW => HN.out W r3 f3 vs hW hr3
  generalize numF r3 f3 = c at *
  obtain ⟨c1, r4, f4⟩ := c
  simp only [] at *
  have hr4 : r4.size ≤ 1000000 := by omega
  have hd := numF_le r4 f4
  have HC4 := fun W vs hW => HN.out W r4 f4 vs hW hr4
  generalize numF r4 f4 = d at *
  obtain ⟨d1, r5, f5⟩ := d
  simp only [] at *
  have hr5 : r5.size ≤ 1000000 := by omega
  have HC5 := fun W vs hW => HT.out W r5 f5 vs hW hr5
  generalize textF r5 f5 = t at *
  obtain ⟨t1, r6, f6⟩ := t
  simp only [] at *
  unfold verA
  simp only []
  have HH0 : Hid (Calls Tryz.prog 74 #[.pointer (some ⟨rb, 0, none⟩)] ((w.alloc (.cells #[.int .i64 0, .int .i64 0, .int .i64 0, .int .i64 0, .string ⟨#[]⟩] 49)).alloc (.cells #[.int .i64 0, .int .i64 0, .int .i64 0, .int .i64 0, .string ⟨#[]⟩] 49)) fun e w' => e = .returned (.string key) ∧ VrSt w w' rb w.heap.size r1 f1 #[.int .i64 0, .int .i64 0, .int .i64 0, .int .i64 0, .string ⟨#[]⟩]) := HC0
  have HH1 : Hid (∀ (W : World) (vs : Array Value), VrSt w W rb w.heap.size r1 f1 vs → Calls Tryz.prog 45 #[.pointer (some ⟨rb, 0, none⟩)] W fun e w' => e = .returned (.int .i64 a1) ∧ VrSt w w' rb w.heap.size r2 f2 vs) := HC1
  have HH2 : Hid (∀ (W : World) (vs : Array Value), VrSt w W rb w.heap.size r2 f2 vs → Calls Tryz.prog 45 #[.pointer (some ⟨rb, 0, none⟩)] W fun e w' => e = .returned (.int .i64 b1) ∧ VrSt w w' rb w.heap.size r3 f3 vs) := HC2
  have HH3 : Hid (∀ (W : World) (vs : Array Value), VrSt w W rb w.heap.size r3 f3 vs → Calls Tryz.prog 45 #[.pointer (some ⟨rb, 0, none⟩)] W fun e w' => e = .returned (.int .i64 c1) ∧ VrSt w w' rb w.heap.size r4 f4 vs) := HC3
  have HH4 : Hid (∀ (W : World) (vs : Array Value), VrSt w W rb w.heap.size r4 f4 vs → Calls Tryz.prog 45 #[.pointer (some ⟨rb, 0, none⟩)] W fun e w' => e = .returned (.int .i64 d1) ∧ VrSt w w' rb w.heap.size r5 f5 vs) := HC4
  have HH5 : Hid (∀ (W : World) (vs : Array Value), VrSt w W rb w.heap.size r5 f5 vs → Calls Tryz.prog 74 #[.pointer (some ⟨rb, 0, none⟩)] W fun e w' => e = .returned (.string t1) ∧ VrSt w w' rb w.heap.size r6 f6 vs) := HC5
  clear HC0 HC1 HC2 HC3 HC4 HC5 hst0 HT HN HLX hk ha hb hc hd hr hr1 hr2 hr3 hr4 hr5 hX hw0 h hrb
  go_enter Tryz.func46, Tryz.ntmps46
  go_wp2_with fail
  refine HH0.out.mono ?_
  rintro e w1 ⟨rfl, hs1⟩
  have HS1 : Hid (VrSt w w1 rb w.heap.size r1 f1 #[.int .i64 0, .int .i64 0, .int .i64 0, .int .i64 0, .string ⟨#[]⟩]) := hs1
  clear hs1 HH0
  go_wp2_with fail
  refine (HH1.out _ _ HS1.out).mono ?_
  rintro e w2 ⟨rfl, hs2⟩
  have q2 : w2.cell? ⟨w.heap.size + 1, 0, none⟩ = some (.int .i64 0) := (hs2.cell 0).trans rfl
  have g2 := hs2.frozen 0
  have HS2 : Hid (VrSt w (w2.setCell ⟨w.heap.size + 1, 0, none⟩ (.int .i64 a1)) rb w.heap.size r2 f2 #[.int .i64 a1, .int .i64 0, .int .i64 0, .int .i64 0, .string ⟨#[]⟩]) := HST.out _ _ _ _ hs2 0 (.int .i64 a1)
  clear hs2 HS1 HH1
  go_wp2_with fail
  clear q2 g2
  refine (HH2.out _ _ HS2.out).mono ?_
  rintro e w3 ⟨rfl, hs3⟩
  have q3 : w3.cell? ⟨w.heap.size + 1, 1, none⟩ = some (.int .i64 0) := (hs3.cell 1).trans rfl
  have g3 := hs3.frozen 1
  have HS3 : Hid (VrSt w (w3.setCell ⟨w.heap.size + 1, 1, none⟩ (.int .i64 b1)) rb w.heap.size r3 f3 #[.int .i64 a1, .int .i64 b1, .int .i64 0, .int .i64 0, .string ⟨#[]⟩]) := HST.out _ _ _ _ hs3 1 (.int .i64 b1)
  clear hs3 HS2 HH2
  go_wp2_with fail
  clear q3 g3
  refine (HH3.out _ _ HS3.out).mono ?_
  rintro e w4 ⟨rfl, hs4⟩
  have q4 : w4.cell? ⟨w.heap.size + 1, 2, none⟩ = some (.int .i64 0) := (hs4.cell 2).trans rfl
  have g4 := hs4.frozen 2
  have HS4 : Hid (VrSt w (w4.setCell ⟨w.heap.size + 1, 2, none⟩ (.int .i64 c1)) rb w.heap.size r4 f4 #[.int .i64 a1, .int .i64 b1, .int .i64 c1, .int .i64 0, .string ⟨#[]⟩]) := HST.out _ _ _ _ hs4 2 (.int .i64 c1)
  clear hs4 HS3 HH3
  go_wp2_with fail
  clear q4 g4
  refine (HH4.out _ _ HS4.out).mono ?_
  rintro e w5 ⟨rfl, hs5⟩
  have q5 : w5.cell? ⟨w.heap.size + 1, 3, none⟩ = some (.int .i64 0) := (hs5.cell 3).trans rfl
  have g5 := hs5.frozen 3
  have HS5 : Hid (VrSt w (w5.setCell ⟨w.heap.size + 1, 3, none⟩ (.int .i64 d1)) rb w.heap.size r5 f5 #[.int .i64 a1, .int .i64 b1, .int .i64 c1, .int .i64 d1, .string ⟨#[]⟩]) := HST.out _ _ _ _ hs5 3 (.int .i64 d1)
  clear hs5 HS4 HH4
  go_wp2_with fail
  clear q5 g5
  refine (HH5.out _ _ HS5.out).mono ?_
  rintro e w6 ⟨rfl, hs6⟩
  have q6 : w6.cell? ⟨w.heap.size + 1, 4, none⟩ = some (.string ⟨#[]⟩) := (hs6.cell 4).trans rfl
  have g6 := hs6.frozen 4
  obtain ⟨w7, hw7⟩ : ∃ w7, w7 = w6.setCell ⟨w.heap.size + 1, 4, none⟩ (.string t1) := ⟨_, rfl⟩
  have HW7 : Hid (w7 = w6.setCell ⟨w.heap.size + 1, 4, none⟩ (.string t1)) := hw7
  have HS6 : Hid (VrSt w (w6.setCell ⟨w.heap.size + 1, 4, none⟩ (.string t1)) rb w.heap.size r6 f6 #[.int .i64 a1, .int .i64 b1, .int .i64 c1, .int .i64 d1, .string t1]) := HST.out _ _ _ _ hs6 4 (.string t1)
  clear hs6 HS5 HH5
  have HS7 : Hid (VrSt w w7 rb w.heap.size r6 f6 #[.int .i64 a1, .int .i64 b1, .int .i64 c1, .int .i64 d1, .string t1]) := by rw [hw7]; exact HS6.out
  clear HS6 hw7
  go_wp2
  rw [← HW7.out]
  have p0 : w7.cell? ⟨w.heap.size + 1, 0, none⟩ = some (.int .i64 a1) := (HS7.out.cell 0).trans rfl
  have p1 : w7.cell? ⟨w.heap.size + 1, 1, none⟩ = some (.int .i64 b1) := (HS7.out.cell 1).trans rfl
  have p2 : w7.cell? ⟨w.heap.size + 1, 2, none⟩ = some (.int .i64 c1) := (HS7.out.cell 2).trans rfl
  have p3 : w7.cell? ⟨w.heap.size + 1, 3, none⟩ = some (.int .i64 d1) := (HS7.out.cell 3).trans rfl
  have p4 : w7.cell? ⟨w.heap.size + 1, 4, none⟩ = some (.string t1) := (HS7.out.cell 4).trans rfl
  have g7 : ∀ o, w7.frozen? ⟨w.heap.size + 1, o, none⟩ = false := fun o => HS7.out.frozen o
  obtain ⟨c0, c1', c2, c3, c4⟩ := HS7.out.rcell
  have g8 : ∀ o, w7.frozen? ⟨w.heap.size, o, none⟩ = false := fun o => HS7.out.rfrozen o
  clear HW7 q6 g6
  go_region_with (fail)
  all_goals
    go_wp2
    refine bodyPost_ret (v := .tuple #[.string key, .agg #[.int .i64 a1, .int .i64 b1, .int .i64 c1, .int .i64 d1, .string t1]]) (by simp [results, Tryz.results46, go_sem, c0, c1', c2, c3, c4]) rfl ⟨rfl, ?_⟩
    exact (((((RdSt.put ⟨HS7.out.at_, HS7.out.grown⟩ hrl (Nat.le_refl _) _ _).put hrl (Nat.le_refl _) _ _).put hrl (Nat.le_refl _) _ _).put hrl (Nat.le_refl _) _ _).put hrl (Nat.le_refl _) _ _).drew
theorem lt_of_cellK {w : World} {b o : Nat} {v : Value} (h : w.cell? ⟨b, o, none⟩ = some v) : b < w.heap.size := by
  rcases Nat.lt_or_ge b w.heap.size with h' | h'
  · exact h'
  · simp [World.cell?, Array.getElem?_eq_none h'] at h
/-- Errors that a node's shards have lie in their variables. -/
structure HErrs (w : World) (ad : Nat → Addr) : Prop where
  c1 : w.cell? ⟨3, 0, none⟩ = some (.iface 206 (.pointer (some (ad 1))))
  c3 : w.cell? ⟨2, 0, none⟩ = some (.iface 206 (.pointer (some (ad 3))))
  c5 : w.cell? ⟨4, 0, none⟩ = some (.iface 206 (.pointer (some (ad 5))))
  c6 : w.cell? ⟨5, 0, none⟩ = some (.iface 206 (.pointer (some (ad 6))))
  c9 : w.cell? ⟨1, 0, none⟩ = some (.iface 206 (.pointer (some (ad 9))))
theorem HErrs.below {w w' : World} {ad : Nat → Addr} (h : HErrs w ad) (hb : Below w.heap.size w w') : HErrs w' ad where
  c1 := (hb.cell (lt_of_cellK h.c1)).trans h.c1
  c3 := (hb.cell (lt_of_cellK h.c3)).trans h.c3
  c5 := (hb.cell (lt_of_cellK h.c5)).trans h.c5
  c6 := (hb.cell (lt_of_cellK h.c6)).trans h.c6
  c9 := (hb.cell (lt_of_cellK h.c9)).trans h.c9
theorem HErrs.keepBlocks {W V : World} {ad : Nat → Addr} (h : HErrs W ad) (hk : ∀ k, k < W.heap.size → V.heap[k]? = W.heap[k]?) : HErrs V ad where
  c1 := (World.cell?_of_block (w := W) (w' := V) (hk _ (lt_of_cellK h.c1))).trans h.c1
  c3 := (World.cell?_of_block (w := W) (w' := V) (hk _ (lt_of_cellK h.c3))).trans h.c3
  c5 := (World.cell?_of_block (w := W) (w' := V) (hk _ (lt_of_cellK h.c5))).trans h.c5
  c6 := (World.cell?_of_block (w := W) (w' := V) (hk _ (lt_of_cellK h.c6))).trans h.c6
  c9 := (World.cell?_of_block (w := W) (w' := V) (hk _ (lt_of_cellK h.c9))).trans h.c9
end Go.Proofs.YtmbpfbhpmafheaaGreatDoor
