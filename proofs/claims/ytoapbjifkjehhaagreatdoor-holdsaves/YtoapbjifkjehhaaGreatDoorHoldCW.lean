/- What package hold is asked to answer: what a node holds stands for the model's list, wherever it lies. -/
import Derived.Test.YtoapbjifkjehhaaGreatDoorRPutIW
import Derived.Test.YtoapbjifkjehhaaGreatDoorRKeysW
import Derived.Test.YtoapbjifkjehhaaGreatDoorRSameVW
import Derived.Test.YtoapbjifkjehhaaGreatDoorCode2W
import Derived.Test.YtoapbjifkjehhaaGreatDoorHoldC0
namespace Go.Proofs.YtoapbjifkjehhaaGreatDoor
open Go.RowKit
/-- Package hold answers as it is asked to; Hd: in the world w the hold at block h, in the blocks of S, holds L, and is sealed or not. -/
structure HoldOk (ad : Nat → Addr) (Hd : World → Nat → (Nat → Prop) → List Kep → Bool → Prop) : Prop extends HoldOk0 ad (fun w => Sent w ad) Hd where
  sealed_ : ∀ {w h S L s}, Hd w h S L s → Calls Tryz.prog 12 #[.pointer (some ⟨h, 0, none⟩)] w fun e w' => e = .returned (.bool s) ∧ Below w.heap.size w w'
  keys : ∀ {w h S L s}, Hd w h S L s → Calls Tryz.prog 34 #[.pointer (some ⟨h, 0, none⟩)] w fun e w' => (∃ p c, e = .returned (.slice p (keysTo L L.length).length c) ∧ Strs w' p (keysTo L L.length)) ∧ Below w.heap.size w w'
  trim : ∀ {w h S L s} (key : ByteArray) (n : Int), key.size ≤ maxLen → 0 ≤ n → n ≤ 9223372036854775807 → Hd w h S L s → Calls Tryz.prog 27 #[.pointer (some ⟨h, 0, none⟩), .string key, .int .i64 n] w fun e w' => e = .returned (.tuple #[.int .i64 ((goneN L key n : Nat) : Int), .nilIface]) ∧ ∃ S', Hd w' h S' (trimL L key n) s ∧ Upd S S' w w'
  trimBad : ∀ {w h S L s} (key : ByteArray) (n : Int), key.size ≤ maxLen → n < 0 → -9223372036854775808 ≤ n → Hd w h S L s → Sent w ad → Calls Tryz.prog 27 #[.pointer (some ⟨h, 0, none⟩), .string key, .int .i64 n] w fun e w' => (∃ ev, e = .returned (.tuple #[.int .i64 0, ev]) ∧ BareIs ad ev 2) ∧ Below w.heap.size w w'
  seals : ∀ {w h S L s}, Hd w h S L s → Calls Tryz.prog 29 #[.pointer (some ⟨h, 0, none⟩)] w fun e w' => e = .returned (.tuple #[]) ∧ ∃ S', Hd w' h S' L true ∧ Upd S S' w w'
  wipe : ∀ {w h S L s}, Hd w h S L s → Calls Tryz.prog 30 #[.pointer (some ⟨h, 0, none⟩)] w fun e w' => e = .returned (.tuple #[]) ∧ ∃ S', Hd w' h S' [] false ∧ Upd S S' w w'
/-- A hold and its model, beside each other, both behind B. -/
structure Two (Hd : World → Nat → (Nat → Prop) → List Kep → Bool → Prop) (B : Nat) (w : World) (hp hm : Nat) (L : List Kep) (s : Bool) (S : Nat → Prop) : Prop where
  own : Hd w hp S L s
  base : ∀ k, S k → B ≤ k
  apart : ¬ S hm
  rows : L ≠ [] → ∀ b o c, w.cell? ⟨hm, 0, none⟩ = some (.slice (some ⟨b, o, none⟩) L.length c) → ¬ S b
  model : MHold w hm L s
  bm : B ≤ hm
  len : L.length ≤ 800000
  names : ∀ x ∈ L, x.1.size ≤ maxLen
theorem Two.below {ad : Nat → Addr} {Hd : World → Nat → (Nat → Prop) → List Kep → Bool → Prop} (hO : HoldOk ad Hd) {B : Nat} {w w' : World} {hp hm : Nat} {L : List Kep} {s : Bool} {S : Nat → Prop} (h : Two Hd B w hp hm L s S) (hb : Below w.heap.size w w') : Two Hd B w' hp hm L s S := by
  obtain ⟨p, c, q0, _⟩ := h.model.row
  refine ⟨hO.keep h.own hb.size (fun k hk => hb.block k (hO.lt h.own k hk)), h.base, h.apart, fun hne b o c hc => h.rows hne b o c ?_, h.model.below hb, h.bm, h.len, h.names⟩
  rw [hb.cell (p := ⟨hm, 0, none⟩) (lt_of_cellH q0)] at hc
  exact hc
theorem MHold.upd {S S' : Nat → Prop} {w w' : World} {h : Nat} {L : List Kep} {s : Bool} (hm : MHold w h L s) (hu : Upd S S' w w') (h1 : ¬ S h) (h2 : L ≠ [] → ∀ b o c, w.cell? ⟨h, 0, none⟩ = some (.slice (some ⟨b, o, none⟩) L.length c) → ¬ S b) : MHold w' h L s := by
  obtain ⟨p, c, q0, hr, hc, hn, hne⟩ := hm.row
  have hlt := lt_of_cellH q0
  have hblk := hu.block h hlt h1
  have hcell : ∀ o, w'.cell? ⟨h, o, none⟩ = w.cell? ⟨h, o, none⟩ := fun o => by unfold World.cell?; rw [hblk]
  have hfr : ∀ o, w'.frozen? ⟨h, o, none⟩ = w.frozen? ⟨h, o, none⟩ := fun o => by unfold World.frozen?; rw [hblk]
  refine ⟨⟨p, c, (hcell 0).trans q0, ?_, hc, hn, hne⟩, (hcell 1).trans hm.sealed_, (hfr 0).trans hm.free0, (hfr 1).trans hm.free1⟩
  by_cases hL : L = []
  · exact Or.inl hL
  rcases hr with hr | ⟨b, o, rfl, hltb, hcc⟩
  · exact Or.inl hr
  · have hb := hu.block b hltb (h2 hL b o c q0)
    exact Or.inr ⟨b, o, rfl, Nat.lt_of_lt_of_le hltb hu.size, fun i x hx j u hj => by
      have := hcc i x hx j u hj
      unfold World.cell? at this ⊢
      rw [hb]
      exact this⟩
/-- What was done to the hold: the model lies as it did. -/
theorem Two.upd {Hd : World → Nat → (Nat → Prop) → List Kep → Bool → Prop} {B : Nat} {w w' : World} {hp hm : Nat} {L : List Kep} {s : Bool} {S S' : Nat → Prop} (h : Two Hd B w hp hm L s S) (hu : Upd S S' w w') (hB : B ≤ w.heap.size) :
    MHold w' hm L s ∧ (∀ k, S' k → B ≤ k) ∧ ¬ S' hm ∧ (L ≠ [] → ∀ b o c, w'.cell? ⟨hm, 0, none⟩ = some (.slice (some ⟨b, o, none⟩) L.length c) → ¬ S' b ∧ b < w.heap.size) ∧ Below B w w' := by
  obtain ⟨p, c, q0, hr, _, hn, _⟩ := h.model.row
  have hlt := lt_of_cellH q0
  have hblk := hu.block hm hlt h.apart
  have hcell : w'.cell? ⟨hm, 0, none⟩ = w.cell? ⟨hm, 0, none⟩ := by unfold World.cell?; rw [hblk]
  have hnew : ∀ k, k < w.heap.size → ¬ S k → ¬ S' k := fun k hk h1 h2 => by
    rcases hu.new k h2 with h3 | h3
    · exact h1 h3
    · omega
  refine ⟨h.model.upd hu h.apart h.rows, fun k hk => ?_, hnew hm hlt h.apart, fun hL b o c' e => ?_, ⟨hu.os, hu.tape, hu.output, hu.size, fun k hk => hu.block k (by omega) (fun h1 => by have := h.base k h1; omega)⟩⟩
  · rcases hu.new k hk with h1 | h1
    · exact h.base k h1
    · omega
  · rw [hcell] at e
    have hbs : ¬ S b := h.rows hL b o c' e
    have hbl : b < w.heap.size := by
      rw [q0] at e
      obtain ⟨h1, _, _⟩ := Value.slice.inj (Option.some.inj e)
      rcases hr with h0 | ⟨b', o', hp', hlt', _⟩
      · exact absurd h0 hL
      · rw [h1] at hp'
        obtain ⟨rfl, _⟩ : b = b' ∧ o = o' := by simpa using hp'
        exact hlt'
    exact ⟨hnew b hbl hbs, hbl⟩
/-- The hold is changed, then its model: they are beside each other again. -/
theorem Two.step {ad : Nat → Addr} {Hd : World → Nat → (Nat → Prop) → List Kep → Bool → Prop} (hO : HoldOk ad Hd) {B : Nat} {w w' w'' : World} {hp hm : Nat} {L L' : List Kep} {s s' : Bool} {S S' : Nat → Prop} (h : Two Hd B w hp hm L s S) (hu : Upd S S' w w') (h' : Hd w' hp S' L' s') (hB : B ≤ w.heap.size) (hm'' : MHold w'' hm L' s') (ht : Turn hm w' w'') (hlen : L'.length ≤ 800000) (hnm : ∀ x ∈ L', x.1.size ≤ maxLen) :
    Two Hd B w'' hp hm L' s' S' ∧ Below B w w'' := by
  obtain ⟨hm', hb', ha', hr', hbw⟩ := h.upd hu hB
  obtain ⟨p0, c0, q0, _⟩ := hm'.row
  have hlt' := hO.lt h'
  refine ⟨⟨hO.keep h' ht.size (fun k hk => ht.block k (hlt' k hk) (fun e => ha' (e ▸ hk))), hb', ha', fun hL b o c e => ?_, hm'', h.bm, hlen, hnm⟩, hbw.trans ⟨ht.os, ht.tape, ht.output, ht.size, fun k hk => ht.block k (by have := hu.size; omega) (by have := h.bm; omega)⟩⟩
  rcases ht.row with h1 | h1
  · rw [h1] at e
    have e2 := e
    rw [q0] at e2
    obtain ⟨_, h3, _⟩ := Value.slice.inj (Option.some.inj e2)
    have hLL : L ≠ [] := fun h0 => hL (List.length_eq_zero_iff.1 (by rw [← h3, h0]; rfl))
    rw [← h3] at e
    exact (hr' hLL b o c e).1
  · have h2 := h1 b o L'.length c e
    intro hs
    have := hlt' b hs
    omega
theorem keysTo_mem {L : List Kep} {x : ByteArray} : ∀ {i : Nat}, x ∈ keysTo L i → ∃ j, j < i ∧ (kepAt L j).1 = x
  | 0, h => by cases h
  | i + 1, h => by
    by_cases hc : (keysTo L i).length = 0 ∨ txt (keysTo L i) ((keysTo L i).length - 1) ≠ (kepAt L i).1
    · rw [keysTo_new hc] at h
      rcases List.mem_append.1 h with h1 | h1
      · obtain ⟨j, hj, e⟩ := keysTo_mem h1
        exact ⟨j, by omega, e⟩
      · exact ⟨i, by omega, (List.mem_singleton.1 h1).symm⟩
    · rw [keysTo_old hc] at h
      obtain ⟨j, hj, e⟩ := keysTo_mem h
      exact ⟨j, by omega, e⟩
theorem keysTo_get {L : List Kep} {x : ByteArray} (h : x ∈ keysTo L L.length) : 0 < (getL L x).length := by
  obtain ⟨j, hj, e⟩ := keysTo_mem h
  unfold getL
  rw [List.length_map]
  refine List.length_pos_of_mem (a := kepAt L j) (List.mem_filter.2 ⟨?_, by simpa using e⟩)
  have := kepAt_get hj
  exact List.mem_of_getElem? this
end Go.Proofs.YtoapbjifkjehhaaGreatDoor
