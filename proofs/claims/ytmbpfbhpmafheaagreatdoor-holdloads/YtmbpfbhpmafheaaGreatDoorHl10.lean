/- Texts laid together. -/
import Derived.Test.YtmbpfbhpmafheaaGreatDoorHl9
namespace Go.Proofs.YtmbpfbhpmafheaaGreatDoor
open Go.RowKit
/-- What of a hold is to be seen, as package hold answers it; Hd: in the world w the hold at block h, in the blocks of S, holds L, and is sealed or not. -/
structure HoldSee (Hd : World → Nat → (Nat → Prop) → List Kep → Bool → Prop) : Prop where
  lt : ∀ {w h S L s}, Hd w h S L s → ∀ k, S k → k < w.heap.size
  keep : ∀ {w w' h S L s}, Hd w h S L s → w.heap.size ≤ w'.heap.size → (∀ k, S k → w'.heap[k]? = w.heap[k]?) → Hd w' h S L s
  count : ∀ {w h S L s}, Hd w h S L s → Calls Tryz.prog 11 #[.pointer (some ⟨h, 0, none⟩)] w fun e w' => e = .returned (.int .i64 (L.length : Int)) ∧ Below w.heap.size w w'
  get : ∀ {w h S L s} (key : ByteArray), key.size ≤ maxLen → Hd w h S L s → Calls Tryz.prog 17 #[.pointer (some ⟨h, 0, none⟩), .string key] w fun e w' => (∃ p c, e = .returned (.slice p (getL L key).length c) ∧ Rec verE w' p (getL L key)) ∧ Below w.heap.size w w'
  last : ∀ {w h S L s} (key : ByteArray), key.size ≤ maxLen → Hd w h S L s → Calls Tryz.prog 18 #[.pointer (some ⟨h, 0, none⟩), .string key] w fun e w' => e = .returned (.tuple #[.agg #[.int .i64 (lastT (getL L key)).1, .int .i64 (lastT (getL L key)).2], .bool (decide (0 < (getL L key).length))]) ∧ Below w.heap.size w w'
  sealed_ : ∀ {w h S L s}, Hd w h S L s → Calls Tryz.prog 12 #[.pointer (some ⟨h, 0, none⟩)] w fun e w' => e = .returned (.bool s) ∧ Below w.heap.size w w'
  keys : ∀ {w h S L s}, Hd w h S L s → Calls Tryz.prog 34 #[.pointer (some ⟨h, 0, none⟩)] w fun e w' => (∃ p c, e = .returned (.slice p (keysTo L L.length).length c) ∧ Strs w' p (keysTo L L.length)) ∧ Below w.heap.size w w'
/-- A hold and its model, beside each other, both behind B. -/
structure Two (Hd : World → Nat → (Nat → Prop) → List Kep → Bool → Prop) (B : Nat) (w : World) (hp hm : Nat) (L : List Kep) (s : Bool) (S : Nat → Prop) : Prop where
  own : Hd w hp S L s
  base : ∀ k, S k → B ≤ k
  apart : ¬ S hm
  rows : L ≠ [] → ∀ b o c, w.cell? ⟨hm, 0, none⟩ = some (.slice (some ⟨b, o, none⟩) L.length c) → ¬ S b
  model : MHold w hm L s
  bm : B ≤ hm
  len : L.length ≤ 800000
  names : ∀ x ∈ L, x.1.size ≤ maxLen
theorem Two.below {Hd : World → Nat → (Nat → Prop) → List Kep → Bool → Prop} (hO : HoldSee Hd) {B : Nat} {w w' : World} {hp hm : Nat} {L : List Kep} {s : Bool} {S : Nat → Prop} (h : Two Hd B w hp hm L s S) (hb : Below w.heap.size w w') : Two Hd B w' hp hm L s S := by
  obtain ⟨p, c, q0, _⟩ := h.model.row
  refine ⟨hO.keep h.own hb.size (fun k hk => hb.block k (hO.lt h.own k hk)), h.base, h.apart, fun hne b o c hc => h.rows hne b o c ?_, h.model.below hb, h.bm, h.len, h.names⟩
  rw [hb.cell (p := ⟨hm, 0, none⟩) (lt_of_cellH q0)] at hc
  exact hc
theorem MHold.upd {S S' : Nat → Prop} {w w' : World} {h : Nat} {L : List Kep} {s : Bool} (hm : MHold w h L s) (hu : Upd S S' w w') (h1 : ¬ S h) (h2 : L ≠ [] → ∀ b o c, w.cell? ⟨h, 0, none⟩ = some (.slice (some ⟨b, o, none⟩) L.length c) → ¬ S b) : MHold w' h L s := by
  obtain ⟨p, c, q0, hr, hc, hn, hne⟩ := hm.row
  have hlt := lt_of_cellH q0
  have hblk := hu.block h hlt h1
  have hcell : ∀ o, w'.cell? ⟨h, o, none⟩ = w.cell? ⟨h, o, none⟩ := fun o => by unfold World.cell?; rw [hblk]
  have hfr : ∀ o, w'.frozen? ⟨h, o, none⟩ = w.frozen? ⟨h, o, none⟩ := fun o => by unfold World.frozen?; rw [hblk]
  refine ⟨⟨p, c, (hcell 0).trans q0, ?_, hc, hn, hne⟩, (hcell 1).trans hm.sealed_, (hfr 0).trans hm.free0, (hfr 1).trans hm.free1⟩
  by_cases hL : L = []
  · exact Or.inl hL
  rcases hr with hr | ⟨b, o, rfl, hltb, hcc⟩
  · exact Or.inl hr
  · have hb := hu.block b hltb (h2 hL b o c q0)
    exact Or.inr ⟨b, o, rfl, Nat.lt_of_lt_of_le hltb hu.size, fun i x hx j u hj => by
      have := hcc i x hx j u hj
      unfold World.cell? at this ⊢
      rw [hb]
      exact this⟩
/-- What was done to the hold: the model lies as it did. -/
theorem Two.upd {Hd : World → Nat → (Nat → Prop) → List Kep → Bool → Prop} {B : Nat} {w w' : World} {hp hm : Nat} {L : List Kep} {s : Bool} {S S' : Nat → Prop} (h : Two Hd B w hp hm L s S) (hu : Upd S S' w w') (hB : B ≤ w.heap.size) :
    MHold w' hm L s ∧ (∀ k, S' k → B ≤ k) ∧ ¬ S' hm ∧ (L ≠ [] → ∀ b o c, w'.cell? ⟨hm, 0, none⟩ = some (.slice (some ⟨b, o, none⟩) L.length c) → ¬ S' b ∧ b < w.heap.size) ∧ Below B w w' := by
  obtain ⟨p, c, q0, hr, _, hn, _⟩ := h.model.row
  have hlt := lt_of_cellH q0
  have hblk := hu.block hm hlt h.apart
  have hcell : w'.cell? ⟨hm, 0, none⟩ = w.cell? ⟨hm, 0, none⟩ := by unfold World.cell?; rw [hblk]
  have hnew : ∀ k, k < w.heap.size → ¬ S k → ¬ S' k := fun k hk h1 h2 => by
    rcases hu.new k h2 with h3 | h3
    · exact h1 h3
    · omega
  refine ⟨h.model.upd hu h.apart h.rows, fun k hk => ?_, hnew hm hlt h.apart, fun hL b o c' e => ?_, ⟨hu.os, hu.tape, hu.output, hu.size, fun k hk => hu.block k (by omega) (fun h1 => by have := h.base k h1; omega)⟩⟩
  · rcases hu.new k hk with h1 | h1
    · exact h.base k h1
    · omega
  · rw [hcell] at e
    have hbs : ¬ S b := h.rows hL b o c' e
    have hbl : b < w.heap.size := by
      rw [q0] at e
      obtain ⟨h1, _, _⟩ := Value.slice.inj (Option.some.inj e)
      rcases hr with h0 | ⟨b', o', hp', hlt', _⟩
      · exact absurd h0 hL
      · rw [h1] at hp'
        obtain ⟨rfl, _⟩ : b = b' ∧ o = o' := by simpa using hp'
        exact hlt'
    exact ⟨hnew b hbl hbs, hbl⟩
theorem keysTo_mem {L : List Kep} {x : ByteArray} : ∀ {i : Nat}, x ∈ keysTo L i → ∃ j, j < i ∧ (kepAt L j).1 = x
  | 0, h => by cases h
  | i + 1, h => by
    by_cases hc : (keysTo L i).length = 0 ∨ txt (keysTo L i) ((keysTo L i).length - 1) ≠ (kepAt L i).1
    · rw [keysTo_new hc] at h
      rcases List.mem_append.1 h with h1 | h1
      · obtain ⟨j, hj, e⟩ := keysTo_mem h1
        exact ⟨j, by omega, e⟩
      · exact ⟨i, by omega, (List.mem_singleton.1 h1).symm⟩
    · rw [keysTo_old hc] at h
      obtain ⟨j, hj, e⟩ := keysTo_mem h
      exact ⟨j, by omega, e⟩
theorem keysTo_get {L : List Kep} {x : ByteArray} (h : x ∈ keysTo L L.length) : 0 < (getL L x).length := by
  obtain ⟨j, hj, e⟩ := keysTo_mem h
  unfold getL
  rw [List.length_map]
  refine List.length_pos_of_mem (a := kepAt L j) (List.mem_filter.2 ⟨?_, by simpa using e⟩)
  have := kepAt_get hj
  exact List.mem_of_getElem? this
/-- Package hold answers as it is asked to; Hd: in the world w the hold at block h, in the blocks of S, holds L, and is sealed or not. -/
structure HoldOk (ad : Nat → Addr) (Hd : World → Nat → (Nat → Prop) → List Kep → Bool → Prop) : Prop extends HoldOk0 ad (fun w => Sent w ad) Hd where
  sealed_ : ∀ {w h S L s}, Hd w h S L s → Calls Tryz.prog 12 #[.pointer (some ⟨h, 0, none⟩)] w fun e w' => e = .returned (.bool s) ∧ Below w.heap.size w w'
  keys : ∀ {w h S L s}, Hd w h S L s → Calls Tryz.prog 34 #[.pointer (some ⟨h, 0, none⟩)] w fun e w' => (∃ p c, e = .returned (.slice p (keysTo L L.length).length c) ∧ Strs w' p (keysTo L L.length)) ∧ Below w.heap.size w w'
  trim : ∀ {w h S L s} (key : ByteArray) (n : Int), key.size ≤ maxLen → 0 ≤ n → n ≤ 9223372036854775807 → Hd w h S L s → Calls Tryz.prog 27 #[.pointer (some ⟨h, 0, none⟩), .string key, .int .i64 n] w fun e w' => e = .returned (.tuple #[.int .i64 ((goneN L key n : Nat) : Int), .nilIface]) ∧ ∃ S', Hd w' h S' (trimL L key n) s ∧ Upd S S' w w'
  trimBad : ∀ {w h S L s} (key : ByteArray) (n : Int), key.size ≤ maxLen → n < 0 → -9223372036854775808 ≤ n → Hd w h S L s → Sent w ad → Calls Tryz.prog 27 #[.pointer (some ⟨h, 0, none⟩), .string key, .int .i64 n] w fun e w' => (∃ ev, e = .returned (.tuple #[.int .i64 0, ev]) ∧ BareIs ad ev 2) ∧ Below w.heap.size w w'
  seals : ∀ {w h S L s}, Hd w h S L s → Calls Tryz.prog 29 #[.pointer (some ⟨h, 0, none⟩)] w fun e w' => e = .returned (.tuple #[]) ∧ ∃ S', Hd w' h S' L true ∧ Upd S S' w w'
  wipe : ∀ {w h S L s}, Hd w h S L s → Calls Tryz.prog 30 #[.pointer (some ⟨h, 0, none⟩)] w fun e w' => e = .returned (.tuple #[]) ∧ ∃ S', Hd w' h S' [] false ∧ Upd S S' w w'
theorem HoldOk.see {ad : Nat → Addr} {Hd : World → Nat → (Nat → Prop) → List Kep → Bool → Prop} (hO : HoldOk ad Hd) : HoldSee Hd := ⟨hO.lt, hO.keep, hO.count, hO.get, hO.last, hO.sealed_, hO.keys⟩
/-- The hold is changed, then its model: they are beside each other again. -/
theorem Two.step {ad : Nat → Addr} {Hd : World → Nat → (Nat → Prop) → List Kep → Bool → Prop} (hO : HoldOk ad Hd) {B : Nat} {w w' w'' : World} {hp hm : Nat} {L L' : List Kep} {s s' : Bool} {S S' : Nat → Prop} (h : Two Hd B w hp hm L s S) (hu : Upd S S' w w') (h' : Hd w' hp S' L' s') (hB : B ≤ w.heap.size) (hm'' : MHold w'' hm L' s') (ht : Turn hm w' w'') (hlen : L'.length ≤ 800000) (hnm : ∀ x ∈ L', x.1.size ≤ maxLen) :
    Two Hd B w'' hp hm L' s' S' ∧ Below B w w'' := by
  obtain ⟨hm', hb', ha', hr', hbw⟩ := h.upd hu hB
  obtain ⟨p0, c0, q0, _⟩ := hm'.row
  have hlt' := hO.lt h'
  refine ⟨⟨hO.keep h' ht.size (fun k hk => ht.block k (hlt' k hk) (fun e => ha' (e ▸ hk))), hb', ha', fun hL b o c e => ?_, hm'', h.bm, hlen, hnm⟩, hbw.trans ⟨ht.os, ht.tape, ht.output, ht.size, fun k hk => ht.block k (by have := hu.size; omega) (by have := h.bm; omega)⟩⟩
  rcases ht.row with h1 | h1
  · rw [h1] at e
    have e2 := e
    rw [q0] at e2
    obtain ⟨_, h3, _⟩ := Value.slice.inj (Option.some.inj e2)
    have hLL : L ≠ [] := fun h0 => hL (List.length_eq_zero_iff.1 (by rw [← h3, h0]; rfl))
    rw [← h3] at e
    exact (hr' hLL b o c e).1
  · have h2 := h1 b o L'.length c e
    intro hs
    have := hlt' b hs
    omega
theorem Sent.herrs {w : World} {ad : Nat → Addr} (h : Sent w ad) : HErrs w ad := ⟨h.c1, h.c3, h.c5, h.c6, h.c9⟩
theorem holdOk (ad : Nat → Addr) : HoldOk ad HdOf where
  lt := fun ⟨_, _, _, _, hd⟩ k hk => hd.inS k hk
  keep := fun hd hs hb => hd.keep hs hb
  zero := fun w => hd_zero w
  less := fun a b w => less_any a b w
  count := fun ⟨_, _, _, _, hd⟩ => count_any hd
  get := fun key hk ⟨_, _, _, _, hd⟩ => get_any hd key hk
  last := fun key hk ⟨_, _, _, _, hd⟩ => last_any hd key hk
  put := fun key v hk ht hd hE => put_any hd key v hk ht hE.herrs
  sealed_ := fun ⟨_, _, _, _, hd⟩ => (sealed_any hd).mono fun e w' ⟨he, hw⟩ => ⟨he, by rw [hw]; exact Below.refl _ _⟩
  keys := fun ⟨_, _, _, _, hd⟩ => keys_any hd
  trim := fun key n hk h0 h1 hd => trim_any hd key n hk h0 h1
  trimBad := fun {w h S L s} key n _ h0 _ _ hE => trim_bad h key n h0 hE.herrs
  seals := fun hd => seals_any hd
  wipe := fun hd => wipe_any hd
/-- How many bytes keys and shards have. -/
def bytesK (L : List Kep) : Nat := (L.map fun x => x.1.size + x.2.text.size).sum
theorem bytesK_succ {L : List Kep} {i : Nat} (hi : i < L.length) : bytesK (L.take (i + 1)) = bytesK (L.take i) + ((kepAt L i).1.size + (kepAt L i).2.text.size) := by
  unfold bytesK
  rw [take_succ_kep hi, List.map_append, List.sum_append]
  simp
theorem bytesK_le {L : List Kep} (hf : ∀ x ∈ L, x.1.size ≤ 16 ∧ x.2.text.size ≤ 1000) : ∀ i, i ≤ L.length → bytesK (L.take i) ≤ i * 1016
  | 0, _ => by simp [bytesK]
  | i + 1, hi => by
    have h1 := bytesK_le hf i (by omega)
    have h2 := hf (kepAt L i) (List.mem_of_getElem? (kepAt_get (show i < L.length by omega)))
    rw [bytesK_succ (by omega)]
    omega
/-- Saved t L s: the text t is L, sealed or not, saved. -/
structure SaveOk (ad : Nat → Addr) (Hd : World → Nat → (Nat → Prop) → List Kep → Bool → Prop) (Saved : ByteArray → List Kep → Bool → Prop) (X : World → Prop) : Prop where
  fits : ∀ {w h S L s}, Hd w h S L s → L.length ≤ 60 ∧ ∀ x ∈ L, x.1.size ≤ 16 ∧ x.2.text.size ≤ 1000
  save : ∀ {w h S L s}, Hd w h S L s → Sent w ad → X w → Calls Tryz.prog 10 #[.pointer (some ⟨h, 0, none⟩)] w fun e w' => ((∃ t, e = .returned (.tuple #[.string t, .nilIface]) ∧ Saved t L s) ∨ ∃ ev, e = .returned (.tuple #[.string ⟨#[]⟩, ev]) ∧ BareIs ad ev 7 ∧ 4000 < bytesK L) ∧ Below w.heap.size w w'
  sealed_ : ∀ {t L s}, Saved t L s → ∃ x, t = sealT x ∧ x.size ≤ 900000
  load : ∀ {t L s}, Saved t L s → ∀ w, Sent w ad → X w → Calls Tryz.prog 7 #[.string t] w fun e w' => (∃ h S, e = .returned (.tuple #[.pointer (some ⟨h, 0, none⟩), .nilIface]) ∧ Hd w' h S L s ∧ ∀ k, S k → w.heap.size ≤ k) ∧ Below w.heap.size w w'
  loadBad : ∀ (t : ByteArray) (w : World), 4 ≤ t.size → t.size ≤ 1000000 → fourT (crcOf (cutT t)) ≠ endT t → Sent w ad → X w → Calls Tryz.prog 7 #[.string t] w fun e w' => (∃ ev, e = .returned (.tuple #[.pointer none, ev]) ∧ BareIs ad ev 9) ∧ Below w.heap.size w w'
  loadAny : ∀ (x : ByteArray) (w : World), x.size ≤ 2000 → Sent w ad → X w → Calls Tryz.prog 7 #[.string (sealT x)] w fun e w' => ((∃ ev, e = .returned (.tuple #[.pointer none, ev]) ∧ BareIs ad ev 1) ∨ ∃ h S L s, e = .returned (.tuple #[.pointer (some ⟨h, 0, none⟩), .nilIface]) ∧ Hd w' h S L s) ∧ Below w.heap.size w w'
/-- What is an error of a number that is not 0 is that sentinel. -/
theorem bare_at {ad : Nat → Addr} {ev : Value} {i : Nat} (h : BareIs ad ev ((i + 1 : Nat) : Int)) : i < 12 ∧ ev = .iface 206 (.pointer (some (ad i))) := by
  rcases h with ⟨_, h⟩ | ⟨j, hj, rfl, h⟩
  · omega
  · obtain rfl : i = j := by omega
    exact ⟨hj, rfl⟩
/-- Another hold, made since, that has the same: it lies beside the model too. -/
theorem Two.other {ad : Nat → Addr} {Hd : World → Nat → (Nat → Prop) → List Kep → Bool → Prop} {B : Nat} {w w' : World} {hp hm : Nat} {L : List Kep} {s : Bool} {S : Nat → Prop} (h : Two Hd B w hp hm L s S) (hb : Below w.heap.size w w') (hB : B ≤ w.heap.size) {h2 : Nat} {S2 : Nat → Prop} (h' : Hd w' h2 S2 L s) (hn : ∀ k, S2 k → w.heap.size ≤ k) (hO : HoldOk ad Hd) : Two Hd B w' h2 hm L s S2 := by
  have ht := h.below hO.see hb
  obtain ⟨p, c, q0, hr, _, _, _⟩ := h.model.row
  have hlt := lt_of_cellH q0
  refine ⟨h', fun k hk => Nat.le_trans hB (hn k hk), fun hk => by have := hn _ hk; omega, fun hL b o c' e hk => ?_, ht.model, h.bm, h.len, h.names⟩
  have hk' := hn _ hk
  rw [hb.cell (p := ⟨hm, 0, none⟩) hlt, q0] at e
  obtain ⟨h1, _, _⟩ := Value.slice.inj (Option.some.inj e)
  rcases hr with h0 | ⟨b', o', hp', hlt', _⟩
  · exact absurd h0 hL
  · rw [h1] at hp'
    have hbb : b = b' := congrArg Addr.block (Option.some.inj hp')
    omega
set_option maxRecDepth 10000 in
theorem save_any {w : World} {h : Nat} {S : Nat → Prop} {L : List Kep} {s : Bool} (hd : HdOf w h S L s) (hX : LibX w) :
    Calls Tryz.prog 10 #[.pointer (some ⟨h, 0, none⟩)] w fun e w' => e = .returned (.tuple #[.string (sealT (ofL (wrote L s))), .nilIface]) ∧ Below w.heap.size w w' := by
  have HW : Hid (Calls Tryz.prog 22 #[.pointer (some ⟨h, 0, none⟩)] w fun e w' => e = .returned (.string (ofL (wrote L s))) ∧ Below w.heap.size w w') := written_any hX (Below.refl _ _) hd
  have HS : Hid (∀ W, Calls Tryz.prog 8 #[.string (ofL (wrote L s))] W fun e w' => e = .returned (.string (sealT (ofL (wrote L s)))) ∧ Below W.heap.size W w') := fun W => seal_any _ W (by rw [ofL_size]; have := wrote_len hd.good s; omega)
  clear hd hX
  generalize sealT (ofL (wrote L s)) = t at *
  generalize ofL (wrote L s) = r at *
  go_enter Tryz.func10, Tryz.ntmps10
  go_wp2_with fail
  refine HW.out.mono ?_
  rintro e w1 ⟨rfl, hb1⟩
  have HB1 : Hid (Below w.heap.size w w1) := hb1
  clear hb1 HW
  go_wp2_with fail
  refine (HS.out w1).mono ?_
  rintro e w2 ⟨rfl, hb2⟩
  have HB2 : Hid (Below w.heap.size w w2) := HB1.out.trans (hb2.mono HB1.out.size)
  clear hb2 HB1
  go_wp2
  go_ret2
  exact ⟨rfl, HB2.out⟩
set_option maxRecDepth 10000 in
theorem load_bad {ad : Nat → Addr} (t : ByteArray) (w : World) (h4 : 4 ≤ t.size) (hl : t.size ≤ 1000000) (hne : fourT (crcOf (cutT t)) ≠ endT t) (hS : Sent w ad) :
    Calls Tryz.prog 7 #[.string t] w fun e w' => e = .returned (.tuple #[.pointer none, .iface 206 (.pointer (some (ad 8)))]) ∧ Below w.heap.size w w' := by
  have HO : Hid (Calls Tryz.prog 20 #[.string t] w fun e w' => e = .returned (.tuple #[.string ⟨#[]⟩, .iface 206 (.pointer (some (ad 8)))]) ∧ Below w.heap.size w w') := open_bad t ad w h4 hl hne hS
  clear h4 hl hne hS
  go_enter Tryz.func7, Tryz.ntmps7
  go_wp2_with fail
  refine HO.out.mono ?_
  rintro e w1 ⟨rfl, hb1⟩
  clear HO
  go_wp2
  go_ret2
  exact ⟨rfl, hb1⟩
set_option maxRecDepth 10000 in
set_option maxHeartbeats 4000000 in
theorem load_gen {ad : Nat → Addr} (x : ByteArray) (I : ByteArray → List Kep → Prop) {w : World} (hX : LibX w) (hS : Sent w ad) (hx : x.size ≤ 900000) (hI0 : I (numF x false).2.1 [])
    (hI : ∀ r M, GoodL M → I r M → r.size ≠ 0 → (verF r false).2.2 = false → (putR M false (verF r false).1.1 (verF r false).1.2).1 = 0 → I (verF r false).2.1 (putR M false (verF r false).1.1 (verF r false).1.2).2) :
    Calls Tryz.prog 7 #[.string (sealT x)] w fun e w' => ((e = .returned (.tuple #[.pointer none, .iface 206 (.pointer (some (ad 0)))]) ∧ ((∃ r M, GoodL M ∧ I r M ∧ r.size ≠ 0 ∧ Bad r M) ∨ (numF x false).2.2 = true ∨ ∃ r M, r.size = 0 ∧ I r M ∧ ofL (wrote M (decide ((numF x false).1 = 1))) ≠ x)) ∨ ∃ h S M, e = .returned (.tuple #[.pointer (some ⟨h, 0, none⟩), .nilIface]) ∧ HdOf w' h S M (decide ((numF x false).1 = 1)) ∧ (∃ r, r.size = 0 ∧ I r M) ∧ ∀ k, S k → w.heap.size ≤ k) ∧ Below w.heap.size w w' := by
  have ho := open_ok (sealT x) w (by rw [sealT_size]; omega) (by rw [sealT_size]; omega) (by rw [seal_cut, seal_end])
  rw [seal_cut] at ho
  have HO : Hid (Calls Tryz.prog 20 #[.string (sealT x)] w fun e w' => e = .returned (.tuple #[.string x, .nilIface]) ∧ Below w.heap.size w w') := ho
  have HR : Hid (∀ W, Below w.heap.size w W → Calls Tryz.prog 21 #[.string x] W fun e w' => ((e = .returned (.tuple #[.pointer none, .bool false]) ∧ ∃ r M, GoodL M ∧ I r M ∧ r.size ≠ 0 ∧ Bad r M) ∨ ∃ h S M, e = .returned (.tuple #[.pointer (some ⟨h, 0, none⟩), .bool (!(numF x false).2.2)]) ∧ HdOf w' h S M (decide ((numF x false).1 = 1)) ∧ (∃ r, r.size = 0 ∧ I r M) ∧ ∀ k, S k → W.heap.size ≤ k) ∧ Below W.heap.size W w') := fun W hW => read_gen x I hX hW (fun W' hW' => (hS.below hW').herrs) (by omega) hI0 hI
  have HWR : Hid (∀ W h S M s, Below w.heap.size w W → HdOf W h S M s → Calls Tryz.prog 22 #[.pointer (some ⟨h, 0, none⟩)] W fun e w' => e = .returned (.string (ofL (wrote M s))) ∧ Below W.heap.size W w') := fun W h S M s hb hd => written_any hX hb hd
  have HSN : Hid (Sent w ad) := hS
  generalize sealT x = y at *
  generalize numF x false = q at *
  obtain ⟨n, r0, f0⟩ := q
  simp only [] at *
  clear ho hX hS hx hI0 hI
  go_enter Tryz.func7, Tryz.ntmps7
  go_wp2_with fail
  refine HO.out.mono ?_
  rintro e w1 ⟨rfl, hb1⟩
  have HB1 : Hid (Below w.heap.size w w1) := hb1
  have hsz1 := hb1.size
  clear hb1 HO
  go_wp2_with fail
  refine (HR.out w1 HB1.out).mono ?_
  rintro e w2 ⟨(⟨rfl, hbad⟩ | ⟨h, S, M, rfl, hd, hIr, hSS⟩), hb2⟩
  · have hB2 : Below w.heap.size w w2 := HB1.out.trans (hb2.mono hsz1)
    have HB2 : Hid (Below w.heap.size w w2) := hB2
    have HBAD : Hid (∃ r M, GoodL M ∧ I r M ∧ r.size ≠ 0 ∧ Bad r M) := hbad
    have c0 := (HSN.out.below hB2).c0
    clear hb2 hB2 hbad HR HB1 HSN
    go_wp2
    go_quiet (fail)
    go_wp2
    go_ret2
    exact ⟨Or.inl ⟨rfl, Or.inl HBAD.out⟩, below_drewN HB2.out _⟩
  · have hB2 : Below w.heap.size w w2 := HB1.out.trans (hb2.mono hsz1)
    have HB2 : Hid (Below w.heap.size w w2) := hB2
    have HIR : Hid (∃ r, r.size = 0 ∧ I r M) := hIr
    have HD : Hid (HdOf w2 h S M (decide (n = 1))) := hd
    have HSS : Hid (∀ k, S k → w1.heap.size ≤ k) := hSS
    cases f0 with
    | true =>
      have c0 := (HSN.out.below hB2).c0
      clear hb2 hB2 HR HB1 HSN hIr hSS hd
      go_wp2
      go_quiet (fail)
      go_wp2
      go_ret2
      exact ⟨Or.inl rfl, below_drewN HB2.out _⟩
    | false =>
      have HW : Hid (Calls Tryz.prog 22 #[.pointer (some ⟨h, 0, none⟩)] w2 fun e w' => e = .returned (.string (ofL (wrote M (decide (n = 1))))) ∧ Below w2.heap.size w2 w') := HWR.out w2 h S M _ hB2 hd
      clear hb2 hB2 HR HB1 hIr hSS hd HWR
      by_cases hq : ofL (wrote M (decide (n = 1))) = x
      · rw [hq] at HW
        clear hq
        go_wp2_with fail
        refine HW.out.mono ?_
        rintro e w3 ⟨rfl, hb3⟩
        have HB3 : Hid (Below w.heap.size w w3) := HB2.out.trans (hb3.mono HB2.out.size)
        have HD3 : Hid (HdOf w3 h S M (decide (n = 1))) := HD.out.below hb3
        clear hb3 HW HSN HB2 HD
        go_wp2
        go_ret2
        exact ⟨Or.inr ⟨h, S, M, rfl, HD3.out, HIR.out, fun k hk => Nat.le_trans hsz1 (HSS.out k hk)⟩, HB3.out⟩
      · have HQ : Hid (ofL (wrote M (decide (n = 1))) ≠ x) := hq
        obtain ⟨z, hz⟩ : ∃ z, z = ofL (wrote M (decide (n = 1))) := ⟨_, rfl⟩
        rw [← hz] at HW hq
        clear hz
        have h1 : ¬ z.toList = x.toList := fun e => hq (toListInj e)
        have h2 : (z.toList == x.toList) = false := by simpa using h1
        have h3 : (z == x) = false := by rw [beq_toListBytes]; exact h2
        go_wp2_with fail
        refine HW.out.mono ?_
        rintro e w3 ⟨rfl, hb3⟩
        have hB3 : Below w.heap.size w w3 := HB2.out.trans (hb3.mono HB2.out.size)
        have HB3 : Hid (Below w.heap.size w w3) := hB3
        have c0 := (HSN.out.below hB3).c0
        clear hb3 hB3 HW HSN HB2 HD
        go_wp2
        go_quiet (fail)
        go_wp2
        go_ret2
        obtain ⟨r, hr0, hrI⟩ := HIR.out
        exact ⟨Or.inl ⟨rfl, Or.inr (Or.inr ⟨r, M, hr0, hrI, HQ.out⟩)⟩, below_drewN HB3.out _⟩
/-- The text t is L, sealed or not, saved. -/
def SavedT (t : ByteArray) (L : List Kep) (s : Bool) : Prop := t = sealT (ofL (wrote L s)) ∧ GoodL L
/-- What is left to read, and what has been read, of L. -/
def InL (L : List Kep) (r : ByteArray) (M : List Kep) : Prop := ∃ i, i ≤ L.length ∧ r = ofL (wrL (L.drop i)) ∧ M = L.take i
theorem numF_wrote (L : List Kep) (s : Bool) : numF (ofL (wrote L s)) false = (if s then 1 else 0, ofL (wrL L), false) := by
  unfold wrote
  cases s
  · exact numF_wr (by decide) (by decide) _ _
  · exact numF_wr (by decide) (by decide) _ _
theorem drop_kep {L : List Kep} {i : Nat} (hi : i < L.length) : L.drop i = kepAt L i :: L.drop (i + 1) := by
  rw [List.drop_eq_getElem_cons hi]
  have := kepAt_get hi
  rw [List.getElem?_eq_getElem hi] at this
  rw [Option.some.inj this]
theorem wrL_cons (x : Kep) (L : List Kep) : wrL (x :: L) = wrK x ++ wrL L := by simp [wrL]
theorem inL_size {L : List Kep} {i : Nat} (hi : i ≤ L.length) (hz : (ofL (wrL (L.drop i))).size = 0) : i = L.length := by
  rcases Nat.lt_or_ge i L.length with h | h
  · rw [drop_kep h, wrL_cons, ofL_size, List.length_append] at hz
    unfold wrK wrT wrN at hz
    simp only [List.length_append, List.length_cons] at hz
    omega
  · omega
theorem inL_next {L : List Kep} (hG : GoodL L) {r : ByteArray} {M : List Kep} (h : InL L r M) (hr : r.size ≠ 0) : ∃ i, i < L.length ∧ M = L.take i ∧ verF r false = (kepAt L i, ofL (wrL (L.drop (i + 1))), false) ∧ putR M false (kepAt L i).1 (kepAt L i).2 = (0, L.take (i + 1)) := by
  obtain ⟨i, hi, rfl, rfl⟩ := h
  have hlt : i < L.length := by
    rcases Nat.lt_or_ge i L.length with h | h
    · exact h
    · refine absurd ?_ hr
      rw [List.drop_eq_nil_of_le h]
      rfl
  have hf := hG.fits (kepAt L i) (List.mem_of_getElem? (kepAt_get hlt))
  refine ⟨i, hlt, rfl, ?_, put_next hG hlt⟩
  rw [drop_kep hlt, wrL_cons]
  exact verF_wr hf.1 hf.2 _ _
theorem load_saved {ad : Nat → Addr} {L : List Kep} (hG : GoodL L) (s : Bool) {w : World} (hS : Sent w ad) (hX : LibX w) :
    Calls Tryz.prog 7 #[.string (sealT (ofL (wrote L s)))] w fun e w' => (∃ h S, e = .returned (.tuple #[.pointer (some ⟨h, 0, none⟩), .nilIface]) ∧ HdOf w' h S L s ∧ ∀ k, S k → w.heap.size ≤ k) ∧ Below w.heap.size w w' := by
  have hn := numF_wrote L s
  have hl := wrote_len hG s
  have hs : decide ((if s then (1 : Int) else 0) = 1) = s := by cases s <;> rfl
  refine (load_gen (ofL (wrote L s)) (InL L) hX hS (by rw [ofL_size]; omega) (by rw [hn]; exact ⟨0, Nat.zero_le _, rfl, rfl⟩) (fun r M _ hI hr hv hp => ?_)).mono fun e w' hp => ?_
  · obtain ⟨i, hi, rfl, hver, hput⟩ := inL_next hG hI hr
    rw [hver]
    simp only []
    rw [hput]
    exact ⟨i + 1, hi, rfl, rfl⟩
  · rw [hn] at hp
    simp only [hs] at hp
    obtain ⟨(⟨rfl, hbad⟩ | ⟨h, S, M, rfl, hd, ⟨r, hr, i, hi, rfl, rfl⟩, hSS⟩), hb⟩ := hp
    · exfalso
      rcases hbad with ⟨r, M, _, hI, hr, hB⟩ | hB | ⟨r, M, hr, ⟨i, hi, rfl, rfl⟩, hne⟩
      · obtain ⟨i, hi, rfl, hver, hput⟩ := inL_next hG hI hr
        unfold Bad at hB
        rw [hver] at hB
        simp only [] at hB
        rw [hput] at hB
        rcases hB with hB | hB
        · cases hB
        · exact hB rfl
      · cases hB
      · obtain rfl := inL_size hi hr
        rw [List.take_length] at hne
        exact hne rfl
    · obtain rfl := inL_size hi hr
      rw [List.take_length] at hd
      exact ⟨⟨h, S, rfl, hd, hSS⟩, hb⟩
theorem saveOk (ad : Nat → Addr) : SaveOk ad HdOf SavedT LibX where
  fits := fun hd => ⟨hd.good.few, fun x hx => by
    have hf := hd.good.fits x hx
    have h2 := hf.2
    unfold verOk tagB at h2
    simp only [Bool.and_eq_true, decide_eq_true_eq] at h2
    exact ⟨by have := isN_size hf.1; omega, by omega⟩⟩
  save := fun hd _ hX => (save_any hd hX).mono fun e w' hp => ⟨Or.inl ⟨_, hp.1, rfl, hd.good⟩, hp.2⟩
  sealed_ := fun {t L s} h => ⟨ofL (wrote L s), h.1, by rw [ofL_size]; have := wrote_len h.2 s; omega⟩
  load := fun {t L s} h w hS hX => by
    rw [h.1]
    exact load_saved h.2 s hS hX
  loadBad := fun t w h4 hl hne hS _ => (load_bad t w h4 hl hne hS).mono fun e w' hp => ⟨⟨_, hp.1, Or.inr ⟨8, by decide, rfl, rfl⟩⟩, hp.2⟩
  loadAny := fun x w hx hS hX => (load_gen x (fun _ _ => True) hX hS (by omega) trivial (fun _ _ _ _ _ _ _ => trivial)).mono fun e w' hp => by
    obtain ⟨(⟨he, _⟩ | ⟨h, S, M, he, hd, _⟩), hb⟩ := hp
    · exact ⟨Or.inl ⟨_, he, Or.inr ⟨0, by decide, rfl, rfl⟩⟩, hb⟩
    · exact ⟨Or.inr ⟨h, S, M, _, he, hd⟩, hb⟩
def keyK : ByteArray := ⟨#[107]⟩
def verK : Ver := ⟨1, 0, 1, 0, ⟨#[120]⟩⟩
theorem putK : putR [] false keyK verK = (0, [(keyK, verK)]) := by decide
theorem getK : getL [(keyK, verK)] keyK = [verK] := by decide
set_option maxRecDepth 10000 in
set_option maxHeartbeats 1600000 in
theorem holds_any {ad : Nat → Addr} {X : World → Prop} {Hd : World → Nat → (Nat → Prop) → List Kep → Bool → Prop} (hO : HoldOk0 ad X Hd) (w : World) (hS : ∀ W, Below w.heap.size w W → X W) :
    Calls Tryz.prog 6 #[] w fun e w' => e = .returned (.bool true) ∧ Below w.heap.size w w' := by
  obtain ⟨w2, hw2⟩ : ∃ w2, w2 = (w.alloc (.cells #[.map none, .bool false] 39)).alloc (.cells #[.int .i64 1, .int .i64 0, .int .i64 1, .int .i64 0, .string ⟨#[120]⟩] 49) := ⟨_, rfl⟩
  have HB2 : Hid (Below w.heap.size w w2) := by rw [hw2]; exact ((Below.refl _ _).alloc (Nat.le_refl _) _).alloc (by simp) _
  have hs2 : w2.heap.size = w.heap.size + 2 := by rw [hw2]; simp
  have HS2 : Hid (w2.heap.size = w.heap.size + 2) := hs2
  have HD2 : Hid (Hd w2 w.heap.size (fun k => k = w.heap.size) [] false) := by
    refine hO.keep (hO.zero w) (by rw [hw2]; simp) (fun k hk => ?_)
    subst hk
    rw [hw2]
    exact ((Below.refl (w.alloc (.cells #[.map none, .bool false] 39)).heap.size _).alloc (Nat.le_refl _) _).block w.heap.size (by simp)
  have HC2 : Hid (w2.cell? ⟨w.heap.size + 1, 0, none⟩ = some (.int .i64 1) ∧ w2.cell? ⟨w.heap.size + 1, 1, none⟩ = some (.int .i64 0) ∧ w2.cell? ⟨w.heap.size + 1, 2, none⟩ = some (.int .i64 1) ∧ w2.cell? ⟨w.heap.size + 1, 3, none⟩ = some (.int .i64 0) ∧ w2.cell? ⟨w.heap.size + 1, 4, none⟩ = some (.string ⟨#[120]⟩)) := by
    rw [hw2]; exact ⟨by simp, by simp, by simp, by simp, by simp⟩
  have HP := hO.put keyK verK (by decide) (by decide) HD2.out (hS w2 HB2.out)
  rw [putK] at HP
  have HP2 : Calls Tryz.prog 16 #[.pointer (some ⟨w.heap.size, 0, none⟩), .string ⟨#[107]⟩, .agg #[.int .i64 1, .int .i64 0, .int .i64 1, .int .i64 0, .string ⟨#[120]⟩]] w2 _ := HP
  have HW2 : Hid (w2 = (w.alloc (.cells #[.map none, .bool false] 39)).alloc (.cells #[.int .i64 1, .int .i64 0, .int .i64 1, .int .i64 0, .string ⟨#[120]⟩] 49)) := hw2
  clear hw2 hs2 hS HP
  have HO : Hid (HoldOk0 ad X Hd) := hO
  clear hO
  go_enter Tryz.func6, Tryz.ntmps6
  go_wp2_with fail
  rw [← HW2.out]
  refine HP2.mono ?_
  rintro e w3 ⟨⟨ev, rfl, hev⟩, S', hD3, hU⟩
  obtain rfl : ev = .nilIface := by
    rcases hev with ⟨h, _⟩ | ⟨i, _, _, h⟩
    · exact h
    · exact absurd h (by simp; omega)
  have HB3 : Hid (Below w.heap.size w w3) := HB2.out.trans ⟨hU.os, hU.tape, hU.output, hU.size, fun k hk => hU.block k (by have := HS2.out; omega) (by show ¬ (k = w.heap.size); omega)⟩
  have HC3 : Hid (w3.cell? ⟨w.heap.size + 1, 0, none⟩ = some (.int .i64 1) ∧ w3.cell? ⟨w.heap.size + 1, 1, none⟩ = some (.int .i64 0) ∧ w3.cell? ⟨w.heap.size + 1, 2, none⟩ = some (.int .i64 1) ∧ w3.cell? ⟨w.heap.size + 1, 3, none⟩ = some (.int .i64 0) ∧ w3.cell? ⟨w.heap.size + 1, 4, none⟩ = some (.string ⟨#[120]⟩)) := by
    have hb := hU.block (w.heap.size + 1) (by have := HS2.out; omega) (by show ¬ (_ = _); omega)
    have hc : ∀ o, w3.cell? ⟨w.heap.size + 1, o, none⟩ = w2.cell? ⟨w.heap.size + 1, o, none⟩ := fun o => by unfold World.cell?; rw [hb]
    obtain ⟨h0, h1, h2, h3, h4⟩ := HC2.out
    exact ⟨(hc 0).trans h0, (hc 1).trans h1, (hc 2).trans h2, (hc 3).trans h3, (hc 4).trans h4⟩
  have HD3 : Hid (Hd w3 w.heap.size S' [(keyK, verK)] false) := hD3
  have HX : Hid (w.heap.size + 1 < w3.heap.size) := by have := HS2.out; have := hU.size; show _ < _; omega
  clear hev hD3 hU HP2 HC2 HD2 HW2
  have HG := HO.out.get keyK (by decide) HD3.out
  rw [getK] at HG
  have HG2 : Calls Tryz.prog 17 #[.pointer (some ⟨w.heap.size, 0, none⟩), .string ⟨#[107]⟩] w3 _ := HG
  clear HG
  go_wp2_with fail
  refine HG2.mono ?_
  rintro e w4 ⟨⟨p, c, rfl, hr⟩, hb4⟩
  clear HG2
  have HB4 : Hid (Below w3.heap.size w3 w4) := hb4
  have HR4 : Hid (Rec verE w4 p [verK]) := hr
  have HD4 : Hid (Hd w4 w.heap.size S' [(keyK, verK)] false) := HO.out.keep HD3.out hb4.size (fun k hk => hb4.block k (HO.out.lt HD3.out k hk))
  have HL := HO.out.last keyK (by decide) HD4.out
  rw [getK] at HL
  have HL2 : Calls Tryz.prog 18 #[.pointer (some ⟨w.heap.size, 0, none⟩), .string ⟨#[107]⟩] w4 fun e w' => e = .returned (.tuple #[.agg #[.int .i64 1, .int .i64 0], .bool true]) ∧ Below w4.heap.size w4 w' := HL
  clear HL hr hb4
  go_wp2_with fail
  refine HL2.mono ?_
  rintro e w5 ⟨rfl, hb5⟩
  clear HL2
  have HB5 : Hid (Below w3.heap.size w3 w5) := HB4.out.trans (hb5.mono HB4.out.size)
  obtain ⟨b, o, hpp, hblt, hrc⟩ : ∃ b o, p = some ⟨b, o, none⟩ ∧ b < w4.heap.size ∧ ∀ j u, (verC verK)[j]? = some u → w4.cell? ⟨b, o + j, none⟩ = some u := by
    rcases HR4.out with h | ⟨b, o, hp, hlt, hc⟩
    · cases h
    · refine ⟨b, o, hp, hlt, fun j u hj => ?_⟩
      have := hc 0 verK rfl j u hj
      simpa using this
  subst hpp
  obtain ⟨w6, hw6⟩ : ∃ w6, w6 = w5.alloc (.cells #[.int .i64 1, .int .i64 0] 45) := ⟨_, rfl⟩
  have HB6 : Hid (Below w5.heap.size w5 w6) := by rw [hw6]; exact (Below.refl _ _).alloc (Nat.le_refl _) _
  have HS6 : Hid (w5.heap.size < w6.heap.size) := by rw [hw6]; show _ < _; simp
  have HD6 : Hid (Hd w6 w.heap.size S' [(keyK, verK)] false) := by
    have hb := (hb5.trans (HB6.out.mono hb5.size))
    exact HO.out.keep HD4.out hb.size (fun k hk => hb.block k (HO.out.lt HD4.out k hk))
  have HC6 : Hid (w6.cell? ⟨w5.heap.size, 0, none⟩ = some (.int .i64 1) ∧ w6.cell? ⟨w5.heap.size, 1, none⟩ = some (.int .i64 0)) := by rw [hw6]; exact ⟨by simp, by simp⟩
  have HALL : Hid (∀ W, Below w6.heap.size w6 W → (W.cell? ⟨w.heap.size + 1, 0, none⟩ = some (.int .i64 1) ∧ W.cell? ⟨w.heap.size + 1, 1, none⟩ = some (.int .i64 0) ∧ W.cell? ⟨w.heap.size + 1, 2, none⟩ = some (.int .i64 1) ∧ W.cell? ⟨w.heap.size + 1, 3, none⟩ = some (.int .i64 0) ∧ W.cell? ⟨w.heap.size + 1, 4, none⟩ = some (.string ⟨#[120]⟩) ∧ W.cell? ⟨b, o, none⟩ = some (.int .i64 1) ∧ W.cell? ⟨b, o + 1, none⟩ = some (.int .i64 0) ∧ W.cell? ⟨b, o + 2, none⟩ = some (.int .i64 1) ∧ W.cell? ⟨b, o + 3, none⟩ = some (.int .i64 0) ∧ W.cell? ⟨b, o + 4, none⟩ = some (.string ⟨#[120]⟩) ∧ W.cell? ⟨w5.heap.size, 0, none⟩ = some (.int .i64 1) ∧ W.cell? ⟨w5.heap.size, 1, none⟩ = some (.int .i64 0) ∧ Below w6.heap.size w6 W)) := fun W hW => by
    have hx := HX.out
    have h36 : Below w3.heap.size w3 w6 := HB5.out.trans (HB6.out.mono HB5.out.size)
    have h46 : Below w4.heap.size w4 w6 := hb5.trans (HB6.out.mono hb5.size)
    have t3 : ∀ o', W.cell? ⟨w.heap.size + 1, o', none⟩ = w3.cell? ⟨w.heap.size + 1, o', none⟩ := fun o' => ((h36.trans (hW.mono h36.size))).cell (p := ⟨w.heap.size + 1, o', none⟩) hx
    have t4 : ∀ o', W.cell? ⟨b, o', none⟩ = w4.cell? ⟨b, o', none⟩ := fun o' => ((h46.trans (hW.mono h46.size))).cell (p := ⟨b, o', none⟩) hblt
    have t6 : ∀ o', W.cell? ⟨w5.heap.size, o', none⟩ = w6.cell? ⟨w5.heap.size, o', none⟩ := fun o' => hW.cell (p := ⟨w5.heap.size, o', none⟩) HS6.out
    obtain ⟨h0, h1, h2, h3, h4⟩ := HC3.out
    exact ⟨(t3 0).trans h0, (t3 1).trans h1, (t3 2).trans h2, (t3 3).trans h3, (t3 4).trans h4, (t4 _).trans (hrc 0 _ rfl), (t4 _).trans (hrc 1 _ rfl), (t4 _).trans (hrc 2 _ rfl), (t4 _).trans (hrc 3 _ rfl), (t4 _).trans (hrc 4 _ rfl), (t6 0).trans HC6.out.1, (t6 1).trans HC6.out.2, hW⟩
  have HW6 : Hid (w6 = w5.alloc (.cells #[.int .i64 1, .int .i64 0] 45)) := hw6
  have HCN : Hid (∀ W, Below w6.heap.size w6 W → Calls Tryz.prog 11 #[.pointer (some ⟨w.heap.size, 0, none⟩)] W fun e w' => e = .returned (.int .i64 1) ∧ Below w6.heap.size w6 w') := fun W hW => (HO.out.count (HO.out.keep HD6.out hW.size (fun k hk => hW.block k (HO.out.lt HD6.out k hk)))).mono fun e w' ⟨h1, h2⟩ => ⟨h1, hW.trans (h2.mono hW.size)⟩
  have HLS : Hid (∀ W, Below w6.heap.size w6 W → Calls Tryz.prog 19 #[.agg #[.int .i64 0, .int .i64 0], .agg #[.int .i64 1, .int .i64 0]] W fun e w' => e = .returned (.bool true) ∧ Below w6.heap.size w6 w') := fun W hW => (HO.out.less (0, 0) (1, 0) W).mono fun e w' ⟨h1, q, os, h2⟩ => ⟨h1, by rw [h2]; exact hW.trans ((below_grow W q os).mono hW.size)⟩
  have HB : Hid (Below w.heap.size w w6) := HB3.out.trans ((HB5.out.trans (HB6.out.mono HB5.out.size)).mono HB3.out.size)
  have hS0 := HALL.out w6.drew (Below.refl _ _).drew
  clear hw6 HB5 HB6 HS6 HC6 HD6 HD4 HD3 HC3 HB4 hrc hblt HR4 hb5 HX HB2 HS2 HB3
  go_wp2_with fail
  rw [← HW6.out]
  go_region_held3 (fun W => (W.cell? ⟨w.heap.size + 1, 0, none⟩ = some (.int .i64 1) ∧ W.cell? ⟨w.heap.size + 1, 1, none⟩ = some (.int .i64 0) ∧ W.cell? ⟨w.heap.size + 1, 2, none⟩ = some (.int .i64 1) ∧ W.cell? ⟨w.heap.size + 1, 3, none⟩ = some (.int .i64 0) ∧ W.cell? ⟨w.heap.size + 1, 4, none⟩ = some (.string ⟨#[120]⟩) ∧ W.cell? ⟨b, o, none⟩ = some (.int .i64 1) ∧ W.cell? ⟨b, o + 1, none⟩ = some (.int .i64 0) ∧ W.cell? ⟨b, o + 2, none⟩ = some (.int .i64 1) ∧ W.cell? ⟨b, o + 3, none⟩ = some (.int .i64 0) ∧ W.cell? ⟨b, o + 4, none⟩ = some (.string ⟨#[120]⟩) ∧ W.cell? ⟨w5.heap.size, 0, none⟩ = some (.int .i64 1) ∧ W.cell? ⟨w5.heap.size, 1, none⟩ = some (.int .i64 0) ∧ Below w6.heap.size w6 W)) (first | assumption | exact hS0) (first | (go_at_call 11; refine (HCN.out _ (by have := hS0.2.2.2.2.2.2.2.2.2.2.2.2; first | assumption | exact (And.right (by assumption)))).mono ?_; rintro e w7 ⟨rfl, hb7⟩; have hS7 := HALL.out _ hb7) | (go_at_call 19; refine (HLS.out _ hb7).mono ?_; rintro e w8 ⟨rfl, hb8⟩; have hS8 := HALL.out _ hb8))
  go_wp2
  go_ret
  exact ⟨rfl, HB.out.trans (hb8.mono HB.out.size)⟩
section
open Go.Sort
/-- What follows in a region, kept shut. -/
structure KeptQ (p : Prop) : Prop where
  out : p
theorem qstep {P : Program} {ops : Array Oper} {C : World → Prop} {Q : Act → Prop} {a : Act} {o : Oper} {rest : List Oper}
    (h : ∀ K : Act → Prop, (∀ a, KeptQ (wpQuiet P ops C Q rest a) → K a) → if Region.wanted o (yielded ops a.tmps) then o.quiet P a C K else K (a.put o.dst undef)) : KeptQ (wpQuiet P ops C Q (o :: rest) a) :=
  ⟨wpQuiet_step (fun K hK => h K (fun a ha => hK a ha.out))⟩
end
set_option maxRecDepth 10000 in
set_option maxHeartbeats 1600000 in
theorem holdLoads_any {ad : Nat → Addr} {Hd : World → Nat → (Nat → Prop) → List Kep → Bool → Prop} {Saved : ByteArray → List Kep → Bool → Prop} {X : World → Prop} (hO : HoldOk ad Hd) (hV : SaveOk ad Hd Saved X) (x : ByteArray) (w : World) (hs : x.size ≤ maxLen)
    (hS : ∀ W, Below w.heap.size w W → Sent W ad) (hXX : ∀ W, Below w.heap.size w W → X W) (hE : x.size ≤ 2000 → ∀ W, Calls Tryz.prog 8 #[.string x] W fun e w' => e = .returned (.string (sealT x)) ∧ Below W.heap.size W w') :
    Calls Tryz.prog 3 #[.string x] w fun e w' => e = .returned (.bool true) ∧ Below w.heap.size w w' := by
  have HH := holds_any hO.toHoldOk0 w hS
  have HO : Hid (HoldOk ad Hd) := hO
  have HVO : Hid (SaveOk ad Hd Saved X) := hV
  have HS : Hid (∀ W, Below w.heap.size w W → Sent W ad) := hS
  have HXX : Hid (∀ W, Below w.heap.size w W → X W) := hXX
  have hs' : x.size ≤ 9223372036854775807 := by unfold maxLen at hs; omega
  clear hO hV hS hs hXX
  by_cases hbig : 2000 < x.size
  · have d1 : decide (2000 < (x.size : Int)) = true := decide_eq_true (by omega)
    clear hE
    go_enter Tryz.func3, Tryz.ntmps3
    go_wp2_with fail
    refine HH.mono ?_
    rintro e w1 ⟨rfl, hb1⟩
    go_wp2
    go_ret
    exact ⟨rfl, hb1⟩
  have d1 : decide (2000 < (x.size : Int)) = false := decide_eq_false (by omega)
  have HE : Hid (∀ W, Calls Tryz.prog 8 #[.string x] W fun e w' => e = .returned (.string (sealT x)) ∧ Below W.heap.size W w') := hE (by omega)
  have HL : Hid (∀ W, Sent W ad → X W → Calls Tryz.prog 7 #[.string (sealT x)] W fun e w' => ((∃ ev, e = .returned (.tuple #[.pointer none, ev]) ∧ BareIs ad ev 1) ∨ ∃ h S L s, e = .returned (.tuple #[.pointer (some ⟨h, 0, none⟩), .nilIface]) ∧ Hd w' h S L s) ∧ Below W.heap.size W w') := fun W hW hWX => HVO.out.loadAny x W (by omega) hW hWX
  generalize sealT x = y at *
  clear hE hbig
  go_enter Tryz.func3, Tryz.ntmps3
  go_wp2_with fail
  refine HH.mono ?_
  rintro e w1 ⟨rfl, hb1⟩
  have HB1 : Hid (Below w.heap.size w w1) := hb1
  clear HH hb1
  go_wp2_with fail
  refine (HE.out _).mono ?_
  rintro e w2 ⟨rfl, hb2⟩
  have HB2 : Hid (Below w.heap.size w w2) := HB1.out.trans (hb2.mono HB1.out.size)
  clear HE hb2 HB1
  go_wp2_with fail
  refine (HL.out _ (HS.out _ HB2.out) (HXX.out _ HB2.out)).mono ?_
  rintro e w3 ⟨(⟨ev, rfl, hev⟩ | ⟨h, S, L, s, rfl, hD3⟩), hb3⟩
  · have HB3 : Hid (Below w.heap.size w w3) := HB2.out.trans (hb3.mono HB2.out.size)
    have HCO := coded2_any hev w3 (HS.out w3 HB3.out)
    obtain ⟨_, rfl⟩ := bare_at (i := 0) hev
    clear hev HL hb3 HB2
    go_wp2_with fail
    refine HCO.mono ?_
    rintro e w4 ⟨rfl, hb4⟩
    go_wp2
    go_ret
    exact ⟨rfl, HB3.out.trans (hb4.mono HB3.out.size)⟩
  have HB3 : Hid (Below w.heap.size w w3) := HB2.out.trans (hb3.mono HB2.out.size)
  have HD3 : Hid (Hd w3 h S L s) := hD3
  have HSV := HVO.out.save hD3 (HS.out w3 HB3.out) (HXX.out w3 HB3.out)
  clear HL hb3 HB2 hD3
  go_wp2_with fail
  refine HSV.mono ?_
  rintro e w4 ⟨(⟨t, rfl, hsv⟩ | ⟨ev, rfl, hev, _⟩), hb4⟩
  rotate_left
  · have HB4 : Hid (Below w.heap.size w w4) := HB3.out.trans (hb4.mono HB3.out.size)
    have HCO := coded2_any hev w4 (HS.out w4 HB4.out)
    obtain ⟨_, rfl⟩ := bare_at (i := 6) hev
    clear hev HSV hb4 HB3
    go_wp2_with fail
    refine HCO.mono ?_
    rintro e w5 ⟨rfl, hb5⟩
    go_wp2
    go_ret
    exact ⟨rfl, HB4.out.trans (hb5.mono HB4.out.size)⟩
  have HB4 : Hid (Below w.heap.size w w4) := HB3.out.trans (hb4.mono HB3.out.size)
  have HD4 : Hid (Hd w4 h S L s) := HO.out.keep HD3.out hb4.size (fun k hk => hb4.block k (HO.out.lt HD3.out k hk))
  have HLD := HVO.out.load hsv w4 (HS.out w4 HB4.out) (HXX.out w4 HB4.out)
  clear HSV hb4 HB3 HD3 hsv
  go_wp2_with fail
  refine HLD.mono ?_
  rintro e w5 ⟨⟨h2, S2, rfl, hD5, _⟩, hb5⟩
  have HB5 : Hid (Below w.heap.size w w5) := HB4.out.trans (hb5.mono HB4.out.size)
  have HD5 : Hid (Hd w5 h S L s) := HO.out.keep HD4.out hb5.size (fun k hk => hb5.block k (HO.out.lt HD4.out k hk))
  have HX5 : Hid (Hd w5 h2 S2 L s) := hD5
  have HKP : Hid (∀ W, Below w5.heap.size w5 W → Hd W h S L s ∧ Hd W h2 S2 L s) := fun W hW => ⟨HO.out.keep HD5.out hW.size (fun k hk => hW.block k (HO.out.lt HD5.out k hk)), HO.out.keep HX5.out hW.size (fun k hk => hW.block k (HO.out.lt HX5.out k hk))⟩
  clear hD5 hb5 HD4 HB4 HLD
  have HC1 := HO.out.count HX5.out
  go_wp2_with fail
  refine HC1.mono ?_
  rintro e w6 ⟨rfl, hb6⟩
  have HB6 : Hid (Below w5.heap.size w5 w6) := hb6
  clear hb6 HC1
  have HC2 := HO.out.count (HKP.out w6 HB6.out).1
  go_wp2_with fail
  refine HC2.mono ?_
  rintro e w7 ⟨rfl, hb7⟩
  have HB7 : Hid (Below w5.heap.size w5 w7) := HB6.out.trans (hb7.mono HB6.out.size)
  clear hb7 HC2 HB6
  have HC3 := HO.out.sealed_ (HKP.out w7 HB7.out).2
  go_wp2_with fail
  refine HC3.mono ?_
  rintro e w8 ⟨rfl, hb8⟩
  have HB8 : Hid (Below w5.heap.size w5 w8) := HB7.out.trans (hb8.mono HB7.out.size)
  clear hb8 HC3 HB7
  have HC4 := HO.out.sealed_ (HKP.out w8 HB8.out).1
  go_wp2_with fail
  refine HC4.mono ?_
  rintro e w9 ⟨rfl, hb9⟩
  have HB9 : Hid (Below w5.heap.size w5 w9) := HB8.out.trans (hb9.mono HB8.out.size)
  clear hb9 HC4 HB8
  go_wp2
  go_ret
  exact ⟨by simp, HB5.out.trans (HB9.out.mono HB5.out.size)⟩
end Go.Proofs.YtmbpfbhpmafheaaGreatDoor
