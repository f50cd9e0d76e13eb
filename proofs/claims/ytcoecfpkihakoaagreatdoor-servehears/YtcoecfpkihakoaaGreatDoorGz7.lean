/- Messages in the statements: turned into the program's, and back; the same one; how much it is. -/
import Derived.Test.YtcoecfpkihakoaaGreatDoorGz5
import Derived.Test.YtcoecfpkihakoaaGreatDoorGz6
import Derived.Test.YtcoecfpkihakoaaGreatDoorRecB
import Derived.Maps.RangeWalk
import Derived.Maps.OwnOps
import Derived.Maps.OwnSet
import Derived.BigQuiet
namespace Go.Proofs.YtcoecfpkihakoaaGreatDoor
open Go.RowKit
set_option maxRecDepth 10000 in
set_option maxHeartbeats 2000000 in
theorem backWire_any (m : Msg) (p : Option Addr) (n c : Nat) (w : World) :
    Calls Tryz.prog 22 #[msgA m (.slice p n c)] w fun e w' => e = .returned (msgA m (.slice p n c)) ∧ Below w.heap.size w w' := by
  obtain ⟨m1, m2, m3, m4, m5, m6, m7, mL⟩ := m
  unfold msgA
  simp only []
  go_enter Tryz.func22, Tryz.ntmps22
  go_wp2
  refine bodyPost_ret (v := .agg #[.string m1, .string m2, .string m3, .string m4, .int .i64 m5, .int .i64 m6, .bool m7, .slice p n c]) (by simp [results, Tryz.results22, go_sem]) rfl ⟨rfl, ?_⟩
  exact ((Below.refl _ _).alloc (Nat.le_refl _) _).alloc (by simp) _
set_option maxRecDepth 10000 in
set_option maxHeartbeats 4000000 in
theorem sameMsg_yes (m : Msg) (pa pb : Option Addr) (ca cb : Nat) (w : World) (hl : m.L.length ≤ 1000000) (ha : Rec verE w pa m.L) (hb : Rec verE w pb m.L) :
    Calls Tryz.prog 21 #[msgA m (.slice pa m.L.length ca), msgA m (.slice pb m.L.length cb)] w fun e w' => e = .returned (.bool true) ∧ Below w.heap.size w w' := by
  obtain ⟨m1, m2, m3, m4, m5, m6, m7, mL⟩ := m
  unfold msgA
  simp only [] at *
  obtain ⟨w1, hw1⟩ : ∃ w1, w1 = (w.alloc (.cells #[.string m1, .string m2, .string m3, .string m4, .int .i64 m5, .int .i64 m6, .bool m7, .slice pa mL.length ca] 44)).alloc (.cells #[.string m1, .string m2, .string m3, .string m4, .int .i64 m5, .int .i64 m6, .bool m7, .slice pb mL.length cb] 44) := ⟨_, rfl⟩
  have HW1 : Hid (w1 = (w.alloc (.cells #[.string m1, .string m2, .string m3, .string m4, .int .i64 m5, .int .i64 m6, .bool m7, .slice pa mL.length ca] 44)).alloc (.cells #[.string m1, .string m2, .string m3, .string m4, .int .i64 m5, .int .i64 m6, .bool m7, .slice pb mL.length cb] 44)) := hw1
  have hb1 : Below w.heap.size w w1 := by rw [hw1]; exact ((Below.refl _ _).alloc (Nat.le_refl _) _).alloc (by simp) _
  have hsv := sameVers_any pa pb mL mL ca cb w1 hl (ha.below hb1) (hb.below hb1)
  rw [decide_eq_true rfl] at hsv
  have HSV : Hid (Calls Tryz.prog 37 #[.slice pa mL.length ca, .slice pb mL.length cb] w1 fun e w' => e = .returned (.bool true) ∧ Below w1.heap.size w1 w') := hsv
  have HB1 : Hid (Below w.heap.size w w1) := hb1
  clear hsv hb1 hw1 ha hb
  go_enter Tryz.func21, Tryz.ntmps21
  go_wp2_with fail
  rw [← HW1.out]
  refine HSV.out.mono ?_
  rintro e w2 ⟨rfl, hb2⟩
  have HB2 : Hid (Below w.heap.size w w2) := HB1.out.trans (hb2.mono HB1.out.size)
  clear hb2 HSV HW1
  go_wp2
  go_ret
  exact ⟨rfl, HB2.out⟩
end Go.Proofs.YtcoecfpkihakoaaGreatDoor
/- Maps by text, of rows of versions: whatever lies in them, as it lies. -/
namespace Go.Proofs.YtcoecfpkihakoaaGreatDoor
open Go.RowKit
/-- A key as the map tells it. -/
def litK (x : ByteArray) : Lit := .string x.data.toList
theorem litK_inj {x y : ByteArray} (h : litK x = litK y) : x = y := by
  unfold litK at h
  injection h with h
  exact ByteArray.ext (Array.toList_inj.1 h)
theorem litK_key (x : ByteArray) : WideAt.IsKeyLit (litK x) := trivial
theorem sameKey_litK (x : ByteArray) : (litK x).sameKey (litK x) = true := WideAt.sameKey_self (litK_key x)
/-- Whatever lies in the map, as it lies. -/
def anyR (v : Value) : Option (DataW Value × List MemPlace) := some (.held v, [])
theorem keyedK : Maps.Keyed Tryz.prog 9 := Maps.string_keyed Tryz.underlying9
theorem keyOfK {x : ByteArray} (hx : x.size ≤ maxLen) : keyOf Tryz.prog 9 (.string x) = some (litK x) := WideMaps.keyOf_string_mk Tryz.underlying9 hx
theorem keyOfK_inv {v : Value} {l : Lit} (h : keyOf Tryz.prog 9 v = some l) : ∃ x : ByteArray, v = .string x ∧ l = litK x ∧ x.size ≤ maxLen := by
  cases v <;> simp [keyOf, Tryz.underlying9, mapKey] at h
  rename_i s
  exact ⟨s, rfl, h.2.symm, h.1⟩
/-- In the world w block b is a map that tells D. -/
abbrev OwnM (w : World) (b n : Nat) (D : DataW Value) : Prop := w.ownsMap Tryz.prog 9 anyR b n D
theorem OwnM.tight {w : World} {b n : Nat} {D : DataW Value} (h : OwnM w b n D) : OwnM w b (Maps.size D) D := by
  obtain ⟨es, clock, hb, F, hs, rfl⟩ := h
  refine ⟨es, clock, hb, F, ?_, rfl⟩
  rw [Maps.size_eq, length_sorted]
  simp
theorem OwnM.keys {w : World} {b n : Nat} {D : DataW Value} (h : OwnM w b n D) : ∃ es, D = .map es ∧ es.Pairwise (fun p q => p.1 ≠ q.1) ∧ ∀ p ∈ es, ∃ x : ByteArray, x.size ≤ maxLen ∧ p.1 = litK x := by
  have ht := World.ownsMap.tidy h keyedK
  obtain ⟨es0, clock, hb, F, hs, rfl⟩ := h
  obtain ⟨es1, he, hp⟩ := ht
  injection he with he
  refine ⟨_, rfl, by rw [he]; exact hp, fun p hp' => ?_⟩
  obtain ⟨x, hx, rfl⟩ := List.mem_map.1 (mem_sorted.1 hp')
  obtain ⟨y, hy⟩ := F.reads x hx
  obtain ⟨z, h1, h2, h3⟩ := keyOfK_inv (WideElems.rd_key hy)
  exact ⟨z, h3, by rw [WideElems.rg_of hy]; exact h2⟩
theorem length_le_sub {α : Type} : ∀ {l m : List α}, l.Nodup → (∀ x ∈ l, x ∈ m) → l.length ≤ m.length
  | [], _, _, _ => Nat.zero_le _
  | a :: l, m, hn, hs => by
    classical
    obtain ⟨h1, h2⟩ := List.nodup_cons.1 hn
    have ha := hs a (by simp)
    have := length_le_sub (l := l) (m := m.erase a) h2 (fun x hx => (List.mem_erase_of_ne (show x ≠ a from fun e => h1 (e ▸ hx))).2 (hs x (by simp [hx])))
    rw [List.length_erase_of_mem ha] at this
    have := List.length_pos_of_mem ha
    simp only [List.length_cons]
    omega
theorem OwnR.same {T : TypeId} {w w' : World} {B : Nat} {v : Value} {l : List Ver} (h : OwnR verE T w B v l) (hb : ∀ k, v.ownBlock = some k → w'.heap[k]? = w.heap[k]?) : OwnR verE T w' B v l := by
  obtain ⟨h1, h2⟩ := h
  refine ⟨h1, ?_⟩
  rcases h2 with h2 | ⟨g, cap, cur, hv, hbg, hg, hrest⟩
  · exact Or.inl h2
  · refine Or.inr ⟨g, cap, cur, hv, hbg, ?_, hrest⟩
    rw [hb g (by rw [hv]; rfl)]
    exact hg
theorem OwnM.same {w w' : World} {b n : Nat} {D : DataW Value} (h : OwnM w b n D) (hb : w'.heap[b]? = w.heap[b]?) : OwnM w' b n D := by
  obtain ⟨es, clock, h1, h2⟩ := h
  exact ⟨es, clock, hb.trans h1, h2⟩
theorem cell_same {w w' : World} {b : Nat} (h : w'.heap[b]? = w.heap[b]?) (o : Nat) : w'.cell? ⟨b, o, none⟩ = w.cell? ⟨b, o, none⟩ ∧ w'.frozen? ⟨b, o, none⟩ = w.frozen? ⟨b, o, none⟩ := ⟨World.cell?_of_block (a := ⟨b, o, none⟩) h, World.frozen?_of_block (a := ⟨b, o, none⟩) h⟩
/-- Into a map that is there. -/
structure SetOk (w w' : World) (b : Nat) (D : DataW Value) (key : ByteArray) (v : Value) : Prop where
  own : ∃ n, OwnM w' b n (D.put (litK key) (.held v))
  grown : w.grownBy w' (some b)
theorem set_step {w W : World} {b n : Nat} {D : DataW Value} {key : ByteArray} {v : Value} (hown : OwnM w b n D) (hn : n < maxLen) (hk : key.size ≤ maxLen) (hb : Below w.heap.size w W) :
    ∃ w', (Instr.mapUpdate 92 (.map (some b)) (.string key) v).run Tryz.prog W = .ok () w' ∧ SetOk w w' b D key v := by
  have hlt : b < w.heap.size := World.ownsMap.lt hown
  have hown2 : OwnM W b n D := hown.same (hb.block b hlt)
  obtain ⟨w', hrun, h1, h2⟩ := World.ownsMap.update hown2 keyedK Tryz.underlying92 hn (val := v) (d := .held v) (ps := []) (keyOfK hk) rfl
  refine ⟨w', hrun, ⟨_, h1⟩, ⟨h2.os.trans hb.os, h2.tape.trans hb.tape, h2.output.trans hb.output, Nat.le_trans hb.size h2.size, fun k hk hne => ?_⟩⟩
  rw [h2.block k (Nat.lt_of_lt_of_le hk hb.size) hne]
  exact hb.block k hk
theorem map_not_nil (b : Nat) (W : World) : Sem.run Tryz.prog (binOp .eql 92 (.map (some b)) (.map none)) W = .ok (.bool false) W := by kernel_rfl
theorem map_is_nil (W : World) : Sem.run Tryz.prog (binOp .eql 92 (.map none) (.map none)) W = .ok (.bool true) W := by kernel_rfl
theorem below_drew' {B : Nat} {w W : World} (h : Below B w.drew W) : Below B w W := ⟨h.os, h.tape, h.output, h.size, h.block⟩
end Go.Proofs.YtcoecfpkihakoaaGreatDoor
/- What is to be seen of a hold; a hold and its model beside each other. -/
namespace Go.Proofs.YtcoecfpkihakoaaGreatDoor
open Go.RowKit
/-- What of a hold is to be seen, as package hold answers it; Hd: in the world w the hold at block h, in the blocks of S, holds L, and is sealed or not. -/
structure HoldSee (Hd : World → Nat → (Nat → Prop) → List Kep → Bool → Prop) : Prop where
  lt : ∀ {w h S L s}, Hd w h S L s → ∀ k, S k → k < w.heap.size
  keep : ∀ {w w' h S L s}, Hd w h S L s → w.heap.size ≤ w'.heap.size → (∀ k, S k → w'.heap[k]? = w.heap[k]?) → Hd w' h S L s
  count : ∀ {w h S L s}, Hd w h S L s → Calls Tryz.prog 32 #[.pointer (some ⟨h, 0, none⟩)] w fun e w' => e = .returned (.int .i64 (L.length : Int)) ∧ Below w.heap.size w w'
  get : ∀ {w h S L s} (key : ByteArray), key.size ≤ maxLen → Hd w h S L s → Calls Tryz.prog 26 #[.pointer (some ⟨h, 0, none⟩), .string key] w fun e w' => (∃ p c, e = .returned (.slice p (getL L key).length c) ∧ Rec verE w' p (getL L key)) ∧ Below w.heap.size w w'
  last : ∀ {w h S L s} (key : ByteArray), key.size ≤ maxLen → Hd w h S L s → Calls Tryz.prog 36 #[.pointer (some ⟨h, 0, none⟩), .string key] w fun e w' => e = .returned (.tuple #[.agg #[.int .i64 (lastT (getL L key)).1, .int .i64 (lastT (getL L key)).2], .bool (decide (0 < (getL L key).length))]) ∧ Below w.heap.size w w'
  sealed_ : ∀ {w h S L s}, Hd w h S L s → Calls Tryz.prog 25 #[.pointer (some ⟨h, 0, none⟩)] w fun e w' => e = .returned (.bool s) ∧ Below w.heap.size w w'
  keys : ∀ {w h S L s}, Hd w h S L s → Calls Tryz.prog 34 #[.pointer (some ⟨h, 0, none⟩)] w fun e w' => (∃ p c, e = .returned (.slice p (keysTo L L.length).length c) ∧ Strs w' p (keysTo L L.length)) ∧ Below w.heap.size w w'
/-- A hold and its model, beside each other, both behind B. -/
structure Two (Hd : World → Nat → (Nat → Prop) → List Kep → Bool → Prop) (B : Nat) (w : World) (hp hm : Nat) (L : List Kep) (s : Bool) (S : Nat → Prop) : Prop where
  own : Hd w hp S L s
  base : ∀ k, S k → B ≤ k
  apart : ¬ S hm
  rows : L ≠ [] → ∀ b o c, w.cell? ⟨hm, 0, none⟩ = some (.slice (some ⟨b, o, none⟩) L.length c) → ¬ S b
  model : MHold w hm L s
  bm : B ≤ hm
  len : L.length ≤ 800000
  names : ∀ x ∈ L, x.1.size ≤ maxLen
theorem Two.below {Hd : World → Nat → (Nat → Prop) → List Kep → Bool → Prop} (hO : HoldSee Hd) {B : Nat} {w w' : World} {hp hm : Nat} {L : List Kep} {s : Bool} {S : Nat → Prop} (h : Two Hd B w hp hm L s S) (hb : Below w.heap.size w w') : Two Hd B w' hp hm L s S := by
  obtain ⟨p, c, q0, _⟩ := h.model.row
  refine ⟨hO.keep h.own hb.size (fun k hk => hb.block k (hO.lt h.own k hk)), h.base, h.apart, fun hne b o c hc => h.rows hne b o c ?_, h.model.below hb, h.bm, h.len, h.names⟩
  rw [hb.cell (p := ⟨hm, 0, none⟩) (lt_of_cellH q0)] at hc
  exact hc
theorem MHold.upd {S S' : Nat → Prop} {w w' : World} {h : Nat} {L : List Kep} {s : Bool} (hm : MHold w h L s) (hu : Upd S S' w w') (h1 : ¬ S h) (h2 : L ≠ [] → ∀ b o c, w.cell? ⟨h, 0, none⟩ = some (.slice (some ⟨b, o, none⟩) L.length c) → ¬ S b) : MHold w' h L s := by
  obtain ⟨p, c, q0, hr, hc, hn, hne⟩ := hm.row
  have hlt := lt_of_cellH q0
  have hblk := hu.block h hlt h1
  have hcell : ∀ o, w'.cell? ⟨h, o, none⟩ = w.cell? ⟨h, o, none⟩ := fun o => by unfold World.cell?; rw [hblk]
  have hfr : ∀ o, w'.frozen? ⟨h, o, none⟩ = w.frozen? ⟨h, o, none⟩ := fun o => by unfold World.frozen?; rw [hblk]
  refine ⟨⟨p, c, (hcell 0).trans q0, ?_, hc, hn, hne⟩, (hcell 1).trans hm.sealed_, (hfr 0).trans hm.free0, (hfr 1).trans hm.free1⟩
  by_cases hL : L = []
  · exact Or.inl hL
  rcases hr with hr | ⟨b, o, rfl, hltb, hcc⟩
  · exact Or.inl hr
  · have hb := hu.block b hltb (h2 hL b o c q0)
    exact Or.inr ⟨b, o, rfl, Nat.lt_of_lt_of_le hltb hu.size, fun i x hx j u hj => by
      have := hcc i x hx j u hj
      unfold World.cell? at this ⊢
      rw [hb]
      exact this⟩
/-- What was done to the hold: the model lies as it did. -/
theorem Two.upd {Hd : World → Nat → (Nat → Prop) → List Kep → Bool → Prop} {B : Nat} {w w' : World} {hp hm : Nat} {L : List Kep} {s : Bool} {S S' : Nat → Prop} (h : Two Hd B w hp hm L s S) (hu : Upd S S' w w') (hB : B ≤ w.heap.size) :
    MHold w' hm L s ∧ (∀ k, S' k → B ≤ k) ∧ ¬ S' hm ∧ (L ≠ [] → ∀ b o c, w'.cell? ⟨hm, 0, none⟩ = some (.slice (some ⟨b, o, none⟩) L.length c) → ¬ S' b ∧ b < w.heap.size) ∧ Below B w w' := by
  obtain ⟨p, c, q0, hr, _, hn, _⟩ := h.model.row
  have hlt := lt_of_cellH q0
  have hblk := hu.block hm hlt h.apart
  have hcell : w'.cell? ⟨hm, 0, none⟩ = w.cell? ⟨hm, 0, none⟩ := by unfold World.cell?; rw [hblk]
  have hnew : ∀ k, k < w.heap.size → ¬ S k → ¬ S' k := fun k hk h1 h2 => by
    rcases hu.new k h2 with h3 | h3
    · exact h1 h3
    · omega
  refine ⟨h.model.upd hu h.apart h.rows, fun k hk => ?_, hnew hm hlt h.apart, fun hL b o c' e => ?_, ⟨hu.os, hu.tape, hu.output, hu.size, fun k hk => hu.block k (by omega) (fun h1 => by have := h.base k h1; omega)⟩⟩
  · rcases hu.new k hk with h1 | h1
    · exact h.base k h1
    · omega
  · rw [hcell] at e
    have hbs : ¬ S b := h.rows hL b o c' e
    have hbl : b < w.heap.size := by
      rw [q0] at e
      obtain ⟨h1, _, _⟩ := Value.slice.inj (Option.some.inj e)
      rcases hr with h0 | ⟨b', o', hp', hlt', _⟩
      · exact absurd h0 hL
      · rw [h1] at hp'
        obtain ⟨rfl, _⟩ : b = b' ∧ o = o' := by simpa using hp'
        exact hlt'
    exact ⟨hnew b hbl hbs, hbl⟩
theorem keysTo_mem {L : List Kep} {x : ByteArray} : ∀ {i : Nat}, x ∈ keysTo L i → ∃ j, j < i ∧ (kepAt L j).1 = x
  | 0, h => by cases h
  | i + 1, h => by
    by_cases hc : (keysTo L i).length = 0 ∨ txt (keysTo L i) ((keysTo L i).length - 1) ≠ (kepAt L i).1
    · rw [keysTo_new hc] at h
      rcases List.mem_append.1 h with h1 | h1
      · obtain ⟨j, hj, e⟩ := keysTo_mem h1
        exact ⟨j, by omega, e⟩
      · exact ⟨i, by omega, (List.mem_singleton.1 h1).symm⟩
    · rw [keysTo_old hc] at h
      obtain ⟨j, hj, e⟩ := keysTo_mem h
      exact ⟨j, by omega, e⟩
theorem keysTo_get {L : List Kep} {x : ByteArray} (h : x ∈ keysTo L L.length) : 0 < (getL L x).length := by
  obtain ⟨j, hj, e⟩ := keysTo_mem h
  unfold getL
  rw [List.length_map]
  refine List.length_pos_of_mem (a := kepAt L j) (List.mem_filter.2 ⟨?_, by simpa using e⟩)
  have := kepAt_get hj
  exact List.mem_of_getElem? this
end Go.Proofs.YtcoecfpkihakoaaGreatDoor
/- The document's own hold: Keys. -/
namespace Go.Proofs.YtcoecfpkihakoaaGreatDoor
open Go.RowKit
set_option maxRecDepth 10000 in
set_option maxHeartbeats 8000000 in
theorem rkeys_any (h : Nat) (L : List Kep) (s : Bool) (w : World) (hl : L.length ≤ 900000) (hm : MHold w h L s) :
    Calls Tryz.prog 35 #[.pointer (some ⟨h, 0, none⟩)] w fun e w' => (∃ v, e = .returned v ∧ OwnT w' w.heap.size v (keysTo L L.length)) ∧ Below w.heap.size w w' := by
  obtain ⟨p, c, q0, hrec, hc, hn, hne⟩ := hm.row
  have HREC : Hid (Rec kepE w p L) := hrec
  have hlt := lt_of_cellH q0
  have HQ0 : Hid (w.cell? ⟨h, 0, none⟩ = some (.slice p L.length c)) := q0
  clear hrec hm q0 hne hn
  go_enter Tryz.func35, Tryz.ntmps35
  go_wp2
  go_loopw [3, 4] (fun v x wq => ∃ i : Nat, i ≤ L.length ∧ x = .int .i64 i ∧ OwnT wq w.heap.size v (keysTo L i) ∧ Below w.heap.size w wq) (fun _ x _ => L.length - (intOf x).toNat)
  case atStart => exact ⟨0, Nat.zero_le _, rfl, OwnT.nil _ _, Below.refl _ _⟩
  case round =>
    obtain ⟨i, hi, rfl, hO, hB⟩ := hrel
    obtain ⟨w1, rfl⟩ : ∃ w1, w1 = wr := ⟨_, rfl⟩
    obtain ⟨po, co, hvf, hSo, _, _, _⟩ := hO.form
    subst hvf
    have HO : Hid (OwnT w1 w.heap.size (.slice po (keysTo L i).length co) (keysTo L i)) := hO
    have HB : Hid (Below w.heap.size w w1) := hB
    have q0 : w1.cell? ⟨h, 0, none⟩ = some (.slice p L.length c) := (hB.cell (p := ⟨h, 0, none⟩) hlt).trans HQ0.out
    have hz1 : w.heap.size ≤ w1.heap.size := hB.size
    have hkl := keysTo_le L i
    clear hO hB
    by_cases hil : i < L.length
    · obtain ⟨b, o, hpp, hblt, c0, c1, c2, c3, c4, c5⟩ := kep_cells (HREC.out.below HB.out) hil
      subst hpp
      clear c1 c2 c3 c4 c5
      have HNEW := @keysTo_new L i
      have HOLD := @keysTo_old L i
      by_cases h0 : (keysTo L i).length = 0
      · have HNX : Hid (keysTo L (i + 1) = keysTo L i ++ [(kepAt L i).1]) := HNEW (Or.inl h0)
        have hks : keysTo L i = [] := List.length_eq_zero_iff.1 h0
        have HKS : Hid (keysTo L i = []) := hks
        rw [h0] at *
        clear HNEW HOLD hks hSo
        generalize (kepAt L i).1 = t at *
        go_wp2
        go_quiet (fail)
        have HB2 : Hid (Below w.heap.size w (w1.drewN nq)) := below_drewN HB.out nq
        have HO2 : Hid (OwnT (w1.drewN nq) w.heap.size (.slice po 0 co) []) := by
          have := HO.out
          rw [HKS.out] at this
          exact this.kept (below_drewN (Below.refl _ _) nq)
        have q0' : (w1.drewN nq).cell? ⟨h, 0, none⟩ = some (.slice (some ⟨b, o, none⟩) L.length c) := q0
        have c0' : (w1.drewN nq).cell? ⟨b, o + i * 6, none⟩ = some (.string t) := c0
        have hz2 : w.heap.size ≤ (w1.drewN nq).heap.size := hz1
        clear q0 c0 HO HB hz1
        generalize w1.drewN nq = w2 at HB2 HO2 q0' c0' hz2 ⊢
        go_wp2_with (first | (at_builtin; refine wpList_append_str rfl (.tmp 34) (.tmp 43) rfl w.heap.size (.slice po 0 co) [] rfl (HO2.out.kept ((Below.refl _ _).alloc (Nat.le_refl _) _)) ⟨w2.heap.size, 0, none⟩ t 1 rfl (by rw [World.cell?_alloc_at _ _ _ _ rfl]; rfl) (by decide) (by simp; omega) ?_; intro v3 w3 hO3 hb3))
        have HO3 : Hid (OwnT w3 w.heap.size v3 ([] ++ [t])) := hO3
        have HB3 : Hid (Below w.heap.size w w3) := (HB2.out.alloc hz2 _).trans hb3
        clear hO3 hb3
        go_wp2
        go_roundw
        case rel => exact ⟨i + 1, by omega, by go_num, by rw [HNX.out, HKS.out]; exact HO3.out, HB3.out⟩
        case measure => simp [intOf]; omega
      · by_cases he : txt (keysTo L i) ((keysTo L i).length - 1) = (kepAt L i).1
        · have HNX : Hid (keysTo L (i + 1) = keysTo L i) := HOLD (by
            rintro (h1 | h1)
            · exact h0 h1
            · exact h1 he)
          rcases hSo with hz | ⟨bo, oo, hpo, holt, hoc⟩
          · rw [hz] at h0; exact absurd rfl h0
          subst hpo
          have q1 := hoc ((keysTo L i).length - 1) (by omega)
          rw [he] at q1
          clear hoc HNEW HOLD he
          generalize (kepAt L i).1 = t at *
          generalize keysTo L i = ks at *
          have f1 : decide (ks.length = 0) = false := decide_eq_false h0
          have f2 : ((ks.length : Int) == 0) = false := by
            rw [beq_eq_false_iff_ne]
            omega
          have l3 : IntKind.i64.wrap ((ks.length : Int) - 1) = ((ks.length - 1 : Nat) : Int) := by rw [IntKind.wrap_i64]; omega
          have l5 : (ks.length : Int) - 1 < (ks.length : Int) := by omega
          have l6 : (0 : Int) ≤ (ks.length : Int) - 1 := by omega
          have l7 : ((ks.length : Int) - 1).toNat = ks.length - 1 := by omega
          go_wp2
          go_quiet (fail)
          go_wp2
          go_roundw
          case rel => exact ⟨i + 1, by omega, by go_num, by rw [HNX.out]; exact HO.out.kept (below_drewN (Below.refl _ _) _), below_drewN HB.out _⟩
          case measure => simp [intOf]; omega
        · have HNX : Hid (keysTo L (i + 1) = keysTo L i ++ [(kepAt L i).1]) := HNEW (Or.inr he)
          rcases hSo with hz | ⟨bo, oo, hpo, holt, hoc⟩
          · rw [hz] at h0; exact absurd rfl h0
          subst hpo
          have q1 := hoc ((keysTo L i).length - 1) (by omega)
          have d1 := toList_ne he
          have d2 := toList_beq he
          have d3 := bytes_beq he
          clear hoc HNEW HOLD he
          generalize txt (keysTo L i) ((keysTo L i).length - 1) = u at *
          generalize (kepAt L i).1 = t at *
          generalize keysTo L i = ks at *
          have f2 : ((ks.length : Int) == 0) = false := by
            rw [beq_eq_false_iff_ne]
            omega
          have l3 : IntKind.i64.wrap ((ks.length : Int) - 1) = ((ks.length - 1 : Nat) : Int) := by rw [IntKind.wrap_i64]; omega
          have l5 : (ks.length : Int) - 1 < (ks.length : Int) := by omega
          have l6 : (0 : Int) ≤ (ks.length : Int) - 1 := by omega
          have l7 : ((ks.length : Int) - 1).toNat = ks.length - 1 := by omega
          go_wp2
          go_quiet (fail)
          have HB2 : Hid (Below w.heap.size w (w1.drewN nq)) := below_drewN HB.out nq
          have HO2 : Hid (OwnT (w1.drewN nq) w.heap.size (.slice (some ⟨bo, oo, none⟩) ks.length co) ks) := HO.out.kept (below_drewN (Below.refl _ _) nq)
          have q0' : (w1.drewN nq).cell? ⟨h, 0, none⟩ = some (.slice (some ⟨b, o, none⟩) L.length c) := q0
          have c0' : (w1.drewN nq).cell? ⟨b, o + i * 6, none⟩ = some (.string t) := c0
          have hz2 : w.heap.size ≤ (w1.drewN nq).heap.size := hz1
          clear q0 c0 HO HB hz1 q1 d1 d2 d3
          generalize w1.drewN nq = w2 at HB2 HO2 q0' c0' hz2 ⊢
          go_wp2_with (first | (at_builtin; refine wpList_append_str rfl (.tmp 34) (.tmp 43) rfl w.heap.size (.slice (some ⟨bo, oo, none⟩) ks.length co) ks rfl (HO2.out.kept ((Below.refl _ _).alloc (Nat.le_refl _) _)) ⟨w2.heap.size, 0, none⟩ t 1 rfl (by rw [World.cell?_alloc_at _ _ _ _ rfl]; rfl) (by omega) (by simp; omega) ?_; intro v3 w3 hO3 hb3))
          have HO3 : Hid (OwnT w3 w.heap.size v3 (ks ++ [t])) := hO3
          have HB3 : Hid (Below w.heap.size w w3) := (HB2.out.alloc hz2 _).trans hb3
          clear hO3 hb3
          go_wp2
          go_roundw
          case rel => exact ⟨i + 1, by omega, by go_num, by rw [HNX.out]; exact HO3.out, HB3.out⟩
          case measure => simp [intOf]; omega
    · have hie : i = L.length := by omega
      subst hie
      go_wp2
      go_ret
      exact ⟨⟨_, rfl, HO.out⟩, HB.out⟩
end Go.Proofs.YtcoecfpkihakoaaGreatDoor
/- What holds of a member at any time: few configurations, each once, few versions, short names. -/
namespace Go.Proofs.YtcoecfpkihakoaaGreatDoor
open Go.RowKit
/-- Numbers that an int can be. -/
def CfIn (c : Int) : Prop := -9223372036854775808 ≤ c ∧ c ≤ 9223372036854775807
structure MMem.Fine (m : MMem) : Prop where
  few : m.L.length ≤ 12
  held : ∀ i, (cfdAt m.L i).2.1.length ≤ 60
  names : ∀ i, ∀ x ∈ (cfdAt m.L i).2.1, x.1.size ≤ 16
  one : ∀ i j, i < m.L.length → j < m.L.length → (cfdAt m.L i).1 = (cfdAt m.L j).1 → i = j
  ints : ∀ i, i < m.L.length → CfIn (cfdAt m.L i).1
theorem cfdAt_out {L : List Cfd} {i : Nat} (h : L.length ≤ i) : cfdAt L i = (0, [], false) := by
  unfold cfdAt
  rw [List.getD_eq_getElem?_getD, List.getElem?_eq_none h]
  rfl
theorem MMem.Fine.nil (name : ByteArray) : MMem.Fine ⟨name, []⟩ :=
  ⟨Nat.zero_le _, fun i => by rw [cfdAt_out (Nat.zero_le _)]; exact Nat.zero_le _, fun i x hx => (by rw [cfdAt_out (Nat.zero_le _)] at hx; cases hx), fun i _ hi _ _ => absurd hi (Nat.not_lt_zero _), fun i hi => absurd hi (Nat.not_lt_zero _)⟩
theorem MMem.Fine.idx {m : MMem} (h : m.Fine) {i : Nat} (hi : i < m.L.length) : cfdI m.L (cfdAt m.L i).1 = i := by
  have hlt : cfdI m.L (cfdAt m.L i).1 < m.L.length := by
    rcases Nat.lt_or_ge (cfdI m.L (cfdAt m.L i).1) m.L.length with h1 | h1
    · exact h1
    · exact absurd rfl (cfdI_before (Nat.lt_of_lt_of_le hi h1))
  exact h.one _ _ hlt hi (cfdI_here hlt)
theorem cfdI_none {L : List Cfd} {c : Int} (h : ∀ i, i < L.length → (cfdAt L i).1 ≠ c) : ¬ cfdI L c < L.length := fun hlt => h _ hlt (cfdI_here hlt)
theorem cfdAt_app (L : List Cfd) (x : Cfd) (i : Nat) : cfdAt (L ++ [x]) i = if i < L.length then cfdAt L i else if i = L.length then x else (0, [], false) := by
  unfold cfdAt
  rw [List.getD_eq_getElem?_getD, List.getD_eq_getElem?_getD]
  split
  · rename_i h
    rw [List.getElem?_append_left h]
  · rename_i h
    split
    · rename_i e
      rw [e, List.getElem?_append_right (Nat.le_refl _), Nat.sub_self]
      rfl
    · rw [List.getElem?_eq_none (by rw [List.length_append]; show L.length + 1 ≤ i; omega)]
      rfl
theorem putScan_few {L : List Kep} {key : ByteArray} {v : Ver} : ∀ (m i : Nat), putScan L key v i m = 0 → L.length < 60
  | 0, i, h => by
    have h' : (if 60 ≤ L.length then (7 : Int) else 0) = 0 := h
    by_cases hl : 60 ≤ L.length
    · rw [if_pos hl] at h'; cases h'
    · omega
  | m + 1, i, h => by
    have h' : (if sameTag (kepAt L i) key v then (if (kepAt L i).2 = v then (-1 : Int) else 6) else putScan L key v (i + 1) m) = 0 := h
    split at h'
    · split at h' <;> cases h'
    · exact putScan_few m (i + 1) h'
theorem putR_fine {L : List Kep} {s : Bool} {key : ByteArray} {v : Ver} (hl : L.length ≤ 60) (hn : ∀ x ∈ L, x.1.size ≤ 16) (hk : isN key = true) : (putR L s key v).2.length ≤ 60 ∧ ∀ x ∈ (putR L s key v).2, x.1.size ≤ 16 := by
  unfold putR
  split
  · rename_i h0
    have hlt : L.length < 60 := by
      unfold putErr at h0
      split at h0
      · cases h0
      · split at h0
        · exact putScan_few _ _ h0
        · cases h0
    refine ⟨?_, fun x hx => ?_⟩
    · show (L.take _ ++ [(key, v)] ++ L.drop _).length ≤ 60
      rw [List.length_append, List.length_append, List.length_take, List.length_drop]
      show min _ _ + 1 + _ ≤ 60
      omega
    · have hx' : x ∈ L.take (placeN L key v) ++ [(key, v)] ++ L.drop (placeN L key v) := hx
      rcases List.mem_append.1 hx' with h1 | h1
      · rcases List.mem_append.1 h1 with h2 | h2
        · exact hn x (List.mem_of_mem_take h2)
        · rw [List.mem_singleton.1 h2]
          exact (isN_size hk).2
      · exact hn x (List.mem_of_mem_drop h1)
  · split <;> exact ⟨hl, hn⟩
theorem MMem.Fine.held_ {m my : MMem} (h : m.Fine) {c : Int} (hci : CfIn c) (e : m.held c = some my) : my.Fine ∧ cfdI m.L c < my.L.length := by
  unfold MMem.held at e
  split at e
  · rename_i hlt
    rw [← Option.some.inj e]
    exact ⟨h, hlt⟩
  · rename_i hnl
    split at e
    · cases e
    · rename_i h12
      rw [← Option.some.inj e]
      have hle := cfdI_le m.L c
      have hc : ∀ i, i < m.L.length → (cfdAt m.L i).1 ≠ c := fun i hi => cfdI_before (by omega)
      have hL : (m.L ++ [(c, ([] : List Kep), false)]).length = m.L.length + 1 := by rw [List.length_append]; rfl
      refine ⟨⟨by show (m.L ++ [_]).length ≤ 12; rw [hL]; omega, fun i => ?_, fun i x hx => ?_, fun i j hi hj e => ?_, fun i hi => ?_⟩, by show _ < (m.L ++ [_]).length; rw [hL]; omega⟩
      · show (cfdAt (m.L ++ [_]) i).2.1.length ≤ 60
        rw [cfdAt_app]
        split
        · exact h.held i
        · split <;> exact Nat.zero_le _
      · have hx' : x ∈ (cfdAt (m.L ++ [(c, ([] : List Kep), false)]) i).2.1 := hx
        rw [cfdAt_app] at hx'
        split at hx'
        · exact h.names i x hx'
        · split at hx' <;> cases hx'
      · have hi' : i < m.L.length + 1 := by rw [← hL]; exact hi
        have hj' : j < m.L.length + 1 := by rw [← hL]; exact hj
        have e' : (cfdAt (m.L ++ [(c, ([] : List Kep), false)]) i).1 = (cfdAt (m.L ++ [(c, ([] : List Kep), false)]) j).1 := e
        rw [cfdAt_app, cfdAt_app] at e'
        by_cases h1 : i < m.L.length <;> by_cases h2 : j < m.L.length
        · rw [if_pos h1, if_pos h2] at e'
          exact h.one i j h1 h2 e'
        · rw [if_pos h1, if_neg h2, if_pos (by omega)] at e'
          exact absurd e' (hc i h1)
        · rw [if_neg h1, if_pos (by omega), if_pos h2] at e'
          exact absurd e'.symm (hc j h2)
        · omega
      · have hi' : i < m.L.length + 1 := by rw [← hL]; exact hi
        show CfIn (cfdAt (m.L ++ [(c, ([] : List Kep), false)]) i).1
        rw [cfdAt_app]
        by_cases h1 : i < m.L.length
        · rw [if_pos h1]; exact h.ints i h1
        · rw [if_neg h1, if_pos (by omega)]; exact hci
theorem MMem.Fine.put_ {m : MMem} (h : m.Fine) {i : Nat} (hi : i < m.L.length) {L : List Kep} {s : Bool} (hl : L.length ≤ 60) (hn : ∀ x ∈ L, x.1.size ≤ 16) : (m.put i (L, s)).Fine := by
  have hf : ∀ j, (cfdAt (m.put i (L, s)).L j).1 = (cfdAt m.L j).1 := fun j => by
    rw [put_at hi]
    split
    · rename_i e; rw [e]
    · rfl
  refine ⟨by rw [put_length]; exact h.few, fun j => ?_, fun j x hx => ?_, fun j k hj hk e => ?_, fun j hj => by rw [hf]; rw [put_length] at hj; exact h.ints j hj⟩
  · rw [put_at hi]
    split
    · exact hl
    · exact h.held j
  · rw [put_at hi] at hx
    split at hx
    · exact hn x hx
    · exact h.names j x hx
  · rw [put_length] at hj hk
    rw [hf, hf] at e
    exact h.one j k hj hk e
theorem hear_fine {m : MMem} (h : m.Fine) (x : Msg) (hci : CfIn x.config) : (m.hear x).1.Fine := by
  unfold MMem.hear
  split
  · exact h
  · rename_i hno
    have hnm : isN x.key = true := by
      cases hq : isN x.key with
      | true => rfl
      | false => exact absurd (Or.inl (Or.inr (Or.inr hq))) hno
    cases hh : m.held x.config with
    | none => exact h
    | some my =>
      obtain ⟨g1, g2⟩ := h.held_ hci hh
      show (my.does (cfdI m.L x.config) x).1.Fine
      unfold MMem.does
      split
      · exact g1
      · split
        · exact g1.put_ g2 (g1.held _) (g1.names _)
        · obtain ⟨a1, a2⟩ := putR_fine (s := (cfdAt my.L (cfdI m.L x.config)).2.2) (v := verAt x.L 0) (g1.held (cfdI m.L x.config)) (g1.names _) hnm
          exact g1.put_ g2 a1 a2
theorem getL_few {L : List Kep} {key : ByteArray} (h : L.length ≤ 60) : (getL L key).length ≤ 60 := Nat.le_trans (getL_le L key) h
/-- What is answered is one message at most, of few versions. -/
theorem hear_few {m : MMem} (h : m.Fine) (x : Msg) (hci : CfIn x.config) : (m.hear x).2.length ≤ 1 ∧ ∀ y ∈ (m.hear x).2, y.L.length ≤ 60 := by
  have hz : ([] : List Msg).length ≤ 1 ∧ ∀ y ∈ ([] : List Msg), y.L.length ≤ 60 := ⟨Nat.zero_le _, fun y hy => by cases hy⟩
  have ho : ∀ z : Msg, z.L.length ≤ 60 → [z].length ≤ 1 ∧ ∀ y ∈ [z], y.L.length ≤ 60 := fun z hz => ⟨Nat.le_refl _, fun y hy => by rw [List.mem_singleton.1 hy]; exact hz⟩
  unfold MMem.hear
  split
  · exact hz
  · cases hh : m.held x.config with
    | none => exact hz
    | some my =>
      obtain ⟨g1, g2⟩ := h.held_ hci hh
      show (my.does (cfdI m.L x.config) x).2.length ≤ 1 ∧ ∀ y ∈ (my.does (cfdI m.L x.config) x).2, y.L.length ≤ 60
      unfold MMem.does
      split
      · exact ho _ (getL_few (g1.held _))
      · split
        · exact ho _ (getL_few (g1.held _))
        · dsimp only
          split
          · exact hz
          · exact ho _ (Nat.zero_le _)
end Go.Proofs.YtcoecfpkihakoaaGreatDoor
/- What package serve is asked to answer, of messages. -/
namespace Go.Proofs.YtcoecfpkihakoaaGreatDoor
open Go.RowKit
/-- A message that a machine can bear: no text and no list has more bytes than memory. -/
def MsgR (x : Msg) : Prop := (x.from_.size ≤ 140737488351232 ∧ x.to_.size ≤ 140737488351232 ∧ x.kind.size ≤ 140737488351232 ∧ x.key.size ≤ 140737488351232) ∧ x.L.length ≤ 2932031007317 ∧ ∀ v ∈ x.L, v.text.size ≤ 140737488351232
/-- In the world w the messages l lie from p on, in blocks that are O. -/
def MsgsO (O : Nat → Prop) (w : World) (p : Option Addr) (l : List Msg) : Prop := ∃ ml : List (Msg × Lv), ml.map Prod.fst = l ∧ Rec mE w p ml ∧ (∀ x ∈ ml, HasL w x ∧ ∀ b o, x.2.1 = some ⟨b, o, none⟩ → O b) ∧ ∀ b o, p = some ⟨b, o, none⟩ → O b
theorem MsgsO.mono {O O' : Nat → Prop} {w : World} {p : Option Addr} {l : List Msg} (h : MsgsO O w p l) (hO : ∀ b, O b → O' b) : MsgsO O' w p l := by
  obtain ⟨ml, h1, h2, h3, h4⟩ := h
  exact ⟨ml, h1, h2, fun x hx => ⟨(h3 x hx).1, fun b o e => hO b ((h3 x hx).2 b o e)⟩, fun b o e => hO b (h4 b o e)⟩
theorem MsgsO.new {B : Nat} {O : Nat → Prop} {w : World} {p : Option Addr} {l : List Msg} (h : MsgsO O w p l) (hO : ∀ b, O b → B ≤ b) : MsgsN B w p l := h.mono hO
theorem MsgsO.nil (O : Nat → Prop) (w : World) : MsgsO O w none [] := ⟨[], rfl, Rec.nil _ _, (fun x hx => by cases hx), (fun b o e => by cases e)⟩
/-- Where those blocks are not written. -/
theorem MsgsO.keep {O : Nat → Prop} {w w' : World} {p : Option Addr} {l : List Msg} (h : MsgsO O w p l) (hs : w.heap.size ≤ w'.heap.size) (hk : ∀ k, k < w.heap.size → O k → w'.heap[k]? = w.heap[k]?) : MsgsO O w' p l := by
  obtain ⟨ml, h1, h2, h3, h4⟩ := h
  refine ⟨ml, h1, ?_, fun x hx => ⟨?_, (h3 x hx).2⟩, h4⟩
  · rcases h2 with h0 | ⟨b, o, hp, hlt, hc⟩
    · exact Or.inl h0
    · exact Or.inr ⟨b, o, hp, Nat.lt_of_lt_of_le hlt hs, fun j x hx jj u hu => (World.cell?_of_block (a := ⟨b, o + j * mE.k + jj, none⟩) (hk b hlt (h4 b o hp))).trans (hc j x hx jj u hu)⟩
  · obtain ⟨g1, g2⟩ := h3 x hx
    refine ⟨g1.len, ?_, g1.room, g1.empty⟩
    rcases g1.recs with h0 | ⟨b, o, hp, hlt, hc⟩
    · exact Or.inl h0
    · exact Or.inr ⟨b, o, hp, Nat.lt_of_lt_of_le hlt hs, fun j y hy jj u hu => (World.cell?_of_block (a := ⟨b, o + j * verE.k + jj, none⟩) (hk b hlt (g2 b o hp))).trans (hc j y hy jj u hu)⟩
/-- Sv w B h S m: in the world w block h is the member m, what it has of its own lies in the blocks of S, from B on. X: what is asked of the world besides. Hd: what a hold is. -/
structure ServeOk0 (ad : Nat → Addr) (X : World → Prop) (Hd : World → Nat → (Nat → Prop) → List Kep → Bool → Prop) (Sv : World → Nat → Nat → (Nat → Prop) → MMem → Prop) : Prop where
  inS : ∀ {w B h S m}, Sv w B h S m → ∀ k, S k → B ≤ k ∧ k < w.heap.size
  keep : ∀ {w w' B h S m}, Sv w B h S m → Below B w w' → (∀ k, S k → w'.heap[k]? = w.heap[k]?) → Sv w' B h S m
  new : ∀ (name : ByteArray) (w : World), name.size ≤ 1000 → X w → Calls Tryz.prog 6 #[.string name] w fun e w' => ((isN name = true ∧ ∃ h S, e = .returned (.tuple #[.pointer (some ⟨h, 0, none⟩), .nilIface]) ∧ Sv w' w.heap.size h S ⟨name, []⟩) ∨ (isN name = false ∧ ∃ ev, e = .returned (.tuple #[.pointer none, ev]) ∧ BareIs ad ev 4)) ∧ Below w.heap.size w w'
  hear : ∀ {w B h S m} (x : Msg × Lv), Sv w B h S m → m.Fine → HasL w x → (∀ b o, x.2.1 = some ⟨b, o, none⟩ → ¬ S b) → MsgR x.1 → CfIn x.1.config → (∀ W : World, w.heap.size ≤ W.heap.size → (∀ k, k < w.heap.size → ¬ S k → W.heap[k]? = w.heap[k]?) → X W) → Calls Tryz.prog 11 #[.pointer (some ⟨h, 0, none⟩), msgA x.1 (lvV x.2)] w fun e w' => ∃ p c S', e = .returned (.slice p (m.hear x.1).2.length c) ∧ MsgsO (fun b => w.heap.size ≤ b ∧ b < w'.heap.size ∧ ¬ S' b) w' p (m.hear x.1).2 ∧ Sv w' B h S' (m.hear x.1).1 ∧ Upd S S' w w'
  hold : ∀ {w B h S m} (c : Int), CfIn c → Sv w B h S m → Calls Tryz.prog 14 #[.pointer (some ⟨h, 0, none⟩), .int .i64 c] w fun e w' => ((cfdI m.L c < m.L.length ∧ ∃ hb Sh, e = .returned (.pointer (some ⟨hb, 0, none⟩)) ∧ Hd w' hb Sh (cfdAt m.L (cfdI m.L c)).2.1 (cfdAt m.L (cfdI m.L c)).2.2 ∧ ∀ k, Sh k → S k) ∨ (¬ cfdI m.L c < m.L.length ∧ e = .returned (.pointer none))) ∧ Below w.heap.size w w'
end Go.Proofs.YtcoecfpkihakoaaGreatDoor
/- What came in, of the laws of package serve. -/
namespace Go.Proofs.YtcoecfpkihakoaaGreatDoor
open Go.RowKit
/-- What came in. -/
structure SvIn (X : World → Prop) (l : List Msg) (lp : Option Addr) (w : World) : Prop where
  errs : ∀ V : World, w.heap.size ≤ V.heap.size → (∀ k, k < w.heap.size → V.heap[k]? = w.heap[k]?) → X V
  few : l.length ≤ 140737488351232
  room : ∀ m ∈ l, MsgR m
  msgs : MsgsAt w lp l
  ints : ∀ m ∈ l, CfIn m.config
end Go.Proofs.YtcoecfpkihakoaaGreatDoor
/- What package serve is asked to answer. -/
namespace Go.Proofs.YtcoecfpkihakoaaGreatDoor
open Go.RowKit
/-- As ServeOk0; and what is to be seen of its holds. -/
structure ServeOk (ad : Nat → Addr) (X : World → Prop) (Hd : World → Nat → (Nat → Prop) → List Kep → Bool → Prop) (Sv : World → Nat → Nat → (Nat → Prop) → MMem → Prop) : Prop extends ServeOk0 ad X Hd Sv where
  see : HoldSee Hd
  wipe : ∀ {w B h S m}, Sv w B h S m → Calls Tryz.prog 16 #[.pointer (some ⟨h, 0, none⟩)] w fun e w' => e = .returned (.tuple #[]) ∧ ∃ S', Sv w' B h S' ⟨m.name, []⟩ ∧ Upd S S' w w'
end Go.Proofs.YtcoecfpkihakoaaGreatDoor
/- How much a message is, reckoned in an int, whatever it is. -/
namespace Go.Proofs.YtcoecfpkihakoaaGreatDoor
open Go.RowKit
/-- The sum as an int holds it. -/
def wbulkV (z : Int) (l : List Ver) : Int := l.foldl (fun z v => wrap64 (wrap64 (z + 40) + (v.text.size : Int))) z
def wbulkN (m : Msg) : Int := wbulkV ((m.from_.size : Int) + m.to_.size + m.kind.size + m.key.size) m.L
theorem wbulkV_take {z : Int} {l : List Ver} {i : Nat} (h : i < l.length) : wbulkV z (l.take (i + 1)) = wrap64 (wrap64 (wbulkV z (l.take i) + 40) + ((verAt l i).text.size : Int)) := by
  unfold wbulkV
  rw [List.take_add_one, verAt_get h, List.foldl_append]
  rfl
set_option maxRecDepth 10000 in
set_option maxHeartbeats 4000000 in
theorem bulk_all (m : Msg) (p : Option Addr) (c : Nat) (w : World) (hr : Rec verE w p m.L) (hl : MsgR m) :
    Calls Tryz.prog 17 #[msgA m (.slice p m.L.length c)] w fun e w' => e = .returned (.int .i64 (wbulkN m)) ∧ Below w.heap.size w w' := by
  obtain ⟨m1, m2, m3, m4, m5, m6, m7, mL⟩ := m
  unfold msgA
  unfold wbulkN
  obtain ⟨⟨l1, l2, l3, l4⟩, l5, l6⟩ := hl
  simp only [] at *
  obtain ⟨w1, hw1⟩ : ∃ w1, w1 = w.alloc (.cells #[.string m1, .string m2, .string m3, .string m4, .int .i64 m5, .int .i64 m6, .bool m7, .slice p mL.length c] 44) := ⟨_, rfl⟩
  have HW1 : Hid (w1 = w.alloc (.cells #[.string m1, .string m2, .string m3, .string m4, .int .i64 m5, .int .i64 m6, .bool m7, .slice p mL.length c] 44)) := hw1
  have hb1 : Below w.heap.size w w1 := by rw [hw1]; exact (Below.refl _ _).alloc (Nat.le_refl _) _
  have q7 : w1.cell? ⟨w.heap.size, 7, none⟩ = some (.slice p mL.length c) := by rw [hw1, World.cell?_alloc_at _ _ _ _ rfl]; rfl
  have HR : Hid (Rec verE w1 p mL) := hr.below hb1
  have HB1 : Hid (Below w.heap.size w w1) := hb1
  have HTX : Hid (∀ v ∈ mL, v.text.size ≤ 140737488351232) := l6
  obtain ⟨z0, hz0⟩ : ∃ z : Int, z = (m1.size : Int) + m2.size + m3.size + m4.size := ⟨_, rfl⟩
  have HZ0 : Hid (z0 = (m1.size : Int) + m2.size + m3.size + m4.size) := hz0
  rw [← hz0]
  have HNX : Hid (∀ i, i < mL.length → wbulkV z0 (mL.take (i + 1)) = wrap64 (wrap64 (wbulkV z0 (mL.take i) + 40) + ((verAt mL i).text.size : Int))) := fun i hi => wbulkV_take hi
  have HEN : Hid (wbulkV z0 (mL.take mL.length) = wbulkV z0 mL) := by show _ = _; rw [List.take_length]
  clear l6
  clear hw1 hb1 hr hz0
  go_enter Tryz.func17, Tryz.ntmps17
  go_wp2
  rw [show w.alloc (.cells #[.string m1, .string m2, .string m3, .string m4, .int .i64 m5, .int .i64 m6, .bool m7, .slice p mL.length c] 44) = w1 from HW1.out.symm]
  clear HW1
  go_loopw [3, 4] (fun x i wr => ∃ k : Nat, k ≤ mL.length ∧ i = .int .i64 k ∧ x = .int .i64 (wbulkV z0 (mL.take k)) ∧ wr = w1) (fun _ i _ => mL.length - (intOf i).toNat)
  case atStart => exact ⟨0, Nat.zero_le _, rfl, by rw [show wbulkV z0 (mL.take 0) = z0 from rfl, HZ0.out], rfl⟩
  case round =>
    obtain ⟨k, hk, rfl, rfl, hwr⟩ := hrel
    subst hwr
    by_cases hkl : k < mL.length
    · obtain ⟨b, o, hpp, hblt, c0, c1, c2, c3, c4⟩ := ver_cells HR.out hkl
      subst hpp
      have HNXT : Hid (wbulkV z0 (mL.take (k + 1)) = wrap64 (wrap64 (wbulkV z0 (mL.take k) + 40) + ((verAt mL k).text.size : Int))) := HNX.out k hkl
      have hts : (verAt mL k).text.size ≤ 140737488351232 := HTX.out _ (List.mem_of_getElem? (verAt_get hkl))
      generalize verAt mL k = x at *
      obtain ⟨xn, xw, xs, xa, xt⟩ := x
      simp only [] at *
      generalize wbulkV z0 (mL.take k) = q at *
      go_wp2
      go_roundw
      case rel => exact ⟨k + 1, by omega, by go_num, by rw [HNXT.out], trivial⟩
      case measure => simp [intOf]; omega
    · obtain rfl : k = mL.length := by omega
      rw [HEN.out]
      go_wp2
      go_ret
      exact ⟨rfl, HB1.out⟩
end Go.Proofs.YtcoecfpkihakoaaGreatDoor
/- The laws' own first look at package serve: a member answers. -/
namespace Go.Proofs.YtcoecfpkihakoaaGreatDoor
open Go.RowKit
def mem0 : MMem := ⟨⟨#[97]⟩, []⟩
def msg0 : Msg := ⟨⟨#[99, 48]⟩, ⟨#[97]⟩, ⟨#[108, 111, 111, 107]⟩, ⟨#[107]⟩, 0, 0, false, []⟩
theorem isN_a : isN ⟨#[97]⟩ = true := by decide +kernel
theorem isN_k : isN ⟨#[107]⟩ = true := by decide +kernel
theorem hear0 : mem0.hear msg0 = (⟨⟨#[97]⟩, [(0, [], false)]⟩, [⟨⟨#[97]⟩, ⟨#[99, 48]⟩, ⟨#[116, 111, 108, 100]⟩, ⟨#[107]⟩, 0, 0, false, []⟩]) := by
  have h1 : ¬ (mem0.off msg0 ∨ oddK msg0) := by
    rintro (h | h)
    · rcases h with h | h | h
      · exact h rfl
      · exact absurd h (by decide)
      · rw [show isN msg0.key = true from isN_k] at h; cases h
    · exact h.1 rfl
  unfold MMem.hear
  rw [if_neg h1]
  rfl
theorem bulk0 : MsgR msg0 := ⟨⟨by decide, by decide, by decide, by decide⟩, by decide, fun v hv => by cases hv⟩
set_option maxRecDepth 10000 in
set_option maxHeartbeats 4000000 in
theorem answers_any {ad : Nat → Addr} {X : World → Prop} {Hd : World → Nat → (Nat → Prop) → List Kep → Bool → Prop} {Sv : World → Nat → Nat → (Nat → Prop) → MMem → Prop} (hO : ServeOk0 ad X Hd Sv) (w : World) (hX : ∀ V : World, w.heap.size ≤ V.heap.size → (∀ k, k < w.heap.size → V.heap[k]? = w.heap[k]?) → X V) :
    Calls Tryz.prog 4 #[] w fun e w' => e = .returned (.bool true) ∧ Below w.heap.size w w' := by
  have HN := hO.new ⟨#[97]⟩ w (by decide) (hX w (Nat.le_refl _) (fun _ _ => rfl))
  have HO : Hid (ServeOk0 ad X Hd Sv) := hO
  have HX : Hid (∀ V : World, w.heap.size ≤ V.heap.size → (∀ k, k < w.heap.size → V.heap[k]? = w.heap[k]?) → X V) := hX
  clear hO hX
  go_enter Tryz.func4, Tryz.ntmps4
  go_wp2_with fail
  refine HN.mono ?_
  rintro e w1 ⟨hq, hb1⟩
  rcases hq with ⟨_, h, S, rfl, hS1⟩ | ⟨hn, _⟩
  rotate_left
  · rw [isN_a] at hn; cases hn
  have hin := HO.out.inS hS1
  have HHE := HO.out.hear (msg0, (none, 0, 0)) hS1 (MMem.Fine.nil _) ⟨rfl, Or.inl rfl, Nat.le_refl _, fun _ => ⟨rfl, rfl⟩⟩ (fun b o e => by cases e) bulk0 ⟨by decide, by decide⟩ (fun V hs hk => HX.out V (Nat.le_trans hb1.size hs) (fun k hk0 => (hk k (Nat.lt_of_lt_of_le hk0 hb1.size) (fun hS => by have := (hin k hS).1; omega)).trans (hb1.block k hk0)))
  have HIN : Hid (∀ k, S k → w.heap.size ≤ k ∧ k < w1.heap.size) := hin
  have HB1 : Hid (Below w.heap.size w w1) := hb1
  clear hS1 hb1 HN hin
  go_wp2_with fail
  refine HHE.mono ?_
  rintro e w2 ⟨p, c, S', rfl, hm, hA2, hu⟩
  have eh : MMem.hear ⟨⟨#[97]⟩, []⟩ msg0 = (⟨⟨#[97]⟩, [(0, [], false)]⟩, [⟨⟨#[97]⟩, ⟨#[99, 48]⟩, ⟨#[116, 111, 108, 100]⟩, ⟨#[107]⟩, 0, 0, false, []⟩]) := hear0
  rw [eh] at hm hA2 ⊢
  have HB2 : Hid (Below w.heap.size w w2) := HB1.out.trans ⟨hu.os, hu.tape, hu.output, hu.size, fun k hk => hu.block k (Nat.lt_of_lt_of_le hk HB1.out.size) (fun hs => by have := (HIN.out k hs).1; omega)⟩
  obtain ⟨ml, hml, hr, _⟩ := hm
  obtain ⟨x, rfl⟩ : ∃ x, ml = [x] := List.length_eq_one_iff.1 (by have := congrArg List.length hml; simpa using this)
  have hx : x.1 = ⟨⟨#[97]⟩, ⟨#[99, 48]⟩, ⟨#[116, 111, 108, 100]⟩, ⟨#[107]⟩, 0, 0, false, []⟩ := by simpa using hml
  obtain ⟨b, o, hpp, hblt, d0, d1, d2, d3, d4, d5, d6, d7⟩ := msg_cells hr (i := 0) (by simp)
  simp only [List.getElem_cons_zero, hx, Nat.zero_mul, Nat.add_zero] at d1 d2
  have HH0 : Hid (Calls Tryz.prog 14 #[.pointer (some ⟨h, 0, none⟩), .int .i64 0] w2 fun e w' => ∃ hb, e = .returned (.pointer (some ⟨hb, 0, none⟩)) ∧ Below w2.heap.size w2 w') := by
    refine (HO.out.hold 0 ⟨by decide, by decide⟩ hA2).mono fun e w' hq => ?_
    obtain ⟨hq, hb⟩ := hq
    rcases hq with ⟨_, hb', Sh, e1, _⟩ | ⟨hn, _⟩
    · exact ⟨hb', e1, hb⟩
    · exact absurd (by decide) hn
  have HH1 : Hid (∀ W, Below w2.heap.size w2 W → Calls Tryz.prog 14 #[.pointer (some ⟨h, 0, none⟩), .int .i64 1] W fun e w' => e = .returned (.pointer none) ∧ Below W.heap.size W w') := fun W hW => by
    have hin2 := HO.out.inS hA2
    refine (HO.out.hold 1 ⟨by decide, by decide⟩ (HO.out.keep hA2 (hW.mono HB2.out.size) (fun k hk => hW.block k (hin2 k hk).2))).mono fun e w' hq => ?_
    obtain ⟨hq, hb⟩ := hq
    rcases hq with ⟨hn, _⟩ | ⟨_, e1⟩
    · exact absurd hn (by decide)
    · exact ⟨e1, hb⟩
  subst hpp
  clear hr hml hx d0 d3 d4 d5 d6 d7 hA2 hu HHE eh
  go_wp2_with fail
  refine HH0.out.mono ?_
  rintro e w4 ⟨hb, rfl, hb4⟩
  have HH2 := HH1.out w4 hb4
  have HB4 : Hid (Below w.heap.size w w4) := HB2.out.trans (hb4.mono HB2.out.size)
  clear HH0 HH1 hb4
  go_wp2_with fail
  refine HH2.mono ?_
  rintro e w5 ⟨rfl, hb5⟩
  have HB5 : Hid (Below w.heap.size w w5) := HB4.out.trans (hb5.mono HB4.out.size)
  clear hb5 HH2
  go_wp2
  go_ret
  exact ⟨rfl, HB5.out⟩
end Go.Proofs.YtcoecfpkihakoaaGreatDoor
/- Holds by the configuration's number: a map of pointers. -/
namespace Go.Proofs.YtcoecfpkihakoaaGreatDoor
open Go.RowKit
def litI (c : Int) : Lit := .int .i64 c
theorem litI_inj {c d : Int} (h : litI c = litI d) : c = d := by
  unfold litI at h
  injection h
theorem litI_key (c : Int) : WideAt.IsKeyLit (litI c) := trivial
theorem keyedI : Maps.Keyed Tryz.prog 3 := Maps.int_keyed Tryz.underlying3
theorem wf_int {a : Int} (h : CfIn a) : (Lit.int .i64 a).wf = true := by
  simp [Lit.wf, IntKind.min, IntKind.max, IntKind.bits, IntKind.signed]
  exact h
theorem keyOfI {c : Int} (h : CfIn c) : keyOf Tryz.prog 3 (.int .i64 c) = some (litI c) := Maps.keyOf_int_mk Tryz.underlying3 (wf_int h)
abbrev OwnIM (w : World) (b n : Nat) (D : DataW Value) : Prop := w.ownsMap Tryz.prog 3 anyR b n D
theorem OwnIM.same {w w' : World} {b n : Nat} {D : DataW Value} (h : OwnIM w b n D) (hb : w'.heap[b]? = w.heap[b]?) : OwnIM w' b n D := by
  obtain ⟨es, clock, h1, h2⟩ := h
  exact ⟨es, clock, hb.trans h1, h2⟩
/-- In the world w block b is a map of the holds L: that of number i lies in block hb i. -/
structure CfAt (w : World) (b : Nat) (L : List Cfd) (D : DataW Value) (hb : Nat → Nat) : Prop where
  own : ∃ n, n ≤ 1000 ∧ OwnIM w b n D
  has : ∀ c, CfIn c → Maps.has D (litI c) = decide (cfdI L c < L.length)
  at_ : ∀ i, i < L.length → ∀ z, D.atKey (litI (cfdAt L i).1) z = .held (.pointer (some ⟨hb i, 0, none⟩))
  size : Maps.size D = L.length
variable {w w' : World} {b : Nat} {L : List Cfd} {D : DataW Value} {hb : Nat → Nat}
theorem CfAt.same (h : CfAt w b L D hb) (e : w'.heap[b]? = w.heap[b]?) : CfAt w' b L D hb := by
  obtain ⟨n, hn0, hn⟩ := h.own
  exact ⟨⟨n, hn0, hn.same e⟩, h.has, h.at_, h.size⟩
theorem CfAt.lt (h : CfAt w b L D hb) : b < w.heap.size := by
  obtain ⟨n, _, hn⟩ := h.own
  exact World.ownsMap.lt hn
theorem CfAt.empty (w : World) (hb : Nat → Nat) : CfAt (w.alloc (.map #[] 0)) w.heap.size [] (.map []) hb :=
  ⟨⟨0, Nat.zero_le _, World.ownsMap_made w Tryz.prog 3 anyR⟩, fun _ _ => rfl, fun _ hi => absurd hi (Nat.not_lt_zero _), rfl⟩
/-- The hold of a configuration. -/
def cfP (L : List Cfd) (hb : Nat → Nat) (c : Int) : Value := .pointer (if cfdI L c < L.length then some ⟨hb (cfdI L c), 0, none⟩ else none)
set_option maxRecDepth 10000 in
theorem CfAt.look (h : CfAt w b L D hb) {c : Int} (hc : CfIn c) : (Instr.lookup 61 (.map (some b)) (.int .i64 c) false).run Tryz.prog w = .ok (cfP L hb c) w := by
  have hz : (zeroValue 46).run Tryz.prog w = .ok (.pointer none) w := by kernel_rfl
  obtain ⟨n, _, h3⟩ := h.own
  obtain ⟨v, ps, hrun, hR⟩ := World.ownsMap.lookup h3 keyedI Tryz.underlying61 hz (zd := .held (.pointer none)) (zp := []) rfl (keyOfI hc)
  rw [hrun]
  have e : DataW.held v = D.atKey (litI c) (.held (.pointer none)) := congrArg Prod.fst (Option.some.inj hR)
  unfold cfP
  by_cases hg : cfdI L c < L.length
  · rw [if_pos hg]
    have := h.at_ _ hg (.held (.pointer none))
    rw [cfdI_here hg] at this
    rw [this] at e
    injection e with e
    rw [e]
  · rw [if_neg hg]
    rw [Maps.atKey_of_not_has (by rw [h.has c hc]; exact decide_eq_false hg)] at e
    injection e with e
    rw [e]
set_option maxRecDepth 10000 in
theorem CfAt.look2 (h : CfAt w b L D hb) {c : Int} (hc : CfIn c) : (Instr.lookup 61 (.map (some b)) (.int .i64 c) true).run Tryz.prog w = .ok (.tuple #[cfP L hb c, .bool (decide (cfdI L c < L.length))]) w := by
  have hz : (zeroValue 46).run Tryz.prog w = .ok (.pointer none) w := by kernel_rfl
  obtain ⟨n, _, h3⟩ := h.own
  obtain ⟨v, ps, hrun, hR⟩ := World.ownsMap.look_ok h3 keyedI Tryz.underlying61 hz (zd := .held (.pointer none)) (zp := []) rfl (keyOfI hc)
  rw [hrun, h.has c hc]
  have e : DataW.held v = D.atKey (litI c) (.held (.pointer none)) := congrArg Prod.fst (Option.some.inj hR)
  unfold cfP
  by_cases hg : cfdI L c < L.length
  · rw [if_pos hg]
    have := h.at_ _ hg (.held (.pointer none))
    rw [cfdI_here hg] at this
    rw [this] at e
    injection e with e
    rw [e]
  · rw [if_neg hg]
    rw [Maps.atKey_of_not_has (by rw [h.has c hc]; exact decide_eq_false hg)] at e
    injection e with e
    rw [e]
set_option maxRecDepth 10000 in
/-- Where there is no map. -/
theorem look_nilI (w : World) {c : Int} (hc : CfIn c) : (Instr.lookup 61 (.map none) (.int .i64 c) false).run Tryz.prog w = .ok (.pointer none) w := by
  have hz : (zeroValue 46).run Tryz.prog w = .ok (.pointer none) w := by kernel_rfl
  have := Maps.look_nil (w := w) false keyedI Tryz.underlying61 hz (keyOfI hc)
  rw [this]
  rfl
theorem CfAt.len (h : CfAt w b L D hb) (ty : TypeId) : (Builtin.len_ #[61] ty #[.map (some b)]).run Tryz.prog w = .ok (.int .i64 (L.length : Nat)) w := by
  obtain ⟨n, _, h3⟩ := h.own
  rw [World.ownsMap.len h3 Tryz.underlying61 ty, h.size]
/-- One more: what is told then. -/
theorem CfAt.put (h : CfAt w b L D hb) {c : Int} (hc : CfIn c) (hn : ¬ cfdI L c < L.length) (k : Nat) (x : List Kep × Bool) (hw : ∃ n, n ≤ 1000 ∧ OwnIM w' b n (D.put (litI c) (.held (.pointer (some ⟨k, 0, none⟩))))) :
    CfAt w' b (L ++ [(c, x)]) (D.put (litI c) (.held (.pointer (some ⟨k, 0, none⟩)))) (fun i => if i = L.length then k else hb i) := by
  obtain ⟨n, _, h3⟩ := h.own
  have ht := World.ownsMap.tidy h3 keyedI
  have hm := World.ownsMap.isMap h3
  have hL : (L ++ [(c, x)]).length = L.length + 1 := by rw [List.length_append]; rfl
  have hno : ∀ i, i < L.length → (cfdAt L i).1 ≠ c := fun i hi => cfdI_before (by omega)
  refine ⟨hw, fun d hd => ?_, fun i hi z => ?_, ?_⟩
  · by_cases e : d = c
    · subst e
      rw [Maps.has_put_same hm (litI_key d)]
      symm
      refine decide_eq_true ?_
      rcases Nat.lt_or_ge (cfdI (L ++ [(d, x)]) d) (L ++ [(d, x)]).length with h1 | h1
      · exact h1
      · refine absurd ?_ (cfdI_before (L := L ++ [(d, x)]) (c := d) (i := L.length) (by omega))
        rw [cfdAt_app, if_neg (Nat.lt_irrefl _), if_pos rfl]
    · rw [Maps.has_put_other (fun he => e (litI_inj he)), h.has d hd]
      by_cases hg : cfdI L d < L.length
      · rw [decide_eq_true hg]
        symm
        refine decide_eq_true ?_
        rcases Nat.lt_or_ge (cfdI (L ++ [(c, x)]) d) (L ++ [(c, x)]).length with h1 | h1
        · exact h1
        · refine absurd ?_ (cfdI_before (L := L ++ [(c, x)]) (c := d) (i := cfdI L d) (by omega))
          rw [cfdAt_app, if_pos hg]
          exact cfdI_here hg
      · rw [decide_eq_false hg]
        symm
        refine decide_eq_false (cfdI_none fun i hi => ?_)
        rw [cfdAt_app]
        by_cases h1 : i < L.length
        · rw [if_pos h1]
          exact cfdI_before (by omega)
        · rw [if_neg h1, if_pos (by omega)]
          exact fun h2 => e h2.symm
  · rw [hL] at hi
    rw [cfdAt_app]
    by_cases h1 : i < L.length
    · rw [if_pos h1, if_neg (by omega), Maps.atKey_put_other (fun he => hno i h1 (litI_inj he))]
      exact h.at_ i h1 z
    · rw [if_neg h1, if_pos (by omega), if_pos (by omega), Maps.atKey_put_same hm (litI_key c)]
  · have e1 : Maps.has D (litI c) = false := by rw [h.has c hc]; exact decide_eq_false hn
    rw [Maps.size_put ht, e1, h.size, hL]
    simp
set_option maxRecDepth 10000 in
theorem CfAt.step (h : CfAt w b L D hb) {c : Int} (hc : CfIn c) (hl : L.length ≤ 100) (k : Nat) : ∃ w1, (Instr.mapUpdate 61 (.map (some b)) (.int .i64 c) (.pointer (some ⟨k, 0, none⟩))).run Tryz.prog w = .ok () w1 ∧ (∃ n, n ≤ 1000 ∧ OwnIM w1 b n (D.put (litI c) (.held (.pointer (some ⟨k, 0, none⟩))))) ∧ w.grownBy w1 (some b) := by
  obtain ⟨n, hn, h3⟩ := h.own
  have h4 : OwnIM w b L.length D := by
    obtain ⟨es, clock, g1, F, g2, rfl⟩ := h3
    refine ⟨es, clock, g1, F, ?_, rfl⟩
    have := h.size
    rw [Maps.size_eq, length_sorted] at this
    simp at this
    omega
  obtain ⟨w1, hrun, hown, hg⟩ := World.ownsMap.update h4 keyedI Tryz.underlying61 (by unfold maxLen; omega) (keyOfI hc) (val := .pointer (some ⟨k, 0, none⟩)) (d := .held (.pointer (some ⟨k, 0, none⟩))) (ps := []) rfl
  exact ⟨w1, hrun, ⟨_, by omega, hown⟩, hg⟩
end Go.Proofs.YtcoecfpkihakoaaGreatDoor
