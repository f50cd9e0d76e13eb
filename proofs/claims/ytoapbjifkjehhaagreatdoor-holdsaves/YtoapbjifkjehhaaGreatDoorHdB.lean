/- How package hold keeps versions in memory: a map by key, of rows that nobody else has. -/
import Derived.Test.YtoapbjifkjehhaaGreatDoorG4
import Derived.Test.YtoapbjifkjehhaaGreatDoorRecB
import Derived.Maps.RangeWalk
import Derived.Maps.OwnOps
import Derived.Maps.OwnSet
namespace Go.Proofs.YtoapbjifkjehhaaGreatDoor
open Go.RowKit
/-- A key as the map tells it. -/
def litK (x : ByteArray) : Lit := .string x.data.toList
theorem litK_inj {x y : ByteArray} (h : litK x = litK y) : x = y := by
  unfold litK at h
  injection h with h
  exact ByteArray.ext (Array.toList_inj.1 h)
theorem litK_key (x : ByteArray) : WideAt.IsKeyLit (litK x) := trivial
theorem sameKey_litK (x : ByteArray) : (litK x).sameKey (litK x) = true := WideAt.sameKey_self (litK_key x)
/-- Whatever lies in the map, as it lies. -/
def anyR (v : Value) : Option (DataW Value × List MemPlace) := some (.held v, [])
theorem keyedK : Maps.Keyed Tryz.prog 9 := Maps.string_keyed Tryz.underlying9
theorem keyOfK {x : ByteArray} (hx : x.size ≤ maxLen) : keyOf Tryz.prog 9 (.string x) = some (litK x) := WideMaps.keyOf_string_mk Tryz.underlying9 hx
theorem keyOfK_inv {v : Value} {l : Lit} (h : keyOf Tryz.prog 9 v = some l) : ∃ x : ByteArray, v = .string x ∧ l = litK x ∧ x.size ≤ maxLen := by
  cases v <;> simp [keyOf, Tryz.underlying9, mapKey] at h
  rename_i s
  exact ⟨s, rfl, h.2.symm, h.1⟩
/-- In the world w block b is a map that tells D. -/
abbrev OwnM (w : World) (b n : Nat) (D : DataW Value) : Prop := w.ownsMap Tryz.prog 9 anyR b n D
theorem OwnM.tight {w : World} {b n : Nat} {D : DataW Value} (h : OwnM w b n D) : OwnM w b (Maps.size D) D := by
  obtain ⟨es, clock, hb, F, hs, rfl⟩ := h
  refine ⟨es, clock, hb, F, ?_, rfl⟩
  rw [Maps.size_eq, length_sorted]
  simp
theorem OwnM.keys {w : World} {b n : Nat} {D : DataW Value} (h : OwnM w b n D) : ∃ es, D = .map es ∧ es.Pairwise (fun p q => p.1 ≠ q.1) ∧ ∀ p ∈ es, ∃ x : ByteArray, x.size ≤ maxLen ∧ p.1 = litK x := by
  have ht := World.ownsMap.tidy h keyedK
  obtain ⟨es0, clock, hb, F, hs, rfl⟩ := h
  obtain ⟨es1, he, hp⟩ := ht
  injection he with he
  refine ⟨_, rfl, by rw [he]; exact hp, fun p hp' => ?_⟩
  obtain ⟨x, hx, rfl⟩ := List.mem_map.1 (mem_sorted.1 hp')
  obtain ⟨y, hy⟩ := F.reads x hx
  obtain ⟨z, h1, h2, h3⟩ := keyOfK_inv (WideElems.rd_key hy)
  exact ⟨z, h3, by rw [WideElems.rg_of hy]; exact h2⟩
theorem length_le_sub {α : Type} : ∀ {l m : List α}, l.Nodup → (∀ x ∈ l, x ∈ m) → l.length ≤ m.length
  | [], _, _, _ => Nat.zero_le _
  | a :: l, m, hn, hs => by
    classical
    obtain ⟨h1, h2⟩ := List.nodup_cons.1 hn
    have ha := hs a (by simp)
    have := length_le_sub (l := l) (m := m.erase a) h2 (fun x hx => (List.mem_erase_of_ne (show x ≠ a from fun e => h1 (e ▸ hx))).2 (hs x (by simp [hx])))
    rw [List.length_erase_of_mem ha] at this
    have := List.length_pos_of_mem ha
    simp only [List.length_cons]
    omega
/-- In the world w the hold at block h, in the blocks of S, holds L, and is sealed or not: its map is m, which tells D; a key's versions are the row 'row x', in block blk x. -/
structure HdAt (w : World) (h : Nat) (S : Nat → Prop) (L : List Kep) (s : Bool) (m : Option Nat) (D : DataW Value) (row : ByteArray → Value) (blk : ByteArray → Nat) : Prop where
  sorted : SortedK L
  few : L.length ≤ 60
  fits : ∀ x ∈ L, isN x.1 = true ∧ verOk x.2 = true
  inS : ∀ k, S k → k < w.heap.size
  self : S h
  ptr : w.cell? ⟨h, 0, none⟩ = some (.map m)
  shut : w.cell? ⟨h, 1, none⟩ = some (.bool s)
  free0 : w.frozen? ⟨h, 0, none⟩ = false
  free1 : w.frozen? ⟨h, 1, none⟩ = false
  nothing : m = none → L = []
  mapS : ∀ b, m = some b → S b ∧ b ≠ h ∧ (∃ n, OwnM w b n D) ∧ (∀ x, x.size ≤ maxLen → Maps.has D (litK x) = decide (getL L x ≠ [])) ∧ ∀ x, getL L x ≠ [] → ∀ z, D.atKey (litK x) z = .held (row x)
  own : ∀ x, OwnR verE 49 w 0 (row x) (getL L x)
  nilrow : ∀ x, getL L x = [] → row x = .slice none 0 0
  inB : ∀ x, getL L x ≠ [] → (row x).ownBlock = some (blk x) ∧ S (blk x) ∧ blk x ≠ h ∧ ∀ b, m = some b → blk x ≠ b
  apart : ∀ x y, getL L x ≠ [] → getL L y ≠ [] → x ≠ y → blk x ≠ blk y
/-- The hold at block h, in the blocks of S, holds L. -/
def HdOf (w : World) (h : Nat) (S : Nat → Prop) (L : List Kep) (s : Bool) : Prop := ∃ m D row blk, HdAt w h S L s m D row blk
theorem OwnR.same {T : TypeId} {w w' : World} {B : Nat} {v : Value} {l : List Ver} (h : OwnR verE T w B v l) (hb : ∀ k, v.ownBlock = some k → w'.heap[k]? = w.heap[k]?) : OwnR verE T w' B v l := by
  obtain ⟨h1, h2⟩ := h
  refine ⟨h1, ?_⟩
  rcases h2 with h2 | ⟨g, cap, cur, hv, hbg, hg, hrest⟩
  · exact Or.inl h2
  · refine Or.inr ⟨g, cap, cur, hv, hbg, ?_, hrest⟩
    rw [hb g (by rw [hv]; rfl)]
    exact hg
theorem OwnM.same {w w' : World} {b n : Nat} {D : DataW Value} (h : OwnM w b n D) (hb : w'.heap[b]? = w.heap[b]?) : OwnM w' b n D := by
  obtain ⟨es, clock, h1, h2⟩ := h
  exact ⟨es, clock, hb.trans h1, h2⟩
theorem cell_same {w w' : World} {b : Nat} (h : w'.heap[b]? = w.heap[b]?) (o : Nat) : w'.cell? ⟨b, o, none⟩ = w.cell? ⟨b, o, none⟩ ∧ w'.frozen? ⟨b, o, none⟩ = w.frozen? ⟨b, o, none⟩ := ⟨World.cell?_of_block (a := ⟨b, o, none⟩) h, World.frozen?_of_block (a := ⟨b, o, none⟩) h⟩
variable {w w' : World} {h : Nat} {S : Nat → Prop} {L : List Kep} {s : Bool} {m : Option Nat} {D : DataW Value} {row : ByteArray → Value} {blk : ByteArray → Nat}
theorem HdAt.rowS (hd : HdAt w h S L s m D row blk) {x : ByteArray} {k : Nat} (hk : (row x).ownBlock = some k) : S k ∧ getL L x ≠ [] ∧ k = blk x := by
  by_cases hx : getL L x = []
  · rw [hd.nilrow x hx] at hk; cases hk
  · obtain ⟨h1, h2, _⟩ := hd.inB x hx
    rw [h1] at hk
    cases hk
    exact ⟨h2, hx, rfl⟩
theorem HdAt.keep (hd : HdAt w h S L s m D row blk) (hs : w.heap.size ≤ w'.heap.size) (hb : ∀ k, S k → w'.heap[k]? = w.heap[k]?) : HdAt w' h S L s m D row blk := by
  have hh := hb h hd.self
  refine ⟨hd.sorted, hd.few, hd.fits, fun k hk => Nat.lt_of_lt_of_le (hd.inS k hk) hs, hd.self, (cell_same hh 0).1.trans hd.ptr, (cell_same hh 1).1.trans hd.shut, (cell_same hh 0).2.trans hd.free0, (cell_same hh 1).2.trans hd.free1, hd.nothing, fun b hm => ?_, fun x => (hd.own x).same (fun k hk => hb k (hd.rowS hk).1), hd.nilrow, hd.inB, hd.apart⟩
  obtain ⟨h1, h2, ⟨n, h3⟩, h4⟩ := hd.mapS b hm
  exact ⟨h1, h2, ⟨n, h3.same (hb b h1)⟩, h4⟩
theorem HdAt.below (hd : HdAt w h S L s m D row blk) (hb : Below w.heap.size w w') : HdAt w' h S L s m D row blk := hd.keep hb.size (fun k hk => hb.block k (hd.inS k hk))
/-- Its map has no more entries than there are versions. -/
theorem HdAt.size (hd : HdAt w h S L s m D row blk) {b : Nat} (hm : m = some b) : Maps.size D ≤ 60 := by
  obtain ⟨_, _, ⟨n, h3⟩, h4, _⟩ := hd.mapS b hm
  obtain ⟨es, rfl, hp, hk⟩ := h3.keys
  rw [Maps.size_eq]
  refine Nat.le_trans ?_ (Nat.le_trans (keysL_le L) hd.few)
  have hn : (es.map Prod.fst).Nodup := by unfold List.Nodup; rw [List.pairwise_map]; exact hp
  have := length_le_sub (l := es.map Prod.fst) (m := (keysL L).map litK) hn (fun l hl => by
    obtain ⟨p, hp', rfl⟩ := List.mem_map.1 hl
    obtain ⟨x, hx, e⟩ := hk p hp'
    have hh : Maps.has (.map es) (litK x) = true := List.any_eq_true.2 ⟨p, hp', by rw [e]; exact sameKey_litK x⟩
    rw [h4 x hx] at hh
    rw [e]
    exact List.mem_map.2 ⟨x, ((keysOk L hd.sorted).mem x).2 (by simpa using hh), rfl⟩)
  simpa using this
set_option maxRecDepth 10000 in
/-- What the map tells of a key. -/
theorem HdAt.look (hd : HdAt w h S L s m D row blk) {x : ByteArray} (hx : x.size ≤ maxLen) : (Instr.lookup 37 (.map m) (.string x) false).run Tryz.prog w = .ok (row x) w := by
  have hz : (zeroValue 57).run Tryz.prog w = .ok (.slice none 0 0) w := by kernel_rfl
  cases m with
  | none =>
    have h0 := hd.nothing rfl
    have := Maps.look_nil (w := w) false keyedK Tryz.underlying37 hz (keyOfK hx)
    rw [this, hd.nilrow x (by rw [h0]; rfl)]
    rfl
  | some b =>
    obtain ⟨_, _, ⟨n, h3⟩, h4, h5⟩ := hd.mapS b rfl
    obtain ⟨v, ps, hrun, hR⟩ := World.ownsMap.lookup h3 keyedK Tryz.underlying37 hz (zd := .held (.slice none 0 0)) (zp := []) rfl (keyOfK hx)
    rw [hrun]
    have e : DataW.held v = D.atKey (litK x) (.held (.slice none 0 0)) := congrArg Prod.fst (Option.some.inj hR)
    by_cases hg : getL L x = []
    · rw [Maps.atKey_of_not_has (by rw [h4 x hx]; simp [hg])] at e
      injection e with e
      rw [e, hd.nilrow x hg]
    · rw [h5 x hg] at e
      injection e with e
      rw [e]
/-- A key's row has its versions. -/
theorem HdAt.form (hd : HdAt w h S L s m D row blk) (x : ByteArray) : ∃ p c, row x = .slice p (getL L x).length c ∧ Rec verE w p (getL L x) ∧ (getL L x).length ≤ c ∧ (p = none → getL L x = [] ∧ c = 0) ∧ ∀ b o, p = some ⟨b, o, none⟩ → b < w.heap.size := by
  obtain ⟨p, c, h1, h2, h3, h4, h5⟩ := (hd.own x).form
  exact ⟨p, c, h1, h2, h3, h4, fun b o e => (h5 b o e).2⟩
theorem HdAt.good (hd : HdAt w h S L s m D row blk) : SortedK L ∧ L.length ≤ 60 ∧ ∀ x ∈ L, isN x.1 = true ∧ verOk x.2 = true := ⟨hd.sorted, hd.few, hd.fits⟩
/-- A hold's zero value. -/
theorem hd_zero (w : World) : HdOf (w.alloc (.cells #[.map none, .bool false] 39)) w.heap.size (fun k => k = w.heap.size) [] false := by
  refine ⟨none, .nil, fun _ => .slice none 0 0, fun _ => 0, List.Pairwise.nil, by simp, (fun _ hx => by cases hx), (fun k hk => by subst hk; simp), rfl, by simp, by simp, by simp, by simp, fun _ => rfl, (fun b hm => by cases hm), fun x => OwnR.nil _ _ _, fun _ _ => rfl, fun x hx => absurd rfl hx, fun x _ hx _ _ => absurd rfl hx⟩
theorem HdOf.keep (hd : HdOf w h S L s) (hs : w.heap.size ≤ w'.heap.size) (hb : ∀ k, S k → w'.heap[k]? = w.heap[k]?) : HdOf w' h S L s := by
  obtain ⟨m, D, row, blk, hd⟩ := hd
  exact ⟨m, D, row, blk, hd.keep hs hb⟩
theorem HdOf.below (hd : HdOf w h S L s) (hb : Below w.heap.size w w') : HdOf w' h S L s := by
  obtain ⟨m, D, row, blk, hd⟩ := hd
  exact ⟨m, D, row, blk, hd.below hb⟩
end Go.Proofs.YtoapbjifkjehhaaGreatDoor
