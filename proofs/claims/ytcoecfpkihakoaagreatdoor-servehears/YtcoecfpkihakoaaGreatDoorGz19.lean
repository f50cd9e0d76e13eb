/- Package hold: the closure by which a tag is sought. -/
import Derived.Test.YtcoecfpkihakoaaGreatDoorHdM
import Derived.Test.YtcoecfpkihakoaaGreatDoorGz6
import Derived.Test.YtcoecfpkihakoaaGreatDoorGz8
import Derived.BigQuiet
import Derived.StillTailTactics
import Derived.Test.YtcoecfpkihakoaaGreatDoorGz7
import Derived.Test.YtcoecfpkihakoaaGreatDoorRecB
import Derived.Maps.RangeWalk
import Derived.Maps.OwnOps
import Derived.Maps.OwnSet
import Derived.Test.YtcoecfpkihakoaaGreatDoorGz5
import Derived.Test.YtcoecfpkihakoaaGreatDoorGz0
import Derived.Deep.OwnRows
namespace Go.Proofs.YtcoecfpkihakoaaGreatDoor
open Go.RowKit Go.Sort
set_option maxRecDepth 10000 in
set_option maxHeartbeats 1000000 in
/-- The closure by which a tag is sought. -/
theorem seek_any (v : Ver) (b : Int × Int) (w : World) : Calls Tryz.prog 63 #[.agg #[.int .i64 v.n, .int .i64 v.who, .int .i64 v.size, .int .i64 v.at_, .string v.text], .agg #[.int .i64 b.1, .int .i64 b.2]] w fun e w' => e = .returned (.int .i64 (tagC (tagOf v) b)) ∧ ∃ q os, w' = grow (w.drewN q) os := by
  obtain ⟨n, who, size, at_, text⟩ := v
  have HC : Hid (∀ W, Calls Tryz.prog 64 #[.agg #[.int .i64 n, .int .i64 who], .agg #[.int .i64 b.1, .int .i64 b.2]] W fun e w' => e = .returned (.int .i64 (tagC (n, who) b)) ∧ ∃ n os, w' = grow (W.drewN n) os) := fun W => compare_any (n, who) b W
  show Calls Tryz.prog 63 #[.agg #[.int .i64 n, .int .i64 who, .int .i64 size, .int .i64 at_, .string text], .agg #[.int .i64 b.1, .int .i64 b.2]] w fun e w' => e = .returned (.int .i64 (tagC (n, who) b)) ∧ ∃ q os, w' = grow (w.drewN q) os
  generalize tagC (n, who) b = c at *
  obtain ⟨b1, b2⟩ := b
  have HG : Hid (∃ os, (w.alloc (.cells #[.int .i64 n, .int .i64 who, .int .i64 size, .int .i64 at_, .string text] 59)).alloc (.cells #[.int .i64 b1, .int .i64 b2] 55) = grow w os) := ⟨_, by rw [alloc_eq_grow, alloc_eq_grow, grow_grow]⟩
  go_enter Tryz.func63, Tryz.ntmps63
  go_wp2_with fail
  refine (HC.out _).mono ?_
  rintro e w2 ⟨rfl, q, os, hw2⟩
  have HE : Hid (∃ q os, w2 = grow (w.drewN q) os) := by
    obtain ⟨os0, h0⟩ := HG.out
    exact ⟨q, os0 ++ os, by rw [hw2, h0, grow_drewN, grow_grow]⟩
  clear hw2 HG
  go_wp2
  go_ret
  exact ⟨rfl, HE.out⟩
end Go.Proofs.YtcoecfpkihakoaaGreatDoor
/- How package hold keeps versions in memory: a map by key, of rows that nobody else has. -/
namespace Go.Proofs.YtcoecfpkihakoaaGreatDoor
open Go.RowKit
/-- In the world w the hold at block h, in the blocks of S, holds L, and is sealed or not: its map is m, which tells D; a key's versions are the row 'row x', in block blk x. -/
structure HdAt (w : World) (h : Nat) (S : Nat → Prop) (L : List Kep) (s : Bool) (m : Option Nat) (D : DataW Value) (row : ByteArray → Value) (blk : ByteArray → Nat) : Prop where
  sorted : SortedK L
  few : L.length ≤ 60
  fits : ∀ x ∈ L, isN x.1 = true ∧ verOk x.2 = true
  inS : ∀ k, S k → k < w.heap.size
  self : S h
  ptr : w.cell? ⟨h, 0, none⟩ = some (.map m)
  shut : w.cell? ⟨h, 1, none⟩ = some (.bool s)
  free0 : w.frozen? ⟨h, 0, none⟩ = false
  free1 : w.frozen? ⟨h, 1, none⟩ = false
  nothing : m = none → L = []
  mapS : ∀ b, m = some b → S b ∧ b ≠ h ∧ (∃ n, OwnM w b n D) ∧ (∀ x, x.size ≤ maxLen → Maps.has D (litK x) = decide (getL L x ≠ [])) ∧ ∀ x, getL L x ≠ [] → ∀ z, D.atKey (litK x) z = .held (row x)
  own : ∀ x, OwnR verE 59 w 0 (row x) (getL L x)
  nilrow : ∀ x, getL L x = [] → row x = .slice none 0 0
  inB : ∀ x, getL L x ≠ [] → (row x).ownBlock = some (blk x) ∧ S (blk x) ∧ blk x ≠ h ∧ ∀ b, m = some b → blk x ≠ b
  apart : ∀ x y, getL L x ≠ [] → getL L y ≠ [] → x ≠ y → blk x ≠ blk y
/-- The hold at block h, in the blocks of S, holds L. -/
def HdOf (w : World) (h : Nat) (S : Nat → Prop) (L : List Kep) (s : Bool) : Prop := ∃ m D row blk, HdAt w h S L s m D row blk
variable {w w' : World} {h : Nat} {S : Nat → Prop} {L : List Kep} {s : Bool} {m : Option Nat} {D : DataW Value} {row : ByteArray → Value} {blk : ByteArray → Nat}
theorem HdAt.rowS (hd : HdAt w h S L s m D row blk) {x : ByteArray} {k : Nat} (hk : (row x).ownBlock = some k) : S k ∧ getL L x ≠ [] ∧ k = blk x := by
  by_cases hx : getL L x = []
  · rw [hd.nilrow x hx] at hk; cases hk
  · obtain ⟨h1, h2, _⟩ := hd.inB x hx
    rw [h1] at hk
    cases hk
    exact ⟨h2, hx, rfl⟩
theorem HdAt.keep (hd : HdAt w h S L s m D row blk) (hs : w.heap.size ≤ w'.heap.size) (hb : ∀ k, S k → w'.heap[k]? = w.heap[k]?) : HdAt w' h S L s m D row blk := by
  have hh := hb h hd.self
  refine ⟨hd.sorted, hd.few, hd.fits, fun k hk => Nat.lt_of_lt_of_le (hd.inS k hk) hs, hd.self, (cell_same hh 0).1.trans hd.ptr, (cell_same hh 1).1.trans hd.shut, (cell_same hh 0).2.trans hd.free0, (cell_same hh 1).2.trans hd.free1, hd.nothing, fun b hm => ?_, fun x => (hd.own x).same (fun k hk => hb k (hd.rowS hk).1), hd.nilrow, hd.inB, hd.apart⟩
  obtain ⟨h1, h2, ⟨n, h3⟩, h4⟩ := hd.mapS b hm
  exact ⟨h1, h2, ⟨n, h3.same (hb b h1)⟩, h4⟩
theorem HdAt.below (hd : HdAt w h S L s m D row blk) (hb : Below w.heap.size w w') : HdAt w' h S L s m D row blk := hd.keep hb.size (fun k hk => hb.block k (hd.inS k hk))
/-- Its map has no more entries than there are versions. -/
theorem HdAt.size (hd : HdAt w h S L s m D row blk) {b : Nat} (hm : m = some b) : Maps.size D ≤ 60 := by
  obtain ⟨_, _, ⟨n, h3⟩, h4, _⟩ := hd.mapS b hm
  obtain ⟨es, rfl, hp, hk⟩ := h3.keys
  rw [Maps.size_eq]
  refine Nat.le_trans ?_ (Nat.le_trans (keysL_le L) hd.few)
  have hn : (es.map Prod.fst).Nodup := by unfold List.Nodup; rw [List.pairwise_map]; exact hp
  have := length_le_sub (l := es.map Prod.fst) (m := (keysL L).map litK) hn (fun l hl => by
    obtain ⟨p, hp', rfl⟩ := List.mem_map.1 hl
    obtain ⟨x, hx, e⟩ := hk p hp'
    have hh : Maps.has (.map es) (litK x) = true := List.any_eq_true.2 ⟨p, hp', by rw [e]; exact sameKey_litK x⟩
    rw [h4 x hx] at hh
    rw [e]
    exact List.mem_map.2 ⟨x, ((keysOk L hd.sorted).mem x).2 (by simpa using hh), rfl⟩)
  simpa using this
set_option maxRecDepth 10000 in
/-- What the map tells of a key. -/
theorem HdAt.look (hd : HdAt w h S L s m D row blk) {x : ByteArray} (hx : x.size ≤ maxLen) : (Instr.lookup 92 (.map m) (.string x) false).run Tryz.prog w = .ok (row x) w := by
  have hz : (zeroValue 40).run Tryz.prog w = .ok (.slice none 0 0) w := by kernel_rfl
  cases m with
  | none =>
    have h0 := hd.nothing rfl
    have := Maps.look_nil (w := w) false keyedK Tryz.underlying92 hz (keyOfK hx)
    rw [this, hd.nilrow x (by rw [h0]; rfl)]
    rfl
  | some b =>
    obtain ⟨_, _, ⟨n, h3⟩, h4, h5⟩ := hd.mapS b rfl
    obtain ⟨v, ps, hrun, hR⟩ := World.ownsMap.lookup h3 keyedK Tryz.underlying92 hz (zd := .held (.slice none 0 0)) (zp := []) rfl (keyOfK hx)
    rw [hrun]
    have e : DataW.held v = D.atKey (litK x) (.held (.slice none 0 0)) := congrArg Prod.fst (Option.some.inj hR)
    by_cases hg : getL L x = []
    · rw [Maps.atKey_of_not_has (by rw [h4 x hx]; simp [hg])] at e
      injection e with e
      rw [e, hd.nilrow x hg]
    · rw [h5 x hg] at e
      injection e with e
      rw [e]
/-- A key's row has its versions. -/
theorem HdAt.form (hd : HdAt w h S L s m D row blk) (x : ByteArray) : ∃ p c, row x = .slice p (getL L x).length c ∧ Rec verE w p (getL L x) ∧ (getL L x).length ≤ c ∧ (p = none → getL L x = [] ∧ c = 0) ∧ ∀ b o, p = some ⟨b, o, none⟩ → b < w.heap.size := by
  obtain ⟨p, c, h1, h2, h3, h4, h5⟩ := (hd.own x).form
  exact ⟨p, c, h1, h2, h3, h4, fun b o e => (h5 b o e).2⟩
theorem HdAt.good (hd : HdAt w h S L s m D row blk) : SortedK L ∧ L.length ≤ 60 ∧ ∀ x ∈ L, isN x.1 = true ∧ verOk x.2 = true := ⟨hd.sorted, hd.few, hd.fits⟩
/-- A hold's zero value. -/
theorem hd_zero (w : World) : HdOf (w.alloc (.cells #[.map none, .bool false] 94)) w.heap.size (fun k => k = w.heap.size) [] false := by
  refine ⟨none, .nil, fun _ => .slice none 0 0, fun _ => 0, List.Pairwise.nil, by simp, (fun _ hx => by cases hx), (fun k hk => by subst hk; simp), rfl, by simp, by simp, by simp, by simp, fun _ => rfl, (fun b hm => by cases hm), fun x => OwnR.nil _ _ _, fun _ _ => rfl, fun x hx => absurd rfl hx, fun x _ hx _ _ => absurd rfl hx⟩
theorem HdOf.keep (hd : HdOf w h S L s) (hs : w.heap.size ≤ w'.heap.size) (hb : ∀ k, S k → w'.heap[k]? = w.heap[k]?) : HdOf w' h S L s := by
  obtain ⟨m, D, row, blk, hd⟩ := hd
  exact ⟨m, D, row, blk, hd.keep hs hb⟩
theorem HdOf.below (hd : HdOf w h S L s) (hb : Below w.heap.size w w') : HdOf w' h S L s := by
  obtain ⟨m, D, row, blk, hd⟩ := hd
  exact ⟨m, D, row, blk, hd.below hb⟩
end Go.Proofs.YtcoecfpkihakoaaGreatDoor
/- How package serve keeps a member in memory: its name, and a map of holds. -/
namespace Go.Proofs.YtcoecfpkihakoaaGreatDoor
open Go.RowKit
/-- In the world w block h is the member m, what it has of its own lies in the blocks of S, from B on; its map is mp, which tells D; the hold of number i lies in block hb i, in the blocks of Sh i. -/
structure PSv (w : World) (B : Nat) (h : Nat) (S : Nat → Prop) (m : MMem) (mp : Option Nat) (D : DataW Value) (hb : Nat → Nat) (Sh : Nat → Nat → Prop) : Prop where
  blk : w.heap[h]? = some (.cells #[.string m.name, .map mp] 63 (0, 0))
  self : S h
  inB : ∀ k, S k → B ≤ k ∧ k < w.heap.size
  fine : m.Fine
  none_ : mp = none → m.L = []
  map : ∀ b, mp = some b → S b ∧ b ≠ h ∧ CfAt w b m.L D hb
  hold : ∀ i, i < m.L.length → HdOf w (hb i) (Sh i) (cfdAt m.L i).2.1 (cfdAt m.L i).2.2
  sub : ∀ i, i < m.L.length → ∀ k, Sh i k → S k ∧ k ≠ h ∧ mp ≠ some k
  apart : ∀ i j, i < m.L.length → j < m.L.length → i ≠ j → ∀ k, Sh i k → ¬ Sh j k
def PSvOf (w : World) (B : Nat) (h : Nat) (S : Nat → Prop) (m : MMem) : Prop := ∃ mp D hb Sh, PSv w B h S m mp D hb Sh
variable {w w' : World} {B h : Nat} {S : Nat → Prop} {m : MMem} {mp : Option Nat} {D : DataW Value} {hb : Nat → Nat} {Sh : Nat → Nat → Prop}
theorem HdOf.keep' {w w' : World} {h : Nat} {S : Nat → Prop} {L : List Kep} {s : Bool} (hd : HdOf w h S L s) (hs : w.heap.size ≤ w'.heap.size) (hb : ∀ k, S k → w'.heap[k]? = w.heap[k]?) : HdOf w' h S L s := by
  obtain ⟨a, b, c, d, hd⟩ := hd
  exact ⟨a, b, c, d, hd.keep hs hb⟩
theorem PSv.keep (hp : PSv w B h S m mp D hb Sh) (hs : w.heap.size ≤ w'.heap.size) (hk : ∀ k, S k → w'.heap[k]? = w.heap[k]?) : PSv w' B h S m mp D hb Sh where
  blk := (hk h hp.self).trans hp.blk
  self := hp.self
  inB := fun k hk' => ⟨(hp.inB k hk').1, Nat.lt_of_lt_of_le (hp.inB k hk').2 hs⟩
  fine := hp.fine
  none_ := hp.none_
  map := fun b e => ⟨(hp.map b e).1, (hp.map b e).2.1, (hp.map b e).2.2.same (hk b (hp.map b e).1)⟩
  hold := fun i hi => (hp.hold i hi).keep' hs (fun k hk' => hk k (hp.sub i hi k hk').1)
  sub := hp.sub
  apart := hp.apart
theorem PSv.lt (hp : PSv w B h S m mp D hb Sh) : h < w.heap.size := (hp.inB h hp.self).2
theorem PSv.leB (hp : PSv w B h S m mp D hb Sh) : B ≤ w.heap.size := Nat.le_of_lt (Nat.lt_of_le_of_lt (hp.inB h hp.self).1 hp.lt)
theorem PSv.below (hp : PSv w B h S m mp D hb Sh) (hb' : Below w.heap.size w w') : PSv w' B h S m mp D hb Sh := hp.keep hb'.size fun k hk => hb'.block k (hp.inB k hk).2
theorem PSv.cells (hp : PSv w B h S m mp D hb Sh) : w.cell? ⟨h, 0, none⟩ = some (.string m.name) ∧ w.cell? ⟨h, 1, none⟩ = some (.map mp) ∧ w.frozen? ⟨h, 1, none⟩ = false := by
  refine ⟨?_, ?_, ?_⟩
  · simp [World.cell?, hp.blk]
  · simp [World.cell?, hp.blk]
  · simp [World.frozen?, hp.blk]
/-- What the map tells of a configuration. -/
theorem PSv.look (hp : PSv w B h S m mp D hb Sh) {c : Int} (hc : CfIn c) : (Instr.lookup 61 (.map mp) (.int .i64 c) false).run Tryz.prog w = .ok (cfP m.L hb c) w := by
  cases mp with
  | none =>
    rw [look_nilI w hc]
    have e := hp.none_ rfl
    unfold cfP
    rw [e]
    rfl
  | some b => exact (hp.map b rfl).2.2.look hc
/-- How many there are. -/
theorem PSv.len (hp : PSv w B h S m mp D hb Sh) (ty : TypeId) : (Builtin.len_ #[61] ty #[.map mp]).run Tryz.prog w = .ok (.int .i64 (m.L.length : Nat)) w := by
  cases mp with
  | none =>
    rw [hp.none_ rfl]
    kernel_rfl
  | some b => exact (hp.map b rfl).2.2.len ty
/-- One of its holds is changed. -/
theorem PSv.turn (hp : PSv w B h S m mp D hb Sh) {i : Nat} (hi : i < m.L.length) {L' : List Kep} {s' : Bool} {Sn : Nat → Prop} (hH : HdOf w' (hb i) Sn L' s') (hU : Upd (Sh i) Sn w w') (hlt : ∀ k, Sn k → k < w'.heap.size) (hF : (m.put i (L', s')).Fine) :
    PSv w' B h (fun k => S k ∨ Sn k) (m.put i (L', s')) mp D hb (fun j => if j = i then Sn else Sh j) ∧ Upd S (fun k => S k ∨ Sn k) w w' := by
  have hne : ∀ k, k < w.heap.size → ¬ Sh i k → w'.heap[k]? = w.heap[k]? := hU.block
  have hold_ : ∀ k, Sn k → Sh i k ∨ w.heap.size ≤ k := hU.new
  refine ⟨⟨(hne h hp.lt (fun e => (hp.sub i hi h e).2.1 rfl)).trans hp.blk, Or.inl hp.self, fun k hk => ?_, hF, fun e => ?_, fun b e => ⟨Or.inl (hp.map b e).1, (hp.map b e).2.1, ?_⟩, fun j hj => ?_, fun j hj k hk => ?_, fun j q hj hq hjq k hk hk' => ?_⟩, ⟨hU.os, hU.tape, hU.output, hU.size, fun k hk hs => hne k hk (fun e => hs (hp.sub i hi k e).1), fun k hk => ?_⟩⟩
  · rcases hk with hk | hk
    · exact ⟨(hp.inB k hk).1, Nat.lt_of_lt_of_le (hp.inB k hk).2 hU.size⟩
    · rcases hold_ k hk with h1 | h1
      · exact ⟨(hp.inB k (hp.sub i hi k h1).1).1, hlt k hk⟩
      · exact ⟨Nat.le_trans hp.leB h1, hlt k hk⟩
  · have := hp.none_ e
    rw [this] at hi
    exact absurd hi (Nat.not_lt_zero _)
  · have hc := (hp.map b e).2.2
    have hc' := hc.same (hne b hc.lt (fun e' => (hp.sub i hi b e').2.2 e))
    have hf : ∀ j, (cfdAt (m.put i (L', s')).L j).1 = (cfdAt m.L j).1 := fun j => by
      rw [put_at hi]
      split
      · rename_i e; rw [e]
      · rfl
    have hI : ∀ c, cfdI (m.put i (L', s')).L c = cfdI m.L c := fun c => by
      have e1 : ∀ (L1 L2 : List Cfd), L1.length = L2.length → (∀ j, (cfdAt L1 j).1 = (cfdAt L2 j).1) → cfdI L1 c ≤ cfdI L2 c := fun L1 L2 hl hall => by
        rcases Nat.lt_or_ge (cfdI L2 c) (cfdI L1 c) with h1 | h1
        · have h2 := cfdI_before h1
          have h3 : cfdI L2 c < L2.length := by have := cfdI_le L1 c; omega
          exact absurd (by rw [hall]; exact cfdI_here h3) h2
        · exact h1
      exact Nat.le_antisymm (e1 _ _ (put_length _ _ _) hf) (e1 _ _ (put_length _ _ _).symm (fun j => (hf j).symm))
    exact ⟨hc'.own, fun c hc1 => by rw [hI, put_length]; exact hc'.has c hc1, fun j hj z => by rw [hf]; rw [put_length] at hj; exact hc'.at_ j hj z, by rw [put_length]; exact hc'.size⟩
  · rw [put_length] at hj
    rw [put_at hi]
    by_cases e : j = i
    · rw [if_pos e, if_pos e, e]
      exact hH
    · rw [if_neg e, if_neg e]
      exact (hp.hold j hj).keep' hU.size (fun k hk => hne k (hp.inB k (hp.sub j hj k hk).1).2 (fun e' => hp.apart j i hj hi e k hk e'))
  · rw [put_length] at hj
    by_cases e : j = i
    · have hk' : Sn k := by rw [if_pos e] at hk; exact hk
      rcases hold_ k hk' with h1 | h1
      · exact ⟨Or.inr hk', (hp.sub i hi k h1).2⟩
      · refine ⟨Or.inr hk', fun e1 => ?_, fun e1 => ?_⟩
        · have := hp.lt; omega
        · have := (hp.map k e1).2.2.lt; omega
    · have hk' : Sh j k := by rw [if_neg e] at hk; exact hk
      exact ⟨Or.inl (hp.sub j hj k hk').1, (hp.sub j hj k hk').2⟩
  · rw [put_length] at hj hq
    by_cases e1 : j = i <;> by_cases e2 : q = i
    · exact hjq (e1.trans e2.symm)
    · have h1 : Sn k := by rw [if_pos e1] at hk; exact hk
      have h2 : Sh q k := by rw [if_neg e2] at hk'; exact hk'
      rcases hold_ k h1 with h3 | h3
      · exact hp.apart i q hi hq (fun e => e2 e.symm) k h3 h2
      · have := (hp.inB k (hp.sub q hq k h2).1).2; omega
    · have h1 : Sh j k := by rw [if_neg e1] at hk; exact hk
      have h2 : Sn k := by rw [if_pos e2] at hk'; exact hk'
      rcases hold_ k h2 with h3 | h3
      · exact hp.apart j i hj hi e1 k h1 h3
      · have := (hp.inB k (hp.sub j hj k h1).1).2; omega
    · have h1 : Sh j k := by rw [if_neg e1] at hk; exact hk
      have h2 : Sh q k := by rw [if_neg e2] at hk'; exact hk'
      exact hp.apart j q hj hq hjq k h1 h2
  · rcases hk with hk | hk
    · exact Or.inl hk
    · rcases hold_ k hk with h1 | h1
      · exact Or.inl (hp.sub i hi k h1).1
      · exact Or.inr h1
end Go.Proofs.YtcoecfpkihakoaaGreatDoor
/- A member of the program's: one hold more. -/
namespace Go.Proofs.YtcoecfpkihakoaaGreatDoor
open Go.RowKit
variable {w w' : World} {B h : Nat} {S : Nat → Prop} {m : MMem} {mp : Option Nat} {D : DataW Value} {hb : Nat → Nat} {Sh : Nat → Nat → Prop}
theorem blk_setP {w : World} {b : Nat} {x y : Value} {t : TypeId} (h : w.heap[b]? = some (.cells #[x, y] t (0, 0))) (v : Value) : (w.setCell ⟨b, 1, none⟩ v).heap[b]? = some (.cells #[x, v] t (0, 0)) := by
  simp [World.setCell, Array.getElem?_modify, h]
/-- A map is made, where there was none. -/
theorem PSv.make (hp : PSv w B h S m none D hb Sh) : PSv ((w.setCell ⟨h, 1, none⟩ (.map (some w.heap.size))).alloc (.map #[] 0)) B h (fun k => S k ∨ k = w.heap.size) m (some w.heap.size) (.map []) hb Sh ∧ Upd S (fun k => S k ∨ k = w.heap.size) w ((w.setCell ⟨h, 1, none⟩ (.map (some w.heap.size))).alloc (.map #[] 0)) := by
  have hL := hp.none_ rfl
  have hlt := hp.lt
  have hsz : (w.setCell ⟨h, 1, none⟩ (.map (some w.heap.size))).heap.size = w.heap.size := by simp [World.setCell]
  obtain ⟨w0, hw0⟩ : ∃ w0, w0 = (w.setCell ⟨h, 1, none⟩ (.map (some w.heap.size))).alloc (.map #[] 0) := ⟨_, rfl⟩
  have hz0 : w0.heap.size = w.heap.size + 1 := by rw [hw0]; simp [World.setCell]
  have hsame : ∀ k, k < w.heap.size → k ≠ h → w0.heap[k]? = w.heap[k]? := fun k hk hne => by rw [hw0, Below.heap_alloc _ _ _ (by rw [hsz]; exact hk)]; exact Below.heap_setCell _ _ _ _ hne
  have hbk : w0.heap[h]? = some (.cells #[.string m.name, .map (some w.heap.size)] 63 (0, 0)) := by rw [hw0, Below.heap_alloc _ _ _ (by rw [hsz]; exact hlt)]; exact blk_setP hp.blk _
  have hcf : CfAt w0 w.heap.size m.L (.map []) hb := by
    have := CfAt.empty (w.setCell ⟨h, 1, none⟩ (.map (some w.heap.size))) hb
    rw [hsz] at this
    rw [hw0, hL]
    exact this
  rw [← hw0]
  refine ⟨⟨hbk, Or.inl hp.self, fun k hk => ?_, hp.fine, (fun e => by cases e), fun b e => ?_, fun i hi => ?_, fun i hi => ?_, fun i _ hi => ?_⟩, ⟨by rw [hw0]; rfl, by rw [hw0]; rfl, by rw [hw0]; rfl, by omega, fun k hk hs => hsame k hk (fun e => hs (by rw [e]; exact hp.self)), fun k hk => hk.elim Or.inl (fun e => Or.inr (by omega))⟩⟩
  · rcases hk with hk | hk
    · have := hp.inB k hk; exact ⟨this.1, by omega⟩
    · rw [hk]; exact ⟨hp.leB, by omega⟩
  · obtain rfl : w.heap.size = b := by injection e
    exact ⟨Or.inr rfl, by omega, hcf⟩
  · rw [hL] at hi; exact absurd hi (Nat.not_lt_zero _)
  · rw [hL] at hi; exact absurd hi (Nat.not_lt_zero _)
  · rw [hL] at hi; exact absurd hi (Nat.not_lt_zero _)
/-- A hold more in the map. -/
theorem PSv.more {b : Nat} (hp : PSv w B h S m (some b) D hb Sh) {c : Int} (hc : CfIn c) {my : MMem} (hno : ¬ cfdI m.L c < m.L.length) (hmy : m.held c = some my) {w1 w2 : World} {hk : Nat} (hb1 : Below w.heap.size w w1) (hlo : w.heap.size ≤ hk) (hhi : hk < w1.heap.size) (hH : HdOf w1 hk (fun k => k = hk) [] false)
    (hown : ∃ n, n ≤ 1000 ∧ OwnIM w2 b n (D.put (litI c) (.held (.pointer (some ⟨hk, 0, none⟩))))) (hg : w1.grownBy w2 (some b)) :
    PSv w2 B h (fun k => S k ∨ k = hk) my (some b) (D.put (litI c) (.held (.pointer (some ⟨hk, 0, none⟩)))) (fun i => if i = m.L.length then hk else hb i) (fun i => if i = m.L.length then (fun k => k = hk) else Sh i) ∧ Upd S (fun k => S k ∨ k = hk) w w2 := by
  obtain ⟨hbS, hbh, hcf⟩ := hp.map b rfl
  have hmf := (hp.fine.held_ hc hmy).1
  have emy : my = ⟨m.name, m.L ++ [(c, [], false)]⟩ := by
    unfold MMem.held at hmy
    rw [if_neg hno] at hmy
    split at hmy
    · cases hmy
    · exact (Option.some.inj hmy).symm
  subst emy
  have hz1 := hb1.size
  have hz2 := hg.size
  have hsame : ∀ k, k < w.heap.size → k ≠ b → w2.heap[k]? = w.heap[k]? := fun k hk1 hne => (hg.block k (by omega) (fun e => hne (by injection e))).trans (hb1.block k hk1)
  have hL : (m.L ++ [(c, ([] : List Kep), false)]).length = m.L.length + 1 := by rw [List.length_append]; rfl
  have hkb : hk ≠ b := by have := hcf.lt; omega
  refine ⟨⟨(hsame h hp.lt (fun e => hbh e.symm)).trans hp.blk, Or.inl hp.self, fun k hk1 => ?_, hmf, (fun e => by cases e), fun b' e => ?_, fun i hi => ?_, fun i hi k hk1 => ?_, fun i j hi hj hij k h1 h2 => ?_⟩, ⟨hg.os.trans hb1.os, hg.tape.trans hb1.tape, hg.output.trans hb1.output, by omega, fun k hk1 hs => hsame k hk1 (fun e => hs (by rw [e]; exact hbS)), fun k hk1 => hk1.elim Or.inl (fun e => Or.inr (by omega))⟩⟩
  · rcases hk1 with hk1 | hk1
    · have := hp.inB k hk1; exact ⟨this.1, by omega⟩
    · have := hp.leB; exact ⟨by omega, by omega⟩
  · obtain rfl : b = b' := by injection e
    exact ⟨Or.inl hbS, hbh, (hcf.same (w' := w) rfl).put hc hno hk ([], false) hown⟩
  · have hi' : i < m.L.length + 1 := by rw [← hL]; exact hi
    show HdOf w2 (if i = m.L.length then hk else hb i) (if i = m.L.length then (fun k => k = hk) else Sh i) (cfdAt (m.L ++ [(c, ([] : List Kep), false)]) i).2.1 (cfdAt (m.L ++ [(c, ([] : List Kep), false)]) i).2.2
    rw [cfdAt_app]
    by_cases h1 : i < m.L.length
    · rw [if_neg (by omega), if_neg (by omega), if_pos h1]
      exact (hp.hold i h1).keep' (by omega) (fun k hk1 => hsame k (hp.inB k (hp.sub i h1 k hk1).1).2 (fun e => (hp.sub i h1 k hk1).2.2 (by rw [e])))
    · rw [if_pos (by omega), if_pos (by omega), if_neg h1, if_pos (by omega)]
      exact hH.keep' hz2 (fun k hk1 => by rw [hk1]; exact hg.block hk hhi (fun e => hkb (by injection e)))
  · have hi' : i < m.L.length + 1 := by rw [← hL]; exact hi
    by_cases h1 : i = m.L.length
    · have hk2 : k = hk := by rw [if_pos h1] at hk1; exact hk1
      refine ⟨Or.inr hk2, ?_, fun e => ?_⟩
      · have := hp.lt; omega
      · injection e with e; omega
    · have hk2 : Sh i k := by rw [if_neg h1] at hk1; exact hk1
      exact ⟨Or.inl (hp.sub i (by omega) k hk2).1, (hp.sub i (by omega) k hk2).2⟩
  · have hi' : i < m.L.length + 1 := by rw [← hL]; exact hi
    have hj' : j < m.L.length + 1 := by rw [← hL]; exact hj
    by_cases e1 : i = m.L.length <;> by_cases e2 : j = m.L.length
    · omega
    · have h3 : k = hk := by rw [if_pos e1] at h1; exact h1
      have h4 : Sh j k := by rw [if_neg e2] at h2; exact h2
      have := (hp.inB k (hp.sub j (by omega) k h4).1).2
      omega
    · have h3 : Sh i k := by rw [if_neg e1] at h1; exact h1
      have h4 : k = hk := by rw [if_pos e2] at h2; exact h2
      have := (hp.inB k (hp.sub i (by omega) k h3).1).2
      omega
    · have h3 : Sh i k := by rw [if_neg e1] at h1; exact h1
      have h4 : Sh j k := by rw [if_neg e2] at h2; exact h2
      exact hp.apart i j (by omega) (by omega) hij k h3 h4
end Go.Proofs.YtcoecfpkihakoaaGreatDoor
/- Package serve: Wipe. -/
namespace Go.Proofs.YtcoecfpkihakoaaGreatDoor
open Go.RowKit
variable {w w' : World} {B h : Nat} {S : Nat → Prop} {m : MMem} {mp : Option Nat} {D : DataW Value} {hb : Nat → Nat} {Sh : Nat → Nat → Prop}
set_option maxRecDepth 10000 in
theorem pwipe_set (hp : PSv w B h S m mp D hb Sh) : Calls Tryz.prog 16 #[.pointer (some ⟨h, 0, none⟩)] w fun e w' => e = .returned (.tuple #[]) ∧ w' = w.setCell ⟨h, 1, none⟩ (.map none) := by
  obtain ⟨_, q1, f1⟩ := hp.cells
  clear hp
  go_enter Tryz.func16, Tryz.ntmps16
  go_wp2
  go_end0
  exact ⟨rfl, rfl⟩
theorem pwipe_any (hp : PSv w B h S m mp D hb Sh) : Calls Tryz.prog 16 #[.pointer (some ⟨h, 0, none⟩)] w fun e w' => e = .returned (.tuple #[]) ∧ ∃ S', PSvOf w' B h S' ⟨m.name, []⟩ ∧ Upd S S' w w' := by
  refine (pwipe_set hp).mono fun e w' hq => ?_
  obtain ⟨h1, h2⟩ := hq
  subst h2
  refine ⟨h1, S, ⟨none, D, hb, Sh, ⟨blk_setP hp.blk _, hp.self, fun k hk => ?_, MMem.Fine.nil _, fun _ => rfl, (fun b e => by cases e), fun i hi => absurd hi (Nat.not_lt_zero _), fun i hi => absurd hi (Nat.not_lt_zero _), fun i _ hi => absurd hi (Nat.not_lt_zero _)⟩⟩, ⟨rfl, rfl, rfl, by simp [World.setCell], fun k hk hs => Below.heap_setCell _ _ _ _ (fun e => hs (by rw [e]; exact hp.self)), fun k hk => Or.inl hk⟩⟩
  have := hp.inB k hk
  exact ⟨this.1, by simp [World.setCell]; exact this.2⟩
end Go.Proofs.YtcoecfpkihakoaaGreatDoor
/- Package serve: New, Hold. -/
namespace Go.Proofs.YtcoecfpkihakoaaGreatDoor
open Go.RowKit
variable {w w' : World} {B h : Nat} {S : Nat → Prop} {m : MMem} {mp : Option Nat} {D : DataW Value} {hb : Nat → Nat} {Sh : Nat → Nat → Prop}
set_option maxRecDepth 10000 in
theorem phold_any (hp : PSv w B h S m mp D hb Sh) {c : Int} (hc : CfIn c) : Calls Tryz.prog 14 #[.pointer (some ⟨h, 0, none⟩), .int .i64 c] w fun e w' => e = .returned (cfP m.L hb c) ∧ w' = w := by
  obtain ⟨_, q1, _⟩ := hp.cells
  have hlk := hp.look hc
  generalize cfP m.L hb c = r at *
  clear hp hc
  go_enter Tryz.func14, Tryz.ntmps14
  go_wp2
  go_ret
  exact ⟨rfl, rfl⟩
theorem psv_new (w : World) (name : ByteArray) : PSvOf (w.alloc (.cells #[.string name, .map none] 63)) w.heap.size w.heap.size (fun k => k = w.heap.size) ⟨name, []⟩ := by
  refine ⟨none, .map [], fun _ => 0, fun _ _ => False, ⟨?_, rfl, fun k hk => ?_, MMem.Fine.nil _, fun _ => rfl, (fun b e => by cases e), fun i hi => absurd hi (Nat.not_lt_zero _), fun i hi => absurd hi (Nat.not_lt_zero _), fun i _ hi => absurd hi (Nat.not_lt_zero _)⟩⟩
  · show (w.heap.push _)[w.heap.size]? = _
    simp
  · subst hk
    exact ⟨Nat.le_refl _, by simp⟩
set_option maxRecDepth 10000 in
theorem pnew_any (ad : Nat → Addr) (name : ByteArray) (w : World) (hsz : name.size ≤ 140737488351232) (hE : ∀ W, Below w.heap.size w W → W.cell? ⟨0, 0, none⟩ = some (.iface 173 (.pointer (some (ad 3))))) :
    Calls Tryz.prog 6 #[.string name] w fun e w' => ((isN name = true ∧ ∃ h S, e = .returned (.tuple #[.pointer (some ⟨h, 0, none⟩), .nilIface]) ∧ PSvOf w' w.heap.size h S ⟨name, []⟩) ∨ (isN name = false ∧ ∃ ev, e = .returned (.tuple #[.pointer none, ev]) ∧ BareIs ad ev 4)) ∧ Below w.heap.size w w' := by
  have HN := pname_any name w
  have HE : Hid (∀ W, Below w.heap.size w W → W.cell? ⟨0, 0, none⟩ = some (.iface 173 (.pointer (some (ad 3))))) := hE
  clear hE
  cases hn : isN name with
  | false =>
    rw [hn] at HN
    go_enter Tryz.func6, Tryz.ntmps6
    go_wp2_with fail
    refine HN.mono ?_
    rintro e w1 ⟨rfl, hb1⟩
    have e1 := HE.out w1 hb1
    have HB1 : Hid (Below w.heap.size w w1) := hb1
    clear hb1 HN
    go_wp2
    go_quiet (fail)
    go_wp2
    refine bodyPost_ret (v := .tuple #[.pointer none, .iface 173 (.pointer (some (ad 3)))]) (by simp [results, Tryz.results6, go_sem]) rfl ?_
    exact ⟨Or.inr ⟨by first | trivial | rfl, _, rfl, Or.inr ⟨3, by decide, rfl, rfl⟩⟩, below_drewN HB1.out _⟩
  | true =>
    rw [hn] at HN
    go_enter Tryz.func6, Tryz.ntmps6
    go_wp2_with fail
    refine HN.mono ?_
    rintro e w1 ⟨rfl, hb1⟩
    have HC1 := sclone_any name w1 hsz
    have HB0 : Hid (Below w.heap.size w w1) := hb1
    clear hb1 HN
    go_wp2_with fail
    refine HC1.mono ?_
    rintro e w2 ⟨rfl, hb2⟩
    have HB1 : Hid (Below w.heap.size w w2) := HB0.out.trans (hb2.mono HB0.out.size)
    clear hb2 HC1 HB0
    go_wp2
    refine bodyPost_ret (v := .tuple #[.pointer (some ⟨w2.heap.size, 0, none⟩), .nilIface]) (by simp [results, Tryz.results6, go_sem]) rfl ?_
    obtain ⟨mp, D, hb, Sh, hp⟩ := psv_new w2 name
    exact ⟨Or.inl ⟨by first | trivial | rfl, w2.heap.size, (fun k => k = w2.heap.size), rfl, mp, D, hb, Sh, hp.blk, hp.self, fun k hk => ⟨Nat.le_trans HB1.out.size (hp.inB k hk).1, (hp.inB k hk).2⟩, hp.fine, hp.none_, hp.map, hp.hold, hp.sub, hp.apart⟩, HB1.out.alloc HB1.out.size _⟩
end Go.Proofs.YtcoecfpkihakoaaGreatDoor
/- Package serve: the hold of a configuration that is asked for . -/
namespace Go.Proofs.YtcoecfpkihakoaaGreatDoor
open Go.RowKit
variable {w w' : World} {B h : Nat} {S : Nat → Prop} {m : MMem} {mp : Option Nat} {D : DataW Value} {hb : Nat → Nat} {Sh : Nat → Nat → Prop}
theorem mapI_not_nil (b : Nat) (W : World) : Sem.run Tryz.prog (binOp .eql 61 (.map (some b)) (.map none)) W = .ok (.bool false) W := by kernel_rfl
theorem mapI_is_nil (W : World) : Sem.run Tryz.prog (binOp .eql 61 (.map none) (.map none)) W = .ok (.bool true) W := by kernel_rfl
/-- None, or a hold of the member's own, which may be new. -/
def HeldP (w : World) (B h : Nat) (S : Nat → Prop) (m : MMem) (c : Int) (e : Ending) (w' : World) : Prop :=
  (m.held c = none ∧ e = .returned (.pointer none) ∧ Below w.heap.size w w') ∨ ∃ my S' mp' D' hb' Sh', m.held c = some my ∧ e = .returned (.pointer (some ⟨hb' (cfdI m.L c), 0, none⟩)) ∧ cfdI m.L c < my.L.length ∧ PSv w' B h S' my mp' D' hb' Sh' ∧ Upd S S' w w'
set_option maxRecDepth 10000 in
set_option maxHeartbeats 4000000 in
/-- Where there is a map already. -/
theorem pheld_some {b : Nat} (hp : PSv w B h S m (some b) D hb Sh) {c : Int} (hc : CfIn c) : Calls Tryz.prog 24 #[.pointer (some ⟨h, 0, none⟩), .int .i64 c] w fun e w' => HeldP w B h S m c e w' := by
  obtain ⟨_, q1, f1⟩ := hp.cells
  have hlk := hp.look hc
  have hlen : ∀ ty, (Builtin.len_ #[61] ty #[.map (some b)]).run Tryz.prog w = .ok (.int .i64 (m.L.length : Nat)) w := fun ty => hp.len ty
  have HP : Hid (PSv w B h S m (some b) D hb Sh) := hp
  have HC : Hid (CfIn c) := hc
  have hmn := mapI_not_nil b
  have hfew := hp.fine.few
  clear hp hc
  by_cases hg : cfdI m.L c < m.L.length
  · have e1 : cfP m.L hb c = .pointer (some ⟨hb (cfdI m.L c), 0, none⟩) := by unfold cfP; rw [if_pos hg]
    rw [e1] at hlk
    have HH : Hid (m.held c = some m) := by show _ = _; unfold MMem.held; rw [if_pos hg]
    have HG : Hid (cfdI m.L c < m.L.length) := hg
    clear e1 hlen
    generalize hhb : hb (cfdI m.L c) = hk at *
    have HHB : Hid (hb (cfdI m.L c) = hk) := hhb
    clear hhb hg
    go_enter Tryz.func24, Tryz.ntmps24
    go_wp2
    go_ret
    exact Or.inr ⟨m, S, some b, D, hb, Sh, HH.out, by rw [HHB.out]; rfl, HG.out, HP.out, Upd.of_below (Below.refl _ _)⟩
  · have e1 : cfP m.L hb c = .pointer none := by unfold cfP; rw [if_neg hg]
    rw [e1] at hlk
    have HG : Hid (¬ cfdI m.L c < m.L.length) := hg
    clear e1 hg
    obtain ⟨n, hn⟩ : ∃ n, n = m.L.length := ⟨_, rfl⟩
    have HN : Hid (n = m.L.length) := hn
    rw [← hn] at hlen hfew
    clear hn
    by_cases h12 : 12 ≤ n
    · have HH : Hid (m.held c = none) := by show _ = _; unfold MMem.held; rw [if_neg HG.out, if_pos (by rw [← HN.out]; exact h12)]
      go_enter Tryz.func24, Tryz.ntmps24
      go_wp2
      go_ret
      exact Or.inl ⟨HH.out, rfl, Below.refl _ _⟩
    · have HH : Hid (m.held c = some ⟨m.name, m.L ++ [(c, [], false)]⟩) := by show _ = _; unfold MMem.held; rw [if_neg HG.out, if_neg (by rw [← HN.out]; exact h12)]
      obtain ⟨w1, hw1⟩ : ∃ w1, w1 = w.alloc (.cells #[.map none, .bool false] 94) := ⟨_, rfl⟩
      have hb1 : Below w.heap.size w w1 := by rw [hw1]; exact (Below.refl _ _).alloc (Nat.le_refl _) _
      have hz1 : w.heap.size < w1.heap.size := by rw [hw1]; simp
      have hH1 : HdOf w1 w.heap.size (fun k => k = w.heap.size) [] false := by rw [hw1]; exact hd_zero w
      have hp1 := HP.out.below hb1
      obtain ⟨_, k1, _⟩ := hp1.cells
      obtain ⟨w2, hrun, hown, hgr⟩ := (hp1.map b rfl).2.2.step HC.out (by have := HP.out.fine.few; omega) w.heap.size
      have HM := HP.out.more HC.out HG.out HH.out hb1 (Nat.le_refl _) hz1 hH1 hown hgr
      have HM' : Hid _ := HM
      have HW1 : Hid (w1 = w.alloc (.cells #[.map none, .bool false] 94)) := hw1
      clear hw1 hb1 hz1 hH1 hp1 hown hgr HM
      go_enter Tryz.func24, Tryz.ntmps24
      go_wp2_with (first | rw [← HW1.out])
      go_ret
      refine Or.inr ⟨_, _, _, _, _, _, HH.out, ?_, ?_, HM'.out.1, HM'.out.2⟩
      · have e2 : cfdI m.L c = m.L.length := by have := cfdI_le m.L c; have := HG.out; omega
        show _ = Ending.returned (.pointer (some ⟨if cfdI m.L c = m.L.length then w.heap.size else hb (cfdI m.L c), 0, none⟩))
        rw [if_pos e2]
        rfl
      · show _ < (m.L ++ [_]).length
        rw [List.length_append]
        have := cfdI_le m.L c
        show _ < _ + 1
        omega
set_option maxRecDepth 10000 in
set_option maxHeartbeats 4000000 in
/-- Where there is none yet. -/
theorem pheld_none (hp : PSv w B h S m none D hb Sh) {c : Int} (hc : CfIn c) : Calls Tryz.prog 24 #[.pointer (some ⟨h, 0, none⟩), .int .i64 c] w fun e w' => HeldP w B h S m c e w' := by
  obtain ⟨_, q1, f1⟩ := hp.cells
  have hL := hp.none_ rfl
  have hlt := hp.lt
  have hlk : (Instr.lookup 61 (.map none) (.int .i64 c) false).run Tryz.prog w = .ok (.pointer none) w := look_nilI w hc
  have hlen : ∀ ty, (Builtin.len_ #[61] ty #[.map none]).run Tryz.prog w = .ok (.int .i64 (0 : Nat)) w := fun ty => by have := hp.len ty; rw [hL] at this; exact this
  have hmn := mapI_is_nil
  have HG : Hid (¬ cfdI m.L c < m.L.length) := by show ¬ _; rw [hL]; exact Nat.not_lt_zero _
  have HH : Hid (m.held c = some ⟨m.name, m.L ++ [(c, [], false)]⟩) := by show _ = _; unfold MMem.held; rw [if_neg HG.out, if_neg (by rw [hL]; decide)]
  obtain ⟨hp0, hU0⟩ := hp.make
  obtain ⟨W0, hW0⟩ : ∃ W0, W0 = (w.setCell ⟨h, 1, none⟩ (.map (some w.heap.size))).alloc (.map #[] 0) := ⟨_, rfl⟩
  rw [← hW0] at hp0 hU0
  have hf1 : (w.alloc (.map #[] 0)).frozen? ⟨h, 1, none⟩ = false := by rw [((Below.refl _ w).alloc (Nat.le_refl _) _).frozen (p := ⟨h, 1, none⟩) hlt]; exact f1
  have hc1 : (w.alloc (.map #[] 0)).cell? ⟨h, 1, none⟩ = some (.map none) := by rw [((Below.refl _ w).alloc (Nat.le_refl _) _).cell (p := ⟨h, 1, none⟩) hlt]; exact q1
  have hmk : (Instr.makeMap 61 none).run Tryz.prog w = .ok (.map (some w.heap.size)) (w.alloc (.map #[] 0)) := by kernel_rfl
  obtain ⟨w1, hw1⟩ : ∃ w1, w1 = W0.alloc (.cells #[.map none, .bool false] 94) := ⟨_, rfl⟩
  have hb1 : Below W0.heap.size W0 w1 := by rw [hw1]; exact (Below.refl _ _).alloc (Nat.le_refl _) _
  have hz1 : W0.heap.size < w1.heap.size := by rw [hw1]; simp
  have hH1 : HdOf w1 W0.heap.size (fun k => k = W0.heap.size) [] false := by rw [hw1]; exact hd_zero W0
  have hp1 := hp0.below hb1
  obtain ⟨_, k1, _⟩ := hp1.cells
  obtain ⟨w2, hrun, hown, hgr⟩ := (hp1.map w.heap.size rfl).2.2.step hc (by rw [hL]; decide) W0.heap.size
  have HM := hp0.more hc HG.out HH.out hb1 (Nat.le_refl _) hz1 hH1 hown hgr
  have HM1 : Hid _ := HM.1
  have HM2 : Hid _ := hU0.trans HM.2
  have HW0 : Hid (W0 = (w.setCell ⟨h, 1, none⟩ (.map (some w.heap.size))).alloc (.map #[] 0)) := hW0
  have HW1 : Hid (w1 = W0.alloc (.cells #[.map none, .bool false] 94)) := hw1
  clear hw1 hb1 hz1 hH1 hp1 hown hgr HM hp hp0 hU0 hW0 hL hc
  go_enter Tryz.func24, Tryz.ntmps24
  go_wp2_with (first | rw [← HW0.out] | rw [← HW1.out])
  go_ret
  refine Or.inr ⟨_, _, _, _, _, _, HH.out, ?_, ?_, HM1.out, HM2.out⟩
  · have e2 : cfdI m.L c = m.L.length := by have := cfdI_le m.L c; have := HG.out; omega
    show _ = Ending.returned (.pointer (some ⟨if cfdI m.L c = m.L.length then W0.heap.size else hb (cfdI m.L c), 0, none⟩))
    rw [if_pos e2]
    rfl
  · show _ < (m.L ++ [_]).length
    rw [List.length_append]
    have := cfdI_le m.L c
    show _ < _ + 1
    omega
theorem pheld_any (hp : PSv w B h S m mp D hb Sh) {c : Int} (hc : CfIn c) : Calls Tryz.prog 24 #[.pointer (some ⟨h, 0, none⟩), .int .i64 c] w fun e w' => HeldP w B h S m c e w' := by
  cases mp with
  | none => exact pheld_none hp hc
  | some b => exact pheld_some hp hc
end Go.Proofs.YtcoecfpkihakoaaGreatDoor
/- Package serve: what Hear is asked to answer. -/
namespace Go.Proofs.YtcoecfpkihakoaaGreatDoor
open Go.RowKit
variable {w : World} {B h : Nat} {S : Nat → Prop} {m : MMem} {mp : Option Nat} {D : DataW Value} {hb : Nat → Nat} {Sh : Nat → Nat → Prop}
/-- What it answers, and what the member is then. -/
def HearP (w : World) (B h : Nat) (S : Nat → Prop) (m : MMem) (x : Msg) (e : Ending) (w' : World) : Prop := ∃ p c S', e = .returned (.slice p (m.hear x).2.length c) ∧ MsgsO (fun b => w.heap.size ≤ b ∧ b < w'.heap.size ∧ ¬ S' b) w' p (m.hear x).2 ∧ PSvOf w' B h S' (m.hear x).1 ∧ Upd S S' w w'
theorem pheld_name {m my : MMem} {c : Int} (h : m.held c = some my) : my.name = m.name := by
  unfold MMem.held at h
  split at h
  · rw [← Option.some.inj h]
  · split at h
    · cases h
    · rw [← Option.some.inj h]
theorem Upd.belowP {S S' : Nat → Prop} {w w' w2 : World} (h : Upd S S' w w') (hb : Below w.heap.size w' w2) : Upd S S' w w2 := ⟨hb.os.trans h.os, hb.tape.trans h.tape, hb.output.trans h.output, Nat.le_trans h.size hb.size, fun k hk hs => (hb.block k hk).trans (h.block k hk hs), h.new⟩
theorem putScan_code {L : List Kep} {key : ByteArray} {v : Ver} : ∀ n i, putScan L key v i n = 0 ∨ putScan L key v i n = -1 ∨ putScan L key v i n = 6 ∨ putScan L key v i n = 7
  | 0, i => by
    have h : putScan L key v i 0 = (if 60 ≤ L.length then (7 : Int) else 0) := rfl
    rw [h]
    split <;> simp
  | n + 1, i => by
    have h : putScan L key v i (n + 1) = (if sameTag (kepAt L i) key v then (if (kepAt L i).2 = v then (-1 : Int) else 6) else putScan L key v (i + 1) n) := rfl
    rw [h]
    split
    · split <;> simp
    · exact putScan_code n (i + 1)
/-- The errors that a put can have. -/
theorem putR_code (L : List Kep) (s : Bool) (key : ByteArray) (v : Ver) : (putR L s key v).1 = 0 ∨ (putR L s key v).1 = 2 ∨ (putR L s key v).1 = 4 ∨ (putR L s key v).1 = 6 ∨ (putR L s key v).1 = 7 ∨ (putR L s key v).1 = 10 := by
  have h : putErr L s key v = 10 ∨ putErr L s key v = 4 ∨ putErr L s key v = 2 ∨ putErr L s key v = 0 ∨ putErr L s key v = -1 ∨ putErr L s key v = 6 ∨ putErr L s key v = 7 := by
    unfold putErr
    split
    · simp
    · split
      · split
        · rcases putScan_code (L := L) (key := key) (v := v) L.length 0 with h | h | h | h <;> simp [h]
        · simp
      · simp
  unfold putR
  split
  · simp
  · split
    · simp
    · dsimp only
      omega
/-- One message in a row of its own. -/
theorem one_msgO {O : Nat → Prop} {w : World} {k : Nat} {x : Msg × Lv} {t : TypeId} (hb : w.heap[k]? = some (.cells (msgC x).toArray t (0, 0))) (hx : HasL w x) (hk : O k) (hl : ∀ b o, x.2.1 = some ⟨b, o, none⟩ → O b) : MsgsO O w (some ⟨k, 0, none⟩) [x.1] := by
  have hlt : k < w.heap.size := lt_of_blk hb
  refine ⟨[x], rfl, Or.inr ⟨k, 0, rfl, hlt, fun i y hy j u hu => ?_⟩, fun y hy => by rw [List.mem_singleton.1 hy]; exact ⟨hx, hl⟩, fun b o e => ?_⟩
  · match i, hy with
    | 0, hy =>
      obtain rfl : x = y := by simpa using hy
      have hu' : (msgC x)[j]? = some u := hu
      rw [Nat.zero_mul, Nat.zero_add]
      simp [World.cell?, hb, hu']
  · obtain ⟨rfl, _⟩ : k = b ∧ 0 = o := by simpa using e
    exact hk
theorem hearP_nil {w5 : World} {S5 : Nat → Prop} {m' : MMem} {x : Msg} (hp : PSv w5 B h S5 m' mp D hb Sh) (hU : Upd S S5 w w5) (he : m.hear x = (m', [])) : HearP w B h S m x (.returned (.slice none 0 0)) w5 := by
  unfold HearP
  rw [he]
  exact ⟨none, 0, S5, rfl, MsgsO.nil _ _, ⟨_, _, _, _, hp⟩, hU⟩
theorem hearP_one {w5 w9 : World} {S5 : Nat → Prop} {m' : MMem} {x : Msg} {y : Msg × Lv} {t : TypeId} {kb c : Nat} (hp : PSv w5 B h S5 m' mp D hb Sh) (hU : Upd S S5 w w5) (hb : Below w.heap.size w5 w9) (hk : ∀ k, S5 k → w9.heap[k]? = w5.heap[k]?) (hblk : w9.heap[kb]? = some (.cells (msgC y).toArray t (0, 0))) (hL : HasL w9 y) (hkb : w5.heap.size ≤ kb) (hq : ∀ b o, y.2.1 = some ⟨b, o, none⟩ → w5.heap.size ≤ b ∧ b < w9.heap.size) (he : m.hear x = (m', [y.1])) : HearP w B h S m x (.returned (.slice (some ⟨kb, 0, none⟩) 1 c)) w9 := by
  unfold HearP
  rw [he]
  have hno : ∀ b, w5.heap.size ≤ b → ¬ S5 b := fun b hb hs => by have := (hp.inB b hs).2; omega
  exact ⟨_, c, S5, rfl, one_msgO hblk hL ⟨Nat.le_trans hU.size hkb, lt_of_blk hblk, hno _ hkb⟩ (fun b o e => ⟨Nat.le_trans hU.size (hq b o e).1, (hq b o e).2, hno _ (hq b o e).1⟩), ⟨_, _, _, _, hp.keep hb.size hk⟩, hU.belowP hb⟩
end Go.Proofs.YtcoecfpkihakoaaGreatDoor
/- Package hold: all, of, Sealed, copied, inBounds. -/
namespace Go.Proofs.YtcoecfpkihakoaaGreatDoor
open Go.RowKit
variable {h : Nat} {S : Nat → Prop} {L : List Kep} {s : Bool} {m : Option Nat} {D : DataW Value} {row : ByteArray → Value} {blk : ByteArray → Nat}
set_option maxRecDepth 10000 in
theorem all_any {w : World} (hd : HdAt w h S L s m D row blk) : Calls Tryz.prog 51 #[.pointer (some ⟨h, 0, none⟩)] w fun e w' => e = .returned (.map m) ∧ w' = w := by
  have q0 := hd.ptr
  clear hd
  go_enter Tryz.func51, Tryz.ntmps51
  go_wp2
  go_ret
  exact ⟨rfl, rfl⟩
set_option maxRecDepth 10000 in
theorem of_any {w : World} (hd : HdAt w h S L s m D row blk) (key : ByteArray) (hk : key.size ≤ maxLen) : Calls Tryz.prog 43 #[.pointer (some ⟨h, 0, none⟩), .string key] w fun e w' => e = .returned (row key) ∧ w' = w := by
  have hlook := hd.look hk
  have HA : Hid (Calls Tryz.prog 51 #[.pointer (some ⟨h, 0, none⟩)] w fun e w' => e = .returned (.map m) ∧ w' = w) := all_any hd
  clear hd
  generalize row key = r at *
  go_enter Tryz.func43, Tryz.ntmps43
  go_wp2_with fail
  refine HA.out.mono ?_
  rintro e w1 ⟨rfl, hw1⟩
  rw [hw1]
  clear hw1 w1 HA
  go_wp2
  go_ret
  exact ⟨rfl, rfl⟩
set_option maxRecDepth 10000 in
theorem sealed_any {w : World} (hd : HdAt w h S L s m D row blk) : Calls Tryz.prog 25 #[.pointer (some ⟨h, 0, none⟩)] w fun e w' => e = .returned (.bool s) ∧ w' = w := by
  have q0 := hd.shut
  clear hd
  go_enter Tryz.func25, Tryz.ntmps25
  go_wp2
  go_ret
  exact ⟨rfl, rfl⟩
set_option maxRecDepth 10000 in
set_option maxHeartbeats 1000000 in
theorem copied_any (v : Ver) (w : World) (ht : v.text.size ≤ 1000000) : Calls Tryz.prog 44 #[.agg #[.int .i64 v.n, .int .i64 v.who, .int .i64 v.size, .int .i64 v.at_, .string v.text]] w fun e w' => e = .returned (.agg #[.int .i64 v.n, .int .i64 v.who, .int .i64 v.size, .int .i64 v.at_, .string v.text]) ∧ Below w.heap.size w w' := by
  have HC : Hid (∀ W, Calls Tryz.prog 19 #[.string v.text] W fun e w' => e = .returned (.string v.text) ∧ Below W.heap.size W w') := fun W => sclone_any v.text W (by omega)
  obtain ⟨n, who, size, at_, text⟩ := v
  obtain ⟨w2, hw2⟩ : ∃ w2, w2 = (w.alloc (.cells #[.int .i64 n, .int .i64 who, .int .i64 size, .int .i64 at_, .string text] 59)).alloc (.cells #[.int .i64 0, .int .i64 0, .int .i64 0, .int .i64 0, .string ⟨#[]⟩] 59) := ⟨_, rfl⟩
  have HW2 : Hid (w2 = (w.alloc (.cells #[.int .i64 n, .int .i64 who, .int .i64 size, .int .i64 at_, .string text] 59)).alloc (.cells #[.int .i64 0, .int .i64 0, .int .i64 0, .int .i64 0, .string ⟨#[]⟩] 59)) := hw2
  have HB2 : Hid (Below w.heap.size w w2) := by rw [hw2]; exact ((Below.refl _ _).alloc (Nat.le_refl _) _).alloc (by simp) _
  have HBK : Hid (w2.heap[w.heap.size]? = some (.cells #[.int .i64 n, .int .i64 who, .int .i64 size, .int .i64 at_, .string text] 59 (0, 0)) ∧ w2.heap[w.heap.size + 1]? = some (.cells #[.int .i64 0, .int .i64 0, .int .i64 0, .int .i64 0, .string ⟨#[]⟩] 59 (0, 0))) := by
    rw [hw2]
    constructor
    · rw [heap_alloc_old _ _ (by simp), heap_alloc_new]
    · have e : w.heap.size + 1 = (w.alloc (.cells #[.int .i64 n, .int .i64 who, .int .i64 size, .int .i64 at_, .string text] 59)).heap.size := by simp
      rw [e, heap_alloc_new]
  have hs2 : w.heap.size + 1 < w2.heap.size := by rw [hw2]; simp
  have k4 : w2.cell? ⟨w.heap.size, 4, none⟩ = some (.string text) := by simp [World.cell?, HBK.out.1]
  clear hw2 ht
  go_enter Tryz.func44, Tryz.ntmps44
  go_wp2_with fail
  rw [← HW2.out]
  clear HW2
  refine (HC.out _).mono ?_
  rintro e w3 ⟨rfl, hb3⟩
  have HB3 : Hid (Below w.heap.size w w3) := HB2.out.trans (hb3.mono HB2.out.size)
  have e0 : w3.heap[w.heap.size]? = some (.cells #[.int .i64 n, .int .i64 who, .int .i64 size, .int .i64 at_, .string text] 59 (0, 0)) := (hb3.block _ (by omega)).trans HBK.out.1
  have e1 : w3.heap[w.heap.size + 1]? = some (.cells #[.int .i64 0, .int .i64 0, .int .i64 0, .int .i64 0, .string ⟨#[]⟩] 59 (0, 0)) := (hb3.block _ (by omega)).trans HBK.out.2
  have c0 : w3.cell? ⟨w.heap.size, 0, none⟩ = some (.int .i64 n) := by simp [World.cell?, e0]
  have c1 : w3.cell? ⟨w.heap.size, 1, none⟩ = some (.int .i64 who) := by simp [World.cell?, e0]
  have c2 : w3.cell? ⟨w.heap.size, 2, none⟩ = some (.int .i64 size) := by simp [World.cell?, e0]
  have c3 : w3.cell? ⟨w.heap.size, 3, none⟩ = some (.int .i64 at_) := by simp [World.cell?, e0]
  have c4 : w3.cell? ⟨w.heap.size, 4, none⟩ = some (.string text) := by simp [World.cell?, e0]
  have f4 : ∀ o, w3.frozen? ⟨w.heap.size, o, none⟩ = false := fun o => by simp [World.frozen?, e0]
  have d0 : w3.cell? ⟨w.heap.size + 1, 0, none⟩ = some (.int .i64 0) := by simp [World.cell?, e1]
  have d1 : w3.cell? ⟨w.heap.size + 1, 1, none⟩ = some (.int .i64 0) := by simp [World.cell?, e1]
  have d2 : w3.cell? ⟨w.heap.size + 1, 2, none⟩ = some (.int .i64 0) := by simp [World.cell?, e1]
  have d3 : w3.cell? ⟨w.heap.size + 1, 3, none⟩ = some (.int .i64 0) := by simp [World.cell?, e1]
  have d4 : w3.cell? ⟨w.heap.size + 1, 4, none⟩ = some (.string ⟨#[]⟩) := by simp [World.cell?, e1]
  have g4 : ∀ o, w3.frozen? ⟨w.heap.size + 1, o, none⟩ = false := fun o => by simp [World.frozen?, e1]
  clear hb3 e0 e1 HBK HB2 HC
  go_wp2
  refine bodyPost_ret (v := .agg #[.int .i64 n, .int .i64 who, .int .i64 size, .int .i64 at_, .string text]) (by simp [results, Tryz.results44, go_sem, d0, d1, d2, d3, d4]) rfl ⟨rfl, ?_⟩
  exact (((((HB3.out.setCell (p := ⟨w.heap.size, 4, none⟩) (Nat.le_refl _) _).setCell (p := ⟨w.heap.size + 1, 0, none⟩) (Nat.le_succ _) _).setCell (p := ⟨w.heap.size + 1, 1, none⟩) (Nat.le_succ _) _).setCell (p := ⟨w.heap.size + 1, 2, none⟩) (Nat.le_succ _) _).setCell (p := ⟨w.heap.size + 1, 3, none⟩) (Nat.le_succ _) _).setCell (p := ⟨w.heap.size + 1, 4, none⟩) (Nat.le_succ _) _
/-- The four that inBounds asks, one behind the other. -/
theorem verOk_four (v : Ver) : verOk v = (tagOk v.n v.who && (decide (0 ≤ v.size ∧ v.size ≤ 1000) && (decide (0 ≤ v.at_ ∧ v.at_ ≤ 11) && decide (0 ≤ (v.text.size : Int) ∧ (v.text.size : Int) ≤ 1000)))) := by
  unfold verOk tagB tagOk
  rw [Bool.eq_iff_iff]
  simp only [Bool.and_eq_true, decide_eq_true_eq]
  omega
set_option maxRecDepth 10000 in
set_option maxHeartbeats 2000000 in
theorem inBounds_any (v : Ver) (w : World) (ht : v.text.size ≤ maxLen) : Calls Tryz.prog 45 #[.agg #[.int .i64 v.n, .int .i64 v.who, .int .i64 v.size, .int .i64 v.at_, .string v.text]] w fun e w' => e = .returned (.bool (verOk v)) ∧ Below w.heap.size w w' := by
  rw [verOk_four]
  obtain ⟨n, who, size, at_, text⟩ := v
  simp only
  have H1 : Hid (∀ W, Calls Tryz.prog 60 #[.agg #[.int .i64 n, .int .i64 who]] W fun e w' => e = .returned (.bool (tagOk n who)) ∧ Below W.heap.size W w') := fun W => istag_any n who W
  have H3 : Hid (∀ W, Calls Tryz.prog 61 #[.int .i64 size, .int .i64 1000] W fun e w' => e = .returned (.bool (decide (0 ≤ size ∧ size ≤ 1000))) ∧ w' = W) := fun W => hwithin_any size _ W
  have H4 : Hid (∀ W, Calls Tryz.prog 61 #[.int .i64 at_, .int .i64 11] W fun e w' => e = .returned (.bool (decide (0 ≤ at_ ∧ at_ ≤ 11))) ∧ w' = W) := fun W => hwithin_any at_ _ W
  have H5 : Hid (∀ W, Calls Tryz.prog 61 #[.int .i64 (text.size : Int), .int .i64 1000] W fun e w' => e = .returned (.bool (decide (0 ≤ (text.size : Int) ∧ (text.size : Int) ≤ 1000))) ∧ w' = W) := fun W => hwithin_any (text.size : Int) _ W
  generalize tagOk n who = r1 at *
  generalize decide (0 ≤ size ∧ size ≤ 1000) = r3 at *
  generalize decide (0 ≤ at_ ∧ at_ ≤ 11) = r4 at *
  generalize decide (0 ≤ (text.size : Int) ∧ (text.size : Int) ≤ 1000) = r5 at *
  obtain ⟨w2, hw2⟩ : ∃ w2, w2 = w.alloc (.cells #[.int .i64 n, .int .i64 who, .int .i64 size, .int .i64 at_, .string text] 59) := ⟨_, rfl⟩
  have HW2 : Hid (w2 = w.alloc (.cells #[.int .i64 n, .int .i64 who, .int .i64 size, .int .i64 at_, .string text] 59)) := hw2
  have HB2 : Hid (Below w.heap.size w w2) := by rw [hw2]; exact (Below.refl _ _).alloc (Nat.le_refl _) _
  have hlt : w.heap.size < w2.heap.size := by rw [hw2]; simp
  have c0 : w2.cell? ⟨w.heap.size, 0, none⟩ = some (.int .i64 n) := by rw [hw2]; simp
  have c1 : w2.cell? ⟨w.heap.size, 1, none⟩ = some (.int .i64 who) := by rw [hw2]; simp
  have c2 : w2.cell? ⟨w.heap.size, 2, none⟩ = some (.int .i64 size) := by rw [hw2]; simp
  have c3 : w2.cell? ⟨w.heap.size, 3, none⟩ = some (.int .i64 at_) := by rw [hw2]; simp
  have c4 : w2.cell? ⟨w.heap.size, 4, none⟩ = some (.string text) := by rw [hw2]; simp
  have HC : Hid (∀ W, Below w2.heap.size w2 W → W.cell? ⟨w.heap.size, 2, none⟩ = some (.int .i64 size) ∧ W.cell? ⟨w.heap.size, 3, none⟩ = some (.int .i64 at_) ∧ W.cell? ⟨w.heap.size, 4, none⟩ = some (.string text)) := fun W hW => ⟨(hW.cell (p := ⟨w.heap.size, 2, none⟩) hlt).trans c2, (hW.cell (p := ⟨w.heap.size, 3, none⟩) hlt).trans c3, (hW.cell (p := ⟨w.heap.size, 4, none⟩) hlt).trans c4⟩
  clear hw2 ht hlt
  go_enter Tryz.func45, Tryz.ntmps45
  go_wp2_with (first | rw [← HW2.out])
  refine (H1.out _).mono ?_
  rintro e w3 ⟨rfl, hb3⟩
  obtain ⟨d2, d3, d4⟩ := HC.out w3 hb3
  have HB3 : Hid (Below w.heap.size w w3) := HB2.out.trans (hb3.mono HB2.out.size)
  clear HW2 c0 c1 c2 c3 c4 HC hb3 H1
  cases r1 with
  | false =>
    go_wp2
    go_ret
    exact ⟨rfl, HB3.out⟩
  | true =>
    go_wp2_with fail
    refine (H3.out _).mono ?_
    rintro e w4 ⟨rfl, rfl⟩
    cases r3 with
    | false =>
      go_wp2
      go_ret
      exact ⟨rfl, HB3.out⟩
    | true =>
      go_wp2_with fail
      refine (H4.out _).mono ?_
      rintro e w4 ⟨rfl, rfl⟩
      cases r4 with
      | false =>
        go_wp2
        go_ret
        exact ⟨rfl, HB3.out⟩
      | true =>
        go_wp2_with fail
        refine (H5.out _).mono ?_
        rintro e w4 ⟨rfl, rfl⟩
        go_wp2
        go_ret
        exact ⟨by cases r5 <;> rfl, HB3.out⟩
end Go.Proofs.YtcoecfpkihakoaaGreatDoor
/- Package hold: Seal. -/
namespace Go.Proofs.YtcoecfpkihakoaaGreatDoor
open Go.RowKit
variable {h : Nat} {S : Nat → Prop} {L : List Kep} {s : Bool} {m : Option Nat} {D : DataW Value} {row : ByteArray → Value} {blk : ByteArray → Nat}
set_option maxRecDepth 10000 in
theorem seal_set {w : World} (hd : HdAt w h S L s m D row blk) : Calls Tryz.prog 28 #[.pointer (some ⟨h, 0, none⟩)] w fun e w' => e = .returned (.tuple #[]) ∧ w' = w.setCell ⟨h, 1, none⟩ (.bool true) := by
  have q1 := hd.shut
  have f1 := hd.free1
  clear hd
  go_enter Tryz.func28, Tryz.ntmps28
  go_wp2
  go_end0
  exact ⟨rfl, rfl⟩
theorem seals_any {w : World} (hd : HdOf w h S L s) : Calls Tryz.prog 28 #[.pointer (some ⟨h, 0, none⟩)] w fun e w' => e = .returned (.tuple #[]) ∧ ∃ S', HdOf w' h S' L true ∧ Upd S S' w w' := by
  obtain ⟨m, D, row, blk, hd⟩ := hd
  refine (seal_set hd).mono fun e w' hp => ?_
  obtain ⟨he, rfl⟩ := hp
  have hblk : ∀ k, k ≠ h → (w.setCell ⟨h, 1, none⟩ (.bool true)).heap[k]? = w.heap[k]? := fun k hk => Deep.blk_setCell_other _ _ _ _ hk
  refine ⟨he, S, ⟨m, D, row, blk, hd.sorted, hd.few, hd.fits, fun k hk => by simpa using hd.inS k hk, hd.self, ?_, World.cell?_setCell_same _ _ _ hd.shut, by rw [World.frozen?_setCell]; exact hd.free0, by rw [World.frozen?_setCell]; exact hd.free1, hd.nothing, fun b hm => ?_, fun x => (hd.own x).same (fun k hk => hblk k ?_), hd.nilrow, hd.inB, hd.apart⟩, ⟨rfl, rfl, rfl, by simp, fun k _ hn => hblk k (fun e => hn (e ▸ hd.self)), fun k hk => Or.inl hk⟩⟩
  · rw [World.cell?_setCell_other _ _ _ _ (fun e => by have h2 : (1 : Nat) = 0 := congrArg Addr.off e; omega)]
    exact hd.ptr
  · obtain ⟨h1, h2, ⟨n, h3⟩, h4⟩ := hd.mapS b hm
    exact ⟨h1, h2, ⟨n, h3.same (hblk b h2)⟩, h4⟩
  · obtain ⟨_, h2, h3⟩ := hd.rowS hk
    rw [h3]
    exact (hd.inB x h2).2.2.1
end Go.Proofs.YtcoecfpkihakoaaGreatDoor
