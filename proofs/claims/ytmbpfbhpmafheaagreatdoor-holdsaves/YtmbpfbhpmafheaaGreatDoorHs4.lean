/- Texts laid together. -/
import Derived.Test.YtmbpfbhpmafheaaGreatDoorHs3
import Derived.Laws.IdiomRangeMap
import Derived.Sort.OwnSorted
import Derived.Deep.OwnRows
import Derived.Deep.RegionWith
namespace Go.Proofs.YtmbpfbhpmafheaaGreatDoor
open Go.RowKit
section
/-- In the world w the hold at block h, in the blocks of S, holds L, and is sealed or not: its map is m, which tells D; a key's versions are the row 'row x', in block blk x. -/
structure HdAt (w : World) (h : Nat) (S : Nat → Prop) (L : List Kep) (s : Bool) (m : Option Nat) (D : DataW Value) (row : ByteArray → Value) (blk : ByteArray → Nat) : Prop where
  sorted : SortedK L
  few : L.length ≤ 60
  fits : ∀ x ∈ L, isN x.1 = true ∧ verOk x.2 = true
  inS : ∀ k, S k → k < w.heap.size
  self : S h
  ptr : w.cell? ⟨h, 0, none⟩ = some (.map m)
  shut : w.cell? ⟨h, 1, none⟩ = some (.bool s)
  free0 : w.frozen? ⟨h, 0, none⟩ = false
  free1 : w.frozen? ⟨h, 1, none⟩ = false
  nothing : m = none → L = []
  mapS : ∀ b, m = some b → S b ∧ b ≠ h ∧ (∃ n, OwnM w b n D) ∧ (∀ x, x.size ≤ maxLen → Maps.has D (litK x) = decide (getL L x ≠ [])) ∧ ∀ x, getL L x ≠ [] → ∀ z, D.atKey (litK x) z = .held (row x)
  own : ∀ x, OwnR verE 49 w 0 (row x) (getL L x)
  nilrow : ∀ x, getL L x = [] → row x = .slice none 0 0
  inB : ∀ x, getL L x ≠ [] → (row x).ownBlock = some (blk x) ∧ S (blk x) ∧ blk x ≠ h ∧ ∀ b, m = some b → blk x ≠ b
  apart : ∀ x y, getL L x ≠ [] → getL L y ≠ [] → x ≠ y → blk x ≠ blk y
/-- The hold at block h, in the blocks of S, holds L. -/
def HdOf (w : World) (h : Nat) (S : Nat → Prop) (L : List Kep) (s : Bool) : Prop := ∃ m D row blk, HdAt w h S L s m D row blk
variable {w w' : World} {h : Nat} {S : Nat → Prop} {L : List Kep} {s : Bool} {m : Option Nat} {D : DataW Value} {row : ByteArray → Value} {blk : ByteArray → Nat}
theorem HdAt.rowS (hd : HdAt w h S L s m D row blk) {x : ByteArray} {k : Nat} (hk : (row x).ownBlock = some k) : S k ∧ getL L x ≠ [] ∧ k = blk x := by
  by_cases hx : getL L x = []
  · rw [hd.nilrow x hx] at hk; cases hk
  · obtain ⟨h1, h2, _⟩ := hd.inB x hx
    rw [h1] at hk
    cases hk
    exact ⟨h2, hx, rfl⟩
theorem HdAt.keep (hd : HdAt w h S L s m D row blk) (hs : w.heap.size ≤ w'.heap.size) (hb : ∀ k, S k → w'.heap[k]? = w.heap[k]?) : HdAt w' h S L s m D row blk := by
  have hh := hb h hd.self
  refine ⟨hd.sorted, hd.few, hd.fits, fun k hk => Nat.lt_of_lt_of_le (hd.inS k hk) hs, hd.self, (cell_same hh 0).1.trans hd.ptr, (cell_same hh 1).1.trans hd.shut, (cell_same hh 0).2.trans hd.free0, (cell_same hh 1).2.trans hd.free1, hd.nothing, fun b hm => ?_, fun x => (hd.own x).same (fun k hk => hb k (hd.rowS hk).1), hd.nilrow, hd.inB, hd.apart⟩
  obtain ⟨h1, h2, ⟨n, h3⟩, h4⟩ := hd.mapS b hm
  exact ⟨h1, h2, ⟨n, h3.same (hb b h1)⟩, h4⟩
theorem HdAt.below (hd : HdAt w h S L s m D row blk) (hb : Below w.heap.size w w') : HdAt w' h S L s m D row blk := hd.keep hb.size (fun k hk => hb.block k (hd.inS k hk))
/-- Its map has no more entries than there are versions. -/
theorem HdAt.size (hd : HdAt w h S L s m D row blk) {b : Nat} (hm : m = some b) : Maps.size D ≤ 60 := by
  obtain ⟨_, _, ⟨n, h3⟩, h4, _⟩ := hd.mapS b hm
  obtain ⟨es, rfl, hp, hk⟩ := h3.keys
  rw [Maps.size_eq]
  refine Nat.le_trans ?_ (Nat.le_trans (keysL_le L) hd.few)
  have hn : (es.map Prod.fst).Nodup := by unfold List.Nodup; rw [List.pairwise_map]; exact hp
  have := length_le_sub (l := es.map Prod.fst) (m := (keysL L).map litK) hn (fun l hl => by
    obtain ⟨p, hp', rfl⟩ := List.mem_map.1 hl
    obtain ⟨x, hx, e⟩ := hk p hp'
    have hh : Maps.has (.map es) (litK x) = true := List.any_eq_true.2 ⟨p, hp', by rw [e]; exact sameKey_litK x⟩
    rw [h4 x hx] at hh
    rw [e]
    exact List.mem_map.2 ⟨x, ((keysOk L hd.sorted).mem x).2 (by simpa using hh), rfl⟩)
  simpa using this
set_option maxRecDepth 10000 in
/-- What the map tells of a key. -/
theorem HdAt.look (hd : HdAt w h S L s m D row blk) {x : ByteArray} (hx : x.size ≤ maxLen) : (Instr.lookup 37 (.map m) (.string x) false).run Tryz.prog w = .ok (row x) w := by
  have hz : (zeroValue 57).run Tryz.prog w = .ok (.slice none 0 0) w := by kernel_rfl
  cases m with
  | none =>
    have h0 := hd.nothing rfl
    have := Maps.look_nil (w := w) false keyedK Tryz.underlying37 hz (keyOfK hx)
    rw [this, hd.nilrow x (by rw [h0]; rfl)]
    rfl
  | some b =>
    obtain ⟨_, _, ⟨n, h3⟩, h4, h5⟩ := hd.mapS b rfl
    obtain ⟨v, ps, hrun, hR⟩ := World.ownsMap.lookup h3 keyedK Tryz.underlying37 hz (zd := .held (.slice none 0 0)) (zp := []) rfl (keyOfK hx)
    rw [hrun]
    have e : DataW.held v = D.atKey (litK x) (.held (.slice none 0 0)) := congrArg Prod.fst (Option.some.inj hR)
    by_cases hg : getL L x = []
    · rw [Maps.atKey_of_not_has (by rw [h4 x hx]; simp [hg])] at e
      injection e with e
      rw [e, hd.nilrow x hg]
    · rw [h5 x hg] at e
      injection e with e
      rw [e]
/-- A key's row has its versions. -/
theorem HdAt.form (hd : HdAt w h S L s m D row blk) (x : ByteArray) : ∃ p c, row x = .slice p (getL L x).length c ∧ Rec verE w p (getL L x) ∧ (getL L x).length ≤ c ∧ (p = none → getL L x = [] ∧ c = 0) ∧ ∀ b o, p = some ⟨b, o, none⟩ → b < w.heap.size := by
  obtain ⟨p, c, h1, h2, h3, h4, h5⟩ := (hd.own x).form
  exact ⟨p, c, h1, h2, h3, h4, fun b o e => (h5 b o e).2⟩
theorem HdAt.good (hd : HdAt w h S L s m D row blk) : SortedK L ∧ L.length ≤ 60 ∧ ∀ x ∈ L, isN x.1 = true ∧ verOk x.2 = true := ⟨hd.sorted, hd.few, hd.fits⟩
/-- A hold's zero value. -/
theorem hd_zero (w : World) : HdOf (w.alloc (.cells #[.map none, .bool false] 39)) w.heap.size (fun k => k = w.heap.size) [] false := by
  refine ⟨none, .nil, fun _ => .slice none 0 0, fun _ => 0, List.Pairwise.nil, by simp, (fun _ hx => by cases hx), (fun k hk => by subst hk; simp), rfl, by simp, by simp, by simp, by simp, fun _ => rfl, (fun b hm => by cases hm), fun x => OwnR.nil _ _ _, fun _ _ => rfl, fun x hx => absurd rfl hx, fun x _ hx _ _ => absurd rfl hx⟩
theorem HdOf.keep (hd : HdOf w h S L s) (hs : w.heap.size ≤ w'.heap.size) (hb : ∀ k, S k → w'.heap[k]? = w.heap[k]?) : HdOf w' h S L s := by
  obtain ⟨m, D, row, blk, hd⟩ := hd
  exact ⟨m, D, row, blk, hd.keep hs hb⟩
theorem HdOf.below (hd : HdOf w h S L s) (hb : Below w.heap.size w w') : HdOf w' h S L s := by
  obtain ⟨m, D, row, blk, hd⟩ := hd
  exact ⟨m, D, row, blk, hd.below hb⟩
end
section
variable {h : Nat} {S : Nat → Prop} {L : List Kep} {s : Bool} {m : Option Nat} {D : DataW Value} {row : ByteArray → Value} {blk : ByteArray → Nat}
set_option maxRecDepth 10000 in
theorem all_any {w : World} (hd : HdAt w h S L s m D row blk) : Calls Tryz.prog 25 #[.pointer (some ⟨h, 0, none⟩)] w fun e w' => e = .returned (.map m) ∧ w' = w := by
  have q0 := hd.ptr
  clear hd
  go_enter Tryz.func25, Tryz.ntmps25
  go_wp2
  go_ret
  exact ⟨rfl, rfl⟩
set_option maxRecDepth 10000 in
theorem of_any {w : World} (hd : HdAt w h S L s m D row blk) (key : ByteArray) (hk : key.size ≤ maxLen) : Calls Tryz.prog 38 #[.pointer (some ⟨h, 0, none⟩), .string key] w fun e w' => e = .returned (row key) ∧ w' = w := by
  have hlook := hd.look hk
  have HA : Hid (Calls Tryz.prog 25 #[.pointer (some ⟨h, 0, none⟩)] w fun e w' => e = .returned (.map m) ∧ w' = w) := all_any hd
  clear hd
  generalize row key = r at *
  go_enter Tryz.func38, Tryz.ntmps38
  go_wp2_with fail
  refine HA.out.mono ?_
  rintro e w1 ⟨rfl, hw1⟩
  rw [hw1]
  clear hw1 w1 HA
  go_wp2
  go_ret
  exact ⟨rfl, rfl⟩
set_option maxRecDepth 10000 in
theorem sealed_any {w : World} (hd : HdAt w h S L s m D row blk) : Calls Tryz.prog 12 #[.pointer (some ⟨h, 0, none⟩)] w fun e w' => e = .returned (.bool s) ∧ w' = w := by
  have q0 := hd.shut
  clear hd
  go_enter Tryz.func12, Tryz.ntmps12
  go_wp2
  go_ret
  exact ⟨rfl, rfl⟩
set_option maxRecDepth 10000 in
set_option maxHeartbeats 1000000 in
theorem copied_any (v : Ver) (w : World) (ht : v.text.size ≤ 1000000) : Calls Tryz.prog 42 #[.agg #[.int .i64 v.n, .int .i64 v.who, .int .i64 v.size, .int .i64 v.at_, .string v.text]] w fun e w' => e = .returned (.agg #[.int .i64 v.n, .int .i64 v.who, .int .i64 v.size, .int .i64 v.at_, .string v.text]) ∧ Below w.heap.size w w' := by
  have HC : Hid (∀ W, Calls Tryz.prog 44 #[.string v.text] W fun e w' => e = .returned (.string v.text) ∧ Below W.heap.size W w') := fun W => sclone_any v.text W (by omega)
  obtain ⟨n, who, size, at_, text⟩ := v
  obtain ⟨w2, hw2⟩ : ∃ w2, w2 = (w.alloc (.cells #[.int .i64 n, .int .i64 who, .int .i64 size, .int .i64 at_, .string text] 49)).alloc (.cells #[.int .i64 0, .int .i64 0, .int .i64 0, .int .i64 0, .string ⟨#[]⟩] 49) := ⟨_, rfl⟩
  have HW2 : Hid (w2 = (w.alloc (.cells #[.int .i64 n, .int .i64 who, .int .i64 size, .int .i64 at_, .string text] 49)).alloc (.cells #[.int .i64 0, .int .i64 0, .int .i64 0, .int .i64 0, .string ⟨#[]⟩] 49)) := hw2
  have HB2 : Hid (Below w.heap.size w w2) := by rw [hw2]; exact ((Below.refl _ _).alloc (Nat.le_refl _) _).alloc (by simp) _
  have HBK : Hid (w2.heap[w.heap.size]? = some (.cells #[.int .i64 n, .int .i64 who, .int .i64 size, .int .i64 at_, .string text] 49 (0, 0)) ∧ w2.heap[w.heap.size + 1]? = some (.cells #[.int .i64 0, .int .i64 0, .int .i64 0, .int .i64 0, .string ⟨#[]⟩] 49 (0, 0))) := by
    rw [hw2]
    constructor
    · rw [heap_alloc_old _ _ (by simp), heap_alloc_new]
    · have e : w.heap.size + 1 = (w.alloc (.cells #[.int .i64 n, .int .i64 who, .int .i64 size, .int .i64 at_, .string text] 49)).heap.size := by simp
      rw [e, heap_alloc_new]
  have hs2 : w.heap.size + 1 < w2.heap.size := by rw [hw2]; simp
  have k4 : w2.cell? ⟨w.heap.size, 4, none⟩ = some (.string text) := by simp [World.cell?, HBK.out.1]
  clear hw2 ht
  go_enter Tryz.func42, Tryz.ntmps42
  go_wp2_with fail
  rw [← HW2.out]
  clear HW2
  refine (HC.out _).mono ?_
  rintro e w3 ⟨rfl, hb3⟩
  have HB3 : Hid (Below w.heap.size w w3) := HB2.out.trans (hb3.mono HB2.out.size)
  have e0 : w3.heap[w.heap.size]? = some (.cells #[.int .i64 n, .int .i64 who, .int .i64 size, .int .i64 at_, .string text] 49 (0, 0)) := (hb3.block _ (by omega)).trans HBK.out.1
  have e1 : w3.heap[w.heap.size + 1]? = some (.cells #[.int .i64 0, .int .i64 0, .int .i64 0, .int .i64 0, .string ⟨#[]⟩] 49 (0, 0)) := (hb3.block _ (by omega)).trans HBK.out.2
  have c0 : w3.cell? ⟨w.heap.size, 0, none⟩ = some (.int .i64 n) := by simp [World.cell?, e0]
  have c1 : w3.cell? ⟨w.heap.size, 1, none⟩ = some (.int .i64 who) := by simp [World.cell?, e0]
  have c2 : w3.cell? ⟨w.heap.size, 2, none⟩ = some (.int .i64 size) := by simp [World.cell?, e0]
  have c3 : w3.cell? ⟨w.heap.size, 3, none⟩ = some (.int .i64 at_) := by simp [World.cell?, e0]
  have c4 : w3.cell? ⟨w.heap.size, 4, none⟩ = some (.string text) := by simp [World.cell?, e0]
  have f4 : ∀ o, w3.frozen? ⟨w.heap.size, o, none⟩ = false := fun o => by simp [World.frozen?, e0]
  have d0 : w3.cell? ⟨w.heap.size + 1, 0, none⟩ = some (.int .i64 0) := by simp [World.cell?, e1]
  have d1 : w3.cell? ⟨w.heap.size + 1, 1, none⟩ = some (.int .i64 0) := by simp [World.cell?, e1]
  have d2 : w3.cell? ⟨w.heap.size + 1, 2, none⟩ = some (.int .i64 0) := by simp [World.cell?, e1]
  have d3 : w3.cell? ⟨w.heap.size + 1, 3, none⟩ = some (.int .i64 0) := by simp [World.cell?, e1]
  have d4 : w3.cell? ⟨w.heap.size + 1, 4, none⟩ = some (.string ⟨#[]⟩) := by simp [World.cell?, e1]
  have g4 : ∀ o, w3.frozen? ⟨w.heap.size + 1, o, none⟩ = false := fun o => by simp [World.frozen?, e1]
  clear hb3 e0 e1 HBK HB2 HC
  go_wp2
  refine bodyPost_ret (v := .agg #[.int .i64 n, .int .i64 who, .int .i64 size, .int .i64 at_, .string text]) (by simp [results, Tryz.results42, go_sem, d0, d1, d2, d3, d4]) rfl ⟨rfl, ?_⟩
  exact (((((HB3.out.setCell (p := ⟨w.heap.size, 4, none⟩) (Nat.le_refl _) _).setCell (p := ⟨w.heap.size + 1, 0, none⟩) (Nat.le_succ _) _).setCell (p := ⟨w.heap.size + 1, 1, none⟩) (Nat.le_succ _) _).setCell (p := ⟨w.heap.size + 1, 2, none⟩) (Nat.le_succ _) _).setCell (p := ⟨w.heap.size + 1, 3, none⟩) (Nat.le_succ _) _).setCell (p := ⟨w.heap.size + 1, 4, none⟩) (Nat.le_succ _) _
/-- The four that inBounds asks, one behind the other. -/
theorem verOk_four (v : Ver) : verOk v = (tagOk v.n v.who && (decide (0 ≤ v.size ∧ v.size ≤ 1000) && (decide (0 ≤ v.at_ ∧ v.at_ ≤ 11) && decide (0 ≤ (v.text.size : Int) ∧ (v.text.size : Int) ≤ 1000)))) := by
  unfold verOk tagB tagOk
  rw [Bool.eq_iff_iff]
  simp only [Bool.and_eq_true, decide_eq_true_eq]
  omega
set_option maxRecDepth 10000 in
set_option maxHeartbeats 2000000 in
theorem inBounds_any (v : Ver) (w : World) (ht : v.text.size ≤ maxLen) : Calls Tryz.prog 37 #[.agg #[.int .i64 v.n, .int .i64 v.who, .int .i64 v.size, .int .i64 v.at_, .string v.text]] w fun e w' => e = .returned (.bool (verOk v)) ∧ Below w.heap.size w w' := by
  rw [verOk_four]
  obtain ⟨n, who, size, at_, text⟩ := v
  simp only
  have H1 : Hid (∀ W, Calls Tryz.prog 62 #[.agg #[.int .i64 n, .int .i64 who]] W fun e w' => e = .returned (.bool (tagOk n who)) ∧ Below W.heap.size W w') := fun W => istag_any n who W
  have H3 : Hid (∀ W, Calls Tryz.prog 63 #[.int .i64 size, .int .i64 1000] W fun e w' => e = .returned (.bool (decide (0 ≤ size ∧ size ≤ 1000))) ∧ w' = W) := fun W => hwithin_any size _ W
  have H4 : Hid (∀ W, Calls Tryz.prog 63 #[.int .i64 at_, .int .i64 11] W fun e w' => e = .returned (.bool (decide (0 ≤ at_ ∧ at_ ≤ 11))) ∧ w' = W) := fun W => hwithin_any at_ _ W
  have H5 : Hid (∀ W, Calls Tryz.prog 63 #[.int .i64 (text.size : Int), .int .i64 1000] W fun e w' => e = .returned (.bool (decide (0 ≤ (text.size : Int) ∧ (text.size : Int) ≤ 1000))) ∧ w' = W) := fun W => hwithin_any (text.size : Int) _ W
  generalize tagOk n who = r1 at *
  generalize decide (0 ≤ size ∧ size ≤ 1000) = r3 at *
  generalize decide (0 ≤ at_ ∧ at_ ≤ 11) = r4 at *
  generalize decide (0 ≤ (text.size : Int) ∧ (text.size : Int) ≤ 1000) = r5 at *
  obtain ⟨w2, hw2⟩ : ∃ w2, w2 = w.alloc (.cells #[.int .i64 n, .int .i64 who, .int .i64 size, .int .i64 at_, .string text] 49) := ⟨_, rfl⟩
  have HW2 : Hid (w2 = w.alloc (.cells #[.int .i64 n, .int .i64 who, .int .i64 size, .int .i64 at_, .string text] 49)) := hw2
  have HB2 : Hid (Below w.heap.size w w2) := by rw [hw2]; exact (Below.refl _ _).alloc (Nat.le_refl _) _
  have hlt : w.heap.size < w2.heap.size := by rw [hw2]; simp
  have c0 : w2.cell? ⟨w.heap.size, 0, none⟩ = some (.int .i64 n) := by rw [hw2]; simp
  have c1 : w2.cell? ⟨w.heap.size, 1, none⟩ = some (.int .i64 who) := by rw [hw2]; simp
  have c2 : w2.cell? ⟨w.heap.size, 2, none⟩ = some (.int .i64 size) := by rw [hw2]; simp
  have c3 : w2.cell? ⟨w.heap.size, 3, none⟩ = some (.int .i64 at_) := by rw [hw2]; simp
  have c4 : w2.cell? ⟨w.heap.size, 4, none⟩ = some (.string text) := by rw [hw2]; simp
  have HC : Hid (∀ W, Below w2.heap.size w2 W → W.cell? ⟨w.heap.size, 2, none⟩ = some (.int .i64 size) ∧ W.cell? ⟨w.heap.size, 3, none⟩ = some (.int .i64 at_) ∧ W.cell? ⟨w.heap.size, 4, none⟩ = some (.string text)) := fun W hW => ⟨(hW.cell (p := ⟨w.heap.size, 2, none⟩) hlt).trans c2, (hW.cell (p := ⟨w.heap.size, 3, none⟩) hlt).trans c3, (hW.cell (p := ⟨w.heap.size, 4, none⟩) hlt).trans c4⟩
  clear hw2 ht hlt
  go_enter Tryz.func37, Tryz.ntmps37
  go_wp2_with (first | rw [← HW2.out])
  refine (H1.out _).mono ?_
  rintro e w3 ⟨rfl, hb3⟩
  obtain ⟨d2, d3, d4⟩ := HC.out w3 hb3
  have HB3 : Hid (Below w.heap.size w w3) := HB2.out.trans (hb3.mono HB2.out.size)
  clear HW2 c0 c1 c2 c3 c4 HC hb3 H1
  cases r1 with
  | false =>
    go_wp2
    go_ret
    exact ⟨rfl, HB3.out⟩
  | true =>
    go_wp2_with fail
    refine (H3.out _).mono ?_
    rintro e w4 ⟨rfl, rfl⟩
    cases r3 with
    | false =>
      go_wp2
      go_ret
      exact ⟨rfl, HB3.out⟩
    | true =>
      go_wp2_with fail
      refine (H4.out _).mono ?_
      rintro e w4 ⟨rfl, rfl⟩
      cases r4 with
      | false =>
        go_wp2
        go_ret
        exact ⟨rfl, HB3.out⟩
      | true =>
        go_wp2_with fail
        refine (H5.out _).mono ?_
        rintro e w4 ⟨rfl, rfl⟩
        go_wp2
        go_ret
        exact ⟨by cases r5 <;> rfl, HB3.out⟩
end
section
variable {h : Nat} {S : Nat → Prop} {L : List Kep} {s : Bool} {m : Option Nat} {D : DataW Value} {row : ByteArray → Value} {blk : ByteArray → Nat}
theorem take_succ_ver {l : List Ver} {i : Nat} (hi : i < l.length) : l.take (i + 1) = l.take i ++ [verAt l i] := by
  rw [List.take_add_one, verAt_get hi]
  rfl
/-- A key's versions fit. -/
theorem getL_fits {L : List Kep} (hf : ∀ x ∈ L, isN x.1 = true ∧ verOk x.2 = true) {key : ByteArray} {i : Nat} (hi : i < (getL L key).length) : verOk (verAt (getL L key) i) = true := by
  have := List.mem_of_getElem? (verAt_get hi)
  exact (hf _ (mem_getL.1 this)).2
theorem verOk_text {v : Ver} (h : verOk v = true) : v.text.size ≤ 1000 := by
  unfold verOk at h
  simp only [Bool.and_eq_true, decide_eq_true_eq] at h
  exact h.2.2.2.2.2
set_option maxRecDepth 10000 in
set_option maxHeartbeats 1600000 in
theorem getO_any {w : World} (hd : HdAt w h S L s m D row blk) (key : ByteArray) (hk : key.size ≤ maxLen) :
    Calls Tryz.prog 17 #[.pointer (some ⟨h, 0, none⟩), .string key] w fun e w' => (∃ v, e = .returned v ∧ OwnR verE 49 w' w.heap.size v (getL L key)) ∧ Below w.heap.size w w' := by
  have HOF : Hid (Calls Tryz.prog 38 #[.pointer (some ⟨h, 0, none⟩), .string key] w fun e w' => e = .returned (row key) ∧ w' = w) := of_any hd key hk
  obtain ⟨p, c, hrow, hrec, hlc, hpn, hpb⟩ := hd.form key
  have HREC : Hid (Rec verE w p (getL L key)) := hrec
  have HTX : Hid (∀ i, i < (getL L key).length → (verAt (getL L key) i).text.size ≤ 1000000) := fun i hi => by have := verOk_text (getL_fits hd.fits hi); omega
  have hl : (getL L key).length ≤ 60 := Nat.le_trans (getL_le _ _) hd.few
  rw [hrow] at HOF
  clear hd hrow hrec hpn hpb
  generalize getL L key = l at *
  go_enter Tryz.func17, Tryz.ntmps17
  go_wp2_with fail
  refine HOF.out.mono ?_
  rintro e w1 ⟨rfl, hw1⟩
  rw [hw1]
  clear hw1 w1 HOF
  go_wp2
  go_loopw [5, 12] (fun v x wq => ∃ i : Nat, i ≤ l.length ∧ x = .int .i64 i ∧ OwnR verE 49 wq w.heap.size v (l.take i) ∧ Below w.heap.size w wq) (fun _ x _ => l.length - (intOf x).toNat)
  case atStart => exact ⟨0, Nat.zero_le _, rfl, OwnR.nil _ _ _, Below.refl _ _⟩
  case round =>
    obtain ⟨i, hi, rfl, hO, hB⟩ := hrel
    obtain ⟨w1, rfl⟩ : ∃ w1, w1 = wr := ⟨_, rfl⟩
    obtain ⟨v, rfl⟩ : ∃ v, v = u5 := ⟨_, rfl⟩
    have HO : Hid (OwnR verE 49 w1 w.heap.size v (l.take i)) := hO
    have HB : Hid (Below w.heap.size w w1) := hB
    have hz1 : w.heap.size ≤ w1.heap.size := hB.size
    clear hO hB
    by_cases hil : i < l.length
    · obtain ⟨b, o, hpp, hblt, c0, c1, c2, c3, c4⟩ := ver_cells (HREC.out.below HB.out) hil
      subst hpp
      have HNX : Hid (l.take (i + 1) = l.take i ++ [verAt l i]) := take_succ_ver hil
      have HCP : Hid (∀ W, Calls Tryz.prog 42 #[.agg #[.int .i64 (verAt l i).n, .int .i64 (verAt l i).who, .int .i64 (verAt l i).size, .int .i64 (verAt l i).at_, .string (verAt l i).text]] W fun e w' => e = .returned (.agg #[.int .i64 (verAt l i).n, .int .i64 (verAt l i).who, .int .i64 (verAt l i).size, .int .i64 (verAt l i).at_, .string (verAt l i).text]) ∧ Below W.heap.size W w') := fun W => copied_any (verAt l i) W (HTX.out i hil)
      have hgl : (l.take i).length ≤ 60 := by rw [List.length_take]; omega
      clear HTX
      generalize verAt l i = x at *
      obtain ⟨xn, xw, xs, xa, xt⟩ := x
      generalize l.take i = gs at *
      have HBW : Hid (Below w1.heap.size w1 (w1.alloc (.cells #[.int .i64 xn, .int .i64 xw, .int .i64 xs, .int .i64 xa, .string xt] 49))) := (Below.refl _ _).alloc (Nat.le_refl _) _
      go_wp2_with fail
      refine (HCP.out _).mono ?_
      rintro e w3 ⟨rfl, hb3⟩
      have hb13 : Below w1.heap.size w1 w3 := HBW.out.trans (hb3.mono HBW.out.size)
      have HO2 : Hid (OwnR verE 49 (w3.alloc (.cells #[.int .i64 xn, .int .i64 xw, .int .i64 xs, .int .i64 xa, .string xt] 49)) w.heap.size v gs) := (HO.out.kept hb13).kept ((Below.refl _ _).alloc (Nat.le_refl _) _)
      have HB3 : Hid (Below w.heap.size w w3) := HB.out.trans (hb13.mono HB.out.size)
      have HNW : Hid (∀ j u, (verE.enc ⟨xn, xw, xs, xa, xt⟩)[j]? = some u → (w3.alloc (.cells #[.int .i64 xn, .int .i64 xw, .int .i64 xs, .int .i64 xa, .string xt] 49)).cell? ⟨w3.heap.size, 0 + j, none⟩ = some u) := fun j u hj => by
        rw [Nat.zero_add, World.cell?_alloc_at _ _ _ _ rfl]
        match j, hj with
        | 0, hj => exact hj
        | 1, hj => exact hj
        | 2, hj => exact hj
        | 3, hj => exact hj
        | 4, hj => exact hj
      have HB2 : Hid (Below w.heap.size w (w3.alloc (.cells #[.int .i64 xn, .int .i64 xw, .int .i64 xs, .int .i64 xa, .string xt] 49))) := HB3.out.alloc HB3.out.size _
      clear hb3 hb13 HBW HCP c0 c1 c2 c3 c4
      go_wp2_with (first | (at_builtin; refine wpList_append_rec rfl (.tmp 16) (.tmp 19) 57 49 rfl (.agg #[.int .i64 0, .int .i64 0, .int .i64 0, .int .i64 0, .string ⟨#[]⟩]) 48 Tryz.underlying57 verinfo rfl w.heap.size v gs rfl HO2.out w3.heap.size 0 1 ⟨xn, xw, xs, xa, xt⟩ rfl HNW.out (by unfold maxLen; omega) (by omega) HB2.out.size (by simp) ?_; intro v4 w4 hO4 hb4))
      have HO4 : Hid (OwnR verE 49 w4 w.heap.size v4 (gs ++ [⟨xn, xw, xs, xa, xt⟩])) := hO4
      have HB4 : Hid (Below w.heap.size w w4) := HB2.out.trans hb4
      clear hO4 hb4
      go_wp2
      go_roundw
      case rel => exact ⟨i + 1, by omega, by go_num, by rw [HNX.out]; exact HO4.out, HB4.out⟩
      case measure => simp [intOf]; omega
    · have hie : i = l.length := by omega
      subst hie
      have HE : Hid (l.take l.length = l) := List.take_length
      go_wp2
      go_ret
      have hO := HO.out
      rw [HE.out] at hO
      exact ⟨⟨v, rfl, hO⟩, HB.out⟩
theorem get_any {w : World} (hd : HdAt w h S L s m D row blk) (key : ByteArray) (hk : key.size ≤ maxLen) :
    Calls Tryz.prog 17 #[.pointer (some ⟨h, 0, none⟩), .string key] w fun e w' => (∃ p c, e = .returned (.slice p (getL L key).length c) ∧ Rec verE w' p (getL L key)) ∧ Below w.heap.size w w' := by
  refine (getO_any hd key hk).mono fun e w' hq => ?_
  obtain ⟨⟨v, e1, e2⟩, e3⟩ := hq
  obtain ⟨p, c, hv, hr, _⟩ := e2.form
  exact ⟨⟨p, c, by rw [e1, hv], hr⟩, e3⟩
end
section
variable {h : Nat} {S : Nat → Prop} {L : List Kep} {s : Bool} {m : Option Nat} {D : DataW Value} {row : ByteArray → Value} {blk : ByteArray → Nat}
theorem sameKey_decide (z x : ByteArray) : (litK z).sameKey (litK x) = decide (z = x) := by
  by_cases e : z = x
  · subst e
    rw [sameKey_litK, decide_eq_true rfl]
  · rw [Maps.sameKey_ne (fun h => e (litK_inj h)), decide_eq_false e]
/-- How many those have together that are still to come. -/
def sumLeft (L : List Kep) (left : Lit → Bool) : Nat := (((keysL L).filter fun x => left (litK x)).map fun x => (getL L x).length).sum
theorem sum_strike {K : List ByteArray} (hn : K.Nodup) (f : ByteArray → Nat) (p : ByteArray → Bool) {x : ByteArray} (hx : x ∈ K) (hp : p x = true) : ((K.filter p).map f).sum = f x + ((K.filter fun z => p z && !decide (z = x)).map f).sum := by
  induction K with
  | nil => cases hx
  | cons a K ih =>
    obtain ⟨h1, h2⟩ := List.nodup_cons.1 hn
    by_cases e : a = x
    · subst e
      have hK : K.filter (fun z => p z && !decide (z = a)) = K.filter p := by
        apply List.filter_congr
        intro z hz
        have : z ≠ a := fun e => h1 (e ▸ hz)
        simp [this]
      rw [List.filter_cons_of_pos hp, List.filter_cons_of_neg (by simp), hK]
      simp
    · have hxK : x ∈ K := by
        rcases List.mem_cons.1 hx with h3 | h3
        · exact absurd h3.symm e
        · exact h3
      have := ih h2 hxK
      cases hpa : p a with
      | true =>
        rw [List.filter_cons_of_pos hpa, List.filter_cons_of_pos (by simp [hpa, e]), List.map_cons, List.map_cons, List.sum_cons, List.sum_cons, this]
        omega
      | false =>
        rw [List.filter_cons_of_neg (by simp [hpa]), List.filter_cons_of_neg (by simp [hpa]), this]
theorem sumLeft_strike {L : List Kep} (hs : SortedK L) {left : Lit → Bool} {x : ByteArray} (hx : x ∈ keysL L) (hl : left (litK x) = true) : sumLeft L left = (getL L x).length + sumLeft L (fun z => left z && !z.sameKey (litK x)) := by
  unfold sumLeft
  rw [sum_strike (keysL_nodup hs) (fun x => (getL L x).length) (fun x => left (litK x)) hx hl]
  simp only [sameKey_decide]
theorem sumLeft_all {L : List Kep} (hs : SortedK L) {left : Lit → Bool} (hl : ∀ x ∈ keysL L, left (litK x) = true) : sumLeft L left = L.length := by
  unfold sumLeft
  rw [List.filter_eq_self.2 hl, keys_sum hs]
theorem sumLeft_none {L : List Kep} {left : Lit → Bool} (hl : ∀ k, left k = false) : sumLeft L left = 0 := by
  unfold sumLeft
  rw [List.filter_eq_nil_iff.2 (fun x _ => by rw [hl]; decide)]
  rfl
theorem keysL_size {L : List Kep} (hs : SortedK L) (hf : ∀ x ∈ L, isN x.1 = true ∧ verOk x.2 = true) {x : ByteArray} (hx : x ∈ keysL L) : x.size ≤ 16 := by
  obtain ⟨v, hv⟩ := List.exists_mem_of_ne_nil _ (((keysOk L hs).mem x).1 hx)
  exact (isN_size (hf _ (mem_getL.1 hv)).1).2
/-- What comes of a map that is gone through: a key, and its row. -/
theorem HdAt.entry {w : World} (hd : HdAt w h S L s m D row blk) {b : Nat} (hm : m = some b) {x : ByteArray} {c : Value} {kl : Lit} {y : DataW Value × List MemPlace} {left : Lit → Bool} (hsub : ∀ z, left z = true → Maps.has D z = true) (hkey : keyOf Tryz.prog 9 (.string x) = some kl) (hlk : left kl = true) (hv : anyR c = some y) (hat : ∀ zd, D.atKey kl zd = y.1) : kl = litK x ∧ x ∈ keysL L ∧ c = row x := by
  obtain ⟨x', e1, e2, e3⟩ := keyOfK_inv hkey
  injection e1 with e1
  subst e1
  subst e2
  obtain ⟨_, _, _, h4, h5⟩ := hd.mapS b hm
  have hh := hsub _ hlk
  rw [h4 x e3] at hh
  have hne : getL L x ≠ [] := by simpa using hh
  refine ⟨rfl, ((keysOk L hd.sorted).mem x).2 hne, ?_⟩
  have h6 := h5 x hne .nil
  rw [hat] at h6
  have h7 : y.1 = .held c := by
    unfold anyR at hv
    exact (congrArg Prod.fst (Option.some.inj hv)).symm
  rw [h7] at h6
  injection h6
set_option maxRecDepth 10000 in
set_option maxHeartbeats 1600000 in
theorem count_nil {w : World} (hd : HdAt w h S L s none D row blk) : Calls Tryz.prog 11 #[.pointer (some ⟨h, 0, none⟩)] w fun e w' => e = .returned (.int .i64 (L.length : Int)) ∧ Below w.heap.size w w' := by
  have HA : Hid (Calls Tryz.prog 25 #[.pointer (some ⟨h, 0, none⟩)] w fun e w' => e = .returned (.map none) ∧ w' = w) := all_any hd
  rw [hd.nothing rfl]
  clear hd
  have hrg := run_range_nilMap (P := Tryz.prog) w 37 9 57 Tryz.underlying37
  have hnx : ∀ ty, (Instr.next (.pointer (some ⟨w.heap.size, 0, none⟩)) false ty).run Tryz.prog (w.alloc (.mapIter none 0 #[] 0)) = _ := fun ty => run_next_nilMap w ty 0 0 #[]
  go_enter Tryz.func11, Tryz.ntmps11
  go_wp2_with fail
  refine HA.out.mono ?_
  rintro e w1 ⟨rfl, hw1⟩
  rw [hw1]
  clear hw1 w1 HA
  go_wp2
  refine wp_loop_rounds 1 ?_
  rw [rounds_succ]
  go_wp2
  go_ret
  exact ⟨rfl, (Below.refl _ _).alloc (Nat.le_refl _) _⟩
set_option maxRecDepth 10000 in
set_option maxHeartbeats 1600000 in
theorem count_some {w : World} {b : Nat} (hd : HdAt w h S L s (some b) D row blk) : Calls Tryz.prog 11 #[.pointer (some ⟨h, 0, none⟩)] w fun e w' => e = .returned (.int .i64 (L.length : Int)) ∧ Below w.heap.size w w' := by
  have HA : Hid (Calls Tryz.prog 25 #[.pointer (some ⟨h, 0, none⟩)] w fun e w' => e = .returned (.map (some b)) ∧ w' = w) := all_any hd
  obtain ⟨hSb, hbh, ⟨n, hown⟩, h4, h5⟩ := hd.mapS b rfl
  have HD : Hid (HdAt w h S L s (some b) D row blk) := hd
  have hfew := hd.few
  have H0 : Hid (sumLeft L (Maps.has D) = L.length) := sumLeft_all hd.sorted (fun x hx => by
    rw [h4 x (by have := keysL_size hd.sorted hd.fits hx; unfold maxLen; omega)]
    simpa using ((keysOk L hd.sorted).mem x).1 hx)
  have hblt : b < w.heap.size := hd.inS b hSb
  clear h4 h5 hd hSb hbh
  go_enter Tryz.func11, Tryz.ntmps11
  go_wp2_with fail
  refine HA.out.mono ?_
  rintro e w1 ⟨rfl, hw1⟩
  rw [hw1]
  clear hw1 w1 HA
  go_wp2_with (first
    | (at_range; refine wpList_range_own _ rfl _ 37 rfl 9 57 keyedK Tryz.underlying37 anyR b n D rfl hown ?_; intro w0 hrg0 hg0 hs0)
    | go_in)
  go_frame
  go_loopw [3] (fun k wr => ∃ (left : Lit → Bool) (cnt acc : Nat), wr.ranges Tryz.prog 9 anyR b w.heap.size n D left cnt ∧ k = .int .i64 acc ∧ acc + sumLeft L left = L.length ∧ (∀ z, left z = true → Maps.has D z = true) ∧ Below w.heap.size w wr) (fun _ wr => wr.rangeLeft b w.heap.size)
  case atStart => exact ⟨Maps.has D, Maps.size D, 0, hrg0, rfl, by rw [H0.out]; omega, fun z hz => hz, ⟨hg0.os, hg0.tape, hg0.output, hg0.size, fun k hk => hg0.block k hk (by simp)⟩⟩
  case round =>
    clear hg0 hs0 hrg0 hown H0
    obtain ⟨left, cnt, acc, hrg, rfl, hacc, hsub, hbw⟩ := hrel
    obtain ⟨w1, rfl⟩ : ∃ w1, w1 = wr := ⟨_, rfl⟩
    have HACC : Hid (acc + sumLeft L left = L.length) := hacc
    have HSUB : Hid (∀ z, left z = true → Maps.has D z = true) := hsub
    have HBW : Hid (Below w.heap.size w w1) := hbw
    have hacc2 : acc ≤ 60 := by omega
    clear hacc hsub hbw
    go_wp2_with (first
      | (at_next; refine wpList_next_ranges (α := ByteArray) (β := Value) _ rfl _ rfl 9 keyedK anyR Value.string id (fun key kl hk => by obtain ⟨x, hx, _⟩ := keyOfK_inv hk; exact ⟨x, hx⟩) (fun v y _ => ⟨v, rfl⟩) b w.heap.size n D left cnt rfl hrg ?_ ?_)
      | go_in)
    · intro _ hl0
      have HE : Hid (acc = L.length) := by
        show _ = _
        have := HACC.out
        rw [sumLeft_none hl0] at this
        exact this
      go_wp2
      go_ret
      exact ⟨by rw [HE.out]; rfl, HBW.out⟩
    · intro x c kl yd yp w2 cnt2 hkey hlk hv hat hrg2 hlt2 hg2 hs2 hen
      obtain ⟨rfl, hxk, rfl⟩ := HD.out.entry rfl HSUB.out hkey hlk hv hat
      have HST : Hid (sumLeft L left = (getL L x).length + sumLeft L (fun z => left z && !z.sameKey (litK x))) := sumLeft_strike HD.out.sorted hxk hlk
      obtain ⟨p, cc, hrow, _, _, _, _⟩ := HD.out.form x
      have hrow2 : row x = .slice p (getL L x).length cc := hrow
      rw [hrow2] at hen ⊢
      have HRG : Hid (w2.ranges Tryz.prog 9 anyR b w.heap.size n D (fun z => left z && !z.sameKey (litK x)) cnt2) := hrg2
      have HLT : Hid (cnt2 < cnt) := hlt2
      have HRG0 : Hid (w1.ranges Tryz.prog 9 anyR b w.heap.size n D left cnt) := hrg
      have HB2 : Hid (Below w.heap.size w w2) := HBW.out.trans ⟨hg2.os, hg2.tape, hg2.output, hg2.size, fun k hk => hg2.block k (by have := HBW.out.size; omega) (fun e => by injection e with e; omega)⟩
      have hgl : (getL L x).length ≤ 60 := Nat.le_trans (getL_le _ _) hfew
      have HAC2 : Hid (acc + (getL L x).length + sumLeft L (fun z => left z && !z.sameKey (litK x)) = L.length) := by
        show _ = _
        have := HACC.out
        rw [HST.out] at this
        omega
      have HS2 : Hid (∀ z, (left z && !z.sameKey (litK x)) = true → Maps.has D z = true) := fun z hz => HSUB.out z (by simp only [Bool.and_eq_true] at hz; exact hz.1)
      clear hv hat hrg2 hlt2 hg2 hs2 hrow hrow2 hkey hlk hxk HST HACC hrg
      generalize (getL L x).length = g at *
      go_wp2
      go_roundw
      case rel => exact ⟨_, cnt2, acc + g, HRG.out, by go_num, HAC2.out, HS2.out, HB2.out⟩
      case measure => rw [HRG.out.left_eq, HRG0.out.left_eq]; exact HLT.out
theorem count_any {w : World} (hd : HdAt w h S L s m D row blk) : Calls Tryz.prog 11 #[.pointer (some ⟨h, 0, none⟩)] w fun e w' => e = .returned (.int .i64 (L.length : Int)) ∧ Below w.heap.size w w' := by
  cases m with
  | none => exact count_nil hd
  | some b => exact count_some hd
end
theorem bless_lt : ∀ (x y : List UInt8), Op.bytesLess x y = true → x < y
  | _, [], h => by simp [Op.bytesLess] at h
  | [], _ :: _, _ => List.nil_lt_cons _ _
  | a :: x, b :: y, h => by
    simp only [Op.bytesLess, Bool.or_eq_true, decide_eq_true_eq, Bool.and_eq_true, beq_iff_eq] at h
    rw [List.cons_lt_cons_iff]
    rcases h with h | ⟨e, h⟩
    · exact Or.inl h
    · exact Or.inr ⟨e, bless_lt x y h⟩
theorem filter_strike {K : List ByteArray} (hn : K.Nodup) (p : ByteArray → Bool) {x : ByteArray} (hx : x ∈ K) (hp : p x = true) : (x :: K.filter fun z => p z && !decide (z = x)).Perm (K.filter p) := by
  induction K with
  | nil => cases hx
  | cons a K ih =>
    obtain ⟨h1, h2⟩ := List.nodup_cons.1 hn
    by_cases e : a = x
    · subst e
      have hK : K.filter (fun z => p z && !decide (z = a)) = K.filter p := by
        apply List.filter_congr
        intro z hz
        have : z ≠ a := fun e => h1 (e ▸ hz)
        simp [this]
      rw [List.filter_cons_of_pos hp, List.filter_cons_of_neg (by simp), hK]
    · have hxK : x ∈ K := by
        rcases List.mem_cons.1 hx with h3 | h3
        · exact absurd h3.symm e
        · exact h3
      have := ih h2 hxK
      cases hpa : p a with
      | true =>
        rw [List.filter_cons_of_pos hpa, List.filter_cons_of_pos (by simp [hpa, e])]
        exact (List.Perm.swap _ _ _).trans (this.cons _)
      | false =>
        rw [List.filter_cons_of_neg (by simp [hpa]), List.filter_cons_of_neg (by simp [hpa])]
        exact this
/-- Keys that have come, and those that are left. -/
def KeysLeft (L : List Kep) (left : Lit → Bool) (acc : List ByteArray) : Prop := (acc ++ (keysL L).filter fun x => left (litK x)).Perm (keysL L)
theorem keysLeft_start {L : List Kep} {left : Lit → Bool} (hl : ∀ x ∈ keysL L, left (litK x) = true) : KeysLeft L left [] := by
  unfold KeysLeft
  rw [List.nil_append, List.filter_eq_self.2 hl]
theorem keysLeft_step {L : List Kep} (hs : SortedK L) {left : Lit → Bool} {acc : List ByteArray} {x : ByteArray} (hx : x ∈ keysL L) (hl : left (litK x) = true) (h : KeysLeft L left acc) : KeysLeft L (fun z => left z && !z.sameKey (litK x)) (acc ++ [x]) := by
  unfold KeysLeft at *
  simp only [sameKey_decide]
  rw [List.append_assoc]
  exact (List.Perm.append_left acc (filter_strike (keysL_nodup hs) (fun x => left (litK x)) hx hl)).trans h
theorem keysLeft_end {L : List Kep} {left : Lit → Bool} {acc : List ByteArray} (hl : ∀ k, left k = false) (h : KeysLeft L left acc) : acc.Perm (keysL L) := by
  unfold KeysLeft at h
  rw [List.filter_eq_nil_iff.2 (fun x _ => by rw [hl]; decide), List.append_nil] at h
  exact h
/-- What is sorted of the keys is the keys. -/
theorem sort_keys {L : List Kep} (hs : SortedK L) {acc : List ByteArray} (hp : acc.Perm (keysL L)) : (acc.map fun x => x.data.toList).mergeSort (fun x y => decide (x ≤ y)) = (keysL L).map fun x => x.data.toList := by
  have h1 : ((acc.map fun x => x.data.toList).mergeSort fun x y => decide (x ≤ y)).Perm ((keysL L).map fun x => x.data.toList) := (List.mergeSort_perm _ _).trans (hp.map _)
  have hk : ((keysL L).map fun x => x.data.toList).Pairwise fun x y => decide (x ≤ y) = true := by
    rw [List.pairwise_map]
    refine (keysOk L hs).rising.imp ?_
    intro a b hab
    unfold kl at hab
    rw [ByteArray.toList_eq, ByteArray.toList_eq] at hab
    have h3 : a.data.toList < b.data.toList := bless_lt _ _ hab
    exact decide_eq_true (List.le_of_lt h3)
  have h2 : ((acc.map fun x => x.data.toList).mergeSort fun x y => decide (x ≤ y)).Pairwise fun x y => decide (x ≤ y) = true := List.pairwise_mergeSort (fun a b c h3 h4 => by simp only [decide_eq_true_eq] at *; exact List.le_trans h3 h4) (fun a b => by simp only [Bool.or_eq_true, decide_eq_true_eq]; exact List.le_total a b) _
  exact h1.eq_of_pairwise (fun a b _ _ h3 h4 => by simp only [decide_eq_true_eq] at *; exact List.le_antisymm h3 h4) h2 hk
section
variable {h : Nat} {S : Nat → Prop} {L : List Kep} {s : Bool} {m : Option Nat} {D : DataW Value} {row : ByteArray → Value} {blk : ByteArray → Nat}
theorem enc_data (x : ByteArray) : encStr x.data.toList = .string x := by
  unfold encStr
  rw [Array.toArray_toList]
theorem enc_datas (l : List ByteArray) : (l.map fun x => x.data.toList).map encStr = l.map Value.string := by
  rw [List.map_map]
  exact List.map_congr_left fun x _ => enc_data x
/-- A row of texts that the call made is sorted. -/
theorem sort_row {w : World} {B : Nat} {v : Value} {acc K : List ByteArray} (hO : OwnT w B v acc) (hB : B ≤ w.heap.size) (hl : acc.length ≤ 1000) (hlK : K.length = acc.length) (hK : (acc.map fun x => x.data.toList).mergeSort (fun x y => decide (x ≤ y)) = K.map fun x => x.data.toList) :
    Calls Tryz.prog 59 #[v] w fun e w' => e = .returned (.tuple #[]) ∧ OwnT w' B v K ∧ Below B w w' := by
  have h0 : w.ownsRow B 9 1 v (acc.map Value.string).length (acc.map Value.string) := hO
  rw [← enc_datas, List.length_map] at h0
  rcases h0.2 with ⟨rfl, hz⟩ | ⟨g, cap, cur, rfl, hbg, hgb, hnc, hcm, hcs, htake⟩
  · have hac : acc = [] := by simpa using hz
    subst hac
    have hKn : K = [] := List.length_eq_zero_iff.1 hlK
    subst hKn
    exact (Tryz.slices_Sort_none none 0 w).mono fun e w' ⟨he, hw⟩ => ⟨he, by rw [hw]; exact hO, by rw [hw]; exact Below.refl _ _⟩
  · rw [Nat.mul_one] at htake
    have hgl : g < w.heap.size := (Array.getElem?_eq_some_iff.1 hgb).1
    have hc := Tryz.slices_Sort g 0 cap (acc.map fun x => x.data.toList) w (holds_of_block hgb (by simpa using htake)) hgl (by simp; omega)
    refine hc.mono fun e w' hp => ?_
    obtain ⟨he, n, os, hw⟩ := hp
    refine ⟨he, ?_, ?_⟩
    · rw [hw, hK]
      have := ownsRow_sorted (w := w) (base := B) (n := n) (os := os) (ss := acc.map fun x => x.data.toList) (ts := K.map fun x => x.data.toList) (by simp [hlK]) hbg hgb hnc hcm hcs
      rw [enc_datas] at this
      show World.ownsRow _ _ _ _ _ _ _
      simp only [List.length_map] at this ⊢
      rw [hlK]
      exact this
    · rw [hw]
      exact (Below.refl _ _).grown (grownBy_sorted _) hB (fun k hk => by injection hk with hk; omega)
theorem ranges_same {w w' : World} {b r n cnt : Nat} {D : DataW Value} {left : Lit → Bool} (h : w.ranges Tryz.prog 9 anyR b r n D left cnt) (h1 : w'.heap[b]? = w.heap[b]?) (h2 : w'.heap[r]? = w.heap[r]?) : w'.ranges Tryz.prog 9 anyR b r n D left cnt := by
  obtain ⟨es, clock, since, seen, c0, hb, F, hs, hD, hr, rest⟩ := h
  exact ⟨es, clock, since, seen, c0, h1.trans hb, F, hs, hD, h2.trans hr, rest⟩
set_option maxRecDepth 10000 in
set_option maxHeartbeats 1600000 in
theorem keys_nil {w : World} (hd : HdAt w h S L s none D row blk) : Calls Tryz.prog 34 #[.pointer (some ⟨h, 0, none⟩)] w fun e w' => (∃ v, e = .returned v ∧ OwnT w' (w.heap.size + 1) v (keysL L)) ∧ Below w.heap.size w w' := by
  have HA : Hid (Calls Tryz.prog 25 #[.pointer (some ⟨h, 0, none⟩)] w fun e w' => e = .returned (.map none) ∧ w' = w) := all_any hd
  have HSO : Hid (∀ W, Calls Tryz.prog 59 #[.slice none 0 0] W fun e w' => e = .returned (.tuple #[]) ∧ w' = W) := fun W => Tryz.slices_Sort_none none 0 W
  rw [hd.nothing rfl]
  clear hd
  have hrg := run_range_nilMap (P := Tryz.prog) w 37 9 57 Tryz.underlying37
  have hnx : ∀ ty, (Instr.next (.pointer (some ⟨w.heap.size, 0, none⟩)) false ty).run Tryz.prog (w.alloc (.mapIter none 0 #[] 0)) = _ := fun ty => run_next_nilMap w ty 0 0 #[]
  go_enter Tryz.func34, Tryz.ntmps34
  go_wp2_with fail
  refine HA.out.mono ?_
  rintro e w1 ⟨rfl, hw1⟩
  rw [hw1]
  clear hw1 w1 HA
  go_wp2
  refine wp_loop_rounds 1 ?_
  rw [rounds_succ]
  go_wp2_with fail
  refine (HSO.out _).mono ?_
  rintro e w1 ⟨rfl, hw1⟩
  rw [hw1]
  clear hw1 w1 HSO
  go_wp2
  go_ret
  exact ⟨⟨_, rfl, OwnT.nil _ _⟩, (Below.refl _ _).alloc (Nat.le_refl _) _⟩
set_option maxRecDepth 10000 in
set_option maxHeartbeats 1600000 in
theorem keys_some {w : World} {b : Nat} (hd : HdAt w h S L s (some b) D row blk) : Calls Tryz.prog 34 #[.pointer (some ⟨h, 0, none⟩)] w fun e w' => (∃ v, e = .returned v ∧ OwnT w' (w.heap.size + 1) v (keysL L)) ∧ Below w.heap.size w w' := by
  have HA : Hid (Calls Tryz.prog 25 #[.pointer (some ⟨h, 0, none⟩)] w fun e w' => e = .returned (.map (some b)) ∧ w' = w) := all_any hd
  obtain ⟨hSb, hbh, ⟨n, hown⟩, h4, h5⟩ := hd.mapS b rfl
  have HD : Hid (HdAt w h S L s (some b) D row blk) := hd
  have H0 : Hid (KeysLeft L (Maps.has D) []) := keysLeft_start (fun x hx => by
    rw [h4 x (by have := keysL_size hd.sorted hd.fits hx; unfold maxLen; omega)]
    simpa using ((keysOk L hd.sorted).mem x).1 hx)
  have hkl : (keysL L).length ≤ 60 := Nat.le_trans (keysL_le L) hd.few
  have HKL : Hid ((keysL L).length ≤ 60) := hkl
  have HKS : Hid (∀ x ∈ keysL L, x.size ≤ 16) := fun x hx => keysL_size hd.sorted hd.fits hx
  have hblt : b < w.heap.size := hd.inS b hSb
  clear h4 h5 hd hSb hbh hkl
  go_enter Tryz.func34, Tryz.ntmps34
  go_wp2_with fail
  refine HA.out.mono ?_
  rintro e w1 ⟨rfl, hw1⟩
  rw [hw1]
  clear hw1 w1 HA
  go_wp2_with (first
    | (at_range; refine wpList_range_own _ rfl _ 37 rfl 9 57 keyedK Tryz.underlying37 anyR b n D rfl hown ?_; intro w0 hrg0 hg0 hs0)
    | go_in)
  go_frame
  go_loopw [3] (fun v wr => ∃ (left : Lit → Bool) (cnt : Nat) (acc : List ByteArray), wr.ranges Tryz.prog 9 anyR b w.heap.size n D left cnt ∧ OwnT wr (w.heap.size + 1) v acc ∧ KeysLeft L left acc ∧ (∀ z, left z = true → Maps.has D z = true) ∧ Below w.heap.size w wr ∧ w.heap.size + 1 ≤ wr.heap.size) (fun _ wr => wr.rangeLeft b w.heap.size)
  case atStart => exact ⟨Maps.has D, Maps.size D, [], hrg0, OwnT.nil _ _, H0.out, fun z hz => hz, ⟨hg0.os, hg0.tape, hg0.output, hg0.size, fun k hk => hg0.block k hk (by simp)⟩, by omega⟩
  case round =>
    clear hg0 hs0 hrg0 hown H0
    obtain ⟨left, cnt, acc, hrg, hO, hkl, hsub, hbw, hsz⟩ := hrel
    obtain ⟨w1, rfl⟩ : ∃ w1, w1 = wr := ⟨_, rfl⟩
    obtain ⟨v, rfl⟩ : ∃ v, v = u3 := ⟨_, rfl⟩
    have HO : Hid (OwnT w1 (w.heap.size + 1) v acc) := hO
    have HLF : Hid (KeysLeft L left acc) := hkl
    have HSUB : Hid (∀ z, left z = true → Maps.has D z = true) := hsub
    have HBW : Hid (Below w.heap.size w w1) := hbw
    have HSZ : Hid (w.heap.size + 1 ≤ w1.heap.size) := hsz
    have HAL : Hid (acc.length ≤ 60) := by
      show _ ≤ _
      have := hkl.length_eq
      rw [List.length_append] at this
      have := HKL.out
      omega
    clear hO hkl hsub hbw hsz
    go_wp2_with (first
      | (at_next; refine wpList_next_ranges (α := ByteArray) (β := Value) _ rfl _ rfl 9 keyedK anyR Value.string id (fun key kl hk => by obtain ⟨x, hx, _⟩ := keyOfK_inv hk; exact ⟨x, hx⟩) (fun v y _ => ⟨v, rfl⟩) b w.heap.size n D left cnt rfl hrg ?_ ?_)
      | go_in)
    · intro _ hl0
      have HP : Hid (acc.Perm (keysL L)) := keysLeft_end hl0 HLF.out
      have HSO : Hid (Calls Tryz.prog 59 #[v] w1 fun e w' => e = .returned (.tuple #[]) ∧ OwnT w' (w.heap.size + 1) v (keysL L) ∧ Below (w.heap.size + 1) w1 w') := sort_row HO.out HSZ.out (by have := HAL.out; omega) HP.out.length_eq.symm (sort_keys HD.out.sorted HP.out)
      clear hl0 hrg
      go_wp2_with fail
      refine HSO.out.mono ?_
      rintro e w5 ⟨rfl, hO5, hb5⟩
      have HE : Hid ((∃ v0, (Ending.returned v) = .returned v0 ∧ OwnT w5 (w.heap.size + 1) v0 (keysL L)) ∧ Below w.heap.size w w5) := ⟨⟨v, rfl, hO5⟩, HBW.out.trans (hb5.mono (by omega))⟩
      clear hO5 hb5 HSO
      go_wp2
      go_ret
      exact HE.out
    · intro x c kl yd yp w2 cnt2 hkey hlk hv hat hrg2 hlt2 hg2 hs2 hen
      obtain ⟨rfl, hxk, rfl⟩ := HD.out.entry rfl HSUB.out hkey hlk hv hat
      have HNX : Hid (KeysLeft L (fun z => left z && !z.sameKey (litK x)) (acc ++ [x])) := keysLeft_step HD.out.sorted hxk hlk HLF.out
      have HRG : Hid (w2.ranges Tryz.prog 9 anyR b w.heap.size n D (fun z => left z && !z.sameKey (litK x)) cnt2) := hrg2
      have HLT : Hid (cnt2 < cnt) := hlt2
      have HRG0 : Hid (w1.ranges Tryz.prog 9 anyR b w.heap.size n D left cnt) := hrg
      have HB2 : Hid (Below w.heap.size w w2) := HBW.out.trans ⟨hg2.os, hg2.tape, hg2.output, hg2.size, fun k hk => hg2.block k (by have := HBW.out.size; omega) (fun e => by injection e with e; omega)⟩
      have HO2 : Hid (OwnT w2 (w.heap.size + 1) v acc) := OwnV.kept HO.out hg2 (by
        cases hvb : v.ownBlock with
        | none => exact Or.inl rfl
        | some k =>
          refine Or.inr fun e => ?_
          injection e with e
          have := (HO.out.block hvb).1
          omega)
      have HS2 : Hid (∀ z, (left z && !z.sameKey (litK x)) = true → Maps.has D z = true) := fun z hz => HSUB.out z (by simp only [Bool.and_eq_true] at hz; exact hz.1)
      have HSZ2 : Hid (w.heap.size + 1 ≤ w2.heap.size) := by show _ ≤ _; rw [hs2]; exact HSZ.out
      have HCL : Hid (∀ W, Calls Tryz.prog 44 #[.string x] W fun e w' => e = .returned (.string x) ∧ Below W.heap.size W w') := fun W => sclone_any x W (by have := HKS.out x hxk; omega)
      generalize row x = rx at *
      clear hv hat hrg2 hlt2 hg2 hs2 hkey hlk hxk hrg HLF HO HSUB HBW HSZ
      go_wp2_with fail
      refine (HCL.out _).mono ?_
      rintro e w3 ⟨rfl, hb3⟩
      have HO3 : Hid (OwnT w3 (w.heap.size + 1) v acc) := HO2.out.kept hb3
      have HR3 : Hid (w3.ranges Tryz.prog 9 anyR b w.heap.size n D (fun z => left z && !z.sameKey (litK x)) cnt2) := ranges_same HRG.out (hb3.block b (by have := HSZ2.out; omega)) (hb3.block w.heap.size (by have := HSZ2.out; omega))
      have HB3 : Hid (Below w.heap.size w w3) := HB2.out.trans (hb3.mono HB2.out.size)
      have HSZ3 : Hid (w.heap.size + 1 ≤ w3.heap.size) := Nat.le_trans HSZ2.out hb3.size
      have hac := HAL.out
      clear hb3 HCL HO2 HRG HB2 HSZ2 hen
      go_wp2_with (first | (at_builtin; refine wpList_append_str rfl (.tmp 12) (.tmp 15) rfl (w.heap.size + 1) v acc rfl (HO3.out.kept ((Below.refl _ _).alloc (Nat.le_refl _) _)) ⟨w3.heap.size, 0, none⟩ x 1 rfl (by rw [World.cell?_alloc_at _ _ _ _ rfl]; rfl) (by omega) (by have := HSZ3.out; simp; omega) ?_; intro v4 w4 hO4 hb4))
      have HO4 : Hid (OwnT w4 (w.heap.size + 1) v4 (acc ++ [x])) := hO4
      have hb34 : Below (w.heap.size + 1) w3 w4 := (((Below.refl w3.heap.size w3).alloc (Nat.le_refl _) _).mono HSZ3.out).trans hb4
      have HR4 : Hid (w4.ranges Tryz.prog 9 anyR b w.heap.size n D (fun z => left z && !z.sameKey (litK x)) cnt2) := ranges_same HR3.out (hb34.block b (by omega)) (hb34.block w.heap.size (by omega))
      have HB4 : Hid (Below w.heap.size w w4) := HB3.out.trans (hb34.mono (by omega))
      have HSZ4 : Hid (w.heap.size + 1 ≤ w4.heap.size) := Nat.le_trans HSZ3.out hb34.size
      clear hO4 hb4 hb34 HO3 HR3 HB3
      go_wp2
      go_roundw
      case rel => exact ⟨_, cnt2, acc ++ [x], HR4.out, HO4.out, HNX.out, HS2.out, HB4.out, HSZ4.out⟩
      case measure => rw [HR4.out.left_eq, HRG0.out.left_eq]; exact HLT.out
theorem keysO_any {w : World} (hd : HdAt w h S L s m D row blk) : Calls Tryz.prog 34 #[.pointer (some ⟨h, 0, none⟩)] w fun e w' => (∃ v, e = .returned v ∧ OwnT w' (w.heap.size + 1) v (keysL L)) ∧ Below w.heap.size w w' := by
  cases m with
  | none => exact keys_nil hd
  | some b => exact keys_some hd
theorem keys_any {w : World} (hd : HdAt w h S L s m D row blk) : Calls Tryz.prog 34 #[.pointer (some ⟨h, 0, none⟩)] w fun e w' => (∃ p c, e = .returned (.slice p (keysL L).length c) ∧ Strs w' p (keysL L)) ∧ Below w.heap.size w w' :=
  (keysO_any hd).mono fun e w' hp => by
    obtain ⟨⟨v, he, hO⟩, hb⟩ := hp
    obtain ⟨p, c, hv, hs, _, _, _⟩ := hO.form
    exact ⟨⟨p, c, by rw [he, hv], hs⟩, hb⟩
end
section
variable {h : Nat} {S : Nat → Prop} {L : List Kep} {s : Bool} {m : Option Nat} {D : DataW Value} {row : ByteArray → Value} {blk : ByteArray → Nat}
set_option maxRecDepth 10000 in
theorem seal_set {w : World} (hd : HdAt w h S L s m D row blk) : Calls Tryz.prog 29 #[.pointer (some ⟨h, 0, none⟩)] w fun e w' => e = .returned (.tuple #[]) ∧ w' = w.setCell ⟨h, 1, none⟩ (.bool true) := by
  have q1 := hd.shut
  have f1 := hd.free1
  clear hd
  go_enter Tryz.func29, Tryz.ntmps29
  go_wp2
  go_end0
  exact ⟨rfl, rfl⟩
theorem seals_any {w : World} (hd : HdOf w h S L s) : Calls Tryz.prog 29 #[.pointer (some ⟨h, 0, none⟩)] w fun e w' => e = .returned (.tuple #[]) ∧ ∃ S', HdOf w' h S' L true ∧ Upd S S' w w' := by
  obtain ⟨m, D, row, blk, hd⟩ := hd
  refine (seal_set hd).mono fun e w' hp => ?_
  obtain ⟨he, rfl⟩ := hp
  have hblk : ∀ k, k ≠ h → (w.setCell ⟨h, 1, none⟩ (.bool true)).heap[k]? = w.heap[k]? := fun k hk => Deep.blk_setCell_other _ _ _ _ hk
  refine ⟨he, S, ⟨m, D, row, blk, hd.sorted, hd.few, hd.fits, fun k hk => by simpa using hd.inS k hk, hd.self, ?_, World.cell?_setCell_same _ _ _ hd.shut, by rw [World.frozen?_setCell]; exact hd.free0, by rw [World.frozen?_setCell]; exact hd.free1, hd.nothing, fun b hm => ?_, fun x => (hd.own x).same (fun k hk => hblk k ?_), hd.nilrow, hd.inB, hd.apart⟩, ⟨rfl, rfl, rfl, by simp, fun k _ hn => hblk k (fun e => hn (e ▸ hd.self)), fun k hk => Or.inl hk⟩⟩
  · rw [World.cell?_setCell_other _ _ _ _ (fun e => by have h2 : (1 : Nat) = 0 := congrArg Addr.off e; omega)]
    exact hd.ptr
  · obtain ⟨h1, h2, ⟨n, h3⟩, h4⟩ := hd.mapS b hm
    exact ⟨h1, h2, ⟨n, h3.same (hblk b h2)⟩, h4⟩
  · obtain ⟨_, h2, h3⟩ := hd.rowS hk
    rw [h3]
    exact (hd.inB x h2).2.2.1
end
set_option maxRecDepth 10000 in
set_option maxHeartbeats 1600000 in
theorem set_some (h b n : Nat) (D : DataW Value) (key : ByteArray) (p : Option Addr) (k c : Nat) (w : World) (hk : key.size ≤ 1000000) (hk0 : 0 < k) (hk1 : k ≤ 1000) (q0 : w.cell? ⟨h, 0, none⟩ = some (.map (some b))) (hown : OwnM w b n D) (hn : n < maxLen) :
    Calls Tryz.prog 40 #[.pointer (some ⟨h, 0, none⟩), .string key, .slice p k c] w fun e w' => e = .returned (.tuple #[]) ∧ SetOk w w' b D key (.slice p k c) := by
  have hlt : h < w.heap.size := lt_of_cellH q0
  have HUP : Hid (∀ W, Below w.heap.size w W → ∃ w', (Instr.mapUpdate 37 (.map (some b)) (.string key) (.slice p k c)).run Tryz.prog W = .ok () w' ∧ SetOk w w' b D key (.slice p k c)) := fun W hW => set_step hown hn (by unfold maxLen; omega) hW
  have HCL : Hid (∀ W, Calls Tryz.prog 44 #[.string key] W fun e w' => e = .returned (.string key) ∧ Below W.heap.size W w') := fun W => sclone_any key W (by omega)
  have HQ : Hid (∀ W, Below w.heap.size w W → W.cell? ⟨h, 0, none⟩ = some (.map (some b))) := fun W hW => (hW.cell (p := ⟨h, 0, none⟩) hlt).trans q0
  have hz : ¬ ((k : Int) = 0) := by omega
  have hmn := map_not_nil b
  clear hown hn hk
  go_enter Tryz.func40, Tryz.ntmps40
  go_wp2
  go_region_with (go_at_call 44; refine (HCL.out _).mono ?_; rintro e w5 ⟨rfl, hb5⟩; have hb6 := below_drew' hb5; have q5 := HQ.out w5 hb6; obtain ⟨w9, hrun9, hset9⟩ := HUP.out w5 hb6; clear hb5 hb6)
  all_goals
    go_wp2
    go_end0
    first | exact ⟨rfl, hset9⟩ | exact ⟨rfl, by assumption⟩
set_option maxRecDepth 10000 in
set_option maxHeartbeats 1600000 in
/-- Where no map is there yet. -/
theorem set_none (h : Nat) (key : ByteArray) (p : Option Addr) (k c : Nat) (w : World) (hk : key.size ≤ 1000000) (hk0 : 0 < k) (hk1 : k ≤ 1000) (q0 : w.cell? ⟨h, 0, none⟩ = some (.map none)) (f0 : w.frozen? ⟨h, 0, none⟩ = false) :
    Calls Tryz.prog 40 #[.pointer (some ⟨h, 0, none⟩), .string key, .slice p k c] w fun e w' => e = .returned (.tuple #[]) ∧ SetOk ((w.setCell ⟨h, 0, none⟩ (.map (some w.heap.size))).alloc (.map #[] 0)) w' w.heap.size (.map []) key (.slice p k c) := by
  have hlt : h < w.heap.size := lt_of_cellH q0
  obtain ⟨W0, hW0⟩ : ∃ W0, W0 = (w.setCell ⟨h, 0, none⟩ (.map (some w.heap.size))).alloc (.map #[] 0) := ⟨_, rfl⟩
  have HW0 : Hid (W0 = (w.setCell ⟨h, 0, none⟩ (.map (some w.heap.size))).alloc (.map #[] 0)) := hW0
  have hsz : (w.setCell ⟨h, 0, none⟩ (.map (some w.heap.size))).heap.size = w.heap.size := by simp
  have hown : OwnM W0 w.heap.size 0 (.map []) := by
    have := World.ownsMap_made (w.setCell ⟨h, 0, none⟩ (.map (some w.heap.size))) Tryz.prog 9 anyR
    rw [hsz] at this
    rw [hW0]
    exact this
  have hq : W0.cell? ⟨h, 0, none⟩ = some (.map (some w.heap.size)) := by
    rw [hW0, ((Below.refl _ (w.setCell ⟨h, 0, none⟩ (.map (some w.heap.size)))).alloc (Nat.le_refl _) _).cell (p := ⟨h, 0, none⟩) (by rw [hsz]; exact hlt)]
    exact World.cell?_setCell_same _ _ _ q0
  have hlt0 : h < W0.heap.size := lt_of_cellH hq
  have HUP : Hid (∀ W, Below W0.heap.size W0 W → ∃ w', (Instr.mapUpdate 37 (.map (some w.heap.size)) (.string key) (.slice p k c)).run Tryz.prog W = .ok () w' ∧ SetOk W0 w' w.heap.size (.map []) key (.slice p k c)) := fun W hW => set_step hown (by unfold maxLen; omega) (by unfold maxLen; omega) hW
  have HCL : Hid (∀ W, Calls Tryz.prog 44 #[.string key] W fun e w' => e = .returned (.string key) ∧ Below W.heap.size W w') := fun W => sclone_any key W (by omega)
  have HQ : Hid (∀ W, Below W0.heap.size W0 W → W.cell? ⟨h, 0, none⟩ = some (.map (some w.heap.size))) := fun W hW => (hW.cell (p := ⟨h, 0, none⟩) hlt0).trans hq
  have hz : ¬ ((k : Int) = 0) := by omega
  have hmn := map_is_nil
  have hf1 : (w.alloc (.map #[] 0)).frozen? ⟨h, 0, none⟩ = false := by rw [((Below.refl _ w).alloc (Nat.le_refl _) _).frozen (p := ⟨h, 0, none⟩) hlt]; exact f0
  have hc1 : (w.alloc (.map #[] 0)).cell? ⟨h, 0, none⟩ = some (.map none) := by rw [((Below.refl _ w).alloc (Nat.le_refl _) _).cell (p := ⟨h, 0, none⟩) hlt]; exact q0
  have hmk : (Instr.makeMap 37 none).run Tryz.prog w = .ok (.map (some w.heap.size)) (w.alloc (.map #[] 0)) := by kernel_rfl
  rw [← hW0]
  clear hown hk hW0 hsz
  go_enter Tryz.func40, Tryz.ntmps40
  go_wp2
  rw [← HW0.out]
  clear HW0
  go_region_with (go_at_call 44; refine (HCL.out _).mono ?_; rintro e w5 ⟨rfl, hb5⟩; have hb6 := below_drew' hb5; have q5 := HQ.out w5 hb6; obtain ⟨w9, hrun9, hset9⟩ := HUP.out w5 hb6; clear hb5 hb6)
  all_goals
    go_wp2
    go_end0
    first | exact ⟨rfl, hset9⟩ | exact ⟨rfl, by assumption⟩
end Go.Proofs.YtmbpfbhpmafheaaGreatDoor
