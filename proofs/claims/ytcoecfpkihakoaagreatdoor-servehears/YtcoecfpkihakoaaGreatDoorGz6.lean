/- Package ring: is it a name? -/
import Derived.Test.YtcoecfpkihakoaaGreatDoorGz5
import Derived.Test.YtcoecfpkihakoaaGreatDoorGz0
import Derived.Laws.RangeAny
import Derived.Shelf.SlSortCmp.QuietGrown
import Derived.Deep.Heap
import Derived.Test.YtcoecfpkihakoaaGreatDoorGz3
import Derived.BigQuiet
import Derived.Deep.QuietTactic
import Derived.Deep.OwnRows
namespace Go.Proofs.YtcoecfpkihakoaaGreatDoor
open Go.RowKit
set_option maxRecDepth 10000 in
set_option maxHeartbeats 1000000 in
theorem sign_any (r : Nat) (W : World) : Calls Tryz.prog 39 #[.int .i32 (r : Int)] W fun e w' => e = .returned (.bool (!letterB r)) ∧ w' = W := by
  have key : ∀ b, letterB r = b → Hid ((!letterB r) = (!b)) := fun b h => by show _ = _; rw [h]
  rcases (show (97 ≤ r ∧ r ≤ 122) ∨ (48 ≤ r ∧ r ≤ 57) ∨ r = 45 ∨ 122 < r ∨ (57 < r ∧ r < 97) ∨ (r < 48 ∧ r ≠ 45) by omega) with hc | hc | hc | hc | hc | hc
  · have HL := key true (by simp [letterB, hc])
    obtain ⟨hc1, hc2⟩ := hc
    have d1 : decide ((r : Int) < 97) = false := decide_eq_false (by omega)
    have d2 : decide (122 < (r : Int)) = false := decide_eq_false (by omega)
    rw [HL.out]
    clear key
    go_enter Tryz.func39, Tryz.ntmps39
    go_wp2
    go_ret
    exact ⟨rfl, rfl⟩
  · have HL := key true (by simp [letterB, hc])
    obtain ⟨hc1, hc2⟩ := hc
    have d1 : decide ((r : Int) < 97) = true := decide_eq_true (by omega)
    have d3 : decide ((r : Int) < 48) = false := decide_eq_false (by omega)
    have d4 : decide (57 < (r : Int)) = false := decide_eq_false (by omega)
    rw [HL.out]
    clear key
    go_enter Tryz.func39, Tryz.ntmps39
    go_wp2
    go_ret
    exact ⟨rfl, rfl⟩
  · have HL := key true (by simp [letterB, hc])
    subst hc
    rw [HL.out]
    clear key
    go_enter Tryz.func39, Tryz.ntmps39
    go_wp2
    go_ret
    exact ⟨rfl, rfl⟩
  · have HL := key false (by unfold letterB; rw [decide_eq_false (by omega), decide_eq_false (by omega), decide_eq_false (by omega)]; rfl)
    have d1 : decide ((r : Int) < 97) = false := decide_eq_false (by omega)
    have d2 : decide (122 < (r : Int)) = true := decide_eq_true (by omega)
    have d3 : decide ((r : Int) < 48) = false := decide_eq_false (by omega)
    have d4 : decide (57 < (r : Int)) = true := decide_eq_true (by omega)
    have d5 : ((r : Int) != 45) = true := by rw [bne_iff_ne]; omega
    have d6 : ((r : Int) == 45) = false := by rw [beq_eq_false_iff_ne]; omega
    rw [HL.out]
    clear key
    go_enter Tryz.func39, Tryz.ntmps39
    go_wp2
    go_ret
    exact ⟨rfl, rfl⟩
  · have HL := key false (by unfold letterB; rw [decide_eq_false (by omega), decide_eq_false (by omega), decide_eq_false (by omega)]; rfl)
    obtain ⟨hc1, hc2⟩ := hc
    have d1 : decide ((r : Int) < 97) = true := decide_eq_true (by omega)
    have d3 : decide ((r : Int) < 48) = false := decide_eq_false (by omega)
    have d4 : decide (57 < (r : Int)) = true := decide_eq_true (by omega)
    have d5 : ((r : Int) != 45) = true := by rw [bne_iff_ne]; omega
    have d6 : ((r : Int) == 45) = false := by rw [beq_eq_false_iff_ne]; omega
    rw [HL.out]
    clear key
    go_enter Tryz.func39, Tryz.ntmps39
    go_wp2
    go_ret
    exact ⟨rfl, rfl⟩
  · have HL := key false (by unfold letterB; rw [decide_eq_false (by omega), decide_eq_false (by omega), decide_eq_false (by omega)]; rfl)
    obtain ⟨hc1, hc2⟩ := hc
    have d1 : decide ((r : Int) < 97) = true := decide_eq_true (by omega)
    have d3 : decide ((r : Int) < 48) = true := decide_eq_true (by omega)
    have d5 : ((r : Int) != 45) = true := by rw [bne_iff_ne]; omega
    have d6 : ((r : Int) == 45) = false := by rw [beq_eq_false_iff_ne]; omega
    rw [HL.out]
    clear key
    go_enter Tryz.func39, Tryz.ntmps39
    go_wp2
    go_ret
    exact ⟨rfl, rfl⟩
/-- From place i on: a sign that no name has is found just where there is such a byte. -/
theorem idxFrom (s : ByteArray) : ∀ (f i : Nat), s.size ≤ i + f → (decide (0 ≤ Lib.idxFuncFrom (fun r => !letterB r) true s f i) = true ↔ ∃ j, i ≤ j ∧ j < s.size ∧ letterB (Gf.nth (bytesOf s) j) = false)
  | 0, i, h => by
    constructor
    · intro h1
      have h2 : decide ((0 : Int) ≤ -1) = true := h1
      cases h2
    · rintro ⟨j, h1, h2, _⟩
      omega
  | f + 1, i, h => by
    show decide (0 ≤ (if i < s.size then (if (!letterB (Utf8.decode s i).1) = true then (i : Int) else Lib.idxFuncFrom (fun r => !letterB r) true s f (i + (Utf8.decode s i).2)) else -1)) = true ↔ _
    by_cases hi : i < s.size
    · rw [if_pos hi]
      by_cases ha : (s[i]'hi).toNat < 128
      · rw [decode_ascii s i hi ha, ← bytesOf_nth s i hi]
        have ih := idxFrom s f (i + 1) (by omega)
        cases hl : letterB (Gf.nth (bytesOf s) i) with
        | false =>
          rw [if_pos (by rfl)]
          exact ⟨fun _ => ⟨i, Nat.le_refl _, hi, hl⟩, fun _ => decide_eq_true (by omega)⟩
        | true =>
          rw [if_neg (by simp), ih]
          constructor
          · rintro ⟨j, h1, h2, h3⟩
            exact ⟨j, by omega, h2, h3⟩
          · rintro ⟨j, h1, h2, h3⟩
            refine ⟨j, ?_, h2, h3⟩
            by_cases e : j = i
            · rw [e, hl] at h3; cases h3
            · omega
      · have h1 := (decode_high s i hi (by omega)).1
        have hl : letterB (Utf8.decode s i).1 = false := by
          unfold letterB
          rw [decide_eq_false (by omega), decide_eq_false (by omega), decide_eq_false (by omega)]
          rfl
        have hl2 : letterB (Gf.nth (bytesOf s) i) = false := by
          rw [bytesOf_nth s i hi]
          unfold letterB
          rw [decide_eq_false (by omega), decide_eq_false (by omega), decide_eq_false (by omega)]
          rfl
        rw [hl, if_pos (by rfl)]
        exact ⟨fun _ => ⟨i, Nat.le_refl _, hi, hl2⟩, fun _ => decide_eq_true (by omega)⟩
    · rw [if_neg hi]
      constructor
      · intro h1
        cases h1
      · rintro ⟨j, h1, h2, _⟩
        omega
theorem idxOf (s : ByteArray) : decide (0 ≤ Lib.idxFunc (fun r => !letterB r) true s) = !((bytesOf s).all letterB) := by
  have h := idxFrom s s.size 0 (by omega)
  cases ha : (bytesOf s).all letterB with
  | true =>
    rw [show (!true) = false from rfl, Bool.eq_false_iff]
    intro h1
    obtain ⟨j, _, hj, h3⟩ := h.1 h1
    have hj' : j < (bytesOf s).length := by rw [bytesOf_length]; exact hj
    rw [List.all_eq_true] at ha
    have := ha (Gf.nth (bytesOf s) j) (by rw [Gf.nth_getElem _ j hj']; exact List.getElem_mem hj')
    rw [h3] at this
    cases this
  | false =>
    obtain ⟨x, hx, hne⟩ := List.all_eq_false.1 ha
    obtain ⟨j, hj, rfl⟩ := List.getElem_of_mem hx
    refine h.2 ⟨j, Nat.zero_le _, by rw [bytesOf_length] at hj; exact hj, ?_⟩
    rw [Gf.nth_getElem _ j hj]
    exact Bool.eq_false_iff.2 hne
set_option maxRecDepth 10000 in
set_option maxHeartbeats 1000000 in
theorem pname_any (s : ByteArray) (w : World) : Calls Tryz.prog 18 #[.string s] w fun e w' => e = .returned (.bool (isN s)) ∧ Below w.heap.size w w' := by
  by_cases h1 : s.size < 1
  · have HE : Hid (isN s = false) := isN_len (by omega)
    have d1 : decide (1 ≤ (s.size : Int)) = false := decide_eq_false (by omega)
    rw [HE.out]
    go_enter Tryz.func18, Tryz.ntmps18
    go_wp2
    go_ret
    exact ⟨rfl, Below.refl _ _⟩
  have d1 : decide (1 ≤ (s.size : Int)) = true := decide_eq_true (by omega)
  by_cases h2 : 16 < s.size
  · have HE : Hid (isN s = false) := isN_len (by omega)
    have d2 : decide ((s.size : Int) ≤ 16) = false := decide_eq_false (by omega)
    rw [HE.out]
    go_enter Tryz.func18, Tryz.ntmps18
    go_wp2
    go_ret
    exact ⟨rfl, Below.refl _ _⟩
  have d2 : decide ((s.size : Int) ≤ 16) = true := decide_eq_true (by omega)
  have HC := Tryz.strings_ContainsFunc 39 #[] (enters_of Tryz.func39 (by kernel_rfl) rfl) (fun r => !letterB r) s w (fun W r _ => by
    unfold FnGives
    exact (sign_any r W).mono fun _ _ ⟨he, hw⟩ => ⟨he, 0, hw⟩)
  rw [idxOf] at HC
  have HE : Hid (isN s = (bytesOf s).all letterB) := by show _ = _; unfold isN; rw [decide_eq_true ⟨by omega, by omega⟩, Bool.true_and]
  rw [HE.out]
  generalize (bytesOf s).all letterB = r at *
  clear HE
  go_enter Tryz.func18, Tryz.ntmps18
  go_wp2_with fail
  refine HC.mono ?_
  rintro e w1 ⟨rfl, hb1⟩
  clear HC
  cases r with
  | true =>
    go_wp2
    go_ret
    exact ⟨rfl, hb1⟩
  | false =>
    go_wp2
    go_ret
    exact ⟨rfl, hb1⟩
end Go.Proofs.YtcoecfpkihakoaaGreatDoor
/- What a node holds: versions by key and tag, as lists; what a model of it answers. -/
namespace Go.Proofs.YtcoecfpkihakoaaGreatDoor
open Go.RowKit
def lessB (a b : Int × Int) : Bool := decide (a.1 < b.1) || (decide (a.1 = b.1) && decide (a.2 < b.2))
theorem verinfo : (Tryz.prog.info? 59).map (fun i => (i.zero, i.size, i.bytes)) = some (some (.agg #[.int .i64 0, .int .i64 0, .int .i64 0, .int .i64 0, .string ⟨#[]⟩]), 5, 48) := by kernel_rfl
def verAt (L : List Ver) (i : Nat) : Ver := L.getD i ⟨0, 0, 0, 0, ⟨#[]⟩⟩
theorem verAt_get {L : List Ver} {i : Nat} (hi : i < L.length) : L[i]? = some (verAt L i) := by
  unfold verAt
  rw [List.getD_eq_getElem?_getD, List.getElem?_eq_getElem hi]
  rfl
theorem ver_ext {l m : List Ver} (hl : l.length = m.length) (h : ∀ i, i < l.length → verAt l i = verAt m i) : l = m := by
  refine List.ext_getElem? fun i => ?_
  by_cases hi : i < l.length
  · rw [verAt_get hi, verAt_get (show i < m.length by omega), h i hi]
  · rw [List.getElem?_eq_none (by omega), List.getElem?_eq_none (by omega)]
theorem ver_cells {w : World} {p : Option Addr} {L : List Ver} (h : Rec verE w p L) {i : Nat} (hi : i < L.length) : ∃ b o, p = some ⟨b, o, none⟩ ∧ b < w.heap.size ∧ w.cell? ⟨b, o + i * 5, none⟩ = some (.int .i64 (verAt L i).n) ∧ w.cell? ⟨b, o + i * 5 + 1, none⟩ = some (.int .i64 (verAt L i).who) ∧ w.cell? ⟨b, o + i * 5 + 2, none⟩ = some (.int .i64 (verAt L i).size) ∧ w.cell? ⟨b, o + i * 5 + 3, none⟩ = some (.int .i64 (verAt L i).at_) ∧ w.cell? ⟨b, o + i * 5 + 4, none⟩ = some (.string (verAt L i).text) := by
  rcases h with h | ⟨b, o, hp, hlt, hc⟩
  · rw [h] at hi; exact absurd hi (Nat.not_lt_zero _)
  · have hx := verAt_get hi
    exact ⟨b, o, hp, hlt, hc i _ hx 0 _ rfl, hc i _ hx 1 _ rfl, hc i _ hx 2 _ rfl, hc i _ hx 3 _ rfl, hc i _ hx 4 _ rfl⟩
/-- Numbers that a tag can have. -/
def tagB (n who : Int) : Bool := decide (0 ≤ n) && decide (n ≤ 1099511627776) && decide (0 ≤ who) && decide (who ≤ 1099511627776)
/-- Can a version be? -/
def verOk (v : Ver) : Bool := tagB v.n v.who && decide (0 ≤ v.size ∧ v.size ≤ 1000 ∧ 0 ≤ v.at_ ∧ v.at_ < 12 ∧ v.text.size ≤ 1000)
def sameTag (x : Kep) (key : ByteArray) (v : Ver) : Bool := decide (x.1 = key) && decide (x.2.n = v.n) && decide (x.2.who = v.who)
/-- The m kept ones from i on: is one there with this tag? -/
def putScan (L : List Kep) (key : ByteArray) (v : Ver) : Nat → Nat → Int
  | _, 0 => if 60 ≤ L.length then 7 else 0
  | i, m + 1 => if sameTag (kepAt L i) key v then (if (kepAt L i).2 = v then -1 else 6) else putScan L key v (i + 1) m
/-- An error's number; -1: the same one is there. -/
def putErr (L : List Kep) (s : Bool) (key : ByteArray) (v : Ver) : Int := if s then 10 else if isN key then (if verOk v then putScan L key v 0 L.length else 2) else 4
theorem putScan_at {L : List Kep} {key : ByteArray} {v : Ver} {i : Nat} (hi : i < L.length) : putScan L key v i (L.length - i) = if sameTag (kepAt L i) key v then (if (kepAt L i).2 = v then -1 else 6) else putScan L key v (i + 1) (L.length - (i + 1)) := by
  rw [show L.length - i = (L.length - (i + 1)) + 1 by omega]
  rfl
/-- The keys of the first i kept ones, each where it is another one than the last. -/
def keysTo (L : List Kep) : Nat → List ByteArray
  | 0 => []
  | i + 1 => if (keysTo L i).length = 0 ∨ txt (keysTo L i) ((keysTo L i).length - 1) ≠ (kepAt L i).1 then keysTo L i ++ [(kepAt L i).1] else keysTo L i
theorem keysTo_le (L : List Kep) : ∀ i, (keysTo L i).length ≤ i
  | 0 => Nat.zero_le _
  | i + 1 => by
    have ih := keysTo_le L i
    show (if _ then _ else _ : List ByteArray).length ≤ i + 1
    split
    · rw [List.length_append]
      show _ + 1 ≤ _
      omega
    · omega
theorem keysTo_new {L : List Kep} {i : Nat} (h : (keysTo L i).length = 0 ∨ txt (keysTo L i) ((keysTo L i).length - 1) ≠ (kepAt L i).1) : keysTo L (i + 1) = keysTo L i ++ [(kepAt L i).1] := if_pos h
theorem keysTo_old {L : List Kep} {i : Nat} (h : ¬ ((keysTo L i).length = 0 ∨ txt (keysTo L i) ((keysTo L i).length - 1) ≠ (kepAt L i).1)) : keysTo L (i + 1) = keysTo L i := if_neg h
/-- Those of a key go, as many as left, from the first on. -/
def trimGo (key : ByteArray) : Nat → List Kep → List Kep
  | _, [] => []
  | left, x :: r => if x.1 = key ∧ 0 < left then trimGo key (left - 1) r else x :: trimGo key left r
theorem trimGo_at {L : List Kep} {key : ByteArray} {left i : Nat} (hi : i < L.length) : trimGo key left (L.drop i) = if (kepAt L i).1 = key ∧ 0 < left then trimGo key (left - 1) (L.drop (i + 1)) else kepAt L i :: trimGo key left (L.drop (i + 1)) := by
  have e : L.drop i = kepAt L i :: L.drop (i + 1) := by
    rw [List.drop_eq_getElem_cons hi]
    have := kepAt_get hi
    rw [List.getElem?_eq_getElem hi] at this
    rw [Option.some.inj this]
  rw [e]
  rfl
/-- How many go. -/
def goneN (L : List Kep) (key : ByteArray) (keep : Int) : Nat := ((getL L key).length - keep).toNat
def trimL (L : List Kep) (key : ByteArray) (keep : Int) : List Kep := trimGo key (goneN L key keep) L
/-- Does a kept one stand ahead of a version of a key? -/
def beforeB (x : Kep) (key : ByteArray) (v : Ver) : Bool := Op.bytesLess x.1.toList key.toList || (decide (x.1 = key) && lessB (x.2.n, x.2.who) (v.n, v.who))
/-- Where it goes in. -/
def placeN (L : List Kep) (key : ByteArray) (v : Ver) : Nat := L.findIdx fun x => !beforeB x key v
theorem placeN_at {L : List Kep} {key : ByteArray} {v : Ver} {k : Nat} (hk : k < L.length) (hall : ∀ j, j < k → beforeB (kepAt L j) key v = true) (h : beforeB (kepAt L k) key v = false) : placeN L key v = k := by
  have e : ∀ j (hj : j < L.length), L[j] = kepAt L j := fun j hj => by
    have := kepAt_get hj
    rw [List.getElem?_eq_getElem hj] at this
    exact Option.some.inj this
  unfold placeN
  rw [List.findIdx_eq hk]
  refine ⟨by rw [e k hk, h]; rfl, fun j hj => by rw [e j (by omega), hall j hj]; rfl⟩
theorem placeN_end {L : List Kep} {key : ByteArray} {v : Ver} (hall : ∀ j, j < L.length → beforeB (kepAt L j) key v = true) : placeN L key v = L.length := by
  unfold placeN
  rw [List.findIdx_eq_length]
  intro x hx
  obtain ⟨j, hj, rfl⟩ := List.getElem_of_mem hx
  have := kepAt_get hj
  rw [List.getElem?_eq_getElem hj] at this
  rw [Option.some.inj this, hall j hj]
  rfl
theorem placeN_le (L : List Kep) (key : ByteArray) (v : Ver) : placeN L key v ≤ L.length := List.findIdx_le_length
def putL (L : List Kep) (key : ByteArray) (v : Ver) : List Kep := L.take (placeN L key v) ++ [(key, v)] ++ L.drop (placeN L key v)
theorem placeN_before {L : List Kep} {key : ByteArray} {v : Ver} {j : Nat} (hj : j < placeN L key v) : beforeB (kepAt L j) key v = true := by
  have hlt : j < L.length := Nat.lt_of_lt_of_le hj (placeN_le L key v)
  have h := List.not_of_lt_findIdx (p := fun x => !beforeB x key v) (xs := L) (i := j) hj
  have e : L[j] = kepAt L j := by
    have := kepAt_get hlt
    rw [List.getElem?_eq_getElem hlt] at this
    exact Option.some.inj this
  rw [e] at h
  simpa using h
theorem placeN_here {L : List Kep} {key : ByteArray} {v : Ver} (hk : placeN L key v < L.length) : beforeB (kepAt L (placeN L key v)) key v = false := by
  have h := List.findIdx_getElem (p := fun x => !beforeB x key v) (xs := L) (w := hk)
  have e : L[placeN L key v] = kepAt L (placeN L key v) := by
    have := kepAt_get hk
    rw [List.getElem?_eq_getElem hk] at this
    exact Option.some.inj this
  have h2 : (!beforeB L[placeN L key v] key v) = true := h
  rw [e] at h2
  simpa using h2
/-- What Put answers, and what is held then. -/
def putR (L : List Kep) (s : Bool) (key : ByteArray) (v : Ver) : Int × List Kep := if putErr L s key v = 0 then (0, putL L key v) else if putErr L s key v < 0 then (0, L) else (putErr L s key v, L)
/-- The error ev is number c, bare. -/
def BareIs (ad : Nat → Addr) (ev : Value) (c : Int) : Prop := (ev = .nilIface ∧ c = 0) ∨ ∃ i, i < 12 ∧ ev = .iface 173 (.pointer (some (ad i))) ∧ c = ((i + 1 : Nat) : Int)
/-- The tag of the last of versions; of none 0. -/
def lastT (l : List Ver) : Int × Int := ((verAt l (l.length - 1)).n, (verAt l (l.length - 1)).who)
/-- From w to w' nothing that was there is written but the blocks of S; those of S' are of S, or new. -/
structure Upd (S S' : Nat → Prop) (w w' : World) : Prop where
  os : w'.os = w.os
  tape : w'.tape = w.tape
  output : w'.output = w.output
  size : w.heap.size ≤ w'.heap.size
  block : ∀ k, k < w.heap.size → ¬ S k → w'.heap[k]? = w.heap[k]?
  new : ∀ k, S' k → S k ∨ w.heap.size ≤ k
theorem Upd.of_below {S : Nat → Prop} {w w' : World} (hb : Below w.heap.size w w') : Upd S S w w' := ⟨hb.os, hb.tape, hb.output, hb.size, fun k hk _ => hb.block k hk, fun _ h => Or.inl h⟩
def verA (v : Ver) : Value := .agg #[.int .i64 v.n, .int .i64 v.who, .int .i64 v.size, .int .i64 v.at_, .string v.text]
end Go.Proofs.YtcoecfpkihakoaaGreatDoor
/- A world with blocks laid behind it. -/
namespace Go.Proofs.YtcoecfpkihakoaaGreatDoor
open Go.RowKit Go.Sort
theorem below_grow (w : World) (n : Nat) (os : Array Obj) : RowKit.Below w.heap.size w (grow (w.drewN n) os) := ⟨rfl, rfl, rfl, by show w.heap.size ≤ (w.heap ++ os).size; rw [Array.size_append]; omega, fun _ hj => heap_grow_old (w.drewN n) os hj⟩
end Go.Proofs.YtcoecfpkihakoaaGreatDoor
/- What is written: one step behind another. -/
namespace Go.Proofs.YtcoecfpkihakoaaGreatDoor
open Go.RowKit
theorem Upd.trans {S S1 S2 : Nat → Prop} {w w1 w2 : World} (h1 : Upd S S1 w w1) (h2 : Upd S1 S2 w1 w2) : Upd S S2 w w2 :=
  ⟨h2.os.trans h1.os, h2.tape.trans h1.tape, h2.output.trans h1.output, Nat.le_trans h1.size h2.size, fun k hk hs => (h2.block k (Nat.lt_of_lt_of_le hk h1.size) (fun h => (h1.new k h).elim hs (by omega))).trans (h1.block k hk hs), fun k hk => (h2.new k hk).elim (h1.new k) (fun h => Or.inr (Nat.le_trans h1.size h))⟩
end Go.Proofs.YtcoecfpkihakoaaGreatDoor
/- Rows of versions of the call's own: other blocks are written. -/
namespace Go.Proofs.YtcoecfpkihakoaaGreatDoor
open Go.RowKit
theorem OwnR.same' {T : TypeId} {w w' : World} {B : Nat} {v : Value} {l : List Ver} (h : OwnR verE T w B v l) (hb : ∀ k, v.ownBlock = some k → w'.heap[k]? = w.heap[k]?) : OwnR verE T w' B v l := by
  obtain ⟨h1, h2⟩ := h
  refine ⟨h1, ?_⟩
  rcases h2 with h2 | ⟨g, cap, cur, hv, hbg, hg, hrest⟩
  · exact Or.inl h2
  · refine Or.inr ⟨g, cap, cur, hv, hbg, ?_, hrest⟩
    rw [hb g (by rw [hv]; rfl)]
    exact hg
theorem OwnR.setC {T : TypeId} {w : World} {B : Nat} {v : Value} {l : List Ver} (h : OwnR verE T w B v l) {b : Nat} (hb : b < B) (i : Nat) (x : Value) : OwnR verE T (w.setCell ⟨b, i, none⟩ x) B v l := h.same' (fun k hk => Deep.blk_setCell_other _ _ _ _ (by have := (h.block hk).1; show k ≠ b; omega))
end Go.Proofs.YtcoecfpkihakoaaGreatDoor
/- The second statements' own 'coded', at nil and at each sentinel of package api. -/
namespace Go.Proofs.YtcoecfpkihakoaaGreatDoor
open Go.RowKit Go.Extern.Stop Go.Stop Go.Extern
theorem coded2_nil (w : World) : Calls Tryz.prog 8 #[.nilIface, .int .i64 0] w fun e w' => e = .returned (.bool true) ∧ w' = w := by
  go_enter Tryz.func8, Tryz.ntmps8
  go_wp2_with (go_at_call 20; refine (code_nil _).mono ?_; rintro e w' ⟨rfl, rfl⟩)
  go_ret
  exact ⟨rfl, rfl⟩
/-- 'coded' of a sentinel and its own number. -/
theorem coded2_sent (ad : Nat → Addr) (i : Nat) (hi : i < 12) (w : World) (hS : Sent w ad) :
    Calls Tryz.prog 8 #[.iface 173 (.pointer (some (ad i))), .int .i64 ((i + 1 : Nat) : Int)] w fun e w' => e = .returned (.bool true) ∧ Below w.heap.size w w' := by
  go_enter Tryz.func8, Tryz.ntmps8
  go_wp2_with fail
  refine (code_sent ad i hi _ hS).mono ?_
  rintro e w2 ⟨rfl, hb2⟩
  go_wp2
  go_ret
  exact ⟨rfl, hb2⟩
theorem coded2_any {ad : Nat → Addr} {ev : Value} {c : Int} (h : BareIs ad ev c) (w : World) (hS : Sent w ad) :
    Calls Tryz.prog 8 #[ev, .int .i64 c] w fun e w' => e = .returned (.bool true) ∧ Below w.heap.size w w' := by
  rcases h with ⟨rfl, rfl⟩ | ⟨i, hi, rfl, rfl⟩
  · exact (coded2_nil w).mono fun e w' ⟨h1, h2⟩ => ⟨h1, by rw [h2]; exact Below.refl _ _⟩
  · exact coded2_sent ad i hi w hS
end Go.Proofs.YtcoecfpkihakoaaGreatDoor
/- The document's own Less. -/
namespace Go.Proofs.YtcoecfpkihakoaaGreatDoor
open Go.RowKit
set_option maxRecDepth 10000 in
theorem rless_any (a b : Int × Int) (w : World) :
    Calls Tryz.prog 50 #[.agg #[.int .i64 a.1, .int .i64 a.2], .agg #[.int .i64 b.1, .int .i64 b.2]] w fun e w' => e = .returned (.bool (lessB a b)) ∧ Below w.heap.size w w' := by
  obtain ⟨a1, a2⟩ := a
  obtain ⟨b1, b2⟩ := b
  have HB : Hid (Below w.heap.size w ((w.alloc (.cells #[.int .i64 a1, .int .i64 a2] 55)).alloc (.cells #[.int .i64 b1, .int .i64 b2] 55))) := ((Below.refl _ _).alloc (Nat.le_refl _) _).alloc (by simp) _
  by_cases h1 : a1 < b1
  · have HE : Hid (lessB (a1, a2) (b1, b2) = true) := by show _ = _; unfold lessB; simp [h1]
    rw [HE.out]
    go_enter Tryz.func50, Tryz.ntmps50
    go_wp2
    go_ret
    exact ⟨rfl, HB.out⟩
  have d1 : decide (a1 < b1) = false := decide_eq_false h1
  by_cases h2 : a1 = b1
  · subst h2
    have HE : Hid (lessB (a1, a2) (a1, b2) = decide (a2 < b2)) := by show _ = _; unfold lessB; simp
    rw [HE.out]
    go_enter Tryz.func50, Tryz.ntmps50
    go_wp2
    go_ret
    exact ⟨rfl, HB.out⟩
  · have HE : Hid (lessB (a1, a2) (b1, b2) = false) := by show _ = _; unfold lessB; simp [h1, h2]
    rw [HE.out]
    have d2 : (a1 == b1) = false := by
      rw [beq_eq_false_iff_ne]
      exact h2
    go_enter Tryz.func50, Tryz.ntmps50
    go_wp2
    go_ret
    exact ⟨rfl, HB.out⟩
end Go.Proofs.YtcoecfpkihakoaaGreatDoor
/- The document's own Less, in whatever world: it lays blocks and draws. -/
namespace Go.Proofs.YtcoecfpkihakoaaGreatDoor
open Go.RowKit Go.Sort
set_option maxRecDepth 10000 in
theorem rless_grow (a b : Int × Int) (w : World) :
    Calls Tryz.prog 50 #[.agg #[.int .i64 a.1, .int .i64 a.2], .agg #[.int .i64 b.1, .int .i64 b.2]] w fun e w' => e = .returned (.bool (lessB a b)) ∧ ∃ q os, w' = grow (w.drewN q) os := by
  obtain ⟨a1, a2⟩ := a
  obtain ⟨b1, b2⟩ := b
  by_cases h1 : a1 < b1
  · have HE : Hid (lessB (a1, a2) (b1, b2) = true) := by show _ = _; unfold lessB; simp [h1]
    rw [HE.out]
    go_enter Tryz.func50, Tryz.ntmps50
    go_wp2
    go_ret
    exact ⟨rfl, 0, _, by rw [alloc_eq_grow, alloc_eq_grow, grow_grow]; rfl⟩
  have d1 : decide (a1 < b1) = false := decide_eq_false h1
  by_cases h2 : a1 = b1
  · subst h2
    have HE : Hid (lessB (a1, a2) (a1, b2) = decide (a2 < b2)) := by show _ = _; unfold lessB; simp
    rw [HE.out]
    go_enter Tryz.func50, Tryz.ntmps50
    go_wp2
    go_ret
    exact ⟨rfl, 0, _, by rw [alloc_eq_grow, alloc_eq_grow, grow_grow]; rfl⟩
  · have HE : Hid (lessB (a1, a2) (b1, b2) = false) := by show _ = _; unfold lessB; simp [h1, h2]
    rw [HE.out]
    have d2 : (a1 == b1) = false := by
      rw [beq_eq_false_iff_ne]
      exact h2
    go_enter Tryz.func50, Tryz.ntmps50
    go_wp2
    go_ret
    exact ⟨rfl, 0, _, by rw [alloc_eq_grow, alloc_eq_grow, grow_grow]; rfl⟩
end Go.Proofs.YtcoecfpkihakoaaGreatDoor
/- The document's own IsTag. -/
namespace Go.Proofs.YtcoecfpkihakoaaGreatDoor
open Go.RowKit
set_option maxRecDepth 10000 in
theorem isTag_any (n who : Int) (w : World) :
    Calls Tryz.prog 67 #[.agg #[.int .i64 n, .int .i64 who]] w fun e w' => e = .returned (.bool (tagB n who)) ∧ Below w.heap.size w w' := by
  have HB : Hid (Below w.heap.size w (w.alloc (.cells #[.int .i64 n, .int .i64 who] 55))) := (Below.refl _ _).alloc (Nat.le_refl _) _
  have walk : (decide (0 ≤ n) = false) ∨ (0 ≤ n) ∧ ((decide (n ≤ 1099511627776) = false) ∨ n ≤ 1099511627776 ∧ ((decide (0 ≤ who) = false) ∨ 0 ≤ who ∧ ((decide (who ≤ 1099511627776) = false) ∨ who ≤ 1099511627776))) := by
    by_cases h1 : 0 ≤ n
    · by_cases h2 : n ≤ 1099511627776
      · by_cases h3 : 0 ≤ who
        · by_cases h4 : who ≤ 1099511627776
          · exact Or.inr ⟨h1, Or.inr ⟨h2, Or.inr ⟨h3, Or.inr h4⟩⟩⟩
          · exact Or.inr ⟨h1, Or.inr ⟨h2, Or.inr ⟨h3, Or.inl (decide_eq_false h4)⟩⟩⟩
        · exact Or.inr ⟨h1, Or.inr ⟨h2, Or.inl (decide_eq_false h3)⟩⟩
      · exact Or.inr ⟨h1, Or.inl (decide_eq_false h2)⟩
    · exact Or.inl (decide_eq_false h1)
  have HR : Hid (tagB n who = (decide (0 ≤ n) && decide (n ≤ 1099511627776) && decide (0 ≤ who) && decide (who ≤ 1099511627776))) := by show _ = _; rfl
  generalize tagB n who = r at *
  rcases walk with g | ⟨g1, g | ⟨g2, g | ⟨g3, g | g4⟩⟩⟩
  all_goals
    go_enter Tryz.func67, Tryz.ntmps67
    go_wp2
    go_ret
    exact ⟨by rw [HR.out]; simp [*], HB.out⟩
end Go.Proofs.YtcoecfpkihakoaaGreatDoor
/- Versions: how long they are, and that ints can hold their numbers. -/
namespace Go.Proofs.YtcoecfpkihakoaaGreatDoor
open Go.RowKit
/-- Numbers that an int can be. -/
def VerI64 (v : Ver) : Prop := (-9223372036854775808 ≤ v.n ∧ v.n ≤ 9223372036854775807) ∧ (-9223372036854775808 ≤ v.who ∧ v.who ≤ 9223372036854775807) ∧ (-9223372036854775808 ≤ v.size ∧ v.size ≤ 9223372036854775807) ∧ -9223372036854775808 ≤ v.at_ ∧ v.at_ ≤ 9223372036854775807
/-- An object that is long, and can be. -/
def bigV (v : Ver) : Bool := decide (200 < v.size ∧ v.size ≤ 1000)
/-- How much is told. -/
def tolN (L : List Ver) : Nat := (L.map fun v => 1 + v.text.size / 20).sum
theorem tolN_append (a b : List Ver) : tolN (a ++ b) = tolN a + tolN b := by simp [tolN]
theorem tolN_succ {L : List Ver} {j : Nat} (hj : j < L.length) : tolN (L.take (j + 1)) = tolN (L.take j) + (1 + (verAt L j).text.size / 20) := by
  rw [List.take_add_one, verAt_get hj, tolN_append]
  simp [tolN]
theorem tolN_take (L : List Ver) (j : Nat) : tolN (L.take j) ≤ tolN L := by
  have h : tolN L = tolN (L.take j) + tolN (L.drop j) := by rw [← tolN_append, List.take_append_drop]
  omega
theorem tolN_len (L : List Ver) : L.length ≤ tolN L := by
  induction L with
  | nil => exact Nat.le_refl _
  | cons v L ih =>
    have e : tolN (v :: L) = 1 + v.text.size / 20 + tolN L := by simp [tolN]
    rw [e, List.length_cons]
    omega
theorem big_succ {L : List Ver} {j : Nat} (hj : j < L.length) : (L.take (j + 1)).any bigV = ((L.take j).any bigV || bigV (verAt L j)) := by
  rw [List.take_add_one, verAt_get hj, List.any_append]
  simp
theorem big_of_at {L : List Ver} {j : Nat} (hj : j < L.length) (h : bigV (verAt L j) = true) : L.any bigV = true := by
  refine List.any_eq_true.2 ⟨_, ?_, h⟩
  have := verAt_get hj
  exact List.mem_of_getElem? this
end Go.Proofs.YtcoecfpkihakoaaGreatDoor
/- Package hold's own: a number within bounds; is it a tag? -/
namespace Go.Proofs.YtcoecfpkihakoaaGreatDoor
open Go.RowKit
set_option maxRecDepth 10000 in
theorem hwithin_any (x m : Int) (w : World) : Calls Tryz.prog 61 #[.int .i64 x, .int .i64 m] w fun e w' => e = .returned (.bool (decide (0 ≤ x ∧ x ≤ m))) ∧ w' = w := by
  by_cases h1 : 0 ≤ x
  · by_cases h2 : x ≤ m
    · have HE : Hid (decide (0 ≤ x ∧ x ≤ m) = true) := decide_eq_true ⟨h1, h2⟩
      rw [HE.out]
      go_enter Tryz.func61, Tryz.ntmps61
      go_wp2
      go_ret
      exact ⟨rfl, rfl⟩
    · have HE : Hid (decide (0 ≤ x ∧ x ≤ m) = false) := decide_eq_false fun h => h2 h.2
      rw [HE.out]
      go_enter Tryz.func61, Tryz.ntmps61
      go_wp2
      go_ret
      exact ⟨rfl, rfl⟩
  · have HE : Hid (decide (0 ≤ x ∧ x ≤ m) = false) := decide_eq_false fun h => h1 h.1
    rw [HE.out]
    go_enter Tryz.func61, Tryz.ntmps61
    go_wp2
    go_ret
    exact ⟨rfl, rfl⟩
/-- Numbers of a tag in their bounds. -/
def tagOk (a b : Int) : Bool := decide (0 ≤ a ∧ a ≤ 1099511627776) && decide (0 ≤ b ∧ b ≤ 1099511627776)
set_option maxRecDepth 10000 in
theorem istag_any (a b : Int) (w : World) : Calls Tryz.prog 60 #[.agg #[.int .i64 a, .int .i64 b]] w fun e w' => e = .returned (.bool (tagOk a b)) ∧ Below w.heap.size w w' := by
  obtain ⟨w1, hw1⟩ : ∃ w1, w1 = w.alloc (.cells #[.int .i64 a, .int .i64 b] 55) := ⟨_, rfl⟩
  have HB1 : Hid (Below w.heap.size w w1) := by rw [hw1]; exact (Below.refl _ _).alloc (Nat.le_refl _) _
  have f0 : w1.cell? ⟨w.heap.size, 0, none⟩ = some (.int .i64 a) := by rw [hw1, World.cell?_alloc_at _ _ _ _ rfl]; rfl
  have f1 : w1.cell? ⟨w.heap.size, 1, none⟩ = some (.int .i64 b) := by rw [hw1, World.cell?_alloc_at _ _ _ _ rfl]; rfl
  have HW1 : Hid (w1 = w.alloc (.cells #[.int .i64 a, .int .i64 b] 55)) := hw1
  have HA : Hid (Calls Tryz.prog 61 #[.int .i64 a, .int .i64 1099511627776] w1 fun e w' => e = .returned (.bool (decide (0 ≤ a ∧ a ≤ 1099511627776))) ∧ w' = w1) := hwithin_any _ _ w1
  have HC : Hid (Calls Tryz.prog 61 #[.int .i64 b, .int .i64 1099511627776] w1 fun e w' => e = .returned (.bool (decide (0 ≤ b ∧ b ≤ 1099511627776))) ∧ w' = w1) := hwithin_any _ _ w1
  have HT : Hid (tagOk a b = (decide (0 ≤ a ∧ a ≤ 1099511627776) && decide (0 ≤ b ∧ b ≤ 1099511627776))) := by show _ = _; rfl
  rw [HT.out]
  clear hw1 HT
  generalize decide (0 ≤ a ∧ a ≤ 1099511627776) = x at *
  generalize decide (0 ≤ b ∧ b ≤ 1099511627776) = y at *
  cases x with
  | false =>
    go_enter Tryz.func60, Tryz.ntmps60
    go_wp2_with fail
    rw [← HW1.out]
    refine HA.out.mono ?_
    rintro e w2 ⟨rfl, hw2⟩
    rw [hw2]
    clear hw2 w2 HA
    go_wp2
    go_ret
    exact ⟨rfl, HB1.out⟩
  | true =>
    go_enter Tryz.func60, Tryz.ntmps60
    go_wp2_with fail
    rw [← HW1.out]
    refine HA.out.mono ?_
    rintro e w2 ⟨rfl, hw2⟩
    rw [hw2]
    clear hw2 w2 HA
    go_wp2_with fail
    refine HC.out.mono ?_
    rintro e w2 ⟨rfl, hw2⟩
    rw [hw2]
    clear hw2 w2 HC
    go_wp2
    go_ret
    exact ⟨rfl, HB1.out⟩
end Go.Proofs.YtcoecfpkihakoaaGreatDoor
/- The document's own hold: Less, Get. -/
namespace Go.Proofs.YtcoecfpkihakoaaGreatDoor
open Go.RowKit
set_option maxRecDepth 10000 in
set_option maxHeartbeats 4000000 in
theorem rget_any (h : Nat) (L : List Kep) (s : Bool) (key : ByteArray) (w : World) (hl : L.length ≤ 1000000) (hm : MHold w h L s) :
    Calls Tryz.prog 30 #[.pointer (some ⟨h, 0, none⟩), .string key] w fun e w' => (∃ v, e = .returned v ∧ OwnR verE 59 w' w.heap.size v (getL L key)) ∧ Below w.heap.size w w' := by
  obtain ⟨p, c, q0, hrec, hc, hn, hne⟩ := hm.row
  have HREC : Hid (Rec kepE w p L) := hrec
  have hlt := lt_of_cellH q0
  have HQ0 : Hid (w.cell? ⟨h, 0, none⟩ = some (.slice p L.length c)) := q0
  clear hrec hm q0 hne hn
  go_enter Tryz.func30, Tryz.ntmps30
  go_wp2
  go_loopw [5, 6] (fun v x wq => ∃ i : Nat, i ≤ L.length ∧ x = .int .i64 i ∧ OwnR verE 59 wq w.heap.size v (getL (L.take i) key) ∧ Below w.heap.size w wq) (fun _ x _ => L.length - (intOf x).toNat)
  case atStart => exact ⟨0, Nat.zero_le _, rfl, OwnR.nil _ _ _, Below.refl _ _⟩
  case round =>
    obtain ⟨i, hi, rfl, hO, hB⟩ := hrel
    obtain ⟨w1, rfl⟩ : ∃ w1, w1 = wr := ⟨_, rfl⟩
    obtain ⟨v, rfl⟩ : ∃ v, v = u5 := ⟨_, rfl⟩
    have HO : Hid (OwnR verE 59 w1 w.heap.size v (getL (L.take i) key)) := hO
    have HB : Hid (Below w.heap.size w w1) := hB
    have q0 : w1.cell? ⟨h, 0, none⟩ = some (.slice p L.length c) := (hB.cell (p := ⟨h, 0, none⟩) hlt).trans HQ0.out
    have hz1 : w.heap.size ≤ w1.heap.size := hB.size
    clear hO hB
    by_cases hil : i < L.length
    · obtain ⟨b, o, hpp, hblt, c0, c1, c2, c3, c4, c5⟩ := kep_cells (HREC.out.below HB.out) hil
      subst hpp
      by_cases he : (kepAt L i).1 = key
      · have HNX : Hid (getL (L.take (i + 1)) key = getL (L.take i) key ++ [(kepAt L i).2]) := getL_succ_yes hil he
        have hgl : (getL (L.take i) key).length ≤ 1000000 := Nat.le_trans (getL_le _ _) (by rw [List.length_take]; omega)
        rw [he] at c0
        clear he
        generalize (kepAt L i).2 = x at *
        obtain ⟨xn, xw, xs, xa, xt⟩ := x
        generalize getL (L.take i) key = gs at *
        have HO2 : Hid (OwnR verE 59 (w1.alloc (.cells #[.int .i64 xn, .int .i64 xw, .int .i64 xs, .int .i64 xa, .string xt] 59)) w.heap.size v gs) := HO.out.kept ((Below.refl _ _).alloc (Nat.le_refl _) _)
        have HNW : Hid (∀ j u, (verE.enc ⟨xn, xw, xs, xa, xt⟩)[j]? = some u → (w1.alloc (.cells #[.int .i64 xn, .int .i64 xw, .int .i64 xs, .int .i64 xa, .string xt] 59)).cell? ⟨w1.heap.size, 0 + j, none⟩ = some u) := fun j u hj => by
          rw [Nat.zero_add, World.cell?_alloc_at _ _ _ _ rfl]
          match j, hj with
          | 0, hj => exact hj
          | 1, hj => exact hj
          | 2, hj => exact hj
          | 3, hj => exact hj
          | 4, hj => exact hj
        have HB2 : Hid (Below w.heap.size w (w1.alloc (.cells #[.int .i64 xn, .int .i64 xw, .int .i64 xs, .int .i64 xa, .string xt] 59))) := HB.out.alloc hz1 _
        go_wp2_with (first | (at_builtin; refine wpList_append_rec rfl (.tmp 26) (.tmp 35) 40 59 rfl (.agg #[.int .i64 0, .int .i64 0, .int .i64 0, .int .i64 0, .string ⟨#[]⟩]) 48 Tryz.underlying40 verinfo rfl w.heap.size v gs rfl HO2.out w1.heap.size 0 1 ⟨xn, xw, xs, xa, xt⟩ rfl HNW.out (by unfold maxLen; omega) (by omega) HB2.out.size (by simp) ?_; intro v3 w3 hO3 hb3))
        have HO3 : Hid (OwnR verE 59 w3 w.heap.size v3 (gs ++ [⟨xn, xw, xs, xa, xt⟩])) := hO3
        have HB3 : Hid (Below w.heap.size w w3) := HB2.out.trans hb3
        clear hO3 hb3
        go_wp2
        go_roundw
        case rel => exact ⟨i + 1, by omega, by go_num, by rw [HNX.out]; exact HO3.out, HB3.out⟩
        case measure => simp [intOf]; omega
      · have HNX : Hid (getL (L.take (i + 1)) key = getL (L.take i) key) := getL_succ_no hil he
        have d1 := toList_ne he
        have d2 := toList_beq he
        have d3 := bytes_beq he
        clear he
        generalize kepAt L i = x at *
        obtain ⟨xk, xv⟩ := x
        go_wp2
        go_roundw
        case rel => exact ⟨i + 1, by omega, by go_num, by rw [HNX.out]; exact HO.out, HB.out⟩
        case measure => simp [intOf]; omega
    · have hie : i = L.length := by omega
      subst hie
      have HE : Hid (L.take L.length = L) := List.take_length
      go_wp2
      go_ret
      exact ⟨⟨_, rfl, by have := HO.out; rw [HE.out] at this; exact this⟩, HB.out⟩
end Go.Proofs.YtcoecfpkihakoaaGreatDoor
/- What is written where the document's own hold is turned: its block, and what is new. -/
namespace Go.Proofs.YtcoecfpkihakoaaGreatDoor
open Go.RowKit
/-- From w to w' nothing that was there is written but block h. -/
structure Turn (h : Nat) (w w' : World) : Prop where
  os : w'.os = w.os
  tape : w'.tape = w.tape
  output : w'.output = w.output
  size : w.heap.size ≤ w'.heap.size
  block : ∀ k, k < w.heap.size → k ≠ h → w'.heap[k]? = w.heap[k]?
  row : w'.cell? ⟨h, 0, none⟩ = w.cell? ⟨h, 0, none⟩ ∨ ∀ b o n c, w'.cell? ⟨h, 0, none⟩ = some (.slice (some ⟨b, o, none⟩) n c) → w.heap.size ≤ b
theorem Turn.of_below {h : Nat} {w w' : World} (hlt : h < w.heap.size) (hb : Below w.heap.size w w') : Turn h w w' := ⟨hb.os, hb.tape, hb.output, hb.size, fun k hk _ => hb.block k hk, Or.inl (hb.cell (p := ⟨h, 0, none⟩) hlt)⟩
theorem Turn.trans {h : Nat} {w w' w'' : World} (h1 : Turn h w w') (h2 : Turn h w' w'') : Turn h w w'' := ⟨h2.os.trans h1.os, h2.tape.trans h1.tape, h2.output.trans h1.output, Nat.le_trans h1.size h2.size, fun k hk hne => (h2.block k (Nat.lt_of_lt_of_le hk h1.size) hne).trans (h1.block k hk hne), by
  rcases h2.row with h3 | h3
  · rcases h1.row with h4 | h4
    · exact Or.inl (h3.trans h4)
    · exact Or.inr fun b o n c e => h4 b o n c (by rw [← h3]; exact e)
  · exact Or.inr fun b o n c e => Nat.le_trans h1.size (h3 b o n c e)⟩
theorem Turn.cell {h : Nat} {w w' : World} (h1 : Turn h w w') {p : Addr} (hp : p.block < w.heap.size) (hne : p.block ≠ h) : w'.cell? p = w.cell? p := by
  have := h1.block p.block hp hne
  unfold World.cell?
  rw [this]
theorem kepinfo : (Tryz.prog.info? 102).map (fun i => (i.zero, i.size, i.bytes)) = some (some (.agg #[.string ⟨#[]⟩, .int .i64 0, .int .i64 0, .int .i64 0, .int .i64 0, .string ⟨#[]⟩]), 6, 64) := by kernel_rfl
theorem MHold.store {w w' : World} {h : Nat} {L M : List Kep} {s : Bool} (hm : MHold w h L s) (hb : Below w.heap.size w w') {v : Value} (hO : OwnR kepE 102 w' w.heap.size v M) : MHold (w'.setCell ⟨h, 0, none⟩ v) h M s ∧ Turn h w (w'.setCell ⟨h, 0, none⟩ v) := by
  have hm' := hm.below hb
  obtain ⟨p0, c0, q0, _, _, _, _⟩ := hm'.row
  have hlt0 : h < w.heap.size := by
    obtain ⟨p1, c1, q1, _⟩ := hm.row
    exact lt_of_cellH q1
  obtain ⟨p, c, rfl, hr, hc, hn, hblk⟩ := hO.form
  refine ⟨⟨⟨p, c, World.cell?_setCell_same _ _ _ q0, ?_, hc, hn, fun b o e => ?_⟩, ?_, by rw [World.frozen?_setCell]; exact hm'.free0, by rw [World.frozen?_setCell]; exact hm'.free1⟩, ⟨hb.os, hb.tape, hb.output, by simpa using hb.size, fun k hk hne => (Deep.blk_setCell_other _ _ _ _ hne).trans (hb.block k hk), Or.inr fun b o n c' e => ?_⟩⟩
  · rcases hr with hr | ⟨b, o, hp, hlt, hcell⟩
    · exact Or.inl hr
    · refine Or.inr ⟨b, o, hp, by simpa using hlt, fun i x hx j u hu => ?_⟩
      have hbb := (hblk b o hp).1
      rw [World.cell?_setCell_other _ _ _ _ (fun e => by have h2 : h = b := congrArg Addr.block e; omega)]
      exact hcell i x hx j u hu
  · have := (hblk b o e).1
    omega
  · rw [World.cell?_setCell_other _ _ _ _ (fun e => by have h2 : (0 : Nat) = 1 := congrArg Addr.off e; omega)]
    exact hm'.sealed_
  · rw [World.cell?_setCell_same _ _ _ q0] at e
    obtain ⟨h1, _, _⟩ := Value.slice.inj (Option.some.inj e)
    exact (hblk b o h1).1
end Go.Proofs.YtcoecfpkihakoaaGreatDoor
/- Messages that lie in memory, one behind the other. -/
namespace Go.Proofs.YtcoecfpkihakoaaGreatDoor
open Go.RowKit
/-- Where a message's versions lie. -/
abbrev Lv := Option Addr × Nat × Nat
def lvV (h : Lv) : Value := .slice h.1 h.2.1 h.2.2
def msgC (x : Msg × Lv) : List Value := [.string x.1.from_, .string x.1.to_, .string x.1.kind, .string x.1.key, .int .i64 x.1.op, .int .i64 x.1.config, .bool x.1.shut, .slice x.2.1 x.2.2.1 x.2.2.2]
def mE : Enc (Msg × Lv) := ⟨8, by decide, msgC, fun _ => rfl, fun x u hu => by simp [msgC] at hu; rcases hu with rfl | rfl | rfl | rfl | rfl | rfl | rfl | rfl <;> rfl⟩
/-- A message's versions lie there. -/
structure HasL (w : World) (x : Msg × Lv) : Prop where
  len : x.2.2.1 = x.1.L.length
  recs : Rec verE w x.2.1 x.1.L
  room : x.1.L.length ≤ x.2.2.2
  empty : x.2.1 = none → x.1.L = [] ∧ x.2.2.2 = 0
theorem HasL.below {w w' : World} {x : Msg × Lv} (h : HasL w x) (hb : Below w.heap.size w w') : HasL w' x := ⟨h.len, h.recs.below hb, h.room, h.empty⟩
/-- In the world w the messages l lie from p on. -/
def MsgsAt (w : World) (p : Option Addr) (l : List Msg) : Prop := ∃ ml : List (Msg × Lv), ml.map Prod.fst = l ∧ Rec mE w p ml ∧ ∀ x ∈ ml, HasL w x
theorem MsgsAt.below {w w' : World} {p : Option Addr} {l : List Msg} (h : MsgsAt w p l) (hb : Below w.heap.size w w') : MsgsAt w' p l := by
  obtain ⟨ml, h1, h2, h3⟩ := h
  exact ⟨ml, h1, h2.below hb, fun x hx => (h3 x hx).below hb⟩
theorem MsgsAt.nil (w : World) (p : Option Addr) : MsgsAt w p [] := ⟨[], rfl, Rec.nil _ _, fun x hx => by cases hx⟩
/-- v owns messages in a row from block B on. -/
def OwnMs (T : TypeId) (w : World) (B : Nat) (v : Value) (ml : List (Msg × Lv)) : Prop := OwnR mE T w B v ml ∧ ∀ x ∈ ml, HasL w x
theorem OwnMs.nil (T : TypeId) (w : World) (B : Nat) : OwnMs T w B (.slice none 0 0) [] := ⟨OwnR.nil _ _ _, fun x hx => by cases hx⟩
theorem OwnMs.kept {T : TypeId} {w w' : World} {B : Nat} {v : Value} {ml : List (Msg × Lv)} (h : OwnMs T w B v ml) (hb : Below w.heap.size w w') : OwnMs T w' B v ml := ⟨h.1.kept hb, fun x hx => (h.2 x hx).below hb⟩
theorem OwnMs.form {T : TypeId} {w : World} {B : Nat} {v : Value} {ml : List (Msg × Lv)} (h : OwnMs T w B v ml) : ∃ p c, v = .slice p ml.length c ∧ MsgsAt w p (ml.map Prod.fst) ∧ ml.length ≤ c ∧ (p = none → ml = [] ∧ c = 0) := by
  obtain ⟨p, c, h1, h2, h3, h4, _⟩ := h.1.form
  exact ⟨p, c, h1, ⟨ml, rfl, h2, h.2⟩, h3, h4⟩
theorem msginfo (T : TypeId) (hT : (Tryz.prog.info? T).map (fun i => (i.zero, i.size, i.bytes)) = some (some (.agg #[.string ⟨#[]⟩, .string ⟨#[]⟩, .string ⟨#[]⟩, .string ⟨#[]⟩, .int .i64 0, .int .i64 0, .bool false, .slice none 0 0]), 8, 112)) : (Tryz.prog.info? T).map (fun i => (i.zero, i.size, i.bytes)) = some (some (.agg #[.string ⟨#[]⟩, .string ⟨#[]⟩, .string ⟨#[]⟩, .string ⟨#[]⟩, .int .i64 0, .int .i64 0, .bool false, .slice none 0 0]), mE.k, 112) := hT
theorem minfoR : (Tryz.prog.info? 44).map (fun i => (i.zero, i.size, i.bytes)) = some (some (.agg #[.string ⟨#[]⟩, .string ⟨#[]⟩, .string ⟨#[]⟩, .string ⟨#[]⟩, .int .i64 0, .int .i64 0, .bool false, .slice none 0 0]), mE.k, 112) := msginfo _ (by kernel_rfl)
/-- The cells of one of them. -/
theorem msg_cells {w : World} {p : Option Addr} {ml : List (Msg × Lv)} (h : Rec mE w p ml) {i : Nat} (hi : i < ml.length) : ∃ b o, p = some ⟨b, o, none⟩ ∧ b < w.heap.size ∧ w.cell? ⟨b, o + i * 8, none⟩ = some (.string ml[i].1.from_) ∧ w.cell? ⟨b, o + i * 8 + 1, none⟩ = some (.string ml[i].1.to_) ∧ w.cell? ⟨b, o + i * 8 + 2, none⟩ = some (.string ml[i].1.kind) ∧ w.cell? ⟨b, o + i * 8 + 3, none⟩ = some (.string ml[i].1.key) ∧ w.cell? ⟨b, o + i * 8 + 4, none⟩ = some (.int .i64 ml[i].1.op) ∧ w.cell? ⟨b, o + i * 8 + 5, none⟩ = some (.int .i64 ml[i].1.config) ∧ w.cell? ⟨b, o + i * 8 + 6, none⟩ = some (.bool ml[i].1.shut) ∧ w.cell? ⟨b, o + i * 8 + 7, none⟩ = some (.slice ml[i].2.1 ml[i].2.2.1 ml[i].2.2.2) := by
  rcases h with h0 | ⟨b, o, hp, hlt, hc⟩
  · rw [h0] at hi; exact absurd hi (Nat.not_lt_zero _)
  · have hx : ml[i]? = some ml[i] := List.getElem?_eq_getElem hi
    have g := hc i _ hx
    exact ⟨b, o, hp, hlt, g 0 _ rfl, g 1 _ rfl, g 2 _ rfl, g 3 _ rfl, g 4 _ rfl, g 5 _ rfl, g 6 _ rfl, g 7 _ rfl⟩
/-- One of them, by its number. -/
def msgAt (ml : List (Msg × Lv)) (i : Nat) : Msg × Lv := ml.getD i (⟨⟨#[]⟩, ⟨#[]⟩, ⟨#[]⟩, ⟨#[]⟩, 0, 0, false, []⟩, (none, 0, 0))
theorem msgAt_get {ml : List (Msg × Lv)} {i : Nat} (h : i < ml.length) : ml[i] = msgAt ml i := by
  unfold msgAt
  rw [List.getD_eq_getElem?_getD, List.getElem?_eq_getElem h]
  rfl
theorem msgAt_mem {ml : List (Msg × Lv)} {i : Nat} (h : i < ml.length) : msgAt ml i ∈ ml := by
  rw [← msgAt_get h]
  exact List.getElem_mem h
theorem msg_take {ml : List (Msg × Lv)} {i : Nat} (h : i < ml.length) : ml.take (i + 1) = ml.take i ++ [msgAt ml i] := by
  rw [List.take_succ_eq_append_getElem h, msgAt_get h]
end Go.Proofs.YtcoecfpkihakoaaGreatDoor
/- Messages that lie in memory from a block on. -/
namespace Go.Proofs.YtcoecfpkihakoaaGreatDoor
open Go.RowKit
/-- In the world w the messages l lie from p on, in blocks from B on. -/
def MsgsN (B : Nat) (w : World) (p : Option Addr) (l : List Msg) : Prop := ∃ ml : List (Msg × Lv), ml.map Prod.fst = l ∧ Rec mE w p ml ∧ (∀ x ∈ ml, HasL w x ∧ ∀ b o, x.2.1 = some ⟨b, o, none⟩ → B ≤ b) ∧ ∀ b o, p = some ⟨b, o, none⟩ → B ≤ b
theorem MsgsN.at_ {B : Nat} {w : World} {p : Option Addr} {l : List Msg} (h : MsgsN B w p l) : MsgsAt w p l := by
  obtain ⟨ml, h1, h2, h3, _⟩ := h
  exact ⟨ml, h1, h2, fun x hx => (h3 x hx).1⟩
theorem MsgsN.nil (B : Nat) (w : World) : MsgsN B w none [] := ⟨[], rfl, Rec.nil _ _, (fun x hx => by cases hx), (fun b o e => by cases e)⟩
theorem MsgsN.mono {B B' : Nat} {w : World} {p : Option Addr} {l : List Msg} (h : MsgsN B w p l) (hb : B' ≤ B) : MsgsN B' w p l := by
  obtain ⟨ml, h1, h2, h3, h4⟩ := h
  exact ⟨ml, h1, h2, fun x hx => ⟨(h3 x hx).1, fun b o e => Nat.le_trans hb ((h3 x hx).2 b o e)⟩, fun b o e => Nat.le_trans hb (h4 b o e)⟩
theorem MsgsN.below {B : Nat} {w w' : World} {p : Option Addr} {l : List Msg} (h : MsgsN B w p l) (hb : Below w.heap.size w w') : MsgsN B w' p l := by
  obtain ⟨ml, h1, h2, h3, h4⟩ := h
  exact ⟨ml, h1, h2.below hb, fun x hx => ⟨(h3 x hx).1.below hb, (h3 x hx).2⟩, h4⟩
/-- Where those blocks are not written. -/
theorem MsgsN.upd {B : Nat} {w w' : World} {p : Option Addr} {l : List Msg} (h : MsgsN B w p l) (hs : w.heap.size ≤ w'.heap.size) (hk : ∀ k, B ≤ k → k < w.heap.size → w'.heap[k]? = w.heap[k]?) : MsgsAt w' p l := by
  obtain ⟨ml, h1, h2, h3, h4⟩ := h
  refine ⟨ml, h1, ?_, fun x hx => ?_⟩
  · rcases h2 with h0 | ⟨b, o, hp, hlt, hc⟩
    · exact Or.inl h0
    · exact Or.inr ⟨b, o, hp, Nat.lt_of_lt_of_le hlt hs, fun j x hx jj u hu => (World.cell?_of_block (a := ⟨b, o + j * mE.k + jj, none⟩) (hk b (h4 b o hp) hlt)).trans (hc j x hx jj u hu)⟩
  · obtain ⟨g1, g2⟩ := h3 x hx
    refine ⟨g1.len, ?_, g1.room, g1.empty⟩
    rcases g1.recs with h0 | ⟨b, o, hp, hlt, hc⟩
    · exact Or.inl h0
    · exact Or.inr ⟨b, o, hp, Nat.lt_of_lt_of_le hlt hs, fun j y hy jj u hu => (World.cell?_of_block (a := ⟨b, o + j * verE.k + jj, none⟩) (hk b (g2 b o hp) hlt)).trans (hc j y hy jj u hu)⟩
end Go.Proofs.YtcoecfpkihakoaaGreatDoor
/- Messages of the call's own. -/
namespace Go.Proofs.YtcoecfpkihakoaaGreatDoor
open Go.RowKit
theorem blk_setG {w : World} {b : Nat} {cs : Array Value} {t : TypeId} (h : w.heap[b]? = some (.cells cs t (0, 0))) (i : Nat) (v : Value) : (w.setCell ⟨b, i, none⟩ v).heap[b]? = some (.cells (cs.setIfInBounds i v) t (0, 0)) := by
  simp [World.setCell, Array.getElem?_modify, h]
theorem hasL_own {w : World} {B : Nat} {T : TypeId} {p : Option Addr} {n c : Nat} {x : Msg} (h : OwnR verE T w B (.slice p n c) x.L) : HasL w (x, (p, n, c)) := by
  obtain ⟨p', c', e, h1, h2, h3, _⟩ := h.form
  injection e with e1 e2 e3
  subst e1 e2 e3
  exact ⟨rfl, h1, h2, h3⟩
/-- One message in a row of its own. -/
theorem one_msg {w : World} {k : Nat} {x : Msg × Lv} {t : TypeId} (hb : w.heap[k]? = some (.cells (msgC x).toArray t (0, 0))) (hx : HasL w x) : MsgsAt w (some ⟨k, 0, none⟩) [x.1] := by
  have hlt : k < w.heap.size := by
    rcases Nat.lt_or_ge k w.heap.size with h | h
    · exact h
    · rw [Array.getElem?_eq_none h] at hb; cases hb
  refine ⟨[x], rfl, Or.inr ⟨k, 0, rfl, hlt, fun i y hy j u hu => ?_⟩, fun y hy => by rw [List.mem_singleton.1 hy]; exact hx⟩
  match i, hy with
  | 0, hy =>
    obtain rfl : x = y := by simpa using hy
    have hu' : (msgC x)[j]? = some u := hu
    rw [Nat.zero_mul, Nat.zero_add]
    simp [World.cell?, hb, hu']
end Go.Proofs.YtcoecfpkihakoaaGreatDoor
/- A member of configurations, as lists: what it holds, and what it answers. -/
namespace Go.Proofs.YtcoecfpkihakoaaGreatDoor
open Go.RowKit
def kLook : ByteArray := ⟨#[108, 111, 111, 107]⟩
def kSeal : ByteArray := ⟨#[115, 101, 97, 108]⟩
def kKeep : ByteArray := ⟨#[107, 101, 101, 112]⟩
def kTold : ByteArray := ⟨#[116, 111, 108, 100]⟩
def kShut : ByteArray := ⟨#[115, 101, 97, 108, 101, 100]⟩
def kKept : ByteArray := ⟨#[107, 101, 112, 116]⟩
/-- What is held of a configuration: its number, the versions, sealed or not. -/
abbrev Cfd := Int × List Kep × Bool
structure MMem where
  name : ByteArray
  L : List Cfd
/-- Where a configuration stands; none: the length. -/
def cfdI (L : List Cfd) (c : Int) : Nat := L.findIdx fun x => decide (x.1 = c)
def cfdAt (L : List Cfd) (i : Nat) : Cfd := L.getD i (0, [], false)
theorem cfdAt_get {L : List Cfd} {i : Nat} (hi : i < L.length) : L[i]? = some (cfdAt L i) := by
  unfold cfdAt
  rw [List.getD_eq_getElem?_getD, List.getElem?_eq_getElem hi]
  rfl
theorem cfdI_le (L : List Cfd) (c : Int) : cfdI L c ≤ L.length := List.findIdx_le_length
theorem cfdI_here {L : List Cfd} {c : Int} (h : cfdI L c < L.length) : (cfdAt L (cfdI L c)).1 = c := by
  have h1 := List.findIdx_getElem (p := fun x : Cfd => decide (x.1 = c)) (xs := L) (w := h)
  have e := cfdAt_get h
  rw [List.getElem?_eq_getElem h] at e
  have h2 : decide ((L[cfdI L c]).1 = c) = true := h1
  rw [Option.some.inj e] at h2
  exact of_decide_eq_true h2
theorem cfdI_before {L : List Cfd} {c : Int} {i : Nat} (h : i < cfdI L c) : (cfdAt L i).1 ≠ c := by
  have hl : i < L.length := Nat.lt_of_lt_of_le h (cfdI_le L c)
  have h1 := List.not_of_lt_findIdx (p := fun x : Cfd => decide (x.1 = c)) (xs := L) (i := i) h
  have e := cfdAt_get hl
  rw [List.getElem?_eq_getElem hl] at e
  rw [Option.some.inj e] at h1
  exact of_decide_eq_false h1
/-- With a hold for the configuration; none: there is no room. -/
def MMem.held (m : MMem) (c : Int) : Option MMem := if cfdI m.L c < m.L.length then some m else if 12 ≤ m.L.length then none else some ⟨m.name, m.L ++ [(c, [], false)]⟩
def MMem.out (m : MMem) (x : Msg) (kind : ByteArray) (shut : Bool) (L : List Ver) : Msg := ⟨m.name, x.from_, kind, x.key, x.op, x.config, shut, L⟩
/-- Another hold in the place of one. -/
def MMem.put (m : MMem) (i : Nat) (h : List Kep × Bool) : MMem := ⟨m.name, m.L.set i ((cfdAt m.L i).1, h)⟩
/-- What is done with a message by the hold of its configuration. -/
def MMem.does (m : MMem) (i : Nat) (x : Msg) : MMem × List Msg :=
  if x.kind = kLook then (m, [m.out x kTold (cfdAt m.L i).2.2 (getL (cfdAt m.L i).2.1 x.key)])
  else if x.kind = kSeal then (m.put i ((cfdAt m.L i).2.1, true), [m.out x kShut false (getL (cfdAt m.L i).2.1 x.key)])
  else (m.put i ((putR (cfdAt m.L i).2.1 (cfdAt m.L i).2.2 x.key (verAt x.L 0)).2, (cfdAt m.L i).2.2), if 0 < (putR (cfdAt m.L i).2.1 (cfdAt m.L i).2.2 x.key (verAt x.L 0)).1 ∧ (putR (cfdAt m.L i).2.1 (cfdAt m.L i).2.2 x.key (verAt x.L 0)).1 ≠ 10 then [] else [m.out x kKept (decide (0 < (putR (cfdAt m.L i).2.1 (cfdAt m.L i).2.2 x.key (verAt x.L 0)).1)) []])
/-- Not for it, or nothing that is asked. -/
def MMem.off (m : MMem) (x : Msg) : Prop := x.to_ ≠ m.name ∨ x.config < 0 ∨ isN x.key = false
def oddK (x : Msg) : Prop := x.kind ≠ kLook ∧ x.kind ≠ kSeal ∧ (x.kind ≠ kKeep ∨ x.L.length ≠ 1)
instance (m : MMem) (x : Msg) : Decidable (m.off x) := by unfold MMem.off; infer_instance
instance (x : Msg) : Decidable (oddK x) := by unfold oddK; infer_instance
def MMem.hear (m : MMem) (x : Msg) : MMem × List Msg :=
  if m.off x ∨ oddK x then (m, [])
  else match m.held x.config with
    | none => (m, [])
    | some m1 => m1.does (cfdI m.L x.config) x
theorem put_length (m : MMem) (i : Nat) (h : List Kep × Bool) : (m.put i h).L.length = m.L.length := List.length_set ..
theorem put_at {m : MMem} {i j : Nat} {h : List Kep × Bool} (hi : i < m.L.length) : cfdAt (m.put i h).L j = if j = i then ((cfdAt m.L i).1, h) else cfdAt m.L j := by
  unfold MMem.put
  unfold cfdAt
  rw [List.getD_eq_getElem?_getD, List.getElem?_set]
  by_cases e : i = j
  · subst e
    rw [if_pos rfl, if_pos hi, if_pos rfl]
    rfl
  · rw [if_neg e, if_neg (fun h => e h.symm), List.getD_eq_getElem?_getD]
end Go.Proofs.YtcoecfpkihakoaaGreatDoor
/- The document's own SameVersions. -/
namespace Go.Proofs.YtcoecfpkihakoaaGreatDoor
open Go.RowKit
set_option maxRecDepth 10000 in
set_option maxHeartbeats 2000000 in
theorem sameVers_any (pa pb : Option Addr) (l m : List Ver) (ca cb : Nat) (w : World) (hl : l.length ≤ 1000000) (ha : Rec verE w pa l) (hb : Rec verE w pb m) :
    Calls Tryz.prog 37 #[.slice pa l.length ca, .slice pb m.length cb] w fun e w' => e = .returned (.bool (decide (l = m))) ∧ Below w.heap.size w w' := by
  by_cases hlen : l.length = m.length
  · have HT : Hid ((∀ i, i < l.length → verAt l i = verAt m i) → decide (l = m) = true) := fun h => decide_eq_true (ver_ext hlen h)
    have HF : Hid (∀ i, i < l.length → verAt l i ≠ verAt m i → decide (l = m) = false) := fun i _ h => decide_eq_false (fun e => h (by rw [e]))
    generalize decide (l = m) = r at *
    have HM : Hid (m.length = l.length) := hlen.symm
    rw [← hlen]
    clear hlen
    go_enter Tryz.func37, Tryz.ntmps37
    go_wp2
    go_loopw [5] (fun x wq => ∃ i : Nat, i ≤ l.length ∧ x = .int .i64 i ∧ (∀ j, j < i → verAt l j = verAt m j) ∧ ∃ n, wq = w.drewN n) (fun x _ => l.length - (intOf x).toNat)
    case atStart => exact ⟨0, Nat.zero_le _, rfl, fun j hj => absurd hj (Nat.not_lt_zero _), 0, rfl⟩
    case round =>
      obtain ⟨i, hi, rfl, hall, n, hw⟩ := hrel
      obtain ⟨w1, rfl⟩ : ∃ w1, w1 = wr := ⟨_, rfl⟩
      have HALL : Hid (∀ j, j < i → verAt l j = verAt m j) := hall
      have HW : Hid (∃ n, w1 = w.drewN n) := ⟨n, hw⟩
      have HA : Hid (Rec verE w1 pa l) := by show Rec verE w1 pa l; rw [hw]; exact ha.drewN n
      have HB : Hid (Rec verE w1 pb m) := by show Rec verE w1 pb m; rw [hw]; exact hb.drewN n
      clear hw hall
      by_cases hil : i < l.length
      · obtain ⟨b1, o1, hp1, _, a0, a1, a2, a3, a4⟩ := ver_cells HA.out hil
        obtain ⟨b2, o2, hp2, _, e0, e1, e2, e3, e4⟩ := ver_cells HB.out (show i < m.length by have := HM.out; omega)
        subst hp1 hp2
        by_cases he : verAt l i = verAt m i
        · have HNX : Hid (∀ j, j < i + 1 → verAt l j = verAt m j) := fun j hj => by
            rcases Nat.lt_or_ge j i with h | h
            · exact HALL.out j h
            · obtain rfl : j = i := by omega
              exact he
          rw [← he] at e0 e1 e2 e3 e4
          clear he HALL
          generalize verAt l i = x at *
          obtain ⟨xn, xw, xs, xa, xt⟩ := x
          go_wp2
          go_quiet (fail)
          go_wp2
          go_roundw
          case rel => exact ⟨i + 1, by omega, by go_num, HNX.out, by obtain ⟨n, hn⟩ := HW.out; exact ⟨_, by rw [hn, World.drewN_drewN]⟩⟩
          case measure => simp [intOf]; omega
        · have HR : Hid (r = false) := HF.out i hil he
          have HNE : Hid (verAt l i ≠ verAt m i) := he
          clear he HF HT HALL
          generalize verAt l i = x at *
          generalize verAt m i = y at *
          obtain ⟨xn, xw, xs, xa, xt⟩ := x
          obtain ⟨yn, yw, ys, ya, yt⟩ := y
          have walk : ((xn == yn) = false) ∨ xn = yn ∧ (((xw == yw) = false) ∨ xw = yw ∧ (((xs == ys) = false) ∨ xs = ys ∧ (((xa == ya) = false) ∨ xa = ya ∧ xt ≠ yt))) := by
            by_cases h1 : xn = yn
            · refine Or.inr ⟨h1, ?_⟩
              by_cases h2 : xw = yw
              · refine Or.inr ⟨h2, ?_⟩
                by_cases h3 : xs = ys
                · refine Or.inr ⟨h3, ?_⟩
                  by_cases h4 : xa = ya
                  · refine Or.inr ⟨h4, fun h5 => HNE.out (by rw [h1, h2, h3, h4, h5])⟩
                  · exact Or.inl (beq_eq_false_iff_ne.2 h4)
                · exact Or.inl (beq_eq_false_iff_ne.2 h3)
              · exact Or.inl (beq_eq_false_iff_ne.2 h2)
            · exact Or.inl (beq_eq_false_iff_ne.2 h1)
          clear HNE
          rcases walk with g | ⟨rfl, g | ⟨rfl, g | ⟨rfl, g | ⟨rfl, g⟩⟩⟩⟩
          rotate_right
          · have d1 := toList_ne g
            have d2 := toList_beq g
            have d3 := bytes_beq g
            clear g
            go_wp2
            go_quiet (fail)
            go_wp2
            go_ret
            exact ⟨by rw [HR.out]; rfl, by obtain ⟨n, hn⟩ := HW.out; rw [hn]; exact below_drewN (below_drewN (Below.refl _ _) n) _⟩
          all_goals
            go_wp2
            go_quiet (fail)
            go_wp2
            go_ret
            exact ⟨by rw [HR.out]; rfl, by obtain ⟨n, hn⟩ := HW.out; rw [hn]; exact below_drewN (below_drewN (Below.refl _ _) n) _⟩
      · have HR : Hid (r = true) := HT.out (fun j hj => HALL.out j (by omega))
        go_wp2
        go_ret
        exact ⟨by rw [HR.out]; rfl, by obtain ⟨n, hn⟩ := HW.out; rw [hn]; exact below_drewN (Below.refl _ _) n⟩
  · have HR : Hid (decide (l = m) = false) := decide_eq_false (fun e => hlen (by rw [e]))
    rw [HR.out]
    have h6 : ((l.length : Int) != (m.length : Int)) = true := by rw [bne_iff_ne]; omega
    clear hlen
    go_enter Tryz.func37, Tryz.ntmps37
    go_wp2
    go_ret
    exact ⟨rfl, Below.refl _ _⟩
end Go.Proofs.YtcoecfpkihakoaaGreatDoor
