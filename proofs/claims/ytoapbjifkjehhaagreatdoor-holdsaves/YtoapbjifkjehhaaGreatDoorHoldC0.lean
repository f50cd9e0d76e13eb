/- What package hold is asked to answer: what a node holds stands for the model's list, wherever it lies. -/
import Derived.Test.YtoapbjifkjehhaaGreatDoorG3
import Derived.Shelf.SlSortCmp.QuietGrown
namespace Go.Proofs.YtoapbjifkjehhaaGreatDoor
open Go.RowKit
/-- Package hold answers as it is asked to (what a first look needs); Hd: in the world w the hold at block h, in the blocks of S, holds L, and is sealed or not; X: what is asked of the world where something is put. -/
structure HoldOk0 (ad : Nat → Addr) (X : World → Prop) (Hd : World → Nat → (Nat → Prop) → List Kep → Bool → Prop) : Prop where
  lt : ∀ {w h S L s}, Hd w h S L s → ∀ k, S k → k < w.heap.size
  keep : ∀ {w w' h S L s}, Hd w h S L s → w.heap.size ≤ w'.heap.size → (∀ k, S k → w'.heap[k]? = w.heap[k]?) → Hd w' h S L s
  zero : ∀ w : World, Hd (w.alloc (.cells #[.map none, .bool false] 39)) w.heap.size (fun k => k = w.heap.size) [] false
  less : ∀ (a b : Int × Int) (w : World), Calls Tryz.prog 19 #[.agg #[.int .i64 a.1, .int .i64 a.2], .agg #[.int .i64 b.1, .int .i64 b.2]] w fun e w' => e = .returned (.bool (lessB a b)) ∧ ∃ q os, w' = Sort.grow (w.drewN q) os
  count : ∀ {w h S L s}, Hd w h S L s → Calls Tryz.prog 11 #[.pointer (some ⟨h, 0, none⟩)] w fun e w' => e = .returned (.int .i64 (L.length : Int)) ∧ Below w.heap.size w w'
  get : ∀ {w h S L s} (key : ByteArray), key.size ≤ maxLen → Hd w h S L s → Calls Tryz.prog 17 #[.pointer (some ⟨h, 0, none⟩), .string key] w fun e w' => (∃ p c, e = .returned (.slice p (getL L key).length c) ∧ Rec verE w' p (getL L key)) ∧ Below w.heap.size w w'
  last : ∀ {w h S L s} (key : ByteArray), key.size ≤ maxLen → Hd w h S L s → Calls Tryz.prog 18 #[.pointer (some ⟨h, 0, none⟩), .string key] w fun e w' => e = .returned (.tuple #[.agg #[.int .i64 (lastT (getL L key)).1, .int .i64 (lastT (getL L key)).2], .bool (decide (0 < (getL L key).length))]) ∧ Below w.heap.size w w'
  put : ∀ {w h S L s} (key : ByteArray) (v : Ver), key.size ≤ maxLen → v.text.size ≤ maxLen → Hd w h S L s → X w → Calls Tryz.prog 16 #[.pointer (some ⟨h, 0, none⟩), .string key, verA v] w fun e w' => (∃ ev, e = .returned ev ∧ BareIs ad ev (putR L s key v).1) ∧ ∃ S', Hd w' h S' (putR L s key v).2 s ∧ Upd S S' w w'
end Go.Proofs.YtoapbjifkjehhaaGreatDoor
