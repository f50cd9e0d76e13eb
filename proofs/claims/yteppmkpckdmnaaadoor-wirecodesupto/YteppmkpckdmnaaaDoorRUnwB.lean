/- What holds while the document's own Unwire reads a message. -/
import Derived.Test.YteppmkpckdmnaaaDoorRWrdW
import Derived.Test.YteppmkpckdmnaaaDoorROpenW
import Derived.Test.YteppmkpckdmnaaaDoorHoldM
namespace Go.Proofs.YteppmkpckdmnaaaDoor
open Go.RowKit
/-- A message as a value. -/
def msgA (m : Msg) (lv : Value) : Value := .agg #[.string m.from_, .string m.to_, .string m.kind, .string m.key, .int .i64 m.op, .int .i64 m.config, .bool m.shut, lv]
def noMsg : Msg := ⟨⟨#[]⟩, ⟨#[]⟩, ⟨#[]⟩, ⟨#[]⟩, 0, 0, false, []⟩
/-- What is read of a text's bytes. -/
def unF (r : List UInt8) : Option Msg :=
  let f := rdT r false
  let t := rdT f.2.1 f.2.2
  let k := rdT t.2.1 t.2.2
  let y := rdT k.2.1 k.2.2
  let o := rdN y.2.1 y.2.2
  let c := rdN o.2.1 o.2.2
  let s := rdN c.2.1 c.2.2
  let n := rdN s.2.1 s.2.2
  let l := rdM n.1 n.2.1 n.2.2
  if l.2.2 = true ∨ l.2.1 ≠ [] ∨ 1 < s.1 then none else some ⟨f.1, t.1, k.1, y.1, o.1, c.1, decide (s.1 = 1), l.1⟩
/-- While a message is read: the reading at rb, the message's cells at mb, the answer's at B. -/
structure UwSt (w : World) (B rb mb : Nat) (W : World) (r : List UInt8) (b : Bool) (cs : Array Value) : Prop where
  at_ : UnAt W rb r b
  low : Below B w W
  res : W.heap[B]? = some (.cells #[.string ⟨#[]⟩, .string ⟨#[]⟩, .string ⟨#[]⟩, .string ⟨#[]⟩, .int .i64 0, .int .i64 0, .bool false, .slice none 0 0] 24 (0, 0))
  box : W.heap[mb]? = some (.cells cs 24 (0, 0))
theorem UwSt.rd {w W W' : World} {B rb mb : Nat} {r r' : List UInt8} {b b' : Bool} {cs : Array Value} (h : UwSt w B rb mb W r b cs) (hs : UnSt W W' rb r' b') (h1 : B < rb) (h2 : rb < mb) : UwSt w B rb mb W' r' b' cs := by
  have l1 := (Array.getElem?_eq_some_iff.1 h.res).1
  have l2 := (Array.getElem?_eq_some_iff.1 h.box).1
  exact ⟨hs.at_, hs.low h.low (by omega) (by omega), (hs.grown.block B l1 (fun e => by injection e with e; omega)).trans h.res, (hs.grown.block mb l2 (fun e => by injection e with e; omega)).trans h.box⟩
theorem UwSt.set {w W : World} {B rb mb : Nat} {r : List UInt8} {b : Bool} {cs : Array Value} (h : UwSt w B rb mb W r b cs) (h1 : B < rb) (h2 : rb < mb) (i : Nat) (v : Value) : UwSt w B rb mb (W.setCell ⟨mb, i, none⟩ v) r b (cs.setIfInBounds i v) := by
  have other : ∀ k, k ≠ mb → (W.setCell ⟨mb, i, none⟩ v).heap[k]? = W.heap[k]? := fun k hk => Deep.blk_setCell_other _ _ _ _ hk
  refine ⟨(other rb (by omega)).trans h.at_, h.low.setCell (p := ⟨mb, i, none⟩) (by show B ≤ mb; omega) _, (other B (by omega)).trans h.res, ?_⟩
  rw [Joins.block_setCell h.box]
theorem UwSt.below {w W W' : World} {B rb mb : Nat} {r : List UInt8} {b : Bool} {cs : Array Value} (h : UwSt w B rb mb W r b cs) (h1 : B < rb) (h2 : rb < mb) (hb : Below (mb + 1) W W') : UwSt w B rb mb W' r b cs := by
  refine ⟨(hb.block rb (by omega)).trans h.at_, h.low.trans (hb.mono (by omega)), (hb.block B (by omega)).trans h.res, (hb.block mb (by omega)).trans h.box⟩
theorem UwSt.cell {w W : World} {B rb mb : Nat} {r : List UInt8} {b : Bool} {cs : Array Value} (h : UwSt w B rb mb W r b cs) (i : Nat) : W.cell? ⟨mb, i, none⟩ = cs[i]? := by simp [World.cell?, h.box]
theorem UwSt.frozen {w W : World} {B rb mb : Nat} {r : List UInt8} {b : Bool} {cs : Array Value} (h : UwSt w B rb mb W r b cs) (i : Nat) : W.frozen? ⟨mb, i, none⟩ = false := by simp [World.frozen?, h.box]
theorem UwSt.rcell {w W : World} {B rb mb : Nat} {r : List UInt8} {b : Bool} {cs : Array Value} (h : UwSt w B rb mb W r b cs) (i : Nat) : W.cell? ⟨B, i, none⟩ = (#[.string ⟨#[]⟩, .string ⟨#[]⟩, .string ⟨#[]⟩, .string ⟨#[]⟩, .int .i64 0, .int .i64 0, .bool false, .slice none 0 0] : Array Value)[i]? := by simp [World.cell?, h.res]
theorem UwSt.rfrozen {w W : World} {B rb mb : Nat} {r : List UInt8} {b : Bool} {cs : Array Value} (h : UwSt w B rb mb W r b cs) (i : Nat) : W.frozen? ⟨B, i, none⟩ = false := by simp [World.frozen?, h.res]
/-- While a version is read: its cells at block nb, not there before. -/
structure UvSt (W0 W : World) (rb : Nat) (r : List UInt8) (b : Bool) (vs : Array Value) : Prop where
  at_ : UnAt W rb r b
  grown : W0.grownBy W (some rb)
  box : W.heap[W0.heap.size]? = some (.cells vs 50 (0, 0))
theorem UvSt.rd {W0 W W' : World} {rb : Nat} {r r' : List UInt8} {b b' : Bool} {vs : Array Value} (h : UvSt W0 W rb r b vs) (hs : UnSt W W' rb r' b') (hrb : rb < W0.heap.size) : UvSt W0 W' rb r' b' vs := by
  have l1 := (Array.getElem?_eq_some_iff.1 h.box).1
  exact ⟨hs.at_, (UnSt.trans ⟨h.at_, h.grown⟩ hs).grown, (hs.grown.block _ l1 (fun e => by injection e with e; omega)).trans h.box⟩
theorem UvSt.set {W0 W : World} {rb : Nat} {r : List UInt8} {b : Bool} {vs : Array Value} (h : UvSt W0 W rb r b vs) (hrb : rb < W0.heap.size) (i : Nat) (v : Value) : UvSt W0 (W.setCell ⟨W0.heap.size, i, none⟩ v) rb r b (vs.setIfInBounds i v) := by
  have other : ∀ k, k ≠ W0.heap.size → (W.setCell ⟨W0.heap.size, i, none⟩ v).heap[k]? = W.heap[k]? := fun k hk => Deep.blk_setCell_other _ _ _ _ hk
  refine ⟨(other rb (by omega)).trans h.at_, ⟨h.grown.os, h.grown.tape, h.grown.output, by simpa using h.grown.size, fun k hk hne => (other k (by omega)).trans (h.grown.block k hk hne)⟩, ?_⟩
  rw [Joins.block_setCell h.box]
theorem UvSt.start {W : World} {rb : Nat} {r : List UInt8} {b : Bool} (h : UnAt W rb r b) : UvSt W (W.alloc (.cells #[.int .i64 0, .int .i64 0, .int .i64 0, .int .i64 0, .string ⟨#[]⟩] 50)) rb r b #[.int .i64 0, .int .i64 0, .int .i64 0, .int .i64 0, .string ⟨#[]⟩] := by
  have hs := UnSt.below h ((Below.refl W.heap.size W).alloc (Nat.le_refl _) (.cells #[.int .i64 0, .int .i64 0, .int .i64 0, .int .i64 0, .string ⟨#[]⟩] 50))
  exact ⟨hs.at_, hs.grown, heap_alloc_new _ _⟩
theorem UvSt.cell {W0 W : World} {rb : Nat} {r : List UInt8} {b : Bool} {vs : Array Value} (h : UvSt W0 W rb r b vs) (i : Nat) : W.cell? ⟨W0.heap.size, i, none⟩ = vs[i]? := by simp [World.cell?, h.box]
theorem UvSt.frozen {W0 W : World} {rb : Nat} {r : List UInt8} {b : Bool} {vs : Array Value} (h : UvSt W0 W rb r b vs) (i : Nat) : W.frozen? ⟨W0.heap.size, i, none⟩ = false := by simp [World.frozen?, h.box]
theorem OwnR.same' {T : TypeId} {w w' : World} {B : Nat} {v : Value} {l : List Ver} (h : OwnR verE T w B v l) (hb : ∀ k, v.ownBlock = some k → w'.heap[k]? = w.heap[k]?) : OwnR verE T w' B v l := by
  obtain ⟨h1, h2⟩ := h
  refine ⟨h1, ?_⟩
  rcases h2 with h2 | ⟨g, cap, cur, hv, hbg, hg, hrest⟩
  · exact Or.inl h2
  · refine Or.inr ⟨g, cap, cur, hv, hbg, ?_, hrest⟩
    rw [hb g (by rw [hv]; rfl)]
    exact hg
theorem OwnR.setC {T : TypeId} {w : World} {B : Nat} {v : Value} {l : List Ver} (h : OwnR verE T w B v l) {b : Nat} (hb : b < B) (i : Nat) (x : Value) : OwnR verE T (w.setCell ⟨b, i, none⟩ x) B v l := h.same' (fun k hk => Deep.blk_setCell_other _ _ _ _ (by have := (h.block hk).1; show k ≠ b; omega))
theorem verL_len (v : Ver) : 40 ≤ (verL v).length := by
  unfold verL txL
  simp only [List.length_append, eightL_length]
  omega
theorem rdV_len {r : List UInt8} {b : Bool} (h : (rdV r b).2.2 = false) : (rdV r b).2.1.length + 40 ≤ r.length := by
  obtain ⟨h1, _, _⟩ := rdV_inv (show rdV r b = ((rdV r b).1, (rdV r b).2.1, false) by rw [← h])
  have h2 := verL_len (rdV r b).1
  have h3 := congrArg List.length h1
  rw [List.length_append] at h3
  omega
theorem rdV_le (r : List UInt8) (b : Bool) : (rdV r b).2.1.length ≤ r.length := by
  unfold rdV
  simp only []
  have h1 := rdN_len r b
  generalize rdN r b = n at *
  have h2 := rdN_len n.2.1 n.2.2
  generalize rdN n.2.1 n.2.2 = w at *
  have h3 := rdN_len w.2.1 w.2.2
  generalize rdN w.2.1 w.2.2 = s at *
  have h4 := rdN_len s.2.1 s.2.2
  generalize rdN s.2.1 s.2.2 = a at *
  have h5 := (rdT_len a.2.1 a.2.2).1
  omega
theorem rdM_stop (k : Nat) (r : List UInt8) : rdM k r true = ([], r, true) := by cases k <;> simp [rdM]
theorem rdM_go {k : Nat} {r : List UInt8} : rdM (k + 1) r false = ((rdV r false).1 :: (rdM k (rdV r false).2.1 (rdV r false).2.2).1, (rdM k (rdV r false).2.1 (rdV r false).2.2).2) := by
  rw [rdM, if_neg (by decide)]
end Go.Proofs.YteppmkpckdmnaaaDoor
