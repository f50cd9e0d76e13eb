/- The document's own reading of a message: numbers and texts. -/
import Derived.Test.YteppmkpckdmnaaaDoorREightW
import Derived.Test.YteppmkpckdmnaaaDoorTxtB
import Derived.Lib.SmallJoins
import Derived.Deep.Heap
namespace Go.Proofs.YteppmkpckdmnaaaDoor
open Go.RowKit
/-- The reading at block rb has r left, and is bad or not. -/
def UnAt (w : World) (rb : Nat) (r : List UInt8) (b : Bool) : Prop := w.heap[rb]? = some (.cells #[.string (ofL r), .bool b] 71 (0, 0))
theorem UnAt.cells {w : World} {rb : Nat} {r : List UInt8} {b : Bool} (h : UnAt w rb r b) : w.cell? ⟨rb, 0, none⟩ = some (.string (ofL r)) ∧ w.cell? ⟨rb, 1, none⟩ = some (.bool b) ∧ w.frozen? ⟨rb, 0, none⟩ = false ∧ w.frozen? ⟨rb, 1, none⟩ = false := by
  unfold UnAt at h
  exact ⟨by simp [World.cell?, h], by simp [World.cell?, h], by simp [World.frozen?, h], by simp [World.frozen?, h]⟩
/-- From w to w' nothing that was there has turned but the reading. -/
structure UnSt (w w' : World) (rb : Nat) (r : List UInt8) (b : Bool) : Prop where
  at_ : UnAt w' rb r b
  grown : w.grownBy w' (some rb)
theorem UnSt.trans {w w' w'' : World} {rb : Nat} {r r' : List UInt8} {f f' : Bool} (h1 : UnSt w w' rb r f) (h2 : UnSt w' w'' rb r' f') : UnSt w w'' rb r' f' := ⟨h2.at_, h2.grown.os.trans h1.grown.os, h2.grown.tape.trans h1.grown.tape, h2.grown.output.trans h1.grown.output, Nat.le_trans h1.grown.size h2.grown.size, fun k hk hne => (h2.grown.block k (Nat.lt_of_lt_of_le hk h1.grown.size) hne).trans (h1.grown.block k hk hne)⟩
theorem UnSt.below {w w' : World} {rb : Nat} {r : List UInt8} {f : Bool} (h : UnAt w rb r f) (hb : Below w.heap.size w w') : UnSt w w' rb r f := ⟨(hb.block rb (Array.getElem?_eq_some_iff.1 h).1).trans h, hb.os, hb.tape, hb.output, hb.size, fun k hk _ => hb.block k hk⟩
theorem UnSt.low {w0 w w' : World} {B rb : Nat} {r : List UInt8} {f : Bool} (h : UnSt w w' rb r f) (hw0 : Below B w0 w) (hB : B ≤ w.heap.size) (hrb : B ≤ rb) : Below B w0 w' := hw0.trans ⟨h.grown.os, h.grown.tape, h.grown.output, h.grown.size, fun k hk => h.grown.block k (by omega) (fun e => by injection e with e; omega)⟩
theorem un_set0 {w : World} {rb : Nat} {r r' : List UInt8} {f : Bool} (h : UnAt w rb r f) : UnSt w (w.setCell ⟨rb, 0, none⟩ (.string (ofL r'))) rb r' f := ⟨by unfold UnAt; rw [Joins.block_setCell h]; rfl, rfl, rfl, rfl, by simp, fun k _ hne => Deep.blk_setCell_other _ _ _ _ (fun e => hne (by rw [e]))⟩
theorem un_set1 {w : World} {rb : Nat} {r : List UInt8} {f f' : Bool} (h : UnAt w rb r f) : UnSt w (w.setCell ⟨rb, 1, none⟩ (.bool f')) rb r f' := ⟨by unfold UnAt; rw [Joins.block_setCell h]; rfl, rfl, rfl, rfl, by simp, fun k _ hne => Deep.blk_setCell_other _ _ _ _ (fun e => hne (by rw [e]))⟩
theorem UnSt.drewN {w W : World} {rb : Nat} {r : List UInt8} {f : Bool} (h : UnSt w W rb r f) (n : Nat) : UnSt w (W.drewN n) rb r f := ⟨h.at_, ⟨h.grown.os, h.grown.tape, h.grown.output, h.grown.size, h.grown.block⟩⟩
theorem nth_ofL (r : List UInt8) (i : Nat) (h : i < r.length) : Gf.nth (bytesOf (ofL r)) i = (r.getD i 0).toNat := by
  rw [bytesOf_nth _ _ (by rw [ofL_size]; exact h)]
  simp [ofL, h]
  rfl
theorem numTo_append (a : Nat) : ∀ (l m : List UInt8), numTo a (l ++ m) = numTo (numTo a l) m
  | [], _ => rfl
  | b :: l, m => by show numTo _ (l ++ m) = _; rw [numTo_append]; rfl
theorem numTo_take {r : List UInt8} {k : Nat} (h : k < r.length) : numTo 0 (r.take (k + 1)) = 256 * numTo 0 (r.take k) + (r.getD k 0).toNat := by
  rw [List.take_add_one, numTo_append]
  simp [h, numTo]
theorem numTo_le {r : List UInt8} {k : Nat} (hk : k ≤ 8) : numTo 0 (r.take k) ≤ numTo 0 (r.take 8) := by
  have e : r.take 8 = r.take k ++ (r.take 8).drop k := by
    have := List.take_append_drop k (r.take 8)
    rw [List.take_take, Nat.min_eq_left hk] at this
    exact this.symm
  rw [e, numTo_append, numTo_lin (numTo 0 (r.take k))]
  have h1 : 1 ≤ 256 ^ ((r.take 8).drop k).length := Nat.pow_pos (by decide)
  have h2 := Nat.mul_le_mul_left (numTo 0 (r.take k)) h1
  omega
set_option maxRecDepth 10000 in
set_option maxHeartbeats 2000000 in
theorem unum_any (rb : Nat) (r : List UInt8) (b : Bool) (w : World) (h : UnAt w rb r b) (hr : r.length ≤ 1000000) :
    Calls Tryd.prog 29 #[.pointer (some ⟨rb, 0, none⟩)] w fun e w' => e = .returned (.int .i64 ((rdN r b).1 : Int)) ∧ UnSt w w' rb (rdN r b).2.1 (rdN r b).2.2 := by
  obtain ⟨c0, c1, f0, f1⟩ := h.cells
  have hsz : (ofL r).size = r.length := ofL_size r
  have HBAD : Hid (UnSt w (w.setCell ⟨rb, 1, none⟩ (.bool true)) rb r true) := un_set1 h
  by_cases hc : b = true ∨ r.length < 8 ∨ 127 < (r.headD 0).toNat
  · have e : rdN r b = (0, r, true) := by unfold rdN; rw [if_pos hc]
    rw [e]
    simp only []
    cases b with
    | true =>
      clear h hc e
      generalize ofL r = s at *
      go_enter Tryd.func29, Tryd.ntmps29
      go_wp2
      go_ret
      exact ⟨rfl, HBAD.out⟩
    | false =>
      by_cases h8 : r.length < 8
      · have d1 : decide (((ofL r).size : Int) < 8) = true := decide_eq_true (by omega)
        have hsz' : (ofL r).size ≤ 1000000 := by omega
        clear h hc e hsz
        generalize ofL r = s at *
        go_enter Tryd.func29, Tryd.ntmps29
        go_wp2
        go_ret
        exact ⟨rfl, HBAD.out⟩
      · have d1 : decide (((ofL r).size : Int) < 8) = false := decide_eq_false (by omega)
        have hix : ∀ W, Sem.run Tryd.prog (Instr.index 9 (.string (ofL r)) (.int .i64 0)) W = .ok (.int .u8 ((Gf.nth (bytesOf (ofL r)) 0 : Nat) : Int)) W := run_idx (ofL r) 0 (by omega)
        have hy : 127 < Gf.nth (bytesOf (ofL r)) 0 := by
          rw [nth_ofL r 0 (by omega)]
          rcases hc with h | h | h
          · cases h
          · exact absurd h h8
          · have e0 : r.getD 0 0 = r.headD 0 := by cases r <;> rfl
            rw [e0]
            exact h
        have hsz' : (ofL r).size ≤ 1000000 := by omega
        have hlt := bytesOf_lt (ofL r) 0
        generalize Gf.nth (bytesOf (ofL r)) 0 = y at *
        have d2 : decide (127 < (y : Int)) = true := decide_eq_true (by omega)
        clear h hc e hsz
        generalize ofL r = s at *
        go_enter Tryd.func29, Tryd.ntmps29
        go_wp2
        go_ret
        exact ⟨rfl, HBAD.out⟩
  · have e : rdN r b = (numTo 0 (r.take 8), r.drop 8, false) := by unfold rdN; rw [if_neg hc]
    have hmx : numTo 0 (r.take 8) ≤ 9223372036854775807 := (rdN_inv e).2.1
    obtain rfl : b = false := (rdN_inv e).2.2
    rw [e]
    simp only []
    have h8 : ¬ r.length < 8 := fun h => hc (Or.inr (Or.inl h))
    have d1 : decide (((ofL r).size : Int) < 8) = false := decide_eq_false (by omega)
    have hix : ∀ W, Sem.run Tryd.prog (Instr.index 9 (.string (ofL r)) (.int .i64 0)) W = .ok (.int .u8 ((Gf.nth (bytesOf (ofL r)) 0 : Nat) : Int)) W := run_idx (ofL r) 0 (by omega)
    have hy : ¬ 127 < Gf.nth (bytesOf (ofL r)) 0 := by
      rw [nth_ofL r 0 (by omega)]
      have e0 : r.getD 0 0 = r.headD 0 := by cases r <;> rfl
      rw [e0]
      exact fun h => hc (Or.inr (Or.inr h))
    have HIX : Hid (∀ i : Nat, i < 8 → ∀ W, Sem.run Tryd.prog (Instr.index 9 (.string (ofL r)) (.int .i64 (i : Int))) W = .ok (.int .u8 ((Gf.nth (bytesOf (ofL r)) i : Nat) : Int)) W) := fun i hi W => run_idx (ofL r) i (by omega) W
    have HLT : Hid (∀ i, Gf.nth (bytesOf (ofL r)) i < 256) := fun i => bytesOf_lt (ofL r) i
    have HST : Hid (∀ i, i < 8 → numTo 0 (r.take (i + 1)) = 256 * numTo 0 (r.take i) + Gf.nth (bytesOf (ofL r)) i) := fun i hi => by rw [nth_ofL r i (by omega)]; exact numTo_take (by omega)
    have HLE : Hid (∀ i, i ≤ 8 → numTo 0 (r.take i) ≤ 9223372036854775807) := fun i hi => Nat.le_trans (numTo_le hi) hmx
    have HE : Hid (UnSt w (w.setCell ⟨rb, 0, none⟩ (.string (ofL (r.drop 8)))) rb (r.drop 8) false) := un_set0 h
    have hsl : ∀ W, Sem.run Tryd.prog (Instr.slice 9 (.string (ofL r)) (some (.int .i64 8)) none none) W = .ok (.string (ofL (r.drop 8))) W := fun W => by
      rw [run_slice_string_l W 9 (ofL r) Tryd.underlying9 .i64 _ (by omega) (by omega)]
      rw [show (8 : Int).toNat = 8 from rfl, extract_ofL, List.take_of_length_le (by omega)]
    have hsz' : (ofL r).size ≤ 1000000 := by omega
    have hs8 : 8 ≤ (ofL r).size := by omega
    have d2 : decide (127 < ((Gf.nth (bytesOf (ofL r)) 0 : Nat) : Int)) = false := decide_eq_false (by omega)
    have h00 := HLT.out 0
    clear h hc e hsz hy HBAD hmx h8
    generalize ofL (r.drop 8) = s2 at *
    generalize ofL r = s at *
    go_enter Tryd.func29, Tryd.ntmps29
    go_wp2
    clear hix d2 h00
    go_loopw [3, 4] (fun x i wr => ∃ k : Nat, k ≤ 8 ∧ i = .int .i64 k ∧ x = .int .i64 ((numTo 0 (r.take k) : Nat) : Int) ∧ wr = w) (fun _ i _ => 8 - (intOf i).toNat)
    case atStart => exact ⟨0, by decide, rfl, rfl, rfl⟩
    case round =>
      obtain ⟨k, hk, rfl, rfl, hwr⟩ := hrel
      subst hwr
      by_cases hk8 : k < 8
      · have hix := HIX.out k hk8
        have hyl := HLT.out k
        have HNX := HST.out k hk8
        have hle1 := HLE.out (k + 1) (by omega)
        rw [HNX] at hle1
        have HNX' : Hid (numTo 0 (r.take (k + 1)) = 256 * numTo 0 (r.take k) + Gf.nth (bytesOf s) k) := HNX
        clear HNX
        generalize Gf.nth (bytesOf s) k = y at *
        generalize numTo 0 (r.take k) = m at *
        go_wp2
        go_roundw
        case rel => exact ⟨k + 1, by omega, by go_num, by rw [HNX'.out]; congr 1, trivial⟩
        case measure => simp [intOf]; omega
      · obtain rfl : k = 8 := by omega
        have hle8 := HLE.out 8 (by decide)
        go_wp2
        go_ret
        exact ⟨rfl, HE.out⟩
theorem rdN_len (r : List UInt8) (b : Bool) : (rdN r b).2.1.length ≤ r.length := by
  unfold rdN
  split
  · exact Nat.le_refl _
  · simp
theorem rdN_max (r : List UInt8) (b : Bool) : (rdN r b).1 ≤ 9223372036854775807 := by
  cases h : (rdN r b).2.2 with
  | false => exact (rdN_inv (show rdN r b = ((rdN r b).1, (rdN r b).2.1, false) by rw [← h])).2.1
  | true =>
    unfold rdN at h ⊢
    split
    · exact Nat.zero_le _
    · rename_i hc
      rw [if_neg hc] at h
      cases h
theorem rdT_len (r : List UInt8) (b : Bool) : (rdT r b).2.1.length ≤ r.length ∧ (rdT r b).1.size ≤ r.length := by
  have := rdN_len r b
  unfold rdT
  split
  · exact ⟨this, by rw [ofL_size]; exact Nat.zero_le _⟩
  · refine ⟨?_, ?_⟩
    · simp only [List.length_drop]; omega
    · simp only [ofL_size, List.length_take]; omega
set_option maxRecDepth 10000 in
set_option maxHeartbeats 2000000 in
theorem utext_any (rb : Nat) (r : List UInt8) (b : Bool) (w : World) (h : UnAt w rb r b) (hr : r.length ≤ 1000000) :
    Calls Tryd.prog 28 #[.pointer (some ⟨rb, 0, none⟩)] w fun e w' => e = .returned (.string (rdT r b).1) ∧ UnSt w w' rb (rdT r b).2.1 (rdT r b).2.2 := by
  have HN : Hid (Calls Tryd.prog 29 #[.pointer (some ⟨rb, 0, none⟩)] w fun e w' => e = .returned (.int .i64 ((rdN r b).1 : Int)) ∧ UnSt w w' rb (rdN r b).2.1 (rdN r b).2.2) := unum_any rb r b w h hr
  have hle := Nat.le_trans (rdN_len r b) hr
  have hmx := rdN_max r b
  unfold rdT
  generalize rdN r b = q at *
  obtain ⟨n, r1, b1⟩ := q
  simp only [] at *
  have hsz : (ofL r1).size = r1.length := ofL_size r1
  clear h hr
  by_cases hbad : b1 = true ∨ r1.length < n
  · rw [if_pos hbad]
    simp only []
    cases b1 with
    | true =>
      go_enter Tryd.func28, Tryd.ntmps28
      go_wp2_with fail
      refine HN.out.mono ?_
      rintro e w1 ⟨rfl, hS1⟩
      obtain ⟨c0, c1, f0, f1⟩ := hS1.at_.cells
      have HE : Hid (UnSt w (w1.setCell ⟨rb, 1, none⟩ (.bool true)) rb r1 true) := hS1.trans (un_set1 hS1.at_)
      clear hS1 HN hbad
      go_wp2
      go_ret
      exact ⟨rfl, HE.out⟩
    | false =>
      have d2 : decide ((ofL r1).size < n) = true := decide_eq_true (by rcases hbad with h | h; cases h; omega)
      have hsz' : (ofL r1).size ≤ 1000000 := by omega
      clear hbad hsz
      go_enter Tryd.func28, Tryd.ntmps28
      go_wp2_with fail
      refine HN.out.mono ?_
      rintro e w1 ⟨rfl, hS1⟩
      obtain ⟨c0, c1, f0, f1⟩ := hS1.at_.cells
      have HE : Hid (UnSt w (w1.setCell ⟨rb, 1, none⟩ (.bool true)) rb r1 true) := hS1.trans (un_set1 hS1.at_)
      clear hS1 HN
      generalize ofL r1 = s at *
      go_wp2
      go_ret
      exact ⟨rfl, HE.out⟩
  · rw [if_neg hbad]
    simp only []
    obtain rfl : b1 = false := by cases b1 with
      | false => rfl
      | true => exact absurd (Or.inl rfl) hbad
    have hnl : n ≤ r1.length := by
      rcases Nat.lt_or_ge r1.length n with h | h
      · exact absurd (Or.inr h) hbad
      · exact h
    have d2 : decide ((ofL r1).size < n) = false := decide_eq_false (by omega)
    have hc1 : ∀ W, Sem.run Tryd.prog (Instr.slice 9 (.string (ofL r1)) none (some (.int .i64 (n : Int))) none) W = .ok (.string (ofL (r1.take n))) W := fun W => by
      rw [run_slice_string_h W 9 (ofL r1) Tryd.underlying9 .i64 _ (by omega) (by omega), Int.toNat_natCast, extract_ofL, List.drop_zero]
    have hc2 : ∀ W, Sem.run Tryd.prog (Instr.slice 9 (.string (ofL r1)) (some (.int .i64 (n : Int))) none none) W = .ok (.string (ofL (r1.drop n))) W := fun W => by
      rw [run_slice_string_l W 9 (ofL r1) Tryd.underlying9 .i64 _ (by omega) (by omega), Int.toNat_natCast, extract_ofL, List.take_of_length_le (by omega)]
    have hsz' : (ofL r1).size ≤ 1000000 := by omega
    have HSET : Hid (∀ W, UnSt w W rb r1 false → UnSt w (W.setCell ⟨rb, 0, none⟩ (.string (ofL (r1.drop n)))) rb (r1.drop n) false) := fun W hW => hW.trans (un_set0 hW.at_)
    have hni : (n : Int) ≤ 9223372036854775807 := by omega
    clear hbad hsz hnl
    go_enter Tryd.func28, Tryd.ntmps28
    go_wp2_with fail
    refine HN.out.mono ?_
    rintro e w1 ⟨rfl, hS1⟩
    obtain ⟨c0, c1, f0, f1⟩ := hS1.at_.cells
    have HE := HSET.out w1 hS1
    have HE' : Hid (UnSt w (w1.setCell ⟨rb, 0, none⟩ (.string (ofL (r1.drop n)))) rb (r1.drop n) false) := HE
    clear hS1 HN HE HSET
    obtain ⟨ta, hta⟩ : ∃ ta, ta = ofL (r1.take n) := ⟨_, rfl⟩
    have HTA : Hid (ta = ofL (r1.take n)) := hta
    rw [← hta] at hc1
    clear hta
    generalize ofL (r1.drop n) = tb at *
    generalize ofL r1 = s at *
    go_wp2
    go_ret
    exact ⟨by rw [← HTA.out]; rfl, HE'.out⟩
end Go.Proofs.YteppmkpckdmnaaaDoor
