/- Package wire: the reader: what is left of a text; what cannot be read is thrown. -/
import Derived.Test.YteppmkpckdmnaaaDoorRWrdW
import Derived.Test.YteppmkpckdmnaaaDoorSentW
import Derived.Test.YteppmkpckdmnaaaDoorBRowB
import Derived.WalkLawsBesides
import Derived.Test.YteppmkpckdmnaaaDoorHoldM
import Derived.Test.YteppmkpckdmnaaaDoorRUnwB
namespace Go.Proofs.YteppmkpckdmnaaaDoor
open Go.RowKit
/-- The reader at block rb has r left. -/
def RwAt (w : World) (rb : Nat) (r : List UInt8) : Prop := w.heap[rb]? = some (.cells #[.string (ofL r)] 65 (0, 0))
theorem RwAt.cells {w : World} {rb : Nat} {r : List UInt8} (h : RwAt w rb r) : w.cell? ⟨rb, 0, none⟩ = some (.string (ofL r)) ∧ w.frozen? ⟨rb, 0, none⟩ = false := by
  unfold RwAt at h
  exact ⟨by simp [World.cell?, h], by simp [World.frozen?, h]⟩
/-- From w to w' nothing that was there has turned but the reader. -/
structure RwSt (w w' : World) (rb : Nat) (r : List UInt8) : Prop where
  at_ : RwAt w' rb r
  grown : w.grownBy w' (some rb)
theorem grown_trans {w w' w'' : World} {o : Option Nat} (h1 : w.grownBy w' o) (h2 : w'.grownBy w'' o) : w.grownBy w'' o := ⟨h2.os.trans h1.os, h2.tape.trans h1.tape, h2.output.trans h1.output, Nat.le_trans h1.size h2.size, fun k hk hne => (h2.block k (Nat.lt_of_lt_of_le hk h1.size) hne).trans (h1.block k hk hne)⟩
theorem grown_below {w w' : World} (o : Option Nat) (hb : Below w.heap.size w w') : w.grownBy w' o := ⟨hb.os, hb.tape, hb.output, hb.size, fun k hk _ => hb.block k hk⟩
theorem RwSt.trans {w w' w'' : World} {rb : Nat} {r r' : List UInt8} (h1 : RwSt w w' rb r) (h2 : RwSt w' w'' rb r') : RwSt w w'' rb r' := ⟨h2.at_, grown_trans h1.grown h2.grown⟩
theorem RwSt.below {w w' : World} {rb : Nat} {r : List UInt8} (h : RwAt w rb r) (hb : Below w.heap.size w w') : RwSt w w' rb r := ⟨(hb.block rb (Array.getElem?_eq_some_iff.1 h).1).trans h, grown_below _ hb⟩
theorem rw_set {w : World} {rb : Nat} {r r' : List UInt8} (h : RwAt w rb r) : RwSt w (w.setCell ⟨rb, 0, none⟩ (.string (ofL r'))) rb r' := ⟨by unfold RwAt; rw [Joins.block_setCell h]; rfl, rfl, rfl, rfl, by simp, fun k _ hne => Deep.blk_setCell_other _ _ _ _ (fun e => hne (by rw [e]))⟩
/-- What is thrown. -/
def thrown (ev : Value) : Ending := .panicked [{ v := .iface 63 (.agg #[ev]), recovered := false }]
def errT (ad : Nat → Addr) : Value := .iface 124 (.pointer (some (ad 0)))
/-- What a read answers: a value, or it throws. -/
def RdO (ad : Nat → Addr) (w : World) (rb : Nat) (o : Option (Value × List UInt8)) (e : Ending) (w' : World) : Prop :=
  match o with
  | none => e = thrown (errT ad) ∧ w.grownBy w' (some rb)
  | some (v, r) => e = .returned v ∧ RwSt w w' rb r
set_option maxRecDepth 10000 in
theorem take_bad (ad : Nat → Addr) (rb : Nat) (r : List UInt8) (n : Nat) (w : World) (h : RwAt w rb r) (hS : Sent w ad) (hn : r.length < n) :
    Calls Tryd.prog 50 #[.pointer (some ⟨rb, 0, none⟩), .int .i64 (n : Int)] w fun e w' => e = thrown (errT ad) ∧ w' = w := by
  obtain ⟨c0, f0⟩ := h.cells
  have g0 := hS.c0
  have hsz : (ofL r).size = r.length := ofL_size r
  have d0 : decide (r.length < n) = true := decide_eq_true hn
  have d1 : decide ((ofL r).size < n) = true := by rw [hsz]; exact d0
  clear h hS
  unfold thrown errT
  generalize ofL r = s at *
  go_enter Tryd.func50, Tryd.ntmps50
  go_wp2
  exact ⟨rfl, rfl, rfl⟩
set_option maxRecDepth 10000 in
theorem take_ok (rb : Nat) (r : List UInt8) (n : Nat) (w : World) (h : RwAt w rb r) (hn : n ≤ r.length) :
    Calls Tryd.prog 50 #[.pointer (some ⟨rb, 0, none⟩), .int .i64 (n : Int)] w fun e w' => e = .returned (.string (ofL (r.take n))) ∧ RwSt w w' rb (r.drop n) := by
  obtain ⟨c0, f0⟩ := h.cells
  have hsz : (ofL r).size = r.length := ofL_size r
  have HE : Hid (RwSt w (w.setCell ⟨rb, 0, none⟩ (.string (ofL (r.drop n)))) rb (r.drop n)) := rw_set h
  have h1 : (ofL r).extract 0 n = ofL (r.take n) := by rw [extract_ofL, List.drop_zero]
  have h2 : (ofL r).extract n (ofL r).size = ofL (r.drop n) := by rw [extract_ofL, hsz, List.take_of_length_le (Nat.le_refl _)]
  have d1 : decide ((ofL r).size < n) = false := by rw [hsz]; exact decide_eq_false (by omega)
  have s1 : ∀ W, Sem.run Tryd.prog (Instr.slice 9 (.string (ofL r)) none (some (.int .i64 (n : Int))) none) W = .ok (.string (ofL (r.take n))) W := fun W => by
    rw [run_slice_string_h W 9 (ofL r) Tryd.underlying9 .i64 _ (by omega) (by omega)]
    rw [Int.toNat_natCast, h1]
  have s2 : ∀ W, Sem.run Tryd.prog (Instr.slice 9 (.string (ofL r)) (some (.int .i64 (n : Int))) none none) W = .ok (.string (ofL (r.drop n))) W := fun W => by
    rw [run_slice_string_l W 9 (ofL r) Tryd.underlying9 .i64 _ (by omega) (by omega)]
    rw [Int.toNat_natCast, h2]
  clear h h1 h2
  generalize ofL (r.drop n) = s2t at *
  generalize ofL (r.take n) = s1t at *
  generalize ofL r = s at *
  go_enter Tryd.func50, Tryd.ntmps50
  go_wp2
  go_ret
  exact ⟨rfl, HE.out⟩
theorem u64_or (m y : Nat) (hy : y < 256) (h : 256 * m + y < 18446744073709551616) : bits .or .u64 (256 * (m : Int)) (y : Int) = ((256 * m + y : Nat) : Int) := by
  show IntKind.u64.wrap ((BitVec.ofInt 64 (256 * (m : Int)) ||| BitVec.ofInt 64 (y : Int)).toNat : Int) = _
  rw [show (256 * (m : Int)) = ((256 * m : Nat) : Int) by omega, BitVec.toNat_or, BitVec.ofInt_natCast, BitVec.ofInt_natCast, BitVec.toNat_ofNat, BitVec.toNat_ofNat, Nat.mod_eq_of_lt (by omega), Nat.mod_eq_of_lt (by omega), ← Nat.two_pow_add_eq_or_of_lt (i := 8) hy]
  show ((256 * m + y : Nat) : Int) % 18446744073709551616 = _
  omega
/-- The errors lie where they lay, whatever the reader does. -/
def SentR (w : World) (rb : Nat) (ad : Nat → Addr) : Prop := ∀ W, w.grownBy W (some rb) → Sent W ad
theorem SentR.self {w : World} {rb : Nat} {ad : Nat → Addr} (h : SentR w rb ad) : Sent w ad := h w ⟨rfl, rfl, rfl, Nat.le_refl _, fun _ _ _ => rfl⟩
theorem SentR.go {w w' : World} {rb : Nat} {ad : Nat → Addr} (h : SentR w rb ad) (hg : w.grownBy w' (some rb)) : SentR w' rb ad := fun W hW => h W (grown_trans hg hW)
/-- A number that is read, or none. -/
def oN (r : List UInt8) : Option (Nat × List UInt8) := if (rdN r false).2.2 = true then none else some ((rdN r false).1, (rdN r false).2.1)
set_option maxRecDepth 10000 in
set_option maxHeartbeats 2000000 in
theorem num_long (ad : Nat → Addr) (rb : Nat) (r : List UInt8) (w : World) (h : RwAt w rb r) (hS : SentR w rb ad) (h8 : 8 ≤ r.length) :
    Calls Tryd.prog 38 #[.pointer (some ⟨rb, 0, none⟩)] w fun e w' => if 9223372036854775807 < numTo 0 (r.take 8) then e = thrown (errT ad) ∧ w.grownBy w' (some rb) else e = .returned (.int .i64 ((numTo 0 (r.take 8) : Nat) : Int)) ∧ RwSt w w' rb (r.drop 8) := by
  have HTK : Hid (Calls Tryd.prog 50 #[.pointer (some ⟨rb, 0, none⟩), .int .i64 8] w fun e w' => e = .returned (.string (ofL (r.take 8))) ∧ RwSt w w' rb (r.drop 8)) := take_ok rb r 8 w h h8
  have hsz : (ofL (r.take 8)).size = 8 := by rw [ofL_size, List.length_take]; omega
  have HNT : Hid (∀ i, i < 8 → Gf.nth (bytesOf (ofL (r.take 8))) i = (r.getD i 0).toNat) := fun i hi => by
    rw [nth_ofL _ _ (by rw [List.length_take]; omega), List.getD_eq_getElem?_getD, List.getD_eq_getElem?_getD, List.getElem?_take_of_lt hi]
  have HST : Hid (∀ i, i < 8 → numTo 0 (r.take (i + 1)) = 256 * numTo 0 (r.take i) + (r.getD i 0).toNat) := fun i hi => numTo_take (by omega)
  have HLT : Hid (∀ i, i ≤ 8 → numTo 0 (r.take i) < 18446744073709551616) := fun i hi => by
    have h1 := numTo_le (r := r) hi
    have h2 := numTo_lt (r.take 8)
    have h3 : (r.take 8).length = 8 := by rw [List.length_take]; omega
    rw [h3] at h2
    omega
  have HBL : Hid ((bytesOf (ofL (r.take 8))).length = 8) := by show _ = _; rw [bytesOf_length, hsz]
  have HSN : Hid (∀ W, w.grownBy W (some rb) → Sent W ad) := hS
  obtain ⟨N, hN⟩ : ∃ N, N = numTo 0 (r.take 8) := ⟨_, rfl⟩
  rw [← hN]
  have HN8 : Hid (numTo 0 (r.take 8) = N) := hN.symm
  clear h hS hN
  generalize ofL (r.take 8) = s at *
  go_enter Tryd.func38, Tryd.ntmps38
  go_wp2_with fail
  refine HTK.out.mono ?_
  rintro e w1 ⟨rfl, hs1⟩
  have hcv : Sem.run Tryd.prog (convert 9 52 (.string s)) w1 = .ok (.slice (some ⟨w1.heap.size, 0, none⟩) s.size (grownCap w1 s.size 0 5)) (Lib.bytesWorld w1 5 s) := Lib.run_convert_string_bytes (P := Tryd.prog) w1 9 52 5 s Tryd.underlying9 Tryd.underlying52 Tryd.underlying5
  have hR := brow_bytesWorld w1 5 s
  have hS2 : RwSt w (Lib.bytesWorld w1 5 s) rb (r.drop 8) := hs1.trans (RwSt.below hs1.at_ (below_bytesWorld w1 5 s))
  have HR : Hid (BRow (Lib.bytesWorld w1 5 s) w1.heap.size (bytesOf s)) := hR
  have HS2 : Hid (RwSt w (Lib.bytesWorld w1 5 s) rb (r.drop 8)) := hS2
  rw [hsz] at hcv
  generalize grownCap w1 8 0 5 = cp at *
  generalize Lib.bytesWorld w1 5 s = w2 at *
  clear hR hS2 hs1 HTK
  go_wp2
  go_loopw [3, 10] (fun x i wr => ∃ k : Nat, k ≤ 8 ∧ i = .int .i64 k ∧ x = .int .u64 ((numTo 0 (r.take k) : Nat) : Int) ∧ wr = w2) (fun _ i _ => 8 - (intOf i).toNat)
  case atStart => exact ⟨0, by decide, rfl, rfl, rfl⟩
  case round =>
    obtain ⟨k, hk, rfl, rfl, hwr⟩ := hrel
    subst hwr
    by_cases hk8 : k < 8
    · have q1 := HR.out.cell (j := k) (by rw [HBL.out]; exact hk8)
      rw [HNT.out k hk8] at q1
      have hyl := (r.getD k 0).toNat_lt
      have HNX := HST.out k hk8
      have hle1 := HLT.out (k + 1) (by omega)
      rw [HNX] at hle1
      have hor := u64_or (numTo 0 (r.take k)) (r.getD k 0).toNat hyl hle1
      rw [Int.mul_comm] at hor
      have HNX' : Hid (numTo 0 (r.take (k + 1)) = 256 * numTo 0 (r.take k) + (r.getD k 0).toNat) := HNX
      clear HNX
      generalize (r.getD k 0).toNat = y at *
      generalize numTo 0 (r.take k) = m at *
      go_wp2
      go_roundw
      case rel => exact ⟨k + 1, by omega, by go_num, by rw [HNX'.out]; congr 1, trivial⟩
      case measure => simp [intOf]; omega
    · obtain rfl : k = 8 := by omega
      have g0 := (HSN.out wr HS2.out.grown).c0
      have h64 := HLT.out 8 (by omega)
      rw [HN8.out] at h64 ⊢
      by_cases hm : 9223372036854775807 < N
      · have d1 : decide (9223372036854775807 < (N : Int)) = true := decide_eq_true (by omega)
        go_wp2
        exact ⟨rfl, rfl, HS2.out.grown⟩
      · have d1 : decide (9223372036854775807 < (N : Int)) = false := decide_eq_false (by omega)
        go_wp2
        go_ret
        exact ⟨rfl, HS2.out⟩
theorem oN_short {r : List UInt8} (h : r.length < 8) : oN r = none := by unfold oN rdN; rw [if_pos (Or.inr (Or.inl h))]; rfl
theorem oN_long {r : List UInt8} (h : 8 ≤ r.length) : oN r = if 9223372036854775807 < numTo 0 (r.take 8) then none else some (numTo 0 (r.take 8), r.drop 8) := by
  have key : 127 < (r.headD 0).toNat ↔ 9223372036854775807 < numTo 0 (r.take 8) := by
    match r, h with
    | x :: l, h =>
      have h7 : (l.take 7).length = 7 := by rw [List.length_take]; simp at h; omega
      have e1 : (x :: l).take 8 = x :: l.take 7 := rfl
      have h1 := numTo_lin (256 * 0 + x.toNat) (l.take 7)
      have hlt := numTo_lt (l.take 7)
      rw [h7] at h1 hlt
      rw [e1]
      simp only [numTo, List.headD_cons]
      rw [h1]
      simp only [Nat.mul_zero, Nat.zero_add]
      omega
  unfold oN rdN
  by_cases hb : 127 < (r.headD 0).toNat
  · rw [if_pos (Or.inr (Or.inr hb)), if_pos (key.1 hb)]; rfl
  · have hn : ¬ (false = true ∨ r.length < 8 ∨ 127 < (r.headD 0).toNat) := by
      rintro (h1 | h1 | h1)
      · cases h1
      · omega
      · exact hb h1
    rw [if_neg hn, if_neg (fun h1 => hb (key.2 h1))]; rfl
def intV (x : Nat × List UInt8) : Value × List UInt8 := (.int .i64 (x.1 : Int), x.2)
set_option maxRecDepth 10000 in
theorem wrnum_any (ad : Nat → Addr) (rb : Nat) (r : List UInt8) (w : World) (h : RwAt w rb r) (hS : SentR w rb ad) :
    Calls Tryd.prog 38 #[.pointer (some ⟨rb, 0, none⟩)] w fun e w' => RdO ad w rb ((oN r).map intV) e w' := by
  by_cases h8 : 8 ≤ r.length
  · refine (num_long ad rb r w h hS h8).mono fun e w' hp => ?_
    rw [oN_long h8]
    by_cases hm : 9223372036854775807 < numTo 0 (r.take 8)
    · rw [if_pos hm] at hp ⊢
      exact hp
    · rw [if_neg hm] at hp ⊢
      exact hp
  · rw [oN_short (by omega)]
    have HTK : Hid (Calls Tryd.prog 50 #[.pointer (some ⟨rb, 0, none⟩), .int .i64 8] w fun e w' => e = thrown (errT ad) ∧ w' = w) := take_bad ad rb r 8 w h hS.self (by omega)
    clear h hS
    unfold thrown at HTK
    go_enter Tryd.func38, Tryd.ntmps38
    go_wp2_with fail
    refine HTK.out.mono ?_
    rintro e w1 ⟨rfl, h1⟩
    rw [h1]
    go_wp2
    exact ⟨rfl, rfl, ⟨rfl, rfl, rfl, Nat.le_refl _, fun _ _ _ => rfl⟩⟩
end Go.Proofs.YteppmkpckdmnaaaDoor
/- Package wire: the reader's texts, flags and versions. -/
namespace Go.Proofs.YteppmkpckdmnaaaDoor
open Go.RowKit
theorem RwSt.setNew {w W : World} {rb b : Nat} {r : List UInt8} (h : RwSt w W rb r) (hb : w.heap.size ≤ b) (hne : rb ≠ b) (i : Nat) (v : Value) : RwSt w (W.setCell ⟨b, i, none⟩ v) rb r :=
  ⟨(Deep.blk_setCell_other _ _ _ _ hne).trans h.at_, h.grown.os, h.grown.tape, h.grown.output, by simpa using h.grown.size, fun k hk hn => (Deep.blk_setCell_other _ _ _ _ (by show k ≠ b; omega)).trans (h.grown.block k hk hn)⟩
/-- A text that is read, or none. -/
def oT (r : List UInt8) : Option (ByteArray × List UInt8) := if (rdT r false).2.2 = true then none else some ((rdT r false).1, (rdT r false).2.1)
theorem oN_none {r : List UInt8} (h : oN r = none) : (rdN r false).2.2 = true := by
  unfold oN at h
  split at h
  · assumption
  · cases h
theorem oN_some {r r' : List UInt8} {n : Nat} (h : oN r = some (n, r')) : rdN r false = (n, r', false) := by
  unfold oN at h
  split at h
  · cases h
  · rename_i hb
    have e := Option.some.inj h
    have hb' : (rdN r false).2.2 = false := by simpa using hb
    rw [← (Prod.mk.inj e).1, ← (Prod.mk.inj e).2]
    generalize rdN r false = x at *
    obtain ⟨x1, x2, x3⟩ := x
    simp only [] at hb'
    rw [hb']
theorem oT_none {r : List UInt8} (h : oT r = none) : (rdT r false).2.2 = true := by
  unfold oT at h
  split at h
  · assumption
  · cases h
theorem oT_some {r r' : List UInt8} {s : ByteArray} (h : oT r = some (s, r')) : rdT r false = (s, r', false) := by
  unfold oT at h
  split at h
  · cases h
  · rename_i hb
    have e := Option.some.inj h
    have hb' : (rdT r false).2.2 = false := by simpa using hb
    rw [← (Prod.mk.inj e).1, ← (Prod.mk.inj e).2]
    generalize rdT r false = x at *
    obtain ⟨x1, x2, x3⟩ := x
    simp only [] at hb'
    rw [hb']
theorem oT_noneN {r : List UInt8} (h : oN r = none) : oT r = none := by
  have h1 := oN_none h
  unfold oT rdT
  rw [if_pos (Or.inl h1)]
  rfl
theorem oT_someN {r r1 : List UInt8} {n : Nat} (h : oN r = some (n, r1)) : oT r = if r1.length < n then none else some (ofL (r1.take n), r1.drop n) := by
  have h1 := oN_some h
  unfold oT rdT
  rw [h1]
  by_cases hl : r1.length < n
  · rw [if_pos (Or.inr hl), if_pos hl]; rfl
  · have hn : ¬ ((n, r1, false).2.2 = true ∨ (n, r1, false).2.1.length < (n, r1, false).1) := by
      rintro (h2 | h2)
      · cases h2
      · exact hl h2
    rw [if_neg hn, if_neg hl]; rfl
def strV (x : ByteArray × List UInt8) : Value × List UInt8 := (.string x.1, x.2)
set_option maxRecDepth 10000 in
theorem wrtext_any (ad : Nat → Addr) (rb : Nat) (r : List UInt8) (w : World) (h : RwAt w rb r) (hS : SentR w rb ad) :
    Calls Tryd.prog 37 #[.pointer (some ⟨rb, 0, none⟩)] w fun e w' => RdO ad w rb ((oT r).map strV) e w' := by
  have HN := wrnum_any ad rb r w h hS
  have HS : Hid (SentR w rb ad) := hS
  cases hN : oN r with
  | none =>
    rw [oT_noneN hN]
    rw [hN] at HN
    have HNP : Hid (Calls Tryd.prog 38 #[.pointer (some ⟨rb, 0, none⟩)] w fun e w' => e = thrown (errT ad) ∧ w.grownBy w' (some rb)) := HN
    clear h hS HN hN
    go_enter Tryd.func37, Tryd.ntmps37
    go_wp2_with fail
    refine HNP.out.mono ?_
    rintro e w1 ⟨rfl, h1⟩
    unfold thrown
    go_wp2
    exact ⟨rfl, rfl, h1⟩
  | some x =>
    obtain ⟨n, r1⟩ := x
    rw [oT_someN hN]
    rw [hN] at HN
    have HNP : Hid (Calls Tryd.prog 38 #[.pointer (some ⟨rb, 0, none⟩)] w fun e w' => e = .returned (.int .i64 (n : Int)) ∧ RwSt w w' rb r1) := HN
    clear h hS HN hN
    by_cases hl : r1.length < n
    · rw [if_pos hl]
      have HTK : Hid (∀ W, RwSt w W rb r1 → Calls Tryd.prog 50 #[.pointer (some ⟨rb, 0, none⟩), .int .i64 (n : Int)] W fun e w' => e = thrown (errT ad) ∧ w' = W) := fun W hW => take_bad ad rb r1 n W hW.at_ (HS.out W hW.grown) hl
      clear hl HS
      go_enter Tryd.func37, Tryd.ntmps37
      go_wp2_with fail
      refine HNP.out.mono ?_
      rintro e w1 ⟨rfl, h1⟩
      have H1 : Hid (RwSt w w1 rb r1) := h1
      clear h1 HNP
      go_wp2_with fail
      refine (HTK.out w1 H1.out).mono ?_
      rintro e w2 ⟨rfl, h2⟩
      rw [h2]
      unfold thrown
      go_wp2
      exact ⟨rfl, rfl, H1.out.grown⟩
    · rw [if_neg hl]
      have HTK : Hid (∀ W, RwSt w W rb r1 → Calls Tryd.prog 50 #[.pointer (some ⟨rb, 0, none⟩), .int .i64 (n : Int)] W fun e w' => e = .returned (.string (ofL (r1.take n))) ∧ RwSt W w' rb (r1.drop n)) := fun W hW => take_ok rb r1 n W hW.at_ (by omega)
      clear hl HS
      generalize ofL (r1.take n) = s at *
      generalize r1.drop n = r2 at *
      go_enter Tryd.func37, Tryd.ntmps37
      go_wp2_with fail
      refine HNP.out.mono ?_
      rintro e w1 ⟨rfl, h1⟩
      have H1 : Hid (RwSt w w1 rb r1) := h1
      clear h1 HNP
      go_wp2_with fail
      refine (HTK.out w1 H1.out).mono ?_
      rintro e w2 ⟨rfl, h2⟩
      have H2 : Hid (RwSt w w2 rb r2) := H1.out.trans h2
      clear h2 HTK
      go_wp2
      go_ret
      exact ⟨rfl, H2.out⟩
/-- A flag that is read, or none. -/
def oF (r : List UInt8) : Option (Bool × List UInt8) := (oN r).bind fun x => if 1 < x.1 then none else some (decide (x.1 = 1), x.2)
def boolV (x : Bool × List UInt8) : Value × List UInt8 := (.bool x.1, x.2)
set_option maxRecDepth 10000 in
theorem wrflag_any (ad : Nat → Addr) (rb : Nat) (r : List UInt8) (w : World) (h : RwAt w rb r) (hS : SentR w rb ad) :
    Calls Tryd.prog 39 #[.pointer (some ⟨rb, 0, none⟩)] w fun e w' => RdO ad w rb ((oF r).map boolV) e w' := by
  have HN := wrnum_any ad rb r w h hS
  have HS : Hid (SentR w rb ad) := hS
  unfold oF
  cases hN : oN r with
  | none =>
    rw [hN] at HN
    have HNP : Hid (Calls Tryd.prog 38 #[.pointer (some ⟨rb, 0, none⟩)] w fun e w' => e = thrown (errT ad) ∧ w.grownBy w' (some rb)) := HN
    clear h hS HN hN
    rw [Option.bind_none]
    go_enter Tryd.func39, Tryd.ntmps39
    go_wp2_with fail
    refine HNP.out.mono ?_
    rintro e w1 ⟨rfl, h1⟩
    unfold thrown
    go_wp2
    exact ⟨rfl, rfl, h1⟩
  | some x =>
    obtain ⟨n, r1⟩ := x
    rw [hN] at HN
    have HNP : Hid (Calls Tryd.prog 38 #[.pointer (some ⟨rb, 0, none⟩)] w fun e w' => e = .returned (.int .i64 (n : Int)) ∧ RwSt w w' rb r1) := HN
    clear h hS HN hN
    rw [Option.bind_some]
    simp only []
    by_cases hl : 1 < n
    · rw [if_pos hl]
      have d1 : decide (1 < n) = true := decide_eq_true hl
      go_enter Tryd.func39, Tryd.ntmps39
      go_wp2_with fail
      refine HNP.out.mono ?_
      rintro e w1 ⟨rfl, h1⟩
      have g0 := (HS.out w1 h1.grown).c0
      have H1 : Hid (RwSt w w1 rb r1) := h1
      clear h1 HNP
      go_wp2
      exact ⟨rfl, rfl, H1.out.grown⟩
    · rw [if_neg hl]
      have d1 : decide (1 < n) = false := decide_eq_false hl
      have HQ : Hid (((n : Int) == 1) = decide (n = 1)) := by show _ = _; rw [Bool.eq_iff_iff]; simp; omega
      go_enter Tryd.func39, Tryd.ntmps39
      go_wp2_with fail
      refine HNP.out.mono ?_
      rintro e w1 ⟨rfl, h1⟩
      have H1 : Hid (RwSt w w1 rb r1) := h1
      clear h1 HNP
      go_wp2
      go_ret
      refine ⟨?_, H1.out⟩
      show _ = Ending.returned (Value.bool (decide (n = 1)))
      rw [← HQ.out]
      rfl
/-- A version that is read, or none. -/
def oV (r : List UInt8) : Option (Ver × List UInt8) := (oN r).bind fun n => (oN n.2).bind fun o => (oN o.2).bind fun s => (oN s.2).bind fun a => (oT a.2).map fun t => (⟨n.1, o.1, s.1, a.1, t.1⟩, t.2)
def verV (x : Ver × List UInt8) : Value × List UInt8 := (.agg #[.int .i64 x.1.n, .int .i64 x.1.who, .int .i64 x.1.size, .int .i64 x.1.at_, .string x.1.text], x.2)
/-- While a version is read: its cells at block nb + 1, the answer's at nb. -/
structure RvSt (W0 W : World) (rb : Nat) (r : List UInt8) (vs : Array Value) : Prop where
  at_ : RwAt W rb r
  grown : W0.grownBy W (some rb)
  res : W.heap[W0.heap.size]? = some (.cells #[.int .i64 0, .int .i64 0, .int .i64 0, .int .i64 0, .string ⟨#[]⟩] 50 (0, 0))
  box : W.heap[W0.heap.size + 1]? = some (.cells vs 50 (0, 0))
theorem RvSt.rd {W0 W W' : World} {rb : Nat} {r r' : List UInt8} {vs : Array Value} (h : RvSt W0 W rb r vs) (hs : RwSt W W' rb r') (hrb : rb < W0.heap.size) : RvSt W0 W' rb r' vs := by
  have l1 := (Array.getElem?_eq_some_iff.1 h.box).1
  exact ⟨hs.at_, grown_trans h.grown hs.grown, (hs.grown.block _ (by omega) (fun e => by injection e with e; omega)).trans h.res, (hs.grown.block _ l1 (fun e => by injection e with e; omega)).trans h.box⟩
theorem RvSt.set {W0 W : World} {rb : Nat} {r : List UInt8} {vs : Array Value} (h : RvSt W0 W rb r vs) (hrb : rb < W0.heap.size) (i : Nat) (v : Value) : RvSt W0 (W.setCell ⟨W0.heap.size + 1, i, none⟩ v) rb r (vs.setIfInBounds i v) := by
  have other : ∀ k, k ≠ W0.heap.size + 1 → (W.setCell ⟨W0.heap.size + 1, i, none⟩ v).heap[k]? = W.heap[k]? := fun k hk => Deep.blk_setCell_other _ _ _ _ hk
  refine ⟨(other rb (by omega)).trans h.at_, ⟨h.grown.os, h.grown.tape, h.grown.output, by simpa using h.grown.size, fun k hk hne => (other k (by omega)).trans (h.grown.block k hk hne)⟩, (other _ (by omega)).trans h.res, ?_⟩
  rw [Joins.block_setCell h.box]
theorem RvSt.start {W : World} {rb : Nat} {r : List UInt8} (h : RwAt W rb r) : RvSt W ((W.alloc (.cells #[.int .i64 0, .int .i64 0, .int .i64 0, .int .i64 0, .string ⟨#[]⟩] 50)).alloc (.cells #[.int .i64 0, .int .i64 0, .int .i64 0, .int .i64 0, .string ⟨#[]⟩] 50)) rb r #[.int .i64 0, .int .i64 0, .int .i64 0, .int .i64 0, .string ⟨#[]⟩] := by
  have e2 : (W.alloc (.cells #[.int .i64 0, .int .i64 0, .int .i64 0, .int .i64 0, .string ⟨#[]⟩] 50)).heap.size = W.heap.size + 1 := by simp
  have hs := RwSt.below h (((Below.refl W.heap.size W).alloc (Nat.le_refl _) (.cells #[.int .i64 0, .int .i64 0, .int .i64 0, .int .i64 0, .string ⟨#[]⟩] 50)).alloc (by simp) (.cells #[.int .i64 0, .int .i64 0, .int .i64 0, .int .i64 0, .string ⟨#[]⟩] 50))
  refine ⟨hs.at_, hs.grown, ?_, ?_⟩
  · rw [heap_alloc_old _ _ (by rw [e2]; omega)]
    exact heap_alloc_new _ _
  · rw [← e2]
    exact heap_alloc_new _ _
theorem RvSt.cell {W0 W : World} {rb : Nat} {r : List UInt8} {vs : Array Value} (h : RvSt W0 W rb r vs) (i : Nat) : W.cell? ⟨W0.heap.size + 1, i, none⟩ = vs[i]? := by simp [World.cell?, h.box]
theorem RvSt.frozen {W0 W : World} {rb : Nat} {r : List UInt8} {vs : Array Value} (h : RvSt W0 W rb r vs) (i : Nat) : W.frozen? ⟨W0.heap.size + 1, i, none⟩ = false := by simp [World.frozen?, h.box]
theorem RvSt.rcell {W0 W : World} {rb : Nat} {r : List UInt8} {vs : Array Value} (h : RvSt W0 W rb r vs) (i : Nat) : W.cell? ⟨W0.heap.size, i, none⟩ = (#[.int .i64 0, .int .i64 0, .int .i64 0, .int .i64 0, .string ⟨#[]⟩] : Array Value)[i]? := by simp [World.cell?, h.res]
theorem RvSt.rfrozen {W0 W : World} {rb : Nat} {r : List UInt8} {vs : Array Value} (h : RvSt W0 W rb r vs) (i : Nat) : W.frozen? ⟨W0.heap.size, i, none⟩ = false := by simp [World.frozen?, h.res]
set_option maxRecDepth 10000 in
set_option maxHeartbeats 4000000 in
theorem wrver_any (ad : Nat → Addr) (rb : Nat) (r : List UInt8) (w : World) (h : RwAt w rb r) (hS : SentR w rb ad) :
    Calls Tryd.prog 40 #[.pointer (some ⟨rb, 0, none⟩)] w fun e w' => RdO ad w rb ((oV r).map verV) e w' := by
  have hrb : rb < w.heap.size := (Array.getElem?_eq_some_iff.1 h).1
  have HNN : Hid (∀ q W vs, RvSt w W rb q vs → oN q = none → Calls Tryd.prog 38 #[.pointer (some ⟨rb, 0, none⟩)] W fun e w' => e = thrown (errT ad) ∧ w.grownBy w' (some rb)) := fun q W vs hW hq => by
    have h1 := wrnum_any ad rb q W hW.at_ (hS.go hW.grown)
    rw [hq] at h1
    exact h1.mono fun e w' hp => ⟨hp.1, grown_trans hW.grown hp.2⟩
  have HNS : Hid (∀ q n q' W vs, RvSt w W rb q vs → oN q = some (n, q') → Calls Tryd.prog 38 #[.pointer (some ⟨rb, 0, none⟩)] W fun e w' => e = .returned (.int .i64 (n : Int)) ∧ RvSt w w' rb q' vs) := fun q n q' W vs hW hq => by
    have h1 := wrnum_any ad rb q W hW.at_ (hS.go hW.grown)
    rw [hq] at h1
    exact h1.mono fun e w' hp => ⟨hp.1, hW.rd hp.2 hrb⟩
  have HTN : Hid (∀ q W vs, RvSt w W rb q vs → oT q = none → Calls Tryd.prog 37 #[.pointer (some ⟨rb, 0, none⟩)] W fun e w' => e = thrown (errT ad) ∧ w.grownBy w' (some rb)) := fun q W vs hW hq => by
    have h1 := wrtext_any ad rb q W hW.at_ (hS.go hW.grown)
    rw [hq] at h1
    exact h1.mono fun e w' hp => ⟨hp.1, grown_trans hW.grown hp.2⟩
  have HTS : Hid (∀ q s q' W vs, RvSt w W rb q vs → oT q = some (s, q') → Calls Tryd.prog 37 #[.pointer (some ⟨rb, 0, none⟩)] W fun e w' => e = .returned (.string s) ∧ RvSt w w' rb q' vs) := fun q s q' W vs hW hq => by
    have h1 := wrtext_any ad rb q W hW.at_ (hS.go hW.grown)
    rw [hq] at h1
    exact h1.mono fun e w' hp => ⟨hp.1, hW.rd hp.2 hrb⟩
  have HSET : Hid (∀ W q vs, RvSt w W rb q vs → ∀ i v, RvSt w (W.setCell ⟨w.heap.size + 1, i, none⟩ v) rb q (vs.setIfInBounds i v)) := fun W q vs hW i v => hW.set hrb i v
  have HV0 : Hid (RvSt w ((w.alloc (.cells #[.int .i64 0, .int .i64 0, .int .i64 0, .int .i64 0, .string ⟨#[]⟩] 50)).alloc (.cells #[.int .i64 0, .int .i64 0, .int .i64 0, .int .i64 0, .string ⟨#[]⟩] 50)) rb r #[.int .i64 0, .int .i64 0, .int .i64 0, .int .i64 0, .string ⟨#[]⟩]) := RvSt.start h
  have HRB : Hid (rb < w.heap.size) := hrb
  clear h hS hrb
  unfold oV
  cases hq0 : oN r with
  | none =>
    have HQ0 : Hid (oN r = none) := hq0
    simp only [Option.bind_none, Option.map_none]
    clear hq0
    go_enter Tryd.func40, Tryd.ntmps40
    go_wp2_with fail
    refine (HNN.out _ _ _ HV0.out HQ0.out).mono ?_
    rintro e w1 ⟨rfl, h1⟩
    unfold thrown
    go_wp2
    exact ⟨rfl, rfl, h1⟩
  | some y =>
    obtain ⟨x0, q1⟩ := y
    have HQ0 : Hid (oN r = some (x0, q1)) := hq0
    simp only [Option.bind_some]
    clear hq0
    cases hq1 : oN q1 with
    | none =>
      have HQ1 : Hid (oN q1 = none) := hq1
      simp only [Option.bind_none, Option.map_none]
      clear hq1
      go_enter Tryd.func40, Tryd.ntmps40
      go_wp2_with fail
      refine (HNS.out _ _ _ _ _ HV0.out HQ0.out).mono ?_
      rintro e w1 ⟨rfl, h1⟩
      have vq0 : w1.cell? ⟨w.heap.size + 1, 0, none⟩ = some (.int .i64 0) := (h1.cell 0).trans rfl
      have vg0 := h1.frozen 0
      have HV1 : Hid (RvSt w (w1.setCell ⟨w.heap.size + 1, 0, none⟩ (.int .i64 (x0 : Int))) rb q1 #[.int .i64 (x0 : Int), .int .i64 0, .int .i64 0, .int .i64 0, .string ⟨#[]⟩]) := HSET.out _ _ _ h1 0 _
      clear h1 HV0
      go_wp2_with fail
      refine (HNN.out _ _ _ HV1.out HQ1.out).mono ?_
      rintro e w2 ⟨rfl, h2⟩
      unfold thrown
      go_wp2
      exact ⟨rfl, rfl, h2⟩
    | some y =>
      obtain ⟨x1, q2⟩ := y
      have HQ1 : Hid (oN q1 = some (x1, q2)) := hq1
      simp only [Option.bind_some]
      clear hq1
      cases hq2 : oN q2 with
      | none =>
        have HQ2 : Hid (oN q2 = none) := hq2
        simp only [Option.bind_none, Option.map_none]
        clear hq2
        go_enter Tryd.func40, Tryd.ntmps40
        go_wp2_with fail
        refine (HNS.out _ _ _ _ _ HV0.out HQ0.out).mono ?_
        rintro e w1 ⟨rfl, h1⟩
        have vq0 : w1.cell? ⟨w.heap.size + 1, 0, none⟩ = some (.int .i64 0) := (h1.cell 0).trans rfl
        have vg0 := h1.frozen 0
        have HV1 : Hid (RvSt w (w1.setCell ⟨w.heap.size + 1, 0, none⟩ (.int .i64 (x0 : Int))) rb q1 #[.int .i64 (x0 : Int), .int .i64 0, .int .i64 0, .int .i64 0, .string ⟨#[]⟩]) := HSET.out _ _ _ h1 0 _
        clear h1 HV0
        go_wp2_with fail
        clear vq0 vg0
        refine (HNS.out _ _ _ _ _ HV1.out HQ1.out).mono ?_
        rintro e w2 ⟨rfl, h2⟩
        have vq1 : w2.cell? ⟨w.heap.size + 1, 1, none⟩ = some (.int .i64 0) := (h2.cell 1).trans rfl
        have vg1 := h2.frozen 1
        have HV2 : Hid (RvSt w (w2.setCell ⟨w.heap.size + 1, 1, none⟩ (.int .i64 (x1 : Int))) rb q2 #[.int .i64 (x0 : Int), .int .i64 (x1 : Int), .int .i64 0, .int .i64 0, .string ⟨#[]⟩]) := HSET.out _ _ _ h2 1 _
        clear h2 HV1
        go_wp2_with fail
        refine (HNN.out _ _ _ HV2.out HQ2.out).mono ?_
        rintro e w3 ⟨rfl, h3⟩
        unfold thrown
        go_wp2
        exact ⟨rfl, rfl, h3⟩
      | some y =>
        obtain ⟨x2, q3⟩ := y
        have HQ2 : Hid (oN q2 = some (x2, q3)) := hq2
        simp only [Option.bind_some]
        clear hq2
        cases hq3 : oN q3 with
        | none =>
          have HQ3 : Hid (oN q3 = none) := hq3
          simp only [Option.bind_none, Option.map_none]
          clear hq3
          go_enter Tryd.func40, Tryd.ntmps40
          go_wp2_with fail
          refine (HNS.out _ _ _ _ _ HV0.out HQ0.out).mono ?_
          rintro e w1 ⟨rfl, h1⟩
          have vq0 : w1.cell? ⟨w.heap.size + 1, 0, none⟩ = some (.int .i64 0) := (h1.cell 0).trans rfl
          have vg0 := h1.frozen 0
          have HV1 : Hid (RvSt w (w1.setCell ⟨w.heap.size + 1, 0, none⟩ (.int .i64 (x0 : Int))) rb q1 #[.int .i64 (x0 : Int), .int .i64 0, .int .i64 0, .int .i64 0, .string ⟨#[]⟩]) := HSET.out _ _ _ h1 0 _
          clear h1 HV0
          go_wp2_with fail
          clear vq0 vg0
          refine (HNS.out _ _ _ _ _ HV1.out HQ1.out).mono ?_
          rintro e w2 ⟨rfl, h2⟩
          have vq1 : w2.cell? ⟨w.heap.size + 1, 1, none⟩ = some (.int .i64 0) := (h2.cell 1).trans rfl
          have vg1 := h2.frozen 1
          have HV2 : Hid (RvSt w (w2.setCell ⟨w.heap.size + 1, 1, none⟩ (.int .i64 (x1 : Int))) rb q2 #[.int .i64 (x0 : Int), .int .i64 (x1 : Int), .int .i64 0, .int .i64 0, .string ⟨#[]⟩]) := HSET.out _ _ _ h2 1 _
          clear h2 HV1
          go_wp2_with fail
          clear vq1 vg1
          refine (HNS.out _ _ _ _ _ HV2.out HQ2.out).mono ?_
          rintro e w3 ⟨rfl, h3⟩
          have vq2 : w3.cell? ⟨w.heap.size + 1, 2, none⟩ = some (.int .i64 0) := (h3.cell 2).trans rfl
          have vg2 := h3.frozen 2
          have HV3 : Hid (RvSt w (w3.setCell ⟨w.heap.size + 1, 2, none⟩ (.int .i64 (x2 : Int))) rb q3 #[.int .i64 (x0 : Int), .int .i64 (x1 : Int), .int .i64 (x2 : Int), .int .i64 0, .string ⟨#[]⟩]) := HSET.out _ _ _ h3 2 _
          clear h3 HV2
          go_wp2_with fail
          refine (HNN.out _ _ _ HV3.out HQ3.out).mono ?_
          rintro e w4 ⟨rfl, h4⟩
          unfold thrown
          go_wp2
          exact ⟨rfl, rfl, h4⟩
        | some y =>
          obtain ⟨x3, q4⟩ := y
          have HQ3 : Hid (oN q3 = some (x3, q4)) := hq3
          simp only [Option.bind_some]
          clear hq3
          cases hq4 : oT q4 with
          | none =>
            have HQ4 : Hid (oT q4 = none) := hq4
            simp only [Option.map_none]
            clear hq4
            go_enter Tryd.func40, Tryd.ntmps40
            go_wp2_with fail
            refine (HNS.out _ _ _ _ _ HV0.out HQ0.out).mono ?_
            rintro e w1 ⟨rfl, h1⟩
            have vq0 : w1.cell? ⟨w.heap.size + 1, 0, none⟩ = some (.int .i64 0) := (h1.cell 0).trans rfl
            have vg0 := h1.frozen 0
            have HV1 : Hid (RvSt w (w1.setCell ⟨w.heap.size + 1, 0, none⟩ (.int .i64 (x0 : Int))) rb q1 #[.int .i64 (x0 : Int), .int .i64 0, .int .i64 0, .int .i64 0, .string ⟨#[]⟩]) := HSET.out _ _ _ h1 0 _
            clear h1 HV0
            go_wp2_with fail
            clear vq0 vg0
            refine (HNS.out _ _ _ _ _ HV1.out HQ1.out).mono ?_
            rintro e w2 ⟨rfl, h2⟩
            have vq1 : w2.cell? ⟨w.heap.size + 1, 1, none⟩ = some (.int .i64 0) := (h2.cell 1).trans rfl
            have vg1 := h2.frozen 1
            have HV2 : Hid (RvSt w (w2.setCell ⟨w.heap.size + 1, 1, none⟩ (.int .i64 (x1 : Int))) rb q2 #[.int .i64 (x0 : Int), .int .i64 (x1 : Int), .int .i64 0, .int .i64 0, .string ⟨#[]⟩]) := HSET.out _ _ _ h2 1 _
            clear h2 HV1
            go_wp2_with fail
            clear vq1 vg1
            refine (HNS.out _ _ _ _ _ HV2.out HQ2.out).mono ?_
            rintro e w3 ⟨rfl, h3⟩
            have vq2 : w3.cell? ⟨w.heap.size + 1, 2, none⟩ = some (.int .i64 0) := (h3.cell 2).trans rfl
            have vg2 := h3.frozen 2
            have HV3 : Hid (RvSt w (w3.setCell ⟨w.heap.size + 1, 2, none⟩ (.int .i64 (x2 : Int))) rb q3 #[.int .i64 (x0 : Int), .int .i64 (x1 : Int), .int .i64 (x2 : Int), .int .i64 0, .string ⟨#[]⟩]) := HSET.out _ _ _ h3 2 _
            clear h3 HV2
            go_wp2_with fail
            clear vq2 vg2
            refine (HNS.out _ _ _ _ _ HV3.out HQ3.out).mono ?_
            rintro e w4 ⟨rfl, h4⟩
            have vq3 : w4.cell? ⟨w.heap.size + 1, 3, none⟩ = some (.int .i64 0) := (h4.cell 3).trans rfl
            have vg3 := h4.frozen 3
            have HV4 : Hid (RvSt w (w4.setCell ⟨w.heap.size + 1, 3, none⟩ (.int .i64 (x3 : Int))) rb q4 #[.int .i64 (x0 : Int), .int .i64 (x1 : Int), .int .i64 (x2 : Int), .int .i64 (x3 : Int), .string ⟨#[]⟩]) := HSET.out _ _ _ h4 3 _
            clear h4 HV3
            go_wp2_with fail
            refine (HTN.out _ _ _ HV4.out HQ4.out).mono ?_
            rintro e w5 ⟨rfl, h5⟩
            unfold thrown
            go_wp2
            exact ⟨rfl, rfl, h5⟩
          | some y =>
            obtain ⟨x4, q5⟩ := y
            have HQ4 : Hid (oT q4 = some (x4, q5)) := hq4
            simp only [Option.map_some]
            clear hq4
            go_enter Tryd.func40, Tryd.ntmps40
            go_wp2_with fail
            refine (HNS.out _ _ _ _ _ HV0.out HQ0.out).mono ?_
            rintro e w1 ⟨rfl, h1⟩
            have vq0 : w1.cell? ⟨w.heap.size + 1, 0, none⟩ = some (.int .i64 0) := (h1.cell 0).trans rfl
            have vg0 := h1.frozen 0
            have HV1 : Hid (RvSt w (w1.setCell ⟨w.heap.size + 1, 0, none⟩ (.int .i64 (x0 : Int))) rb q1 #[.int .i64 (x0 : Int), .int .i64 0, .int .i64 0, .int .i64 0, .string ⟨#[]⟩]) := HSET.out _ _ _ h1 0 _
            clear h1 HV0
            go_wp2_with fail
            clear vq0 vg0
            refine (HNS.out _ _ _ _ _ HV1.out HQ1.out).mono ?_
            rintro e w2 ⟨rfl, h2⟩
            have vq1 : w2.cell? ⟨w.heap.size + 1, 1, none⟩ = some (.int .i64 0) := (h2.cell 1).trans rfl
            have vg1 := h2.frozen 1
            have HV2 : Hid (RvSt w (w2.setCell ⟨w.heap.size + 1, 1, none⟩ (.int .i64 (x1 : Int))) rb q2 #[.int .i64 (x0 : Int), .int .i64 (x1 : Int), .int .i64 0, .int .i64 0, .string ⟨#[]⟩]) := HSET.out _ _ _ h2 1 _
            clear h2 HV1
            go_wp2_with fail
            clear vq1 vg1
            refine (HNS.out _ _ _ _ _ HV2.out HQ2.out).mono ?_
            rintro e w3 ⟨rfl, h3⟩
            have vq2 : w3.cell? ⟨w.heap.size + 1, 2, none⟩ = some (.int .i64 0) := (h3.cell 2).trans rfl
            have vg2 := h3.frozen 2
            have HV3 : Hid (RvSt w (w3.setCell ⟨w.heap.size + 1, 2, none⟩ (.int .i64 (x2 : Int))) rb q3 #[.int .i64 (x0 : Int), .int .i64 (x1 : Int), .int .i64 (x2 : Int), .int .i64 0, .string ⟨#[]⟩]) := HSET.out _ _ _ h3 2 _
            clear h3 HV2
            go_wp2_with fail
            clear vq2 vg2
            refine (HNS.out _ _ _ _ _ HV3.out HQ3.out).mono ?_
            rintro e w4 ⟨rfl, h4⟩
            have vq3 : w4.cell? ⟨w.heap.size + 1, 3, none⟩ = some (.int .i64 0) := (h4.cell 3).trans rfl
            have vg3 := h4.frozen 3
            have HV4 : Hid (RvSt w (w4.setCell ⟨w.heap.size + 1, 3, none⟩ (.int .i64 (x3 : Int))) rb q4 #[.int .i64 (x0 : Int), .int .i64 (x1 : Int), .int .i64 (x2 : Int), .int .i64 (x3 : Int), .string ⟨#[]⟩]) := HSET.out _ _ _ h4 3 _
            clear h4 HV3
            go_wp2_with fail
            clear vq3 vg3
            refine (HTS.out _ _ _ _ _ HV4.out HQ4.out).mono ?_
            rintro e w5 ⟨rfl, h5⟩
            have vq4 : w5.cell? ⟨w.heap.size + 1, 4, none⟩ = some (.string ⟨#[]⟩) := (h5.cell 4).trans rfl
            have vg4 := h5.frozen 4
            have HV5 : Hid (RvSt w (w5.setCell ⟨w.heap.size + 1, 4, none⟩ (.string x4)) rb q5 #[.int .i64 (x0 : Int), .int .i64 (x1 : Int), .int .i64 (x2 : Int), .int .i64 (x3 : Int), .string x4]) := HSET.out _ _ _ h5 4 _
            clear h5 HV4
            have p0 : (w5.setCell ⟨w.heap.size + 1, 4, none⟩ (.string x4)).cell? ⟨w.heap.size + 1, 0, none⟩ = some (.int .i64 (x0 : Int)) := (HV5.out.cell 0).trans rfl
            have p1 : (w5.setCell ⟨w.heap.size + 1, 4, none⟩ (.string x4)).cell? ⟨w.heap.size + 1, 1, none⟩ = some (.int .i64 (x1 : Int)) := (HV5.out.cell 1).trans rfl
            have p2 : (w5.setCell ⟨w.heap.size + 1, 4, none⟩ (.string x4)).cell? ⟨w.heap.size + 1, 2, none⟩ = some (.int .i64 (x2 : Int)) := (HV5.out.cell 2).trans rfl
            have p3 : (w5.setCell ⟨w.heap.size + 1, 4, none⟩ (.string x4)).cell? ⟨w.heap.size + 1, 3, none⟩ = some (.int .i64 (x3 : Int)) := (HV5.out.cell 3).trans rfl
            have p4 : (w5.setCell ⟨w.heap.size + 1, 4, none⟩ (.string x4)).cell? ⟨w.heap.size + 1, 4, none⟩ = some (.string x4) := (HV5.out.cell 4).trans rfl
            have z0 : (w5.setCell ⟨w.heap.size + 1, 4, none⟩ (.string x4)).cell? ⟨w.heap.size, 0, none⟩ = some (.int .i64 0) := (HV5.out.rcell 0).trans rfl
            have z1 : (w5.setCell ⟨w.heap.size + 1, 4, none⟩ (.string x4)).cell? ⟨w.heap.size, 1, none⟩ = some (.int .i64 0) := (HV5.out.rcell 1).trans rfl
            have z2 : (w5.setCell ⟨w.heap.size + 1, 4, none⟩ (.string x4)).cell? ⟨w.heap.size, 2, none⟩ = some (.int .i64 0) := (HV5.out.rcell 2).trans rfl
            have z3 : (w5.setCell ⟨w.heap.size + 1, 4, none⟩ (.string x4)).cell? ⟨w.heap.size, 3, none⟩ = some (.int .i64 0) := (HV5.out.rcell 3).trans rfl
            have z4 : (w5.setCell ⟨w.heap.size + 1, 4, none⟩ (.string x4)).cell? ⟨w.heap.size, 4, none⟩ = some (.string ⟨#[]⟩) := (HV5.out.rcell 4).trans rfl
            have z5 : ∀ i, (w5.setCell ⟨w.heap.size + 1, 4, none⟩ (.string x4)).frozen? ⟨w.heap.size, i, none⟩ = false := fun i => HV5.out.rfrozen i
            generalize hW : (w5.setCell ⟨w.heap.size + 1, 4, none⟩ (.string x4)) = W5 at *
            have HV : Hid (RvSt w W5 rb q5 #[.int .i64 (x0 : Int), .int .i64 (x1 : Int), .int .i64 (x2 : Int), .int .i64 (x3 : Int), .string x4]) := HV5.out
            clear HV5
            go_wp2_with fail
            refine bodyPost_ret (v := .agg #[.int .i64 (x0 : Int), .int .i64 (x1 : Int), .int .i64 (x2 : Int), .int .i64 (x3 : Int), .string x4]) (by simp [results, Tryd.results40, go_sem, z0, z1, z2, z3, z4]) rfl ⟨rfl, ?_⟩
            have hlt := HRB.out
            have h0 : RwSt w W5 rb q5 := ⟨HV.out.at_, HV.out.grown⟩
            exact ((((h0.setNew (Nat.le_refl _) (by omega) _ _).setNew (Nat.le_refl _) (by omega) _ _).setNew (Nat.le_refl _) (by omega) _ _).setNew (Nat.le_refl _) (by omega) _ _).setNew (Nat.le_refl _) (by omega) _ _
end Go.Proofs.YteppmkpckdmnaaaDoor
/- Package wire: what is read of a message, step by step. -/
namespace Go.Proofs.YteppmkpckdmnaaaDoor
open Go.RowKit
/-- Versions that are read, or none. -/
def oM : Nat → List UInt8 → Option (List Ver × List UInt8)
  | 0, r => some ([], r)
  | k + 1, r => (oV r).bind fun v => (oM k v.2).map fun x => (v.1 :: x.1, x.2)
/-- A message that is read, or none. -/
def oMsg (r : List UInt8) : Option Msg :=
  (oT r).bind fun f => (oT f.2).bind fun t => (oT t.2).bind fun k => (oT k.2).bind fun y => (oN y.2).bind fun o => (oN o.2).bind fun c => (oF c.2).bind fun s => (oN s.2).bind fun n => (oM n.1 n.2).bind fun l =>
    if l.2 = [] then some ⟨f.1, t.1, k.1, y.1, o.1, c.1, s.1, l.1⟩ else none
theorem rdN_stop (r : List UInt8) : (rdN r true).2.2 = true := by unfold rdN; rw [if_pos (Or.inl rfl)]
theorem rdT_stop (r : List UInt8) : (rdT r true).2.2 = true := by unfold rdT; rw [if_pos (Or.inl (rdN_stop r))]
theorem flag_of {α : Type} (x : α × List UInt8 × Bool) (h : x.2.2 = true) : x = (x.1, x.2.1, true) := by rw [← h]
theorem rdV_eq {r : List UInt8} {n w s a : Nat × List UInt8 × Bool} {t : ByteArray × List UInt8 × Bool} (h1 : rdN r false = n) (h2 : rdN n.2.1 n.2.2 = w) (h3 : rdN w.2.1 w.2.2 = s) (h4 : rdN s.2.1 s.2.2 = a) (h5 : rdT a.2.1 a.2.2 = t) : rdV r false = (⟨n.1, w.1, s.1, a.1, t.1⟩, t.2.1, t.2.2) := by
  subst h1 h2 h3 h4 h5
  rfl
theorem oV_eq (r : List UInt8) : oV r = if (rdV r false).2.2 = true then none else some ((rdV r false).1, (rdV r false).2.1) := by
  unfold oV
  cases h0 : oN r with
  | none =>
    have e : (rdV r false).2.2 = true := by
      unfold rdV
      simp only []
      rw [oN_none h0, rdN_stop, rdN_stop, rdN_stop, rdT_stop]
    rw [if_pos e]; rfl
  | some x0 =>
  have e0 := oN_some h0
  simp only [Option.bind_some]
  cases h1 : oN x0.2 with
  | none =>
    have e : (rdV r false).2.2 = true := by
      unfold rdV
      simp only []
      rw [e0]
      simp only []
      rw [oN_none h1, rdN_stop, rdN_stop, rdT_stop]
    rw [if_pos e]; rfl
  | some x1 =>
  have e1 := oN_some h1
  simp only [Option.bind_some]
  cases h2 : oN x1.2 with
  | none =>
    have e : (rdV r false).2.2 = true := by
      unfold rdV
      simp only []
      rw [e0]
      simp only []
      rw [e1]
      simp only []
      rw [oN_none h2, rdN_stop, rdT_stop]
    rw [if_pos e]; rfl
  | some x2 =>
  have e2 := oN_some h2
  simp only [Option.bind_some]
  cases h3 : oN x2.2 with
  | none =>
    have e : (rdV r false).2.2 = true := by
      unfold rdV
      simp only []
      rw [e0]
      simp only []
      rw [e1]
      simp only []
      rw [e2]
      simp only []
      rw [oN_none h3, rdT_stop]
    rw [if_pos e]; rfl
  | some x3 =>
  have e3 := oN_some h3
  simp only [Option.bind_some]
  cases h4 : oT x3.2 with
  | none =>
    have e : (rdV r false).2.2 = true := by
      unfold rdV
      simp only []
      rw [e0]
      simp only []
      rw [e1]
      simp only []
      rw [e2]
      simp only []
      rw [e3]
      simp only []
      rw [oT_none h4]
    rw [if_pos e]; rfl
  | some x4 =>
    have e4 := oT_some h4
    rw [rdV_eq e0 e1 e2 e3 e4]
    rfl
theorem oV_some {r : List UInt8} {v : Ver} {r' : List UInt8} (h : oV r = some (v, r')) : rdV r false = (v, r', false) := by
  rw [oV_eq] at h
  split at h
  · cases h
  · rename_i hb
    have e := Option.some.inj h
    have hb' : (rdV r false).2.2 = false := by simpa using hb
    rw [← (Prod.mk.inj e).1, ← (Prod.mk.inj e).2]
    generalize rdV r false = x at *
    obtain ⟨x1, x2, x3⟩ := x
    simp only [] at hb'
    rw [hb']
theorem oV_none {r : List UInt8} (h : oV r = none) : (rdV r false).2.2 = true := by
  rw [oV_eq] at h
  split at h
  · assumption
  · cases h
theorem oV_len {r : List UInt8} {v : Ver} {r' : List UInt8} (h : oV r = some (v, r')) : r'.length + 40 ≤ r.length := by
  have e := oV_some h
  have h1 := rdV_len (r := r) (b := false) (by rw [e])
  rw [e] at h1
  exact h1
theorem oM_eq : ∀ (k : Nat) (r : List UInt8), oM k r = if (rdM k r false).2.2 = true then none else some ((rdM k r false).1, (rdM k r false).2.1)
  | 0, r => rfl
  | k + 1, r => by
    rw [rdM_go]
    unfold oM
    cases h : oV r with
    | none =>
      rw [oV_none h, rdM_stop, if_pos rfl]
      rfl
    | some x =>
      rw [oV_some h]
      simp only [Option.bind_some]
      rw [oM_eq k x.2]
      cases hb : (rdM k x.2 false).2.2 with
      | true => rw [if_pos rfl, if_pos rfl]; rfl
      | false => rw [if_neg (by decide), if_neg (by decide)]; rfl
theorem unF_eq {r : List UInt8} {f t k y : ByteArray × List UInt8 × Bool} {o c s n : Nat × List UInt8 × Bool} (h1 : rdT r false = f) (h2 : rdT f.2.1 f.2.2 = t) (h3 : rdT t.2.1 t.2.2 = k) (h4 : rdT k.2.1 k.2.2 = y) (h5 : rdN y.2.1 y.2.2 = o) (h6 : rdN o.2.1 o.2.2 = c) (h7 : rdN c.2.1 c.2.2 = s) (h8 : rdN s.2.1 s.2.2 = n) :
    unF r = if (rdM n.1 n.2.1 n.2.2).2.2 = true ∨ (rdM n.1 n.2.1 n.2.2).2.1 ≠ [] ∨ 1 < s.1 then none else some ⟨f.1, t.1, k.1, y.1, o.1, c.1, decide (s.1 = 1), (rdM n.1 n.2.1 n.2.2).1⟩ := by
  subst h1 h2 h3 h4 h5 h6 h7 h8
  rfl
theorem unF_bad {r : List UInt8} {f t k y : ByteArray × List UInt8 × Bool} {o c s n : Nat × List UInt8 × Bool} (h1 : rdT r false = f) (h2 : rdT f.2.1 f.2.2 = t) (h3 : rdT t.2.1 t.2.2 = k) (h4 : rdT k.2.1 k.2.2 = y) (h5 : rdN y.2.1 y.2.2 = o) (h6 : rdN o.2.1 o.2.2 = c) (h7 : rdN c.2.1 c.2.2 = s) (h8 : rdN s.2.1 s.2.2 = n) (hb : n.2.2 = true) : unF r = none := by
  rw [unF_eq h1 h2 h3 h4 h5 h6 h7 h8, hb, rdM_stop, if_pos (Or.inl rfl)]
theorem tStop {x : ByteArray × List UInt8 × Bool} (h : x.2.2 = true) : (rdT x.2.1 x.2.2).2.2 = true := by rw [h]; exact rdT_stop _
theorem tnStop {x : ByteArray × List UInt8 × Bool} (h : x.2.2 = true) : (rdN x.2.1 x.2.2).2.2 = true := by rw [h]; exact rdN_stop _
theorem nStop {x : Nat × List UInt8 × Bool} (h : x.2.2 = true) : (rdN x.2.1 x.2.2).2.2 = true := by rw [h]; exact rdN_stop _
/-- The document's reading and the program's: the same. -/
theorem oMsg_eq (r : List UInt8) : oMsg r = unF r := by
  unfold oMsg
  cases h0 : oT r with
  | none => exact (unF_bad rfl rfl rfl rfl rfl rfl rfl rfl (nStop (nStop (nStop (tnStop (tStop (tStop (tStop (oT_none h0))))))))).symm
  | some x0 =>
  have e0 := oT_some h0
  simp only [Option.bind_some]
  cases h1 : oT x0.2 with
  | none => exact (unF_bad e0 rfl rfl rfl rfl rfl rfl rfl (nStop (nStop (nStop (tnStop (tStop (tStop (oT_none h1)))))))).symm
  | some x1 =>
  have e1 := oT_some h1
  simp only [Option.bind_some]
  cases h2 : oT x1.2 with
  | none => exact (unF_bad e0 e1 rfl rfl rfl rfl rfl rfl (nStop (nStop (nStop (tnStop (tStop (oT_none h2))))))).symm
  | some x2 =>
  have e2 := oT_some h2
  simp only [Option.bind_some]
  cases h3 : oT x2.2 with
  | none => exact (unF_bad e0 e1 e2 rfl rfl rfl rfl rfl (nStop (nStop (nStop (tnStop (oT_none h3)))))).symm
  | some x3 =>
  have e3 := oT_some h3
  simp only [Option.bind_some]
  cases h4 : oN x3.2 with
  | none => exact (unF_bad e0 e1 e2 e3 rfl rfl rfl rfl (nStop (nStop (nStop (oN_none h4))))).symm
  | some x4 =>
  have e4 := oN_some h4
  simp only [Option.bind_some]
  cases h5 : oN x4.2 with
  | none => exact (unF_bad e0 e1 e2 e3 e4 rfl rfl rfl (nStop (nStop (oN_none h5)))).symm
  | some x5 =>
  have e5 := oN_some h5
  simp only [Option.bind_some]
  unfold oF
  cases h6 : oN x5.2 with
  | none => exact (unF_bad e0 e1 e2 e3 e4 e5 rfl rfl (nStop (oN_none h6))).symm
  | some x6 =>
  have e6 := oN_some h6
  simp only [Option.bind_some]
  by_cases hs : 1 < x6.1
  · rw [if_pos hs, unF_eq e0 e1 e2 e3 e4 e5 e6 rfl, if_pos (Or.inr (Or.inr hs))]
    rfl
  rw [if_neg hs]
  simp only [Option.bind_some]
  cases h7 : oN x6.2 with
  | none => exact (unF_bad e0 e1 e2 e3 e4 e5 e6 rfl (oN_none h7)).symm
  | some x7 =>
  have e7 := oN_some h7
  rw [unF_eq e0 e1 e2 e3 e4 e5 e6 e7]
  simp only [Option.bind_some]
  rw [oM_eq]
  cases hb : (rdM x7.1 x7.2 false).2.2 with
  | true => rw [if_pos rfl, if_pos (Or.inl rfl)]; rfl
  | false =>
    rw [if_neg (by decide)]
    simp only [Option.bind_some]
    by_cases hr : (rdM x7.1 x7.2 false).2.1 = []
    · rw [if_pos hr, if_neg (by rintro (h | h | h); cases h; exact h hr; exact hs h)]
    · rw [if_neg hr, if_pos (Or.inr (Or.inl hr))]
end Go.Proofs.YteppmkpckdmnaaaDoor
