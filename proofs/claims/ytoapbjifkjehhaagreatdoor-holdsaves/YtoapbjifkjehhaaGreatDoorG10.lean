/- Package hold: the reader of what is written: numbers, texts, versions. -/
import Derived.Test.YtoapbjifkjehhaaGreatDoorG4
import Derived.Test.YtoapbjifkjehhaaGreatDoorG9
import Derived.Test.YtoapbjifkjehhaaGreatDoorHdTrimW
import Derived.Test.YtoapbjifkjehhaaGreatDoorHdPutW
import Derived.BigQuiet
namespace Go.Proofs.YtoapbjifkjehhaaGreatDoor
open Go.RowKit
/-- The reader at block rb has r left to read, and has failed or not. -/
def RdAt (w : World) (rb : Nat) (r : ByteArray) (f : Bool) : Prop := w.heap[rb]? = some (.cells #[.string r, .bool f] 88 (0, 0))
theorem RdAt.cells {w : World} {rb : Nat} {r : ByteArray} {f : Bool} (h : RdAt w rb r f) : w.cell? ⟨rb, 0, none⟩ = some (.string r) ∧ w.cell? ⟨rb, 1, none⟩ = some (.bool f) ∧ w.frozen? ⟨rb, 0, none⟩ = false ∧ w.frozen? ⟨rb, 1, none⟩ = false := by
  unfold RdAt at h
  exact ⟨by simp [World.cell?, h], by simp [World.cell?, h], by simp [World.frozen?, h], by simp [World.frozen?, h]⟩
/-- From w to w' nothing that was there has turned but the reader. -/
structure RdSt (w w' : World) (rb : Nat) (r : ByteArray) (f : Bool) : Prop where
  at_ : RdAt w' rb r f
  grown : w.grownBy w' (some rb)
theorem RdSt.trans {w w' w'' : World} {rb : Nat} {r r' : ByteArray} {f f' : Bool} (h1 : RdSt w w' rb r f) (h2 : RdSt w' w'' rb r' f') : RdSt w w'' rb r' f' := ⟨h2.at_, h2.grown.os.trans h1.grown.os, h2.grown.tape.trans h1.grown.tape, h2.grown.output.trans h1.grown.output, Nat.le_trans h1.grown.size h2.grown.size, fun k hk hne => (h2.grown.block k (Nat.lt_of_lt_of_le hk h1.grown.size) hne).trans (h1.grown.block k hk hne)⟩
theorem RdSt.low {w0 w w' : World} {B rb : Nat} {r : ByteArray} {f : Bool} (h : RdSt w w' rb r f) (hw0 : Below B w0 w) (hB : B ≤ w.heap.size) (hrb : B ≤ rb) : Below B w0 w' := hw0.trans ⟨h.grown.os, h.grown.tape, h.grown.output, h.grown.size, fun k hk => h.grown.block k (by omega) (fun e => by injection e with e; omega)⟩
theorem RdSt.below {w w' : World} {rb : Nat} {r : ByteArray} {f : Bool} (h : RdAt w rb r f) (hb : Below w.heap.size w w') : RdSt w w' rb r f := ⟨(hb.block rb (Array.getElem?_eq_some_iff.1 h).1).trans h, hb.os, hb.tape, hb.output, hb.size, fun k hk _ => hb.block k hk⟩
theorem rd_set0 {w : World} {rb : Nat} {r r' : ByteArray} {f : Bool} (h : RdAt w rb r f) : RdSt w (w.setCell ⟨rb, 0, none⟩ (.string r')) rb r' f := ⟨by unfold RdAt; rw [Joins.block_setCell h]; rfl, rfl, rfl, rfl, by simp, fun k _ hne => Deep.blk_setCell_other _ _ _ _ (fun e => hne (by rw [e]))⟩
theorem rd_set1 {w : World} {rb : Nat} {r : ByteArray} {f f' : Bool} (h : RdAt w rb r f) : RdSt w (w.setCell ⟨rb, 1, none⟩ (.bool f')) rb r f' := ⟨by unfold RdAt; rw [Joins.block_setCell h]; rfl, rfl, rfl, rfl, by simp, fun k _ hne => Deep.blk_setCell_other _ _ _ _ (fun e => hne (by rw [e]))⟩
set_option maxRecDepth 10000 in
theorem rfail_any (rb : Nat) (r : ByteArray) (f : Bool) (w : World) (h : RdAt w rb r f) : Calls Tryz.prog 72 #[.pointer (some ⟨rb, 0, none⟩)] w fun e w' => e = .returned (.tuple #[]) ∧ RdSt w w' rb (ofL []) true := by
  obtain ⟨c0, c1, f0, f1⟩ := h.cells
  have HE : Hid (RdSt w ((w.setCell ⟨rb, 0, none⟩ (.string ⟨#[]⟩)).setCell ⟨rb, 1, none⟩ (.bool true)) rb (ofL []) true) := (rd_set0 (r' := ofL []) h).trans (rd_set1 (f' := true) (rd_set0 (r' := ofL []) h).at_)
  clear h
  go_enter Tryz.func72, Tryz.ntmps72
  go_wp2
  go_end0
  exact ⟨rfl, HE.out⟩
theorem numF_ok {r : ByteArray} {f : Bool} {n : Int} (hA : Lib.atoiAll (Lib.cut r.data.toList [58]).1 = .ok n) (hF : (Lib.cut r.data.toList [58]).2.2 = true) : numF r f = (n, ofL (Lib.cut r.data.toList [58]).2.1, f) := by
  unfold numF
  rw [hA]
  simp [hF]
theorem numF_not {r : ByteArray} {f : Bool} {n : Int} (hA : Lib.atoiAll (Lib.cut r.data.toList [58]).1 = .ok n) (hF : (Lib.cut r.data.toList [58]).2.2 = false) : numF r f = (0, ofL [], true) := by
  unfold numF
  rw [hA]
  simp [hF]
theorem numF_bad {r : ByteArray} {f : Bool} (hA : ∀ n, Lib.atoiAll (Lib.cut r.data.toList [58]).1 ≠ .ok n) : numF r f = (0, ofL [], true) := by
  unfold numF
  split
  · rename_i n hn
    exact absurd hn (hA n)
  · rfl
theorem cut_size (l : List UInt8) : (Lib.cut l [58]).1.length ≤ l.length ∧ (Lib.cut l [58]).2.1.length ≤ l.length := by
  unfold Lib.cut
  split
  · simp
    omega
  · simp
theorem atoi_bounds {l : List UInt8} {n : Int} (h : Lib.atoiAll l = .ok n) : -9223372036854775808 ≤ n ∧ n ≤ 9223372036854775807 := Lib.atoiAll_bounds h
set_option maxRecDepth 10000 in
set_option maxHeartbeats 2000000 in
theorem rnum_any (rb : Nat) (r : ByteArray) (f : Bool) (w : World) (hX : LibX w) (h : RdAt w rb r f) (hr : r.size ≤ 1000000) :
    Calls Tryz.prog 45 #[.pointer (some ⟨rb, 0, none⟩)] w fun e w' => e = .returned (.int .i64 (numF r f).1) ∧ RdSt w w' rb (numF r f).2.1 (numF r f).2.2 := by
  obtain ⟨c0, c1, f0, f1⟩ := h.cells
  obtain ⟨mx, hmx⟩ := hX.max
  obtain ⟨t1, p1, hv1⟩ := hX.syn
  obtain ⟨t2, p2, hv2⟩ := hX.rng
  have HCUT : Hid (Calls Tryz.prog 70 #[.string r, .string ⟨#[58]⟩] w fun e w' => e = .returned (.tuple #[.string (ofL (Lib.cut r.data.toList [58]).1), .string (ofL (Lib.cut r.data.toList [58]).2.1), .bool (Lib.cut r.data.toList [58]).2.2]) ∧ ∃ n, w' = w.drewN n) := Tryz.strings_Cut r ⟨#[58]⟩ mx w (by omega) hmx
  have hcs : (ofL (Lib.cut r.data.toList [58]).1).size ≤ 1000000 := by
    rw [ofL_size]
    have := (cut_size r.data.toList).1
    have e : r.data.toList.length = r.size := by simp
    omega
  have hcd : (ofL (Lib.cut r.data.toList [58]).1).data.toList = (Lib.cut r.data.toList [58]).1 := ofL_data _
  have HFL : Hid (∀ W, RdAt W rb r f → Calls Tryz.prog 72 #[.pointer (some ⟨rb, 0, none⟩)] W fun e w' => e = .returned (.tuple #[]) ∧ RdSt W w' rb (ofL []) true) := fun W hW => rfail_any rb r f W hW
  have HAT : Hid (RdAt w rb r f) := h
  cases hA : Lib.atoiAll (Lib.cut r.data.toList [58]).1 with
  | ok n =>
    have hb := atoi_bounds hA
    have HAO : Hid (∀ W, Calls Tryz.prog 71 #[.string (ofL (Lib.cut r.data.toList [58]).1)] W fun e w' => e = .returned (.tuple #[.int .i64 n, .nilIface]) ∧ (w' = W ∨ ∃ t, w' = Lib.bytesWorld W 5 t)) := fun W => Tryz.strconv_Atoi_ok _ (by omega) n (by rw [hcd]; exact hA) W
    cases hF : (Lib.cut r.data.toList [58]).2.2 with
    | true =>
      rw [numF_ok hA hF]
      rw [hF] at HCUT
      generalize ofL (Lib.cut r.data.toList [58]).1 = dg at *
      generalize ofL (Lib.cut r.data.toList [58]).2.1 = rs at *
      clear hX h hA hF hmx hv1 hv2 hcs hcd HFL
      go_enter Tryz.func45, Tryz.ntmps45
      go_wp2_with fail
      refine HCUT.out.mono ?_
      rintro e w1 ⟨rfl, q, hw1⟩
      have hb1 : Below w.heap.size w w1 := by rw [hw1]; exact ⟨rfl, rfl, rfl, Nat.le_refl _, fun _ _ => rfl⟩
      have HS1 : Hid (RdSt w w1 rb r f) := RdSt.below HAT.out hb1
      clear hw1 hb1 HCUT
      go_wp2_with fail
      refine (HAO.out w1).mono ?_
      rintro e w2 ⟨rfl, hw2⟩
      have hb2 : Below w1.heap.size w1 w2 := by
        rcases hw2 with rfl | ⟨t, rfl⟩
        · exact Below.refl _ _
        · exact Joins.below_bytesWorld _ _ _ _ (Nat.le_refl _)
      have HS2 : Hid (RdSt w w2 rb r f) := HS1.out.trans (RdSt.below HS1.out.at_ hb2)
      obtain ⟨k0, k1, g0, g1⟩ := HS2.out.at_.cells
      clear hw2 hb2 HAO c0 c1 f0 f1
      have HE : Hid (RdSt w (w2.setCell ⟨rb, 0, none⟩ (.string rs)) rb rs f) := HS2.out.trans (rd_set0 HS2.out.at_)
      go_wp2
      go_ret
      exact ⟨rfl, HE.out⟩
    | false =>
      rw [numF_not hA hF]
      rw [hF] at HCUT
      generalize ofL (Lib.cut r.data.toList [58]).1 = dg at *
      generalize ofL (Lib.cut r.data.toList [58]).2.1 = rs at *
      clear hX h hA hF hmx hv1 hv2 hcs hcd
      go_enter Tryz.func45, Tryz.ntmps45
      go_wp2_with fail
      refine HCUT.out.mono ?_
      rintro e w1 ⟨rfl, q, hw1⟩
      have hb1 : Below w.heap.size w w1 := by rw [hw1]; exact ⟨rfl, rfl, rfl, Nat.le_refl _, fun _ _ => rfl⟩
      have HS1 : Hid (RdSt w w1 rb r f) := RdSt.below HAT.out hb1
      clear hw1 hb1 HCUT
      go_wp2_with fail
      refine (HAO.out w1).mono ?_
      rintro e w2 ⟨rfl, hw2⟩
      have hb2 : Below w1.heap.size w1 w2 := by
        rcases hw2 with rfl | ⟨t, rfl⟩
        · exact Below.refl _ _
        · exact Joins.below_bytesWorld _ _ _ _ (Nat.le_refl _)
      have HS2 : Hid (RdSt w w2 rb r f) := HS1.out.trans (RdSt.below HS1.out.at_ hb2)
      clear hw2 hb2 HAO c0 c1 f0 f1
      go_wp2_with fail
      refine (HFL.out w2 HS2.out.at_).mono ?_
      rintro e w3 ⟨rfl, hS3⟩
      have HE : Hid (RdSt w w3 rb (ofL []) true) := HS2.out.trans hS3
      clear hS3
      go_wp2
      go_ret
      exact ⟨rfl, HE.out⟩
  | «syntax» =>
    have HAO : Hid (∀ W, Below w.heap.size w W → Calls Tryz.prog 71 #[.string (ofL (Lib.cut r.data.toList [58]).1)] W fun e w' => (∃ N, e = .returned (.tuple #[.int .i64 0, .iface 180 (.pointer (some ⟨N, 0, none⟩))])) ∧ Below W.heap.size W w') := fun W hW => Tryz.strconv_Atoi_syntax _ (by omega) (by rw [hcd]; exact hA) t1 p1 W (Joins.var_stays (by kernel_rfl : Tryz.prog.globalNamed "strconv.ErrSyntax" = some 14) hv1 hW (Nat.le_refl _))
    rw [numF_bad (fun n => by rw [hA]; exact fun e => by cases e)]
    generalize ofL (Lib.cut r.data.toList [58]).1 = dg at *
    generalize ofL (Lib.cut r.data.toList [58]).2.1 = rs at *
    generalize (Lib.cut r.data.toList [58]).2.2 = fd at *
    clear hX h hA hmx hv1 hv2 hcs hcd
    go_enter Tryz.func45, Tryz.ntmps45
    go_wp2_with fail
    refine HCUT.out.mono ?_
    rintro e w1 ⟨rfl, q, hw1⟩
    have hb1 : Below w.heap.size w w1 := by rw [hw1]; exact ⟨rfl, rfl, rfl, Nat.le_refl _, fun _ _ => rfl⟩
    have HS1 : Hid (RdSt w w1 rb r f) := RdSt.below HAT.out hb1
    have HAO1 := HAO.out w1 hb1
    clear hw1 hb1 HCUT HAO
    go_wp2_with fail
    refine HAO1.mono ?_
    rintro e w2 ⟨⟨N, rfl⟩, hb2⟩
    have HS2 : Hid (RdSt w w2 rb r f) := HS1.out.trans (RdSt.below HS1.out.at_ hb2)
    clear hb2 HAO1 c0 c1 f0 f1
    cases fd with
    | true =>
      go_wp2_with fail
      refine (HFL.out w2 HS2.out.at_).mono ?_
      rintro e w3 ⟨rfl, hS3⟩
      have HE : Hid (RdSt w w3 rb (ofL []) true) := HS2.out.trans hS3
      clear hS3
      go_wp2
      go_ret
      exact ⟨rfl, HE.out⟩
    | false =>
      go_wp2_with fail
      refine (HFL.out w2 HS2.out.at_).mono ?_
      rintro e w3 ⟨rfl, hS3⟩
      have HE : Hid (RdSt w w3 rb (ofL []) true) := HS2.out.trans hS3
      clear hS3
      go_wp2
      go_ret
      exact ⟨rfl, HE.out⟩
  | range =>
    have HAO : Hid (∀ W, Below w.heap.size w W → Calls Tryz.prog 71 #[.string (ofL (Lib.cut r.data.toList [58]).1)] W fun e w' => (∃ N, e = .returned (.tuple #[.int .i64 (Lib.atoiSat (ofL (Lib.cut r.data.toList [58]).1).data.toList), .iface 180 (.pointer (some ⟨N, 0, none⟩))])) ∧ Below W.heap.size W w') := fun W hW => Tryz.strconv_Atoi_range _ (by omega) (by rw [hcd]; exact hA) t2 p2 W (Joins.var_stays (by kernel_rfl : Tryz.prog.globalNamed "strconv.ErrRange" = some 15) hv2 hW (Nat.le_refl _))
    rw [numF_bad (fun n => by rw [hA]; exact fun e => by cases e)]
    generalize Lib.atoiSat (ofL (Lib.cut r.data.toList [58]).1).data.toList = sat at *
    generalize ofL (Lib.cut r.data.toList [58]).1 = dg at *
    generalize ofL (Lib.cut r.data.toList [58]).2.1 = rs at *
    generalize (Lib.cut r.data.toList [58]).2.2 = fd at *
    clear hX h hA hmx hv1 hv2 hcs hcd
    go_enter Tryz.func45, Tryz.ntmps45
    go_wp2_with fail
    refine HCUT.out.mono ?_
    rintro e w1 ⟨rfl, q, hw1⟩
    have hb1 : Below w.heap.size w w1 := by rw [hw1]; exact ⟨rfl, rfl, rfl, Nat.le_refl _, fun _ _ => rfl⟩
    have HS1 : Hid (RdSt w w1 rb r f) := RdSt.below HAT.out hb1
    have HAO1 := HAO.out w1 hb1
    clear hw1 hb1 HCUT HAO
    go_wp2_with fail
    refine HAO1.mono ?_
    rintro e w2 ⟨⟨N, rfl⟩, hb2⟩
    have HS2 : Hid (RdSt w w2 rb r f) := HS1.out.trans (RdSt.below HS1.out.at_ hb2)
    clear hb2 HAO1 c0 c1 f0 f1
    cases fd with
    | true =>
      go_wp2_with fail
      refine (HFL.out w2 HS2.out.at_).mono ?_
      rintro e w3 ⟨rfl, hS3⟩
      have HE : Hid (RdSt w w3 rb (ofL []) true) := HS2.out.trans hS3
      clear hS3
      go_wp2
      go_ret
      exact ⟨rfl, HE.out⟩
    | false =>
      go_wp2_with fail
      refine (HFL.out w2 HS2.out.at_).mono ?_
      rintro e w3 ⟨rfl, hS3⟩
      have HE : Hid (RdSt w w3 rb (ofL []) true) := HS2.out.trans hS3
      clear hS3
      go_wp2
      go_ret
      exact ⟨rfl, HE.out⟩
end Go.Proofs.YtoapbjifkjehhaaGreatDoor
/- Package hold: the reader of what is written: texts and versions. -/
namespace Go.Proofs.YtoapbjifkjehhaaGreatDoor
open Go.RowKit
theorem numF_le (r : ByteArray) (f : Bool) : (numF r f).2.1.size ≤ r.size := by
  unfold numF
  have h := (cut_size r.data.toList).2
  have e : r.data.toList.length = r.size := by simp
  split
  · split
    · rw [ofL_size]
      omega
    · rw [ofL_size]
      simp
  · rw [ofL_size]
    simp
theorem numF_i64 (r : ByteArray) (f : Bool) : -9223372036854775808 ≤ (numF r f).1 ∧ (numF r f).1 ≤ 9223372036854775807 := by
  unfold numF
  split
  · rename_i n hn
    have := atoi_bounds hn
    split
    · exact this
    · exact ⟨by decide, by decide⟩
  · exact ⟨by decide, by decide⟩
theorem textF_le (r : ByteArray) (f : Bool) : (textF r f).1.size ≤ r.size ∧ (textF r f).2.1.size ≤ r.size := by
  unfold textF
  have := numF_le r f
  split
  · simp only [ofL_size]
    simp
  · simp only [ByteArray.size_extract]
    omega
set_option maxRecDepth 10000 in
set_option maxHeartbeats 2000000 in
theorem rtext_any (rb : Nat) (r : ByteArray) (f : Bool) (w : World) (hX : LibX w) (h : RdAt w rb r f) (hr : r.size ≤ 1000000) :
    Calls Tryz.prog 73 #[.pointer (some ⟨rb, 0, none⟩)] w fun e w' => e = .returned (.string (textF r f).1) ∧ RdSt w w' rb (textF r f).2.1 (textF r f).2.2 := by
  have HN : Hid (Calls Tryz.prog 45 #[.pointer (some ⟨rb, 0, none⟩)] w fun e w' => e = .returned (.int .i64 (numF r f).1) ∧ RdSt w w' rb (numF r f).2.1 (numF r f).2.2) := rnum_any rb r f w hX h hr
  have hle := Nat.le_trans (numF_le r f) hr
  have hii := numF_i64 r f
  unfold textF
  generalize numF r f = q at *
  obtain ⟨n1, r1, f1⟩ := q
  simp only [] at *
  have HFL : Hid (∀ W, RdAt W rb r1 f1 → Calls Tryz.prog 72 #[.pointer (some ⟨rb, 0, none⟩)] W fun e w' => e = .returned (.tuple #[]) ∧ RdSt W w' rb (ofL []) true) := fun W hW => rfail_any rb r1 f1 W hW
  clear hX h hr
  by_cases hbad : n1 < 0 ∨ (r1.size : Int) < n1
  · rw [if_pos hbad]
    simp only []
    by_cases h1 : n1 < 0
    · have d1 : decide (n1 < 0) = true := decide_eq_true h1
      clear hbad hle hii
      go_enter Tryz.func73, Tryz.ntmps73
      go_wp2_with fail
      refine HN.out.mono ?_
      rintro e w1 ⟨rfl, hS1⟩
      have HS1 : Hid (RdSt w w1 rb r1 f1) := hS1
      clear hS1 HN
      go_wp2_with fail
      refine (HFL.out w1 HS1.out.at_).mono ?_
      rintro e w2 ⟨rfl, hS2⟩
      have HE : Hid (RdSt w w2 rb (ofL []) true) := HS1.out.trans hS2
      clear hS2
      go_wp2
      go_ret
      exact ⟨rfl, HE.out⟩
    · have d1 : decide (n1 < 0) = false := decide_eq_false h1
      have d2 : decide ((r1.size : Int) < n1) = true := decide_eq_true (by omega)
      clear hbad
      go_enter Tryz.func73, Tryz.ntmps73
      go_wp2_with fail
      refine HN.out.mono ?_
      rintro e w1 ⟨rfl, hS1⟩
      have HS1 : Hid (RdSt w w1 rb r1 f1) := hS1
      obtain ⟨c0, c1, f0, f1'⟩ := hS1.at_.cells
      clear hS1 HN
      go_wp2_with fail
      refine (HFL.out w1 HS1.out.at_).mono ?_
      rintro e w2 ⟨rfl, hS2⟩
      have HE : Hid (RdSt w w2 rb (ofL []) true) := HS1.out.trans hS2
      clear hS2
      go_wp2
      go_ret
      exact ⟨rfl, HE.out⟩
  · rw [if_neg hbad]
    simp only []
    have d1 : decide (n1 < 0) = false := decide_eq_false (by omega)
    have d2 : decide ((r1.size : Int) < n1) = false := decide_eq_false (by omega)
    have hc1 : ∀ W, Sem.run Tryz.prog (Instr.slice 9 (.string r1) none (some (.int .i64 n1)) none) W = .ok (.string (r1.extract 0 n1.toNat)) W := fun W => by
      rw [run_slice_string_h W 9 r1 Tryz.underlying9 .i64 _ (by omega) (by omega)]
    have hc2 : ∀ W, Sem.run Tryz.prog (Instr.slice 9 (.string r1) (some (.int .i64 n1)) none none) W = .ok (.string (r1.extract n1.toNat r1.size)) W := fun W => by
      rw [run_slice_string_l W 9 r1 Tryz.underlying9 .i64 _ (by omega) (by omega)]
    obtain ⟨ta, hta⟩ : ∃ ta, ta = r1.extract 0 n1.toNat := ⟨_, rfl⟩
    obtain ⟨tb, htb⟩ : ∃ tb, tb = r1.extract n1.toNat r1.size := ⟨_, rfl⟩
    rw [← hta, ← htb]
    rw [← hta] at hc1
    rw [← htb] at hc2
    clear hta htb
    go_enter Tryz.func73, Tryz.ntmps73
    go_wp2_with fail
    refine HN.out.mono ?_
    rintro e w1 ⟨rfl, hS1⟩
    have HS1 : Hid (RdSt w w1 rb r1 f1) := hS1
    obtain ⟨c0, c1, f0, f1'⟩ := hS1.at_.cells
    have HE : Hid (RdSt w (w1.setCell ⟨rb, 0, none⟩ (.string tb)) rb tb f1) := hS1.trans (rd_set0 hS1.at_)
    clear hS1 HN HFL
    go_wp2
    go_ret
    exact ⟨rfl, HE.out⟩
end Go.Proofs.YtoapbjifkjehhaaGreatDoor
/- Package hold: the reader of what is written: a version. -/
namespace Go.Proofs.YtoapbjifkjehhaaGreatDoor
open Go.RowKit
/-- While a version is read: its cells at block B + 1, the answer's at B, neither there before. -/
structure VrSt (w W : World) (rb B : Nat) (r : ByteArray) (f : Bool) (vs : Array Value) : Prop where
  at_ : RdAt W rb r f
  grown : w.grownBy W (some rb)
  res : W.heap[B]? = some (.cells #[.int .i64 0, .int .i64 0, .int .i64 0, .int .i64 0, .string ⟨#[]⟩] 49 (0, 0))
  box : W.heap[B + 1]? = some (.cells vs 49 (0, 0))
theorem VrSt.rd {w W W' : World} {rb B : Nat} {r r' : ByteArray} {f f' : Bool} {vs : Array Value} (h : VrSt w W rb B r f vs) (hs : RdSt W W' rb r' f') (hrb : rb < B) : VrSt w W' rb B r' f' vs := by
  have l1 := (Array.getElem?_eq_some_iff.1 h.res).1
  have l2 := (Array.getElem?_eq_some_iff.1 h.box).1
  exact ⟨hs.at_, (RdSt.trans ⟨h.at_, h.grown⟩ hs).grown, (hs.grown.block B l1 (fun e => by injection e with e; omega)).trans h.res, (hs.grown.block (B + 1) l2 (fun e => by injection e with e; omega)).trans h.box⟩
theorem VrSt.set {w W : World} {rb B : Nat} {r : ByteArray} {f : Bool} {vs : Array Value} (h : VrSt w W rb B r f vs) (hB : w.heap.size ≤ B) (hrb : rb < B) (i : Nat) (v : Value) : VrSt w (W.setCell ⟨B + 1, i, none⟩ v) rb B r f (vs.setIfInBounds i v) := by
  have other : ∀ k, k ≠ B + 1 → (W.setCell ⟨B + 1, i, none⟩ v).heap[k]? = W.heap[k]? := fun k hk => Deep.blk_setCell_other _ _ _ _ hk
  refine ⟨(other rb (by omega)).trans h.at_, ⟨h.grown.os, h.grown.tape, h.grown.output, by simpa using h.grown.size, fun k hk hne => (other k (by omega)).trans (h.grown.block k hk hne)⟩, (other B (by omega)).trans h.res, ?_⟩
  rw [Joins.block_setCell h.box]
theorem VrSt.cell {w W : World} {rb B : Nat} {r : ByteArray} {f : Bool} {vs : Array Value} (h : VrSt w W rb B r f vs) (i : Nat) : W.cell? ⟨B + 1, i, none⟩ = vs[i]? := by simp [World.cell?, h.box]
theorem VrSt.frozen {w W : World} {rb B : Nat} {r : ByteArray} {f : Bool} {vs : Array Value} (h : VrSt w W rb B r f vs) (i : Nat) : W.frozen? ⟨B + 1, i, none⟩ = false := by simp [World.frozen?, h.box]
theorem VrSt.rcell {w W : World} {rb B : Nat} {r : ByteArray} {f : Bool} {vs : Array Value} (h : VrSt w W rb B r f vs) : W.cell? ⟨B, 0, none⟩ = some (.int .i64 0) ∧ W.cell? ⟨B, 1, none⟩ = some (.int .i64 0) ∧ W.cell? ⟨B, 2, none⟩ = some (.int .i64 0) ∧ W.cell? ⟨B, 3, none⟩ = some (.int .i64 0) ∧ W.cell? ⟨B, 4, none⟩ = some (.string ⟨#[]⟩) := ⟨by simp [World.cell?, h.res], by simp [World.cell?, h.res], by simp [World.cell?, h.res], by simp [World.cell?, h.res], by simp [World.cell?, h.res]⟩
theorem VrSt.rfrozen {w W : World} {rb B : Nat} {r : ByteArray} {f : Bool} {vs : Array Value} (h : VrSt w W rb B r f vs) (i : Nat) : W.frozen? ⟨B, i, none⟩ = false := by simp [World.frozen?, h.res]
theorem VrSt.start {w : World} {rb : Nat} {r : ByteArray} {f : Bool} (h : RdAt w rb r f) : VrSt w ((w.alloc (.cells #[.int .i64 0, .int .i64 0, .int .i64 0, .int .i64 0, .string ⟨#[]⟩] 49)).alloc (.cells #[.int .i64 0, .int .i64 0, .int .i64 0, .int .i64 0, .string ⟨#[]⟩] 49)) rb w.heap.size r f #[.int .i64 0, .int .i64 0, .int .i64 0, .int .i64 0, .string ⟨#[]⟩] := by
  have hb : Below w.heap.size w ((w.alloc (.cells #[.int .i64 0, .int .i64 0, .int .i64 0, .int .i64 0, .string ⟨#[]⟩] 49)).alloc (.cells #[.int .i64 0, .int .i64 0, .int .i64 0, .int .i64 0, .string ⟨#[]⟩] 49)) := ((Below.refl _ _).alloc (Nat.le_refl _) _).alloc (by simp) _
  have hs := RdSt.below h hb
  have e2 : (w.alloc (.cells #[.int .i64 0, .int .i64 0, .int .i64 0, .int .i64 0, .string ⟨#[]⟩] 49)).heap.size = w.heap.size + 1 := by simp
  refine ⟨hs.at_, hs.grown, ?_, ?_⟩
  · rw [heap_alloc_old _ _ (by rw [e2]; omega)]
    exact heap_alloc_new _ _
  · rw [← e2]
    exact heap_alloc_new _ _
theorem RdSt.put {w W : World} {rb : Nat} {r : ByteArray} {f : Bool} (h : RdSt w W rb r f) (hrb : rb < w.heap.size) {b : Nat} (hb : w.heap.size ≤ b) (i : Nat) (v : Value) : RdSt w (W.setCell ⟨b, i, none⟩ v) rb r f := ⟨(Deep.blk_setCell_other _ _ _ _ (by show rb ≠ b; omega)).trans h.at_, ⟨h.grown.os, h.grown.tape, h.grown.output, by simpa using h.grown.size, fun k hk hne => (Deep.blk_setCell_other _ _ _ _ (by show k ≠ b; omega)).trans (h.grown.block k hk hne)⟩⟩
theorem RdSt.drew {w W : World} {rb : Nat} {r : ByteArray} {f : Bool} (h : RdSt w W rb r f) : RdSt w W.drew rb r f := ⟨h.at_, ⟨h.grown.os, h.grown.tape, h.grown.output, h.grown.size, h.grown.block⟩⟩
set_option maxRecDepth 10000 in
set_option maxHeartbeats 4000000 in
theorem rver_any (rb : Nat) (r : ByteArray) (f : Bool) {w0 w : World} (hX : LibX w0) (hw0 : Below w0.heap.size w0 w) (h : RdAt w rb r f) (hrb : w0.heap.size ≤ rb) (hr : r.size ≤ 1000000) :
    Calls Tryz.prog 46 #[.pointer (some ⟨rb, 0, none⟩)] w fun e w' => e = .returned (.tuple #[.string (verF r f).1.1, verA (verF r f).1.2]) ∧ RdSt w w' rb (verF r f).2.1 (verF r f).2.2 := by
  have hrl : rb < w.heap.size := (Array.getElem?_eq_some_iff.1 h).1
  have HLX : Hid (∀ W r f vs, VrSt w W rb w.heap.size r f vs → LibX W) := fun W r f vs hW => hX.below (RdSt.low ⟨hW.at_, hW.grown⟩ hw0 hw0.size hrb)
  have HT : Hid (∀ W r f vs, VrSt w W rb w.heap.size r f vs → r.size ≤ 1000000 → Calls Tryz.prog 73 #[.pointer (some ⟨rb, 0, none⟩)] W fun e w' => e = .returned (.string (textF r f).1) ∧ VrSt w w' rb w.heap.size (textF r f).2.1 (textF r f).2.2 vs) := fun W r f vs hW hr => (rtext_any rb r f W (HLX.out W r f vs hW) hW.at_ hr).mono fun e w' hp => ⟨hp.1, hW.rd hp.2 hrl⟩
  have HN : Hid (∀ W r f vs, VrSt w W rb w.heap.size r f vs → r.size ≤ 1000000 → Calls Tryz.prog 45 #[.pointer (some ⟨rb, 0, none⟩)] W fun e w' => e = .returned (.int .i64 (numF r f).1) ∧ VrSt w w' rb w.heap.size (numF r f).2.1 (numF r f).2.2 vs) := fun W r f vs hW hr => (rnum_any rb r f W (HLX.out W r f vs hW) hW.at_ hr).mono fun e w' hp => ⟨hp.1, hW.rd hp.2 hrl⟩
  have HST : Hid (∀ W r f vs, VrSt w W rb w.heap.size r f vs → ∀ i v, VrSt w (W.setCell ⟨w.heap.size + 1, i, none⟩ v) rb w.heap.size r f (vs.setIfInBounds i v)) := fun W r f vs hW i v => hW.set (Nat.le_refl _) hrl i v
  have hst0 := VrSt.start h
  have HC0 := HT.out _ _ _ _ hst0 hr
  have hk := textF_le r f
  unfold verF
  simp only []
  generalize hK : textF r f = k at *
  obtain ⟨key, r1, f1⟩ := k
  simp only [] at *
  clear hK
  have hr1 : r1.size ≤ 1000000 := by omega
  have ha := numF_le r1 f1
  have HC1 := fun W vs hW => HN.out W r1 f1 vs hW hr1
  generalize numF r1 f1 = a at *
  obtain ⟨a1, r2, f2⟩ := a
  simp only [] at *
  have hr2 : r2.size ≤ 1000000 := by omega
  have hb := numF_le r2 f2
  have HC2 := fun W vs hW => HN.out W r2 f2 vs hW hr2
  generalize numF r2 f2 = b at *
  obtain ⟨b1, r3, f3⟩ := b
  simp only [] at *
  have hr3 : r3.size ≤ 1000000 := by omega
  have hc := numF_le r3 f3
  have HC3 := fun W vs hW => HN.out W r3 f3 vs hW hr3
  generalize numF r3 f3 = c at *
  obtain ⟨c1, r4, f4⟩ := c
  simp only [] at *
  have hr4 : r4.size ≤ 1000000 := by omega
  have hd := numF_le r4 f4
  have HC4 := fun W vs hW => HN.out W r4 f4 vs hW hr4
  generalize numF r4 f4 = d at *
  obtain ⟨d1, r5, f5⟩ := d
  simp only [] at *
  have hr5 : r5.size ≤ 1000000 := by omega
  have HC5 := fun W vs hW => HT.out W r5 f5 vs hW hr5
  generalize textF r5 f5 = t at *
  obtain ⟨t1, r6, f6⟩ := t
  simp only [] at *
  unfold verA
  simp only []
  have HH0 : Hid (Calls Tryz.prog 73 #[.pointer (some ⟨rb, 0, none⟩)] ((w.alloc (.cells #[.int .i64 0, .int .i64 0, .int .i64 0, .int .i64 0, .string ⟨#[]⟩] 49)).alloc (.cells #[.int .i64 0, .int .i64 0, .int .i64 0, .int .i64 0, .string ⟨#[]⟩] 49)) fun e w' => e = .returned (.string key) ∧ VrSt w w' rb w.heap.size r1 f1 #[.int .i64 0, .int .i64 0, .int .i64 0, .int .i64 0, .string ⟨#[]⟩]) := HC0
  have HH1 : Hid (∀ (W : World) (vs : Array Value), VrSt w W rb w.heap.size r1 f1 vs → Calls Tryz.prog 45 #[.pointer (some ⟨rb, 0, none⟩)] W fun e w' => e = .returned (.int .i64 a1) ∧ VrSt w w' rb w.heap.size r2 f2 vs) := HC1
  have HH2 : Hid (∀ (W : World) (vs : Array Value), VrSt w W rb w.heap.size r2 f2 vs → Calls Tryz.prog 45 #[.pointer (some ⟨rb, 0, none⟩)] W fun e w' => e = .returned (.int .i64 b1) ∧ VrSt w w' rb w.heap.size r3 f3 vs) := HC2
  have HH3 : Hid (∀ (W : World) (vs : Array Value), VrSt w W rb w.heap.size r3 f3 vs → Calls Tryz.prog 45 #[.pointer (some ⟨rb, 0, none⟩)] W fun e w' => e = .returned (.int .i64 c1) ∧ VrSt w w' rb w.heap.size r4 f4 vs) := HC3
  have HH4 : Hid (∀ (W : World) (vs : Array Value), VrSt w W rb w.heap.size r4 f4 vs → Calls Tryz.prog 45 #[.pointer (some ⟨rb, 0, none⟩)] W fun e w' => e = .returned (.int .i64 d1) ∧ VrSt w w' rb w.heap.size r5 f5 vs) := HC4
  have HH5 : Hid (∀ (W : World) (vs : Array Value), VrSt w W rb w.heap.size r5 f5 vs → Calls Tryz.prog 73 #[.pointer (some ⟨rb, 0, none⟩)] W fun e w' => e = .returned (.string t1) ∧ VrSt w w' rb w.heap.size r6 f6 vs) := HC5
  clear HC0 HC1 HC2 HC3 HC4 HC5 hst0 HT HN HLX hk ha hb hc hd hr hr1 hr2 hr3 hr4 hr5 hX hw0 h hrb
  go_enter Tryz.func46, Tryz.ntmps46
  go_wp2_with fail
  refine HH0.out.mono ?_
  rintro e w1 ⟨rfl, hs1⟩
  have HS1 : Hid (VrSt w w1 rb w.heap.size r1 f1 #[.int .i64 0, .int .i64 0, .int .i64 0, .int .i64 0, .string ⟨#[]⟩]) := hs1
  clear hs1 HH0
  go_wp2_with fail
  refine (HH1.out _ _ HS1.out).mono ?_
  rintro e w2 ⟨rfl, hs2⟩
  have q2 : w2.cell? ⟨w.heap.size + 1, 0, none⟩ = some (.int .i64 0) := (hs2.cell 0).trans rfl
  have g2 := hs2.frozen 0
  have HS2 : Hid (VrSt w (w2.setCell ⟨w.heap.size + 1, 0, none⟩ (.int .i64 a1)) rb w.heap.size r2 f2 #[.int .i64 a1, .int .i64 0, .int .i64 0, .int .i64 0, .string ⟨#[]⟩]) := HST.out _ _ _ _ hs2 0 (.int .i64 a1)
  clear hs2 HS1 HH1
  go_wp2_with fail
  clear q2 g2
  refine (HH2.out _ _ HS2.out).mono ?_
  rintro e w3 ⟨rfl, hs3⟩
  have q3 : w3.cell? ⟨w.heap.size + 1, 1, none⟩ = some (.int .i64 0) := (hs3.cell 1).trans rfl
  have g3 := hs3.frozen 1
  have HS3 : Hid (VrSt w (w3.setCell ⟨w.heap.size + 1, 1, none⟩ (.int .i64 b1)) rb w.heap.size r3 f3 #[.int .i64 a1, .int .i64 b1, .int .i64 0, .int .i64 0, .string ⟨#[]⟩]) := HST.out _ _ _ _ hs3 1 (.int .i64 b1)
  clear hs3 HS2 HH2
  go_wp2_with fail
  clear q3 g3
  refine (HH3.out _ _ HS3.out).mono ?_
  rintro e w4 ⟨rfl, hs4⟩
  have q4 : w4.cell? ⟨w.heap.size + 1, 2, none⟩ = some (.int .i64 0) := (hs4.cell 2).trans rfl
  have g4 := hs4.frozen 2
  have HS4 : Hid (VrSt w (w4.setCell ⟨w.heap.size + 1, 2, none⟩ (.int .i64 c1)) rb w.heap.size r4 f4 #[.int .i64 a1, .int .i64 b1, .int .i64 c1, .int .i64 0, .string ⟨#[]⟩]) := HST.out _ _ _ _ hs4 2 (.int .i64 c1)
  clear hs4 HS3 HH3
  go_wp2_with fail
  clear q4 g4
  refine (HH4.out _ _ HS4.out).mono ?_
  rintro e w5 ⟨rfl, hs5⟩
  have q5 : w5.cell? ⟨w.heap.size + 1, 3, none⟩ = some (.int .i64 0) := (hs5.cell 3).trans rfl
  have g5 := hs5.frozen 3
  have HS5 : Hid (VrSt w (w5.setCell ⟨w.heap.size + 1, 3, none⟩ (.int .i64 d1)) rb w.heap.size r5 f5 #[.int .i64 a1, .int .i64 b1, .int .i64 c1, .int .i64 d1, .string ⟨#[]⟩]) := HST.out _ _ _ _ hs5 3 (.int .i64 d1)
  clear hs5 HS4 HH4
  go_wp2_with fail
  clear q5 g5
  refine (HH5.out _ _ HS5.out).mono ?_
  rintro e w6 ⟨rfl, hs6⟩
  have q6 : w6.cell? ⟨w.heap.size + 1, 4, none⟩ = some (.string ⟨#[]⟩) := (hs6.cell 4).trans rfl
  have g6 := hs6.frozen 4
  obtain ⟨w7, hw7⟩ : ∃ w7, w7 = w6.setCell ⟨w.heap.size + 1, 4, none⟩ (.string t1) := ⟨_, rfl⟩
  have HW7 : Hid (w7 = w6.setCell ⟨w.heap.size + 1, 4, none⟩ (.string t1)) := hw7
  have HS6 : Hid (VrSt w (w6.setCell ⟨w.heap.size + 1, 4, none⟩ (.string t1)) rb w.heap.size r6 f6 #[.int .i64 a1, .int .i64 b1, .int .i64 c1, .int .i64 d1, .string t1]) := HST.out _ _ _ _ hs6 4 (.string t1)
  clear hs6 HS5 HH5
  have HS7 : Hid (VrSt w w7 rb w.heap.size r6 f6 #[.int .i64 a1, .int .i64 b1, .int .i64 c1, .int .i64 d1, .string t1]) := by rw [hw7]; exact HS6.out
  clear HS6 hw7
  go_wp2
  rw [← HW7.out]
  have p0 : w7.cell? ⟨w.heap.size + 1, 0, none⟩ = some (.int .i64 a1) := (HS7.out.cell 0).trans rfl
  have p1 : w7.cell? ⟨w.heap.size + 1, 1, none⟩ = some (.int .i64 b1) := (HS7.out.cell 1).trans rfl
  have p2 : w7.cell? ⟨w.heap.size + 1, 2, none⟩ = some (.int .i64 c1) := (HS7.out.cell 2).trans rfl
  have p3 : w7.cell? ⟨w.heap.size + 1, 3, none⟩ = some (.int .i64 d1) := (HS7.out.cell 3).trans rfl
  have p4 : w7.cell? ⟨w.heap.size + 1, 4, none⟩ = some (.string t1) := (HS7.out.cell 4).trans rfl
  have g7 : ∀ o, w7.frozen? ⟨w.heap.size + 1, o, none⟩ = false := fun o => HS7.out.frozen o
  obtain ⟨c0, c1', c2, c3, c4⟩ := HS7.out.rcell
  have g8 : ∀ o, w7.frozen? ⟨w.heap.size, o, none⟩ = false := fun o => HS7.out.rfrozen o
  clear HW7 q6 g6
  go_region_with (fail)
  all_goals
    go_wp2
    refine bodyPost_ret (v := .tuple #[.string key, .agg #[.int .i64 a1, .int .i64 b1, .int .i64 c1, .int .i64 d1, .string t1]]) (by simp [results, Tryz.results46, go_sem, c0, c1', c2, c3, c4]) rfl ⟨rfl, ?_⟩
    exact (((((RdSt.put ⟨HS7.out.at_, HS7.out.grown⟩ hrl (Nat.le_refl _) _ _).put hrl (Nat.le_refl _) _ _).put hrl (Nat.le_refl _) _ _).put hrl (Nat.le_refl _) _ _).put hrl (Nat.le_refl _) _ _).drew
end Go.Proofs.YtoapbjifkjehhaaGreatDoor
/- Package hold: read, over what holds of what is left to read and what has been read. -/
namespace Go.Proofs.YtoapbjifkjehhaaGreatDoor
open Go.RowKit
theorem verF_le (r : ByteArray) (f : Bool) : (verF r f).1.1.size ≤ r.size ∧ (verF r f).1.2.text.size ≤ r.size ∧ (verF r f).2.1.size ≤ r.size := by
  unfold verF
  simp only []
  have h1 := textF_le r f
  have h2 := numF_le (textF r f).2.1 (textF r f).2.2
  generalize numF (textF r f).2.1 (textF r f).2.2 = a at *
  have h3 := numF_le a.2.1 a.2.2
  generalize numF a.2.1 a.2.2 = b at *
  have h4 := numF_le b.2.1 b.2.2
  generalize numF b.2.1 b.2.2 = c at *
  have h5 := numF_le c.2.1 c.2.2
  generalize numF c.2.1 c.2.2 = d at *
  have h6 := textF_le d.2.1 d.2.2
  generalize textF d.2.1 d.2.2 = t at *
  exact ⟨h1.1, by omega, by omega⟩
theorem HdOf.shut {w : World} {h : Nat} {S : Nat → Prop} {L : List Kep} {s : Bool} (hd : HdOf w h S L s) (b : Bool) : HdOf (w.setCell ⟨h, 1, none⟩ (.bool b)) h S L b := by
  obtain ⟨m, D, row, blk, hd⟩ := hd
  have hblk : ∀ k, k ≠ h → (w.setCell ⟨h, 1, none⟩ (.bool b)).heap[k]? = w.heap[k]? := fun k hk => Deep.blk_setCell_other _ _ _ _ hk
  refine ⟨m, D, row, blk, hd.sorted, hd.few, hd.fits, fun k hk => by simpa using hd.inS k hk, hd.self, ?_, World.cell?_setCell_same _ _ _ hd.shut, by rw [World.frozen?_setCell]; exact hd.free0, by rw [World.frozen?_setCell]; exact hd.free1, hd.nothing, fun b hm => ?_, fun x => (hd.own x).same (fun k hk => hblk k ?_), hd.nilrow, hd.inB, hd.apart⟩
  · rw [World.cell?_setCell_other _ _ _ _ (fun e => by have h2 : (1 : Nat) = 0 := congrArg Addr.off e; omega)]
    exact hd.ptr
  · obtain ⟨h1, h2, ⟨n, h3⟩, h4⟩ := hd.mapS b hm
    exact ⟨h1, h2, ⟨n, h3.same (hblk b h2)⟩, h4⟩
  · obtain ⟨_, h2, h3⟩ := hd.rowS hk
    rw [h3]
    exact (hd.inB x h2).2.2.1
theorem HdOf.good {w : World} {h : Nat} {S : Nat → Prop} {L : List Kep} {s : Bool} (hd : HdOf w h S L s) : GoodL L := by
  obtain ⟨_, _, _, _, hd⟩ := hd
  exact ⟨hd.sorted, hd.few, hd.fits⟩
/-- How much is left to read. -/
def restN (B : Nat) (W : World) : Nat := match W.cell? ⟨B, 0, none⟩ with
  | some (.string s) => s.size
  | _ => 0
theorem RdAt.rest {W : World} {B : Nat} {r : ByteArray} {f : Bool} (h : RdAt W B r f) : restN B W = r.size := by
  unfold restN
  rw [h.cells.1]
/-- While it is read: the reader at block B, the hold at block hh, behind it. -/
structure RlSt (w : World) (B hh : Nat) (W : World) (r : ByteArray) (f : Bool) (M : List Kep) : Prop where
  at_ : RdAt W B r f
  low : Below B w W
  hold : ∃ S, HdOf W hh S M false ∧ ∀ k, S k → B < k
theorem RlSt.rd {w W W' : World} {B hh : Nat} {r r' : ByteArray} {f f' : Bool} {M : List Kep} (h : RlSt w B hh W r f M) (hs : RdSt W W' B r' f') : RlSt w B hh W' r' f' M := by
  obtain ⟨S, hd, hS⟩ := h.hold
  have hlt : ∀ k, S k → k < W.heap.size := by
    obtain ⟨_, _, _, _, hd⟩ := hd
    exact hd.inS
  refine ⟨hs.at_, hs.low h.low ?_ (Nat.le_refl _), S, hd.keep hs.grown.size (fun k hk => hs.grown.block k (hlt k hk) (fun e => by injection e with e; have := hS k hk; omega)), hS⟩
  exact Nat.le_of_lt (Array.getElem?_eq_some_iff.1 h.at_).1
theorem RlSt.upd {w W W' : World} {B hh : Nat} {r : ByteArray} {f : Bool} {M M' : List Kep} {S S' : Nat → Prop} (h : RlSt w B hh W r f M) (hS : ∀ k, S k → B < k) (hu : Upd S S' W W') (hd : HdOf W' hh S' M' false) : RlSt w B hh W' r f M' := by
  have hlt : B < W.heap.size := (Array.getElem?_eq_some_iff.1 h.at_).1
  refine ⟨(hu.block B hlt (fun hk => by have := hS B hk; omega)).trans h.at_, h.low.trans ⟨hu.os, hu.tape, hu.output, hu.size, fun k hk => hu.block k (by omega) (fun hk' => by have := hS k hk'; omega)⟩, S', hd, fun k hk => ?_⟩
  rcases hu.new k hk with h1 | h1
  · exact hS k h1
  · omega
/-- Where it has gone wrong. -/
def Bad (r : ByteArray) (M : List Kep) : Prop := (verF r false).2.2 = true ∨ (putR M false (verF r false).1.1 (verF r false).1.2).1 ≠ 0
set_option maxRecDepth 10000 in
set_option maxHeartbeats 4000000 in
theorem read_gen {ad : Nat → Addr} (x : ByteArray) (I : ByteArray → List Kep → Prop) {w0 w : World} (hX : LibX w0) (hw0 : Below w0.heap.size w0 w) (hE : ∀ W, Below w0.heap.size w0 W → HErrs W ad) (hx : x.size ≤ 1000000) (hI0 : I (numF x false).2.1 [])
    (hI : ∀ r M, GoodL M → I r M → r.size ≠ 0 → (verF r false).2.2 = false → (putR M false (verF r false).1.1 (verF r false).1.2).1 = 0 → I (verF r false).2.1 (putR M false (verF r false).1.1 (verF r false).1.2).2) :
    Calls Tryz.prog 21 #[.string x] w fun e w' => ((e = .returned (.tuple #[.pointer none, .bool false]) ∧ ∃ r M, GoodL M ∧ I r M ∧ r.size ≠ 0 ∧ Bad r M) ∨ ∃ h S M, e = .returned (.tuple #[.pointer (some ⟨h, 0, none⟩), .bool (!(numF x false).2.2)]) ∧ HdOf w' h S M (decide ((numF x false).1 = 1)) ∧ (∃ r, r.size = 0 ∧ I r M) ∧ ∀ k, S k → w.heap.size ≤ k) ∧ Below w.heap.size w w' := by
  obtain ⟨w1, hw1⟩ : ∃ w1, w1 = w.alloc (.cells #[.string x, .bool false] 88) := ⟨_, rfl⟩
  have HW1 : Hid (w1 = w.alloc (.cells #[.string x, .bool false] 88)) := hw1
  have hat1 : RdAt w1 w.heap.size x false := by rw [hw1]; exact heap_alloc_new _ _
  have hb1 : Below w.heap.size w w1 := by rw [hw1]; exact (Below.refl _ _).alloc (Nat.le_refl _) _
  have hnl := numF_le x false
  have hni := numF_i64 x false
  have hnf : (numF x false).2.2 = true → (numF x false).2.1.size = 0 := fun h => by
    unfold numF at h ⊢
    split
    · rename_i n hn
      rw [hn] at h
      simp only [] at h
      split at h
      · cases h
      · rename_i hc
        rw [if_neg hc]
        rfl
    · rfl
  have HN : Hid (Calls Tryz.prog 45 #[.pointer (some ⟨w.heap.size, 0, none⟩)] w1 fun e w' => e = .returned (.int .i64 (numF x false).1) ∧ RdSt w1 w' w.heap.size (numF x false).2.1 (numF x false).2.2) := rnum_any w.heap.size x false w1 (hX.below (hw0.trans (hb1.mono hw0.size))) hat1 hx
  have HV : Hid (∀ W r, RdAt W w.heap.size r false → Below w.heap.size w W → r.size ≤ 1000000 → Calls Tryz.prog 46 #[.pointer (some ⟨w.heap.size, 0, none⟩)] W fun e w' => e = .returned (.tuple #[.string (verF r false).1.1, verA (verF r false).1.2]) ∧ RdSt W w' w.heap.size (verF r false).2.1 (verF r false).2.2) := fun W r hW hb hr => rver_any w.heap.size r false hX (hw0.trans (hb.mono hw0.size)) hW hw0.size hr
  have HP : Hid (∀ W h S M (key : ByteArray) (v : Ver), HdOf W h S M false → Below w.heap.size w W → key.size ≤ maxLen → v.text.size ≤ maxLen → Calls Tryz.prog 16 #[.pointer (some ⟨h, 0, none⟩), .string key, verA v] W fun e w' => (∃ ev, e = .returned ev ∧ BareIs ad ev (putR M false key v).1) ∧ ∃ S', HdOf w' h S' (putR M false key v).2 false ∧ Upd S S' W w') := fun W h S M key v hd hb hk ht => put_any hd key v hk ht (hE W (hw0.trans (hb.mono hw0.size)))
  have HI : Hid (∀ r M, GoodL M → I r M → r.size ≠ 0 → (verF r false).2.2 = false → (putR M false (verF r false).1.1 (verF r false).1.2).1 = 0 → I (verF r false).2.1 (putR M false (verF r false).1.1 (verF r false).1.2).2) := hI
  generalize numF x false = q at *
  obtain ⟨n, r0, f0⟩ := q
  simp only [] at *
  have HI0 : Hid (I r0 [] ∧ r0.size ≤ 1000000 ∧ (f0 = true → r0.size = 0)) := ⟨hI0, by omega, hnf⟩
  have HB1 : Hid (Below w.heap.size w w1) := hb1
  have hsz1 : w.heap.size ≤ w1.heap.size := hb1.size
  clear hw1 hat1 hb1 hI0 hI hE hX hw0 hnl hnf hx
  go_enter Tryz.func21, Tryz.ntmps21
  go_wp2_with fail
  rw [← HW1.out]
  refine HN.out.mono ?_
  rintro e w2 ⟨rfl, hS2⟩
  have hlow2 : Below w.heap.size w w2 := hS2.low HB1.out hsz1 (Nat.le_refl _)
  obtain ⟨w3, hw3⟩ : ∃ w3, w3 = w2.alloc (.cells #[.map none, .bool false] 39) := ⟨_, rfl⟩
  have HW3 : Hid (w3 = w2.alloc (.cells #[.map none, .bool false] 39)) := hw3
  have hb3 : Below w2.heap.size w2 w3 := by rw [hw3]; exact (Below.refl _ _).alloc (Nat.le_refl _) _
  have hst3 : RlSt w w.heap.size w2.heap.size w3 r0 f0 [] := ⟨(RdSt.below hS2.at_ hb3).at_, hlow2.trans (hb3.mono hlow2.size), _, (by rw [hw3]; exact hd_zero w2), fun k hk => by rw [hk]; exact (Array.getElem?_eq_some_iff.1 hS2.at_).1⟩
  have HST3 : Hid (RlSt w w.heap.size w2.heap.size w3 r0 f0 []) := hst3
  clear HN HW1 HB1 hsz1 hS2 hlow2 hw3 hb3 hst3
  generalize hhh : w2.heap.size = hh at *
  go_wp2
  rw [show w2.alloc (.cells #[.map none, .bool false] 39) = w3 from HW3.out.symm]
  clear HW3 hhh
  go_loopw [] (fun wr => ∃ r M, RlSt w w.heap.size hh wr r f0 M ∧ I r M ∧ r.size ≤ 1000000 ∧ (f0 = true → r.size = 0)) (fun wr => restN w.heap.size wr)
  case atStart => exact ⟨r0, [], HST3.out, HI0.out⟩
  case round =>
    obtain ⟨r, M, hst, hIr, hrl, hrf⟩ := hrel
    obtain ⟨w4, rfl⟩ : ∃ w4, w4 = wr := ⟨_, rfl⟩
    have HST4 : Hid (RlSt w w.heap.size hh w4 r f0 M) := hst
    obtain ⟨q0, q1, g0, g1⟩ := hst.at_.cells
    have HIR : Hid (I r M) := hIr
    clear hst HST3 HI0 hIr
    by_cases hz : r.size = 0
    · obtain rfl : r = ⟨#[]⟩ := ByteArray.ext (Array.eq_empty_of_size_eq_zero hz)
      obtain ⟨S, hd, hS⟩ := HST4.out.hold
      have hds := hd.shut (n == 1)
      obtain ⟨m, D, row, blk, hda⟩ := hd
      have s1 := hda.shut
      have s2 := hda.free1
      have hlt := hS hh hda.self
      have HDS : Hid (HdOf (w4.setCell ⟨hh, 1, none⟩ (.bool (n == 1))) hh S M (n == 1)) := hds
      have HLOW : Hid (Below w.heap.size w (w4.setCell ⟨hh, 1, none⟩ (.bool (n == 1)))) := HST4.out.low.setCell (p := ⟨hh, 1, none⟩) (Nat.le_of_lt hlt) _
      have q3 : (w4.setCell ⟨hh, 1, none⟩ (.bool (n == 1))).cell? ⟨w.heap.size, 1, none⟩ = some (.bool f0) := by
        rw [World.cell?_setCell_other _ _ _ _ (fun e => by have h1 : hh = w.heap.size := congrArg Addr.block e; omega)]
        exact q1
      have HS : Hid (∀ k, S k → w.heap.size < k) := hS
      have HBQ : Hid ((n == 1) = decide (n = 1)) := by show _ = _; by_cases h1 : n = 1 <;> simp [h1]
      clear hda hds hS HP HI HV HST4 hrf hz hni
      go_wp2
      go_quiet (fail)
      go_wp2
      go_ret2
      refine ⟨Or.inr ⟨hh, S, M, rfl, ?_, ⟨⟨#[]⟩, rfl, HIR.out⟩, fun k hk => Nat.le_of_lt (HS.out k hk)⟩, below_drewN HLOW.out _⟩
      rw [← HBQ.out]
      exact HDS.out.below (below_drewN (Below.refl _ _) _)
    · obtain rfl : f0 = false := by cases f0 with
        | false => rfl
        | true => exact absurd (hrf rfl) hz
      have hne : ¬ r = ⟨#[]⟩ := fun e => hz (by rw [e]; rfl)
      have t0 : (⟨#[]⟩ : ByteArray).toList = [] := by rw [ByteArray.toList_eq]
      have t1 : ¬ r.toList = [] := fun e => hne (by rw [← t0] at e; rw [ByteArray.toList_eq, ByteArray.toList_eq] at e; exact ByteArray.ext (Array.toList_inj.1 e))
      have t2 : (r.toList == []) = false := by simpa using t1
      have hne1 : (r == (⟨#[]⟩ : ByteArray)) = false := by rw [beq_toListBytes, t0]; exact t2
      have HZ : Hid (r.size ≠ 0) := hz
      have HVC : Hid (Calls Tryz.prog 46 #[.pointer (some ⟨w.heap.size, 0, none⟩)] w4 fun e w' => e = .returned (.tuple #[.string (verF r false).1.1, verA (verF r false).1.2]) ∧ RdSt w4 w' w.heap.size (verF r false).2.1 (verF r false).2.2) := HV.out w4 r HST4.out.at_ HST4.out.low hrl
      have hvl := verF_le r false
      have HVS : Hid ((verF r false).2.2 = false → (verF r false).2.1.size < r.size) := fun h => verF_shorter h
      have HIN : Hid (GoodL M → (verF r false).2.2 = false → (putR M false (verF r false).1.1 (verF r false).1.2).1 = 0 → I (verF r false).2.1 (putR M false (verF r false).1.1 (verF r false).1.2).2) := fun h1 h2 h3 => HI.out r M h1 HIR.out hz h2 h3
      have HBD : Hid (Bad r M = ((verF r false).2.2 = true ∨ (putR M false (verF r false).1.1 (verF r false).1.2).1 ≠ 0)) := rfl
      generalize verF r false = q at *
      obtain ⟨⟨key, ⟨vn, vw, vs, va, vt⟩⟩, r', f'⟩ := q
      simp only [] at *
      unfold verA at HVC
      simp only [] at HVC
      clear HV HI hz hrf
      go_wp2_with fail
      refine HVC.out.mono ?_
      rintro e w5 ⟨rfl, hS5⟩
      have hst5 := HST4.out.rd hS5
      obtain ⟨w6, hw6⟩ : ∃ w6, w6 = w5.alloc (.cells #[.int .i64 vn, .int .i64 vw, .int .i64 vs, .int .i64 va, .string vt] 49) := ⟨_, rfl⟩
      have HW6 : Hid (w6 = w5.alloc (.cells #[.int .i64 vn, .int .i64 vw, .int .i64 vs, .int .i64 va, .string vt] 49)) := hw6
      have hb6 : Below w5.heap.size w5 w6 := by rw [hw6]; exact (Below.refl _ _).alloc (Nat.le_refl _) _
      have hst6 := hst5.rd (RdSt.below hst5.at_ hb6)
      have HST6 : Hid (RlSt w w.heap.size hh w6 r' f' M) := hst6
      obtain ⟨k0, k1, _, _⟩ := hst5.at_.cells
      have hlt5 : w.heap.size < w5.heap.size := (Array.getElem?_eq_some_iff.1 hst5.at_).1
      have HR4 : Hid (restN w.heap.size w4 = r.size) := HST4.out.at_.rest
      have HGM : Hid (GoodL M) := by obtain ⟨_, hd, _⟩ := hst6.hold; exact hd.good
      clear HVC hS5 hst5 hw6 hb6 hst6 HST4 q0 q1 g0 g1
      cases f' with
      | true =>
        go_wp2_with fail
        rw [show w5.alloc (.cells #[.int .i64 vn, .int .i64 vw, .int .i64 vs, .int .i64 va, .string vt] 49) = w6 from HW6.out.symm]
        go_ret2
        exact ⟨Or.inl ⟨rfl, r, M, HGM.out, HIR.out, HZ.out, by rw [HBD.out]; exact Or.inl trivial⟩, HST6.out.low⟩
      | false =>
        obtain ⟨S, hd6, hS6⟩ := HST6.out.hold
        have hpc := HP.out w6 hh S M key ⟨vn, vw, vs, va, vt⟩ hd6 HST6.out.low (by unfold maxLen; omega) (by unfold maxLen; show vt.size ≤ _; omega)
        unfold verA at hpc
        have HPC : Hid (Calls Tryz.prog 16 #[.pointer (some ⟨hh, 0, none⟩), .string key, .agg #[.int .i64 vn, .int .i64 vw, .int .i64 vs, .int .i64 va, .string vt]] w6 fun e w' => (∃ ev, e = .returned ev ∧ BareIs ad ev (putR M false key ⟨vn, vw, vs, va, vt⟩).1) ∧ ∃ S', HdOf w' hh S' (putR M false key ⟨vn, vw, vs, va, vt⟩).2 false ∧ Upd S S' w6 w') := hpc
        have HS6 : Hid (∀ k, S k → w.heap.size < k) := hS6
        have hrl' : r'.size ≤ 1000000 := by omega
        clear hpc hd6 hS6 HP
        go_wp2_with fail
        rw [show w5.alloc (.cells #[.int .i64 vn, .int .i64 vw, .int .i64 vs, .int .i64 va, .string vt] 49) = w6 from HW6.out.symm]
        refine HPC.out.mono ?_
        rintro e w7 ⟨⟨ev, rfl, hev⟩, S', hd7, hu⟩
        have HST7 : Hid (RlSt w w.heap.size hh w7 r' false (putR M false key ⟨vn, vw, vs, va, vt⟩).2) := HST6.out.upd HS6.out hu hd7
        clear HPC HW6 hd7 hu HST6 k0 k1
        rcases hev with ⟨rfl, hc⟩ | ⟨i, hi, rfl, hc⟩
        · have HIX : Hid (I r' (putR M false key ⟨vn, vw, vs, va, vt⟩).2) := HIN.out HGM.out trivial hc
          go_wp2
          go_roundw
          case rel => exact ⟨r', _, HST7.out, HIX.out, hrl', fun h => by cases h⟩
          case measure =>
            have e1 := HST7.out.at_.rest
            have e2 := HR4.out
            have e3 := HVS.out trivial
            show restN w.heap.size w7 < restN w.heap.size w4
            omega
        · go_wp2
          go_ret2
          exact ⟨Or.inl ⟨rfl, r, M, HGM.out, HIR.out, HZ.out, by rw [HBD.out]; exact Or.inr (by rw [hc]; omega)⟩, HST7.out.low⟩
end Go.Proofs.YtoapbjifkjehhaaGreatDoor
