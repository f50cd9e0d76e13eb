/- Package sums: Seal and Open, and what they call. -/
import Derived.Test.YteppmkpckdmnaaaDoorSumsW
import Derived.Test.YteppmkpckdmnaaaDoorBRowB
import Derived.Test.YteppmkpckdmnaaaDoorRgShW
import Derived.BigQuiet
namespace Go.Proofs.YteppmkpckdmnaaaDoor
open Go.RowKit
/-- The seal's four bytes, of which the last i stand. -/
def sealL (n : Nat) : Nat → List Nat
  | 0 => List.replicate 4 0
  | i + 1 => (sealL n i).set (3 - i) (n / 2 ^ (8 * i) % 256)
theorem sealL_length (n : Nat) : ∀ i, (sealL n i).length = 4
  | 0 => rfl
  | i + 1 => by
    show ((sealL n i).set _ _).length = 4
    rw [List.length_set, sealL_length n i]
theorem sealL_four (n : Nat) : sealL n 4 = fourL n := by
  show [n / 2 ^ (8 * 3) % 256, n / 2 ^ (8 * 2) % 256, n / 2 ^ (8 * 1) % 256, n / 2 ^ (8 * 0) % 256] = [n / 16777216 % 256, n / 65536 % 256, n / 256 % 256, n % 256]
  simp
theorem sealU8 : (Tryd.prog.info? 5).map (fun i => (i.zero, i.size, i.bytes)) = some (some (.int .u8 0), 1, 1) := by kernel_rfl
theorem run_make_four (W : World) : Sem.run Tryd.prog (Instr.makeSlice 52 (.int .i64 4) (.int .i64 4)) W = .ok (.slice (some ⟨W.heap.size, 0, none⟩) 4 4) (W.alloc (.cells (madeCells #[.int .u8 0] 4) 5)) := by
  obtain ⟨i0, hi0, hz0, hz1, hzb⟩ := info_parts sealU8
  exact run_make_row (P := Tryd.prog) 52 5 i0 (.int .u8 0) Tryd.underlying52 hi0 hz0 hz1 rfl .i64 .i64 4 (by rw [hzb]; omega) (by omega) W
set_option maxRecDepth 10000 in
set_option maxHeartbeats 2000000 in
theorem sealOf_any (s : ByteArray) (w : World) (hs : s.size ≤ 1000000) :
    Calls Tryd.prog 26 #[.string s] w fun e w' => e = .returned (.string (fourT (crcOf s))) ∧ Below w.heap.size w w' := by
  have HR := crc_any s w hs
  have hlt := crcOf_lt s
  have hmk := run_make_four
  have HF : Hid (fourT (crcOf s) = strOf (sealL (crcOf s) 4)) := by show _ = _; rw [sealL_four]; rfl
  generalize crcOf s = n at *
  go_enter Tryd.func26, Tryd.ntmps26
  go_wp2_with fail
  refine HR.mono ?_
  rintro e w1 ⟨rfl, h1⟩
  rw [h1]
  clear h1 w1 HR
  go_wp2
  have hR := BRow.made w 4 5
  have hB : Below w.heap.size w (w.alloc (.cells (madeCells #[.int .u8 0] 4) 5)) := (Below.refl _ _).alloc (Nat.le_refl _) _
  generalize w.alloc (.cells (madeCells #[.int .u8 0] 4) 5) = w2 at hR hB ⊢
  have HR : Hid (BRow w2 w.heap.size (List.replicate 4 0)) := hR
  have HB : Hid (Below w.heap.size w w2) := hB
  clear hR hB hmk
  go_loopw [9] (fun x wq => ∃ i : Nat, i ≤ 4 ∧ x = .int .i64 i ∧ BRow wq w.heap.size (sealL n i) ∧ Below w.heap.size w wq) (fun x _ => 4 - (intOf x).toNat)
  case atStart => exact ⟨0, by omega, rfl, HR.out, HB.out⟩
  case round =>
    obtain ⟨i, hi, rfl, hRq, hBq⟩ := hrel
    obtain ⟨w3, rfl⟩ : ∃ w3, w3 = wr := ⟨_, rfl⟩
    have HRq : Hid (BRow w3 w.heap.size (sealL n i)) := hRq
    have HBq : Hid (Below w.heap.size w w3) := hBq
    clear hRq hBq HR HB
    by_cases hil : i < 4
    · have q1 := HRq.out.cell (j := 3 - i) (by rw [sealL_length]; omega)
      have q2 := HRq.out.free (j := 3 - i) (by rw [sealL_length]; omega)
      have HN : Hid (BRow (w3.setCell ⟨w.heap.size, 3 - i, none⟩ (.int .u8 ((n / 2 ^ (8 * i) % 256 : Nat) : Int))) w.heap.size (sealL n (i + 1))) := HRq.out.set (by rw [sealL_length]; omega) (Nat.mod_lt _ (by decide))
      have HN2 : Hid (Below w.heap.size w (w3.setCell ⟨w.heap.size, 3 - i, none⟩ (.int .u8 ((n / 2 ^ (8 * i) % 256 : Nat) : Int)))) := HBq.out.setCell (Nat.le_refl _) _
      generalize Gf.nth (sealL n i) (3 - i) = v at q1
      clear HRq HBq
      rcases (show i = 0 ∨ i = 1 ∨ i = 2 ∨ i = 3 by omega) with rfl | rfl | rfl | rfl
      · go_wp2
        go_roundw
        case rel =>
          have h1 := HN.out
          have h2 := HN2.out
          rw [show ((n / 2 ^ (8 * 0) % 256 : Nat) : Int) = (n : Int) % 256 by simp] at h1 h2
          exact ⟨1, by omega, by go_num, h1, h2⟩
        case measure => simp [intOf]
      · go_wp2
        go_roundw
        case rel =>
          exact ⟨2, by omega, by go_num, HN.out, HN2.out⟩
        case measure => simp [intOf]
      · go_wp2
        go_roundw
        case rel =>
          exact ⟨3, by omega, by go_num, HN.out, HN2.out⟩
        case measure => simp [intOf]
      · go_wp2
        go_roundw
        case rel =>
          have h1 := HN.out
          have h2 := HN2.out
          rw [show ((n / 2 ^ (8 * 3) % 256 : Nat) : Int) = (n : Int) / 16777216 by omega] at h1 h2
          exact ⟨4, by omega, by go_num, h1, h2⟩
        case measure => simp [intOf]
    · have hie : i = 4 := by omega
      subst hie
      have hcv : Sem.run Tryd.prog (convert 52 9 (.slice (some ⟨w.heap.size, 0, none⟩) 4 4)) w3 = .ok (.string (strOf (sealL n 4))) w3 := by
        have h := conv_seg HRq.out.seg 4
        rw [sealL_length] at h
        exact h
      rw [← HF.out] at hcv
      clear HRq
      go_wp2
      go_ret
      exact ⟨rfl, HBq.out⟩
set_option maxRecDepth 10000 in
theorem seal_any (s : ByteArray) (w : World) (hs : s.size ≤ 1000000) :
    Calls Tryd.prog 14 #[.string s] w fun e w' => e = .returned (.string (sealT s)) ∧ Below w.heap.size w w' := by
  have HR := sealOf_any s w hs
  have hz : (fourT (crcOf s)).size = 4 := fourT_size _
  have HE : Hid (sealT s = s ++ fourT (crcOf s)) := by show _ = _; rfl
  generalize fourT (crcOf s) = q at *
  go_enter Tryd.func14, Tryd.ntmps14
  go_wp2_with fail
  refine HR.mono ?_
  rintro e w1 ⟨rfl, hb1⟩
  clear HR
  go_wp2
  go_ret
  exact ⟨by rw [HE.out]; rfl, hb1⟩
theorem clone_any (s : ByteArray) (w : World) (hs : s.size ≤ 1000000) :
    Calls Tryd.prog 49 #[.string s] w fun e w' => e = .returned (.string s) ∧ Below w.heap.size w w' := by
  have HR := Tryd.stringslite_Clone s w (by omega)
  go_enter Tryd.func49, Tryd.ntmps49
  go_wp2_with fail
  refine HR.mono ?_
  rintro e w1 ⟨rfl, hb1⟩
  clear HR
  go_wp2
  go_ret
  exact ⟨rfl, hb1⟩
end Go.Proofs.YteppmkpckdmnaaaDoor
