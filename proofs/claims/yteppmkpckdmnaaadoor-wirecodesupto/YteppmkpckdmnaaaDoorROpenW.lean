/- The document's own Four and Open. -/
import Derived.Test.YteppmkpckdmnaaaDoorRCrcW
import Derived.Test.YteppmkpckdmnaaaDoorRByteW
import Derived.Below
import Derived.WalkSmall
import Derived.RegionTactic
import Derived.BigRegion
import Derived.Deep.RegionWith
import Derived.Deep.RegionHeld3
namespace Go.Proofs.YteppmkpckdmnaaaDoor
open Go.RowKit
set_option maxRecDepth 10000 in
set_option maxHeartbeats 1000000 in
theorem rfour_any (n : Nat) (w : World) :
    Calls Tryd.prog 19 #[.int .i64 (n : Int)] w fun e w' => e = .returned (.string (fourT n)) ∧ Below w.heap.size w w' := by
  have hb : ∀ (m : Nat) (x : Int), (m : Int) = x → ∀ W, Calls Tryd.prog 33 #[.int .i64 x] W fun e w' => e = .returned (.string (strOf [m % 256])) ∧ Below W.heap.size W w' := fun m x h W => by
    rw [← h]
    exact rbyte_any m W
  have H1 : Hid (∀ W, Calls Tryd.prog 33 #[.int .i64 ((n : Int) / 16777216)] W fun e w' => e = .returned (.string (strOf [n / 16777216 % 256])) ∧ Below W.heap.size W w') := hb (n / 16777216) _ (by omega)
  have H2 : Hid (∀ W, Calls Tryd.prog 33 #[.int .i64 ((n : Int) / 65536)] W fun e w' => e = .returned (.string (strOf [n / 65536 % 256])) ∧ Below W.heap.size W w') := hb (n / 65536) _ (by omega)
  have H3 : Hid (∀ W, Calls Tryd.prog 33 #[.int .i64 ((n : Int) / 256)] W fun e w' => e = .returned (.string (strOf [n / 256 % 256])) ∧ Below W.heap.size W w') := hb (n / 256) _ (by omega)
  have H4 : Hid (∀ W, Calls Tryd.prog 33 #[.int .i64 (n : Int)] W fun e w' => e = .returned (.string (strOf [n % 256])) ∧ Below W.heap.size W w') := hb n _ rfl
  have HC : Hid (strOf [n / 16777216 % 256] ++ strOf [n / 65536 % 256] ++ strOf [n / 256 % 256] ++ strOf [n % 256] = fourT n) := by
    show _ = _
    rw [strOf_append', strOf_append', strOf_append']
    rfl
  have z1 : (strOf [n / 16777216 % 256]).size ≤ 1 := by rw [strOf_size]; exact Nat.le_refl _
  have z2 : (strOf [n / 65536 % 256]).size ≤ 1 := by rw [strOf_size]; exact Nat.le_refl _
  have z3 : (strOf [n / 256 % 256]).size ≤ 1 := by rw [strOf_size]; exact Nat.le_refl _
  have z4 : (strOf [n % 256]).size ≤ 1 := by rw [strOf_size]; exact Nat.le_refl _
  clear hb
  generalize strOf [n / 16777216 % 256] = s1 at *
  generalize strOf [n / 65536 % 256] = s2 at *
  generalize strOf [n / 256 % 256] = s3 at *
  generalize strOf [n % 256] = s4 at *
  go_enter Tryd.func19, Tryd.ntmps19
  go_wp2_with fail
  refine (H1.out _).mono ?_
  rintro e w1 ⟨rfl, hb1⟩
  have HB1 : Hid (Below w.heap.size w w1) := hb1
  clear hb1 H1
  go_wp2_with fail
  refine (H2.out _).mono ?_
  rintro e w2 ⟨rfl, hb2⟩
  have HB2 : Hid (Below w.heap.size w w2) := HB1.out.trans (hb2.mono HB1.out.size)
  clear hb2 H2 HB1
  go_wp2_with fail
  refine (H3.out _).mono ?_
  rintro e w3 ⟨rfl, hb3⟩
  have HB3 : Hid (Below w.heap.size w w3) := HB2.out.trans (hb3.mono HB2.out.size)
  clear hb3 H3 HB2
  go_wp2_with fail
  refine (H4.out _).mono ?_
  rintro e w4 ⟨rfl, hb4⟩
  have HB4 : Hid (Below w.heap.size w w4) := HB3.out.trans (hb4.mono HB3.out.size)
  clear hb4 H4 HB3
  go_wp2
  go_ret
  exact ⟨by rw [← HC.out]; rfl, HB4.out⟩
set_option maxRecDepth 10000 in
theorem ropen_short (s : ByteArray) (w : World) (hs : s.size < 4) :
    Calls Tryd.prog 27 #[.string s] w fun e w' => e = .returned (.tuple #[.string ⟨#[]⟩, .int .i64 1]) ∧ w' = w := by
  go_enter Tryd.func27, Tryd.ntmps27
  go_wp2
  go_ret2
  exact ⟨rfl, rfl⟩
set_option maxRecDepth 10000 in
set_option maxHeartbeats 2000000 in
theorem ropen_ok (s : ByteArray) (w : World) (hs : 4 ≤ s.size) (hl : s.size ≤ 1000000) (h : fourT (crcOf (cutT s)) = endT s) :
    Calls Tryd.prog 27 #[.string s] w fun e w' => e = .returned (.tuple #[.string (cutT s), .int .i64 0]) ∧ Below w.heap.size w w' := by
  have hc1 : ∀ W, Sem.run Tryd.prog (Instr.slice 9 (.string s) none (some (.int .i64 ((s.size : Int) - 4))) none) W = .ok (.string (cutT s)) W := fun W => by
    rw [run_slice_string_h W 9 s Tryd.underlying9 .i64 _ (by omega) (by omega)]
    unfold cutT
    rw [show ((s.size : Int) - 4).toNat = s.size - 4 by omega]
  have hc2 : ∀ W, Sem.run Tryd.prog (Instr.slice 9 (.string s) (some (.int .i64 ((s.size : Int) - 4))) none none) W = .ok (.string (endT s)) W := fun W => by
    rw [run_slice_string_l W 9 s Tryd.underlying9 .i64 _ (by omega) (by omega)]
    unfold endT
    rw [show ((s.size : Int) - 4).toNat = s.size - 4 by omega]
  have HR : Hid (∀ W, Calls Tryd.prog 20 #[.string (cutT s)] W fun e w' => e = .returned (.int .i64 ((crcOf (cutT s) : Nat) : Int)) ∧ w' = W) := fun W => rcrc_any _ W (by rw [cutT_size]; omega)
  have HF : Hid (∀ W, Calls Tryd.prog 19 #[.int .i64 ((crcOf (cutT s) : Nat) : Int)] W fun e w' => e = .returned (.string (fourT (crcOf (cutT s)))) ∧ Below W.heap.size W w') := fun W => rfour_any _ W
  rw [h] at HF
  clear h
  generalize crcOf (cutT s) = q at *
  generalize cutT s = t at *
  generalize endT s = u at *
  have l0 : (0 : Int) ≤ (s.size : Int) - 4 := by omega
  have l1 : (s.size : Int) - 4 ≤ (s.size : Int) := by omega
  have l2 : (4 : Int) ≤ (s.size : Int) := by omega
  have l3 : IntKind.i64.wrap ((s.size : Int) - 4) = (s.size : Int) - 4 := by rw [IntKind.wrap_i64]; omega
  have l4 : wrap64 ((s.size : Int) - 4) = (s.size : Int) - 4 := by unfold wrap64; omega
  go_enter Tryd.func27, Tryd.ntmps27
  go_wp2
  go_region_held3 (fun _ => True) (trivial)
    (first | (go_at_call 20; refine (HR.out _).mono ?_; rintro e w' ⟨rfl, rfl⟩) | (go_at_call 19; refine (HF.out _).mono ?_; rintro e w1 ⟨rfl, hb1⟩))
  go_wp2
  go_ret2
  exact ⟨rfl, ((Below.refl w.heap.size w).drew).trans hb1⟩
set_option maxRecDepth 10000 in
set_option maxHeartbeats 2000000 in
theorem ropen_bad (s : ByteArray) (w : World) (hs : 4 ≤ s.size) (hl : s.size ≤ 1000000) (h : fourT (crcOf (cutT s)) ≠ endT s) :
    Calls Tryd.prog 27 #[.string s] w fun e w' => e = .returned (.tuple #[.string ⟨#[]⟩, .int .i64 9]) ∧ Below w.heap.size w w' := by
  have hc1 : ∀ W, Sem.run Tryd.prog (Instr.slice 9 (.string s) none (some (.int .i64 ((s.size : Int) - 4))) none) W = .ok (.string (cutT s)) W := fun W => by
    rw [run_slice_string_h W 9 s Tryd.underlying9 .i64 _ (by omega) (by omega)]
    unfold cutT
    rw [show ((s.size : Int) - 4).toNat = s.size - 4 by omega]
  have hc2 : ∀ W, Sem.run Tryd.prog (Instr.slice 9 (.string s) (some (.int .i64 ((s.size : Int) - 4))) none none) W = .ok (.string (endT s)) W := fun W => by
    rw [run_slice_string_l W 9 s Tryd.underlying9 .i64 _ (by omega) (by omega)]
    unfold endT
    rw [show ((s.size : Int) - 4).toNat = s.size - 4 by omega]
  have HR : Hid (∀ W, Calls Tryd.prog 20 #[.string (cutT s)] W fun e w' => e = .returned (.int .i64 ((crcOf (cutT s) : Nat) : Int)) ∧ w' = W) := fun W => rcrc_any _ W (by rw [cutT_size]; omega)
  have HF : Hid (∀ W, Calls Tryd.prog 19 #[.int .i64 ((crcOf (cutT s) : Nat) : Int)] W fun e w' => e = .returned (.string (fourT (crcOf (cutT s)))) ∧ Below W.heap.size W w') := fun W => rfour_any _ W
  have h1 : ¬ (fourT (crcOf (cutT s))).toList = (endT s).toList := fun e => h (toListInj e)
  have h2 : ((fourT (crcOf (cutT s))).toList == (endT s).toList) = false := by simpa using h1
  have h3 : (fourT (crcOf (cutT s)) == endT s) = false := by rw [beq_toListBytes]; exact h2
  clear h
  generalize fourT (crcOf (cutT s)) = v at *
  generalize crcOf (cutT s) = q at *
  generalize cutT s = t at *
  generalize endT s = u at *
  have l0 : (0 : Int) ≤ (s.size : Int) - 4 := by omega
  have l1 : (s.size : Int) - 4 ≤ (s.size : Int) := by omega
  have l2 : (4 : Int) ≤ (s.size : Int) := by omega
  have l3 : IntKind.i64.wrap ((s.size : Int) - 4) = (s.size : Int) - 4 := by rw [IntKind.wrap_i64]; omega
  have l4 : wrap64 ((s.size : Int) - 4) = (s.size : Int) - 4 := by unfold wrap64; omega
  go_enter Tryd.func27, Tryd.ntmps27
  go_wp2
  go_region_held3 (fun _ => True) (trivial)
    (first | (go_at_call 20; refine (HR.out _).mono ?_; rintro e w' ⟨rfl, rfl⟩) | (go_at_call 19; refine (HF.out _).mono ?_; rintro e w1 ⟨rfl, hb1⟩))
  go_wp2
  go_ret2
  exact ⟨rfl, ((Below.refl w.heap.size w).drew).trans hb1⟩
end Go.Proofs.YteppmkpckdmnaaaDoor
