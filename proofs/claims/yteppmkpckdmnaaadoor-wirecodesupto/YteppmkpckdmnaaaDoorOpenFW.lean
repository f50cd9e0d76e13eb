/- Package sums: Open. -/
import Derived.Test.YteppmkpckdmnaaaDoorSealW
import Derived.Test.YteppmkpckdmnaaaDoorSentW
import Derived.Deep.RegionHeld3
namespace Go.Proofs.YteppmkpckdmnaaaDoor
open Go.RowKit
set_option maxRecDepth 10000 in
theorem open_short (s : ByteArray) (ad : Nat → Addr) (w : World) (hs : s.size < 4) (hS : Sent w ad) :
    Calls Tryd.prog 36 #[.string s] w fun e w' => e = .returned (.tuple #[.string ⟨#[]⟩, .iface 124 (.pointer (some (ad 0)))]) ∧ Below w.heap.size w w' := by
  have c0 := hS.c0
  clear hS
  go_enter Tryd.func36, Tryd.ntmps36
  go_wp2
  go_quiet (fail)
  go_wp2
  go_ret2
  exact ⟨rfl, below_drewN (Below.refl _ _) _⟩
set_option maxRecDepth 10000 in
set_option maxHeartbeats 2000000 in
theorem open_ok (s : ByteArray) (w : World) (hs : 4 ≤ s.size) (hl : s.size ≤ 1000000) (h : fourT (crcOf (cutT s)) = endT s) :
    Calls Tryd.prog 36 #[.string s] w fun e w' => e = .returned (.tuple #[.string (cutT s), .nilIface]) ∧ Below w.heap.size w w' := by
  have hc1 : ∀ W, Sem.run Tryd.prog (Instr.slice 9 (.string s) none (some (.int .i64 ((s.size : Int) - 4))) none) W = .ok (.string (cutT s)) W := fun W => by
    rw [run_slice_string_h W 9 s Tryd.underlying9 .i64 _ (by omega) (by omega)]
    unfold cutT
    rw [show ((s.size : Int) - 4).toNat = s.size - 4 by omega]
  have hc2 : ∀ W, Sem.run Tryd.prog (Instr.slice 9 (.string s) (some (.int .i64 ((s.size : Int) - 4))) none none) W = .ok (.string (endT s)) W := fun W => by
    rw [run_slice_string_l W 9 s Tryd.underlying9 .i64 _ (by omega) (by omega)]
    unfold endT
    rw [show ((s.size : Int) - 4).toNat = s.size - 4 by omega]
  have HF : Hid (∀ W, Calls Tryd.prog 26 #[.string (cutT s)] W fun e w' => e = .returned (.string (fourT (crcOf (cutT s)))) ∧ Below W.heap.size W w') := fun W => sealOf_any _ W (by rw [cutT_size]; omega)
  have HC : Hid (∀ W, Calls Tryd.prog 49 #[.string (cutT s)] W fun e w' => e = .returned (.string (cutT s)) ∧ Below W.heap.size W w') := fun W => clone_any _ W (by rw [cutT_size]; omega)
  rw [h] at HF
  clear h
  generalize cutT s = t at *
  generalize endT s = u at *
  have l0 : (0 : Int) ≤ (s.size : Int) - 4 := by omega
  have l1 : (s.size : Int) - 4 ≤ (s.size : Int) := by omega
  have l2 : (4 : Int) ≤ (s.size : Int) := by omega
  have l3 : IntKind.i64.wrap ((s.size : Int) - 4) = (s.size : Int) - 4 := by rw [IntKind.wrap_i64]; omega
  have l4 : wrap64 ((s.size : Int) - 4) = (s.size : Int) - 4 := by unfold wrap64; omega
  go_enter Tryd.func36, Tryd.ntmps36
  go_wp2
  go_region_held3 (fun _ => True) (trivial)
    (first | (go_at_call 26; refine (HF.out _).mono ?_; rintro e w1 ⟨rfl, hb1⟩))
  have HB1 : Hid (Below w.heap.size w w1) := ((Below.refl w.heap.size w).drew).trans hb1
  clear hb1
  go_wp2_with fail
  refine (HC.out _).mono ?_
  rintro e w2 ⟨rfl, hb2⟩
  go_wp2
  go_ret2
  exact ⟨rfl, HB1.out.trans (hb2.mono HB1.out.size)⟩
set_option maxRecDepth 10000 in
set_option maxHeartbeats 2000000 in
theorem open_bad (s : ByteArray) (ad : Nat → Addr) (w : World) (hs : 4 ≤ s.size) (hl : s.size ≤ 1000000) (h : fourT (crcOf (cutT s)) ≠ endT s) (hS : Sent w ad) :
    Calls Tryd.prog 36 #[.string s] w fun e w' => e = .returned (.tuple #[.string ⟨#[]⟩, .iface 124 (.pointer (some (ad 8)))]) ∧ Below w.heap.size w w' := by
  have hc1 : ∀ W, Sem.run Tryd.prog (Instr.slice 9 (.string s) none (some (.int .i64 ((s.size : Int) - 4))) none) W = .ok (.string (cutT s)) W := fun W => by
    rw [run_slice_string_h W 9 s Tryd.underlying9 .i64 _ (by omega) (by omega)]
    unfold cutT
    rw [show ((s.size : Int) - 4).toNat = s.size - 4 by omega]
  have hc2 : ∀ W, Sem.run Tryd.prog (Instr.slice 9 (.string s) (some (.int .i64 ((s.size : Int) - 4))) none none) W = .ok (.string (endT s)) W := fun W => by
    rw [run_slice_string_l W 9 s Tryd.underlying9 .i64 _ (by omega) (by omega)]
    unfold endT
    rw [show ((s.size : Int) - 4).toNat = s.size - 4 by omega]
  have HF : Hid (∀ W, Calls Tryd.prog 26 #[.string (cutT s)] W fun e w' => e = .returned (.string (fourT (crcOf (cutT s)))) ∧ Below W.heap.size W w') := fun W => sealOf_any _ W (by rw [cutT_size]; omega)
  have HS : Hid (Sent w ad) := hS
  have h1 : ¬ (endT s).toList = (fourT (crcOf (cutT s))).toList := fun e => h (toListInj e.symm)
  have h2 : ((endT s).toList == (fourT (crcOf (cutT s))).toList) = false := by simpa using h1
  have h3 : (endT s == fourT (crcOf (cutT s))) = false := by rw [beq_toListBytes]; exact h2
  clear h hS
  generalize fourT (crcOf (cutT s)) = v at *
  generalize cutT s = t at *
  generalize endT s = u at *
  have l0 : (0 : Int) ≤ (s.size : Int) - 4 := by omega
  have l1 : (s.size : Int) - 4 ≤ (s.size : Int) := by omega
  have l2 : (4 : Int) ≤ (s.size : Int) := by omega
  have l3 : IntKind.i64.wrap ((s.size : Int) - 4) = (s.size : Int) - 4 := by rw [IntKind.wrap_i64]; omega
  have l4 : wrap64 ((s.size : Int) - 4) = (s.size : Int) - 4 := by unfold wrap64; omega
  go_enter Tryd.func36, Tryd.ntmps36
  go_wp2
  go_region_held3 (fun _ => True) (trivial)
    (first | (go_at_call 26; refine (HF.out _).mono ?_; rintro e w1 ⟨rfl, hb1⟩))
  have hB1 : Below w.heap.size w w1 := ((Below.refl w.heap.size w).drew).trans hb1
  have c8 := (HS.out.below hB1).c8
  have HB1 : Hid (Below w.heap.size w w1) := hB1
  clear hb1 hB1
  go_wp2
  go_quiet (fail)
  go_wp2
  go_ret2
  exact ⟨rfl, below_drewN HB1.out _⟩
end Go.Proofs.YteppmkpckdmnaaaDoor
