/- How much a message is. -/
import Derived.Test.YteppmkpckdmnaaaDoorWireLB
namespace Go.Proofs.YteppmkpckdmnaaaDoor
open Go.RowKit
def bulkV (l : List Ver) : Nat := (l.map fun v => 40 + v.text.size).sum
def bulkN (m : Msg) : Nat := m.from_.size + m.to_.size + m.kind.size + m.key.size + bulkV m.L
theorem bulkV_take {l : List Ver} {i : Nat} (h : i < l.length) : bulkV (l.take (i + 1)) = bulkV (l.take i) + 40 + (verAt l i).text.size := by
  unfold bulkV
  rw [List.take_add_one, verAt_get h]
  simp
  omega
theorem bulkV_le (l : List Ver) (i : Nat) : bulkV (l.take i) ≤ bulkV l := by
  have e : bulkV l = bulkV (l.take i) + bulkV (l.drop i) := by
    unfold bulkV
    rw [← List.sum_append, ← List.map_append, List.take_append_drop]
  omega
theorem bulkV_len (l : List Ver) : 40 * l.length ≤ bulkV l := by
  induction l with
  | nil => simp [bulkV]
  | cons v l ih =>
    unfold bulkV at ih ⊢
    rw [List.map_cons, List.sum_cons, List.length_cons]
    omega
set_option maxRecDepth 10000 in
set_option maxHeartbeats 4000000 in
theorem bulk_any (m : Msg) (p : Option Addr) (c : Nat) (w : World) (hr : Rec verE w p m.L) (hl : bulkN m ≤ 9223372036854775807) :
    Calls Tryd.prog 6 #[msgA m (.slice p m.L.length c)] w fun e w' => e = .returned (.int .i64 ((bulkN m : Nat) : Int)) ∧ Below w.heap.size w w' := by
  obtain ⟨m1, m2, m3, m4, m5, m6, m7, mL⟩ := m
  unfold msgA
  unfold bulkN at hl ⊢
  simp only [] at *
  obtain ⟨w1, hw1⟩ : ∃ w1, w1 = w.alloc (.cells #[.string m1, .string m2, .string m3, .string m4, .int .i64 m5, .int .i64 m6, .bool m7, .slice p mL.length c] 24) := ⟨_, rfl⟩
  have HW1 : Hid (w1 = w.alloc (.cells #[.string m1, .string m2, .string m3, .string m4, .int .i64 m5, .int .i64 m6, .bool m7, .slice p mL.length c] 24)) := hw1
  have hb1 : Below w.heap.size w w1 := by rw [hw1]; exact (Below.refl _ _).alloc (Nat.le_refl _) _
  have q7 : w1.cell? ⟨w.heap.size, 7, none⟩ = some (.slice p mL.length c) := by rw [hw1, World.cell?_alloc_at _ _ _ _ rfl]; rfl
  have HR : Hid (Rec verE w1 p mL) := hr.below hb1
  have HB1 : Hid (Below w.heap.size w w1) := hb1
  have hlen := bulkV_len mL
  have HLE : Hid (∀ i, bulkV (mL.take i) ≤ bulkV mL) := bulkV_le mL
  have HNX : Hid (∀ i, i < mL.length → bulkV (mL.take (i + 1)) = bulkV (mL.take i) + 40 + (verAt mL i).text.size) := fun i hi => bulkV_take hi
  have HEN : Hid (bulkV (mL.take mL.length) = bulkV mL) := by show _ = _; rw [List.take_length]
  have hz0 : bulkV (mL.take 0) = 0 := by simp [bulkV]
  have HZ0 : Hid (bulkV (mL.take 0) = 0) := hz0
  clear hw1 hb1 hr hz0
  go_enter Tryd.func6, Tryd.ntmps6
  go_wp2
  rw [show w.alloc (.cells #[.string m1, .string m2, .string m3, .string m4, .int .i64 m5, .int .i64 m6, .bool m7, .slice p mL.length c] 24) = w1 from HW1.out.symm]
  clear HW1
  go_loopw [3, 4] (fun x i wr => ∃ k : Nat, k ≤ mL.length ∧ i = .int .i64 k ∧ x = .int .i64 ((m1.size + m2.size + m3.size + m4.size + bulkV (mL.take k) : Nat) : Int) ∧ wr = w1) (fun _ i _ => mL.length - (intOf i).toNat)
  case atStart => exact ⟨0, Nat.zero_le _, rfl, by rw [HZ0.out]; congr 1, rfl⟩
  case round =>
    obtain ⟨k, hk, rfl, rfl, hwr⟩ := hrel
    subst hwr
    by_cases hkl : k < mL.length
    · obtain ⟨b, o, hpp, hblt, c0, c1, c2, c3, c4⟩ := ver_cells HR.out hkl
      subst hpp
      have hnx := HNX.out k hkl
      have hle := HLE.out (k + 1)
      rw [hnx] at hle
      have HNXT : Hid (bulkV (mL.take (k + 1)) = bulkV (mL.take k) + 40 + (verAt mL k).text.size) := hnx
      clear hnx
      generalize verAt mL k = x at *
      obtain ⟨xn, xw, xs, xa, xt⟩ := x
      simp only [] at *
      generalize bulkV (mL.take k) = q at *
      have hq : ((m1.size + m2.size + m3.size + m4.size + q : Nat) : Int) = (m1.size : Int) + m2.size + m3.size + m4.size + q := by omega
      generalize hN : m1.size + m2.size + m3.size + m4.size + q = N at *
      clear hq
      go_wp2
      go_roundw
      case rel => exact ⟨k + 1, by omega, by go_num, by rw [HNXT.out]; congr 1; omega, trivial⟩
      case measure => simp [intOf]; omega
    · obtain rfl : k = mL.length := by omega
      rw [HEN.out]
      go_wp2
      go_ret
      exact ⟨rfl, HB1.out⟩
end Go.Proofs.YteppmkpckdmnaaaDoor
