/- Pieces of slices of texts. -/
import Derived.Test.YtgjehnahkbddgaaDoorStrsB
namespace Go.Proofs.YtgjehnahkbddgaaDoor
open Go.RowKit
theorem strs_from {w : World} {p : Option Addr} {l : List ByteArray} {c k : Nat} (h : Strs w p l) (hk : k ≤ l.length) (hc : l.length ≤ c) (hn : p = none → l = [] ∧ c = 0) :
    Strs w (if c = k then p else p.map (·.add k)) (l.drop k) ∧ ((if c = k then p else p.map (·.add k)) = none → l.drop k = [] ∧ c - k = 0) := by
  by_cases e : c = k
  · rw [if_pos e]
    have h0 : l.drop k = [] := List.drop_eq_nil_of_le (by omega)
    exact ⟨Or.inl h0, fun _ => ⟨h0, by omega⟩⟩
  · rw [if_neg e]
    cases p with
    | none =>
      obtain ⟨h1, h2⟩ := hn rfl
      rw [h1] at hk
      simp at hk
      omega
    | some a =>
      refine ⟨?_, fun h0 => by cases h0⟩
      rcases h with h | ⟨b, o, hp, hlt, hcell⟩
      · exact Or.inl (by rw [h, List.drop_nil])
      · obtain rfl : a = ⟨b, o, none⟩ := by simpa using hp
        refine Or.inr ⟨b, o + k, by simp [Addr.add_lit], hlt, fun i hi => ?_⟩
        rw [List.length_drop] at hi
        rw [Nat.add_assoc, hcell (k + i) (by omega)]
        congr 2
        unfold txt
        rw [List.getD_eq_getElem?_getD, List.getD_eq_getElem?_getD, List.getElem?_drop]
theorem run_strs_from (p : Option Addr) (l : List ByteArray) (c k : Nat) (hk : k ≤ l.length) (W : World) : Sem.run Tryd.prog (Instr.slice 22 (.slice p l.length c) (some (.int .i64 (k : Int))) none none) W = .ok (.slice (if c = k then p else p.map (·.add k)) (l.drop k).length (c - k)) W := by
  have hsz : (sizeOf (Tryd.prog.elem 22)).run Tryd.prog W = .ok 1 W := by kernel_rfl
  have hel : Tryd.prog.elem 22 = 9 := by kernel_rfl
  have hun : Tryd.prog.underlying 22 = some (.slice (Tryd.prog.elem 22)) := by rw [hel]; exact Tryd.underlying22
  rw [run_slice_l W 22 p l.length c hun .i64 (k : Int) (by omega) (by omega), hsz]
  simp [Result.andThen, sliced]
theorem run_strs_to (p : Option Addr) (l : List ByteArray) (c k : Nat) (hk : k ≤ l.length) (hc : l.length ≤ c) (W : World) : Sem.run Tryd.prog (Instr.slice 22 (.slice p l.length c) none (some (.int .i64 (k : Int))) none) W = .ok (.slice p (l.take k).length c) W := by
  have hsz : (sizeOf (Tryd.prog.elem 22)).run Tryd.prog W = .ok 1 W := by kernel_rfl
  have hel : Tryd.prog.elem 22 = 9 := by kernel_rfl
  have hun : Tryd.prog.underlying 22 = some (.slice (Tryd.prog.elem 22)) := by rw [hel]; exact Tryd.underlying22
  have hl : (l.take k).length = k := by rw [List.length_take]; omega
  rw [run_slice_h W 22 p l.length c hun .i64 (k : Int) (by omega) (by omega), hsz, hl]
  simp [Result.andThen, sliced, Addr.add]
end Go.Proofs.YtgjehnahkbddgaaDoor
