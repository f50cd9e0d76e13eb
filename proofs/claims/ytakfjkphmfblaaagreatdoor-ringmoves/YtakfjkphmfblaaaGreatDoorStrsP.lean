/- A slice of texts that came in. -/
import Derived.Test.YtakfjkphmfblaaaGreatDoorRows
import Derived.Test.YtakfjkphmfblaaaGreatDoorG1
import Derived.ProofKit
import Derived.OpenShut
import Derived.ChangeOld
import Derived.Deep.Strs
namespace Go.Proofs.YtakfjkphmfblaaaGreatDoor
open Go.ChangeShapes Go.WideShapes Go.ChangeAt Go.RowKit
theorem strsLaidOut : laidOutB Tryz.prog = true := by kernel_rfl
theorem strBytes : Tryz.prog.bytesOf 9 = 16 := by kernel_rfl
set_option maxRecDepth 100000 in
theorem strs_arg {H : Type} {enc : TypeId × Value → H} {W : World} {base : Nat} {v : Value} {d : DataW H} {ps : List MemPlace} (hok : Value.okWide Tryz.prog W .any base 22 v)
    (h : DataW.Trod enc Tryz.prog W 0 (fun _ => true) true 22 v d ps) : ∃ p l cap, v = .slice p l.length cap ∧ Strs W p l ∧ l.length ≤ maxLen ∧ (∀ x ∈ l, x.size ≤ maxLen) ∧ l.length ≤ cap ∧ (p = none → l = [] ∧ cap = 0) ∧ ((d.weights Tryz.prog 22).all (· ≤ reachBytes) = true → l.length ≤ 8796093021952) := by
  obtain ⟨a0, len0, cap0, rfl⟩ := okWide_slice Tryz.underlying22 hok
  obtain ⟨fuel, hf⟩ := h
  rcases Deep.open_strs Tryz.underlying22 Tryz.underlying9 (by kernel_rfl) hf with ⟨hcs, _⟩ | ⟨a, len, cp, m, Sx, hcs, _, hle, hcm, hm, hd, hx⟩
  · simp [Value.cells] at hcs
    obtain ⟨rfl, rfl, rfl⟩ := hcs
    exact ⟨none, [], 0, rfl, Or.inl rfl, Nat.zero_le _, fun x hx => (by cases hx), Nat.le_refl _, fun _ => ⟨rfl, rfl⟩, fun _ => Nat.zero_le _⟩
  · simp [Value.cells] at hcs
    obtain ⟨rfl, rfl, rfl⟩ := hcs
    have hlm : len0 ≤ m := by rw [hm]; split <;> omega
    have hlen : ((List.range len0).map Sx).length = len0 := by simp
    have hat : ∀ i, i < len0 → txt ((List.range len0).map Sx) i = Sx i := fun i hi => by
      rw [txt_getElem _ i (by rw [hlen]; exact hi)]
      simp
    refine ⟨some a, (List.range len0).map Sx, cap0, by rw [hlen], ?_, by rw [hlen]; omega, fun x hxm => ?_, by rw [hlen]; exact hle, (fun e => by cases e), fun hw => ?_⟩
    · by_cases h0 : len0 = 0
      · exact Or.inl (List.length_eq_zero_iff.1 (by rw [hlen]; exact h0))
      · have hx0 := (hx 0 (by omega)).1
        obtain ⟨b, off, sp⟩ := a
        have hsp : sp = none := by
          cases sp with
          | none => rfl
          | some q =>
            exfalso
            simp [Addr.add, World.cell?] at hx0
            revert hx0
            split <;> intro h9 <;> cases h9
        subst hsp
        refine Or.inr ⟨b, off, rfl, ?_, fun i hi => ?_⟩
        · rw [Addr.add_lit] at hx0
          rcases Nat.lt_or_ge b W.heap.size with h' | h'
          · exact h'
          · simp [World.cell?, Array.getElem?_eq_none h'] at hx0
        · rw [hlen] at hi
          have := (hx i (by omega)).1
          rw [Addr.add_lit] at this
          rw [hat i hi]
          exact this
    · obtain ⟨i, hi, rfl⟩ := List.mem_map.1 hxm
      exact (hx i (by have := List.mem_range.1 hi; omega)).2
    · have hd' : d = .slice ((List.range len0).map fun i => .lit (.string (Sx i).data.toList)) ((List.range (m - len0)).map fun j => .lit (.string (Sx (len0 + j)).data.toList)) := congrArg Prod.fst hd
      rw [hd'] at hw
      simp only [DataW.weights, Tryz.underlying22, List.all_cons, Bool.and_eq_true, List.length_map, List.length_range, strBytes, reachBytes] at hw
      have h1 := of_decide_eq_true hw.1
      rw [hlen]
      omega
end Go.Proofs.YtakfjkphmfblaaaGreatDoor
