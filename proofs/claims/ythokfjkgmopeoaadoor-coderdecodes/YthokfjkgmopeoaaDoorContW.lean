/- slices.ContainsFunc over shards, whatever function is handed in. -/
import Derived.Test.YthokfjkgmopeoaaDoorG1
import Derived.Shelf.Abstract
namespace Go.Proofs.YthokfjkgmopeoaaDoor
open Go.RowKit
/-- What a function that is handed to ContainsFunc tells of each shard, whatever was made since w. -/
def Asks (w : World) (fn : FuncId) (caps : Array Value) (l : List (Int × ByteArray)) (P : Int × ByteArray → Bool) : Prop :=
  ∀ i, i < l.length → ∀ w1, Below w.heap.size w w1 → Calls Tryd.prog fn (#[.agg #[.int .i64 (shAt l i).1, .string (shAt l i).2]] ++ caps) w1 fun e w2 => e = .returned (.bool (P (shAt l i))) ∧ Below w1.heap.size w1 w2
theorem shAt_mem {l : List (Int × ByteArray)} {i : Nat} (h : i < l.length) : shAt l i ∈ l := by
  unfold shAt
  rw [List.getD_eq_getElem?_getD, List.getElem?_eq_getElem h]
  exact List.getElem_mem h
theorem mem_shAt {l : List (Int × ByteArray)} {x : Int × ByteArray} (h : x ∈ l) : ∃ i, i < l.length ∧ shAt l i = x := by
  obtain ⟨i, hi, rfl⟩ := List.getElem_of_mem h
  refine ⟨i, hi, ?_⟩
  unfold shAt
  rw [List.getD_eq_getElem?_getD, List.getElem?_eq_getElem hi]
  rfl
theorem any_of_at {l : List (Int × ByteArray)} {P : Int × ByteArray → Bool} {i : Nat} (h : i < l.length) (hp : P (shAt l i) = true) : l.any P = true := List.any_eq_true.2 ⟨_, shAt_mem h, hp⟩
theorem none_of_at {l : List (Int × ByteArray)} {P : Int × ByteArray → Bool} (h : ∀ i, i < l.length → P (shAt l i) = false) : l.any P = false := by
  rw [List.any_eq_false]
  intro x hx
  obtain ⟨i, hi, rfl⟩ := mem_shAt hx
  rw [h i hi]
  decide
set_option maxRecDepth 10000 in
set_option maxHeartbeats 1000000 in
theorem index_any (p : Option Addr) (l : List (Int × ByteArray)) (cap : Nat) (fn : FuncId) (caps : Array Value) (P : Int × ByteArray → Bool) (w : World) (hl : l.length ≤ 100000) (hs : Shs w p l)
    (hent : ∀ args W, Sem.run Tryd.prog (callFunc fn args) W = .ok (.enter fn args) W) (hc : Asks w fn caps l P) :
    Calls Tryd.prog 43 #[.slice p l.length cap, .func (.func fn) #[] caps] w fun e w' => (∃ r : Int, e = .returned (.int .i64 r) ∧ (0 ≤ r ∧ l.any P = true ∨ r = -1 ∧ l.any P = false)) ∧ Below w.heap.size w w' := by
  have HS : Hid (Shs w p l) := hs
  have HC : Hid (Asks w fn caps l P) := hc
  clear hs hc
  go_enter Tryd.func43, Tryd.ntmps43
  go_wp2
  go_loopw [8] (fun x wr => ∃ i : Nat, i ≤ l.length ∧ x = .int .i64 i ∧ (∀ j, j < i → P (shAt l j) = false) ∧ Below w.heap.size w wr) (fun x _ => l.length - (intOf x).toNat)
  case atStart => exact ⟨0, by omega, rfl, fun j hj => absurd hj (Nat.not_lt_zero _), Below.refl _ _⟩
  case round =>
    obtain ⟨i, hi, rfl, hall, hB⟩ := hrel
    have HALL : Hid (∀ j, j < i → P (shAt l j) = false) := hall
    have HB : Hid (Below w.heap.size w wr) := hB
    clear hall hB
    by_cases hil : i < l.length
    · rcases (HS.out.below HB.out) with h0 | ⟨b1, o1, rfl, _, hc1⟩
      · rw [h0] at hil; simp at hil
      obtain ⟨q1, q2⟩ := hc1 i hil
      have HX := HC.out i hil wr HB.out
      clear hc1
      have HPX : Hid (∀ v, P (shAt l i) = v → v = P (shAt l i)) := fun v h => h.symm
      by_cases hp : P (shAt l i) = true
      · have HA : Hid (l.any P = true) := any_of_at hil hp
        rw [hp] at HX
        clear hp HPX
        generalize (shAt l i).1 = x at q1 HX
        generalize (shAt l i).2 = t at q2 HX
        go_wp2_with fail
        refine HX.mono ?_
        rintro e w2 ⟨rfl, hb2⟩
        clear HX
        go_wp2
        go_ret
        exact ⟨⟨(i : Int), rfl, Or.inl ⟨by omega, HA.out⟩⟩, HB.out.trans (hb2.mono HB.out.size)⟩
      · have hpf : P (shAt l i) = false := by simpa using hp
        have HPF : Hid (P (shAt l i) = false) := hpf
        rw [hpf] at HX
        clear hp hpf HPX
        generalize (shAt l i).1 = x at q1 HX
        generalize (shAt l i).2 = t at q2 HX
        go_wp2_with fail
        refine HX.mono ?_
        rintro e w2 ⟨rfl, hb2⟩
        have HB2 : Hid (Below w.heap.size w w2) := HB.out.trans (hb2.mono HB.out.size)
        clear HX hb2 q1 q2
        go_wp2
        go_roundw
        case rel =>
          refine ⟨i + 1, by omega, by go_num, fun j hj => ?_, HB2.out⟩
          by_cases e : j = i
          · rw [e]; exact HPF.out
          · exact HALL.out j (by omega)
        case measure => simp [intOf]; omega
    · have HN : Hid (l.any P = false) := none_of_at fun j hj => HALL.out j (by omega)
      go_wp2
      go_ret
      exact ⟨⟨-1, rfl, Or.inr ⟨rfl, HN.out⟩⟩, HB.out⟩
set_option maxRecDepth 10000 in
theorem contains_any (p : Option Addr) (l : List (Int × ByteArray)) (cap : Nat) (fn : FuncId) (caps : Array Value) (P : Int × ByteArray → Bool) (w : World) (hl : l.length ≤ 100000) (hs : Shs w p l)
    (hent : ∀ args W, Sem.run Tryd.prog (callFunc fn args) W = .ok (.enter fn args) W) (hc : Asks w fn caps l P) :
    Calls Tryd.prog 27 #[.slice p l.length cap, .func (.func fn) #[] caps] w fun e w' => e = .returned (.bool (l.any P)) ∧ Below w.heap.size w w' := by
  have HI := index_any p l cap fn caps P w hl hs hent hc
  clear hs hc hent
  go_enter Tryd.func27, Tryd.ntmps27
  go_wp2_with fail
  refine HI.mono ?_
  rintro e w1 ⟨⟨r, rfl, hr⟩, hb⟩
  clear HI
  rcases hr with ⟨hr, ha⟩ | ⟨hr, ha⟩
  · have HA : Hid (l.any P = true) := ha
    clear ha
    go_wp2
    go_ret
    exact ⟨ret_bool (by rw [HA.out]), hb⟩
  · have HA : Hid (l.any P = false) := ha
    subst hr
    clear ha
    go_wp2
    go_ret
    exact ⟨ret_bool (by rw [HA.out]), hb⟩
end Go.Proofs.YthokfjkgmopeoaaDoor
