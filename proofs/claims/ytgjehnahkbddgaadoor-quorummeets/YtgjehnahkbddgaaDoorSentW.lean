/- plain.Code at nil and at each sentinel of package api. -/
import Derived.Test.YtgjehnahkbddgaaDoorErrW
namespace Go.Proofs.YtgjehnahkbddgaaDoor
open Go.RowKit Go.Extern.Stop Go.Stop Go.Extern

/-- The package-level variables lie as the program's text lays them: twelve errors, each its own pointer, and errors.errorType. -/
structure Sent (w : World) (ad : Nat → Addr) : Prop where
  c0 : w.cell? ⟨3, 0, none⟩ = some (.iface 101 (.pointer (some (ad 0))))
  c1 : w.cell? ⟨0, 0, none⟩ = some (.iface 101 (.pointer (some (ad 1))))
  c2 : w.cell? ⟨1, 0, none⟩ = some (.iface 101 (.pointer (some (ad 2))))
  c3 : w.cell? ⟨4, 0, none⟩ = some (.iface 101 (.pointer (some (ad 3))))
  c4 : w.cell? ⟨2, 0, none⟩ = some (.iface 101 (.pointer (some (ad 4))))
  c5 : w.cell? ⟨5, 0, none⟩ = some (.iface 101 (.pointer (some (ad 5))))
  c6 : w.cell? ⟨6, 0, none⟩ = some (.iface 101 (.pointer (some (ad 6))))
  c7 : w.cell? ⟨7, 0, none⟩ = some (.iface 101 (.pointer (some (ad 7))))
  c8 : w.cell? ⟨8, 0, none⟩ = some (.iface 101 (.pointer (some (ad 8))))
  c9 : w.cell? ⟨9, 0, none⟩ = some (.iface 101 (.pointer (some (ad 9))))
  c10 : w.cell? ⟨10, 0, none⟩ = some (.iface 101 (.pointer (some (ad 10))))
  c11 : w.cell? ⟨11, 0, none⟩ = some (.iface 101 (.pointer (some (ad 11))))
  typ : w.cell? ⟨12, 0, none⟩ = some (.iface 85 (.agg #[.pointer (some ⟨13, 32, none⟩)]))
  row : ∀ i, i < 12 → ∃ c t, w.heap[(ad i).block]? = some (.cells c t (0, 0))
  ne : ∀ i j, i < 12 → j < 12 → i ≠ j → ad i ≠ ad j

theorem lt_of_cell {w : World} {b o : Nat} {v : Value} (h : w.cell? ⟨b, o, none⟩ = some v) : b < w.heap.size := by
  rcases Nat.lt_or_ge b w.heap.size with h' | h'
  · exact h'
  · simp [World.cell?, Array.getElem?_eq_none h'] at h
theorem lt_of_row {w : World} {b : Nat} {o : Obj} (h : w.heap[b]? = some o) : b < w.heap.size := by
  rcases Nat.lt_or_ge b w.heap.size with h' | h'
  · exact h'
  · rw [Array.getElem?_eq_none h'] at h; cases h
theorem Sent.below {w w' : World} {ad : Nat → Addr} (h : Sent w ad) (hb : Below w.heap.size w w') : Sent w' ad where
  c0 := (hb.cell (lt_of_cell h.c0)).trans h.c0
  c1 := (hb.cell (lt_of_cell h.c1)).trans h.c1
  c2 := (hb.cell (lt_of_cell h.c2)).trans h.c2
  c3 := (hb.cell (lt_of_cell h.c3)).trans h.c3
  c4 := (hb.cell (lt_of_cell h.c4)).trans h.c4
  c5 := (hb.cell (lt_of_cell h.c5)).trans h.c5
  c6 := (hb.cell (lt_of_cell h.c6)).trans h.c6
  c7 := (hb.cell (lt_of_cell h.c7)).trans h.c7
  c8 := (hb.cell (lt_of_cell h.c8)).trans h.c8
  c9 := (hb.cell (lt_of_cell h.c9)).trans h.c9
  c10 := (hb.cell (lt_of_cell h.c10)).trans h.c10
  c11 := (hb.cell (lt_of_cell h.c11)).trans h.c11
  typ := (hb.cell (lt_of_cell h.typ)).trans h.typ
  row := fun i hi => by
    obtain ⟨c, t, hc⟩ := h.row i hi
    exact ⟨c, t, (hb.block _ (lt_of_row hc)).trans hc⟩
  ne := h.ne

theorem code_nil (w : World) : Calls Tryd.prog 20 #[.nilIface] w fun e w' => e = .returned (.tuple #[.int .i64 0, .int .i64 (-1)]) ∧ w' = w := by
  go_enter Tryd.func20, Tryd.ntmps20
  go_wp2
  go_ret2
  exact ⟨rfl, rfl⟩
/-- The row of the twelve errors. -/
def sentRow (ad : Nat → Addr) : Array Value := #[.iface 101 (.pointer (some (ad 0))), .iface 101 (.pointer (some (ad 1))), .iface 101 (.pointer (some (ad 2))), .iface 101 (.pointer (some (ad 3))), .iface 101 (.pointer (some (ad 4))), .iface 101 (.pointer (some (ad 5))), .iface 101 (.pointer (some (ad 6))), .iface 101 (.pointer (some (ad 7))), .iface 101 (.pointer (some (ad 8))), .iface 101 (.pointer (some (ad 9))), .iface 101 (.pointer (some (ad 10))), .iface 101 (.pointer (some (ad 11)))]
theorem sentRow_cell (ad : Nat → Addr) (w : World) : ∀ k, k < 12 → (w.alloc (.cells (sentRow ad) 32)).cell? ⟨w.heap.size, k, none⟩ = some (.iface 101 (.pointer (some (ad k)))) := by
  intro k hk
  have e : (sentRow ad)[k]? = some (.iface 101 (.pointer (some (ad k)))) := by
    match k, hk with
    | 0, _ | 1, _ | 2, _ | 3, _ | 4, _ | 5, _ | 6, _ | 7, _ | 8, _ | 9, _ | 10, _ | 11, _ => rfl
  rw [World.cell?_alloc_at _ _ _ _ (by simp)]
  exact e
set_option maxRecDepth 10000 in
set_option maxHeartbeats 4000000 in
theorem code_sent (ad : Nat → Addr) (i : Nat) (hi : i < 12) (w : World) (hS : Sent w ad) :
    Calls Tryd.prog 20 #[.iface 101 (.pointer (some (ad i)))] w fun e w' => e = .returned (.tuple #[.int .i64 ((i + 1 : Nat) : Int), .int .i64 (-1)]) ∧ Below w.heap.size w w' := by
  have hb1 : Below w.heap.size w (w.alloc (.cells #[.pointer none] 56)) := (Below.refl _ _).alloc (Nat.le_refl _) _
  have hS1 := hS.below hb1
  go_enter Tryd.func20, Tryd.ntmps20
  go_wp2_with fail
  refine (as_miss _ _ _ hS1.typ).mono ?_
  rintro e w2 ⟨rfl, hb2⟩
  have hS2 := hS1.below hb2
  have hS2' := hS2
  obtain ⟨c0, c1, c2, c3, c4, c5, c6, c7, c8, c9, c10, c11, _, _, _⟩ := hS2'
  go_wp2
  clear c0 c1 c2 c3 c4 c5 c6 c7 c8 c9 c10 c11 hb1 hS1 hS
  have hb3 : Below w2.heap.size w2 (w2.alloc (.cells (sentRow ad) 32)) := (Below.refl _ _).alloc (Nat.le_refl _) _
  have hS3 := hS2.below hb3
  have hrow := sentRow_cell ad w2
  have hb4 : Hid (Below w.heap.size w (w2.alloc (.cells (sentRow ad) 32))) := (((Below.refl _ _).alloc (Nat.le_refl _) _).trans (hb2.mono (by simp))).trans (hb3.mono (by have := hb2.size; simp at this; omega))
  have e3 : (w2.alloc (.cells (sentRow ad) 32)).heap.size = w2.heap.size + 1 := by simp
  unfold sentRow at hS3 hrow hb4
  generalize w2.alloc (.cells _ 32) = w3 at hS3 hrow hb4 ⊢
  clear hb2 hb3 hS2 e3
  go_loop [3, 30] (fun y x => y = .int .i64 (-1) ∧ ∃ k : Nat, k ≤ i ∧ x = .int .i64 k) (fun _ x => 12 - (intOf x).toNat)
  case atStart => exact ⟨rfl, 0, by omega, rfl⟩
  case round =>
    obtain ⟨rfl, k, hk, rfl⟩ := hrel
    have hk12 : k < 12 := by omega
    have hc := hrow k hk12
    obtain ⟨ca, ta, hra⟩ := hS3.row i hi
    obtain ⟨cb, tb, hrb⟩ := hS3.row k hk12
    clear hrow
    by_cases hki : k = i
    · subst hki
      go_wp2_with (go_at_call 30; refine (is_same (ad k) _).mono ?_; rintro e w' ⟨rfl, rfl⟩)
      go_ret2
      exact ⟨by simp, hb4.out⟩
    · have hne := hS3.ne i k hi hk12 (fun h => hki h.symm)
      have HN : Hid (ad i ≠ ad k) := hne
      have HA : Hid (w3.heap[(ad i).block]? = some (.cells ca ta (0, 0))) := hra
      have HB : Hid (w3.heap[(ad k).block]? = some (.cells cb tb (0, 0))) := hrb
      clear hne hra hrb
      go_wp2_with (go_at_call 30; refine (is_other (ad i) (ad k) ca cb ta tb _ HN.out HA.out HB.out).mono ?_; rintro e w' ⟨rfl, rfl⟩)
      go_round
      case rel => exact ⟨rfl, k + 1, by omega, by go_num⟩
      case measure => simp [intOf]; omega
end Go.Proofs.YtgjehnahkbddgaaDoor
