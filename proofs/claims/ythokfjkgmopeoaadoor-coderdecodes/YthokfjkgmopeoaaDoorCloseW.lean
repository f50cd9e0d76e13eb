/- Package matrix: the functions that read what the calls have caught. -/
import Derived.Test.YthokfjkgmopeoaaDoorG2
import Derived.Test.YthokfjkgmopeoaaDoorCodeW
import Derived.Test.YthokfjkgmopeoaaDoorFieldW
import Derived.Test.YthokfjkgmopeoaaDoorChangeW
import Derived.Deep.QuietTactic
import Derived.BigQuiet
import Derived.WalkSmall
import Derived.Shelf.Abstract
namespace Go.Proofs.YthokfjkgmopeoaaDoor
open Go.RowKit
/-- A matrix whose slice lies in the variable of block pm. -/
theorem Mat.at {w : World} {p : Option Addr} {M : List (List Nat)} (h : Mat w p M) {i j : Nat} (hi : i < M.length) (hj : j < (rowOf M i).length) :
    ∃ b o b1 o1 c, p = some ⟨b, o, none⟩ ∧ w.cell? ⟨b, o + i, none⟩ = some (.slice (some ⟨b1, o1, none⟩) (rowOf M i).length c) ∧ w.cell? ⟨b1, o1 + j, none⟩ = some (.int .u8 ((Gf.nth (rowOf M i) j : Nat) : Int)) := by
  obtain ⟨b, o, b1, o1, c, h1, _, _, h2, h3⟩ := h.row hi (by omega)
  exact ⟨b, o, b1, o1, c, h1, h2, h3 j hj⟩
theorem diag_any (i j : Nat) (w : World) : Calls Tryd.prog 48 #[.int .i64 (i : Int), .int .i64 (j : Int)] w fun e w' => e = .returned (.int .u8 ((if i = j then 1 else 0 : Nat) : Int)) ∧ w' = w := by
  by_cases e : i = j
  · subst e
    rw [if_pos rfl]
    go_enter Tryd.func48, Tryd.ntmps48
    go_wp2
    go_ret
    exact ⟨rfl, rfl⟩
  · have ht : ((i : Int) == (j : Int)) = false := by simp; omega
    rw [if_neg e]
    clear e
    go_enter Tryd.func48, Tryd.ntmps48
    go_wp2
    go_ret
    exact ⟨rfl, rfl⟩
set_option maxRecDepth 10000 in
theorem invert1_any (ps pm i j side cap : Nat) (p : Option Addr) (M : List (List Nat)) (w : World) (hi : i < M.length) (hj : j < 2 * side) (hs : (rowOf M i).length = side) (hn : side ≤ 1000) (hps : w.cell? ⟨ps, 0, none⟩ = some (.int .i64 (side : Int))) (hp : w.cell? ⟨pm, 0, none⟩ = some (.slice p M.length cap)) (h : Mat w p M) :
    Calls Tryd.prog 47 #[.int .i64 (i : Int), .int .i64 (j : Int), .pointer (some ⟨ps, 0, none⟩), .pointer (some ⟨pm, 0, none⟩)] w fun e w' => e = .returned (.int .u8 (((if j < side then Gf.nth (rowOf M i) j else if i = j - side then 1 else 0 : Nat)) : Int)) ∧ Below w.heap.size w w' := by
  by_cases hlt : j < side
  · obtain ⟨b, o, b1, o1, c, rfl, h1, h2⟩ := h.at hi (by rw [hs]; exact hlt)
    rw [hs] at h1
    rw [if_pos hlt]
    clear hs h
    go_enter Tryd.func47, Tryd.ntmps47
    go_wp2
    go_ret
    exact ⟨rfl, Below.refl _ _⟩
  · rw [if_neg hlt]
    have hsub : ((j : Int) - (side : Int)) = ((j - side : Nat) : Int) := by omega
    clear hs h
    go_enter Tryd.func47, Tryd.ntmps47
    go_wp2_with (go_at_call 48; first | (rw [hsub]; refine (diag_any i (j - side) _).mono ?_; rintro e w' ⟨rfl, rfl⟩) | (refine (diag_any i (j - side) _).mono ?_; rintro e w' ⟨rfl, rfl⟩))
    all_goals (go_ret; exact ⟨rfl, Below.refl _ _⟩)
set_option maxRecDepth 10000 in
theorem invert2_any (pb ps i j side gm r n : Nat) (gs : Nat → Nat) (x : Nat) (w : World) (hi : i < r) (hj : side + j < n) (hn : n ≤ 1000) (hb : w.cell? ⟨pb, 0, none⟩ = some (.slice (some ⟨gm, 0, none⟩) r r)) (hs : w.cell? ⟨ps, 0, none⟩ = some (.int .i64 (side : Int))) (h1 : w.cell? ⟨gm, i, none⟩ = some (.slice (some ⟨gs i, 0, none⟩) n n)) (h2 : w.cell? ⟨gs i, side + j, none⟩ = some (.int .u8 (x : Int))) :
    Calls Tryd.prog 50 #[.int .i64 (i : Int), .int .i64 (j : Int), .pointer (some ⟨pb, 0, none⟩), .pointer (some ⟨ps, 0, none⟩)] w fun e w' => e = .returned (.int .u8 (x : Int)) ∧ Below w.heap.size w w' := by
  go_enter Tryd.func50, Tryd.ntmps50
  go_wp2
  go_quiet (fail)
  go_wp2
  go_ret
  exact ⟨rfl, below_drewN (Below.refl _ _) _⟩
end Go.Proofs.YthokfjkgmopeoaaDoor
