/- Package matrix: the innermost function of Times. -/
import Derived.Test.YthokfjkgmopeoaaDoorCloseW
namespace Go.Proofs.YthokfjkgmopeoaaDoor
open Go.RowKit
set_option maxRecDepth 10000 in
set_option maxHeartbeats 1000000 in
theorem times11_any (pa pi pb pj i j l ca cb : Nat) (a b : Option Addr) (A B : List (List Nat)) (w : World) (hi : i < A.length) (hl : l < (rowOf A i).length) (hlb : l < B.length) (hj : j < (rowOf B l).length) (hA : w.cell? ⟨pa, 0, none⟩ = some (.slice a A.length ca)) (hB : w.cell? ⟨pb, 0, none⟩ = some (.slice b B.length cb)) (hI : w.cell? ⟨pi, 0, none⟩ = some (.int .i64 (i : Int))) (hJ : w.cell? ⟨pj, 0, none⟩ = some (.int .i64 (j : Int))) (mA : Mat w a A) (mB : Mat w b B) (bA : BytesM A) (bB : BytesM B) :
    Calls Tryd.prog 75 #[.int .i64 (l : Int), .pointer (some ⟨pa, 0, none⟩), .pointer (some ⟨pi, 0, none⟩), .pointer (some ⟨pb, 0, none⟩), .pointer (some ⟨pj, 0, none⟩)] w fun e w' => e = .returned (.int .u8 ((Gf.mul (Gf.nth (rowOf A i) l) (Gf.nth (rowOf B l) j) : Nat) : Int)) ∧ Below w.heap.size w w' := by
  obtain ⟨a1, a2, a3, a4, a5, rfl, a6, a7⟩ := mA.at hi hl
  obtain ⟨b1, b2, b3, b4, b5, rfl, b6, b7⟩ := mB.at hlb hj
  have lx := bA i l
  have ly := bB l j
  clear mA mB
  generalize Gf.nth (rowOf A i) l = x at *
  generalize Gf.nth (rowOf B l) j = y at *
  go_enter Tryd.func75, Tryd.ntmps75
  go_wp2
  go_quiet ((go_at_call 39; exact Calls.quiet_of_same (mul_any x y _ lx ly)))
  go_wp2
  go_ret
  exact ⟨rfl, below_drewN (Below.refl _ _) _⟩
end Go.Proofs.YthokfjkgmopeoaaDoor
