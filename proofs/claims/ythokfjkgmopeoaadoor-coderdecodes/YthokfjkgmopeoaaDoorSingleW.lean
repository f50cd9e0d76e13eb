/- The statements' closed fact 'single': one shard of one. -/
import Derived.Test.YthokfjkgmopeoaaDoorEncW
namespace Go.Proofs.YthokfjkgmopeoaaDoor
open Go.RowKit
theorem encT_single : encT 1 ⟨#[97, 98]⟩ 0 = ⟨#[97, 98]⟩ := by decide +kernel
set_option maxRecDepth 10000 in
set_option maxHeartbeats 1000000 in
theorem single_any (z : Addr) (w : World) (hz : w.cell? ⟨11, 0, none⟩ = some (.iface 136 (.pointer (some z)))) :
    Calls Tryd.prog 8 #[] w fun e w' => e = .returned (.bool true) ∧ Below w.heap.size w w' := by
  have HC := encode_ok 1 1 ⟨#[97, 98]⟩ z w (by decide) (by decide) (by decide) (by decide) hz
  clear hz
  go_enter Tryd.func8, Tryd.ntmps8
  go_wp2_with fail
  refine HC.mono ?_
  rintro e w1 ⟨⟨g, hg, rfl, hs⟩, hb⟩
  have q1 : w1.cell? ⟨g, 0, none⟩ = some (.int .i64 0) := hs.at_ (i := 0) (by decide)
  have q2 : w1.cell? ⟨g, 1, none⟩ = some (.string ⟨#[97, 98]⟩) := by
    have := hs.text (i := 0) (by decide)
    rw [show (encS 1 ⟨#[97, 98]⟩ 0).2 = ⟨#[97, 98]⟩ from encT_single] at this
    exact this
  have HB : Hid (Below w.heap.size w w1) := hb
  clear hs hb HC
  go_wp2
  go_ret
  exact ⟨rfl, HB.out⟩
end Go.Proofs.YthokfjkgmopeoaaDoor
