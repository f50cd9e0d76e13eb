/- The document's own upTo. -/
import Derived.Test.YthokfjkgmopeoaaDoorG2
import Derived.Deep.QuietTactic
import Derived.BigQuiet
namespace Go.Proofs.YthokfjkgmopeoaaDoor
open Go.RowKit
set_option maxRecDepth 10000 in
set_option maxHeartbeats 1000000 in
theorem upTo_any (k : Nat) (w : World) (hk : k ≤ 100) :
    Calls Tryd.prog 42 #[.int .i64 (k : Int)] w fun e w' => (∃ v, e = .returned v ∧ Own w' w.heap.size 5 v (upToL k)) ∧ Below w.heap.size w w' := by
  obtain ⟨i0, hi0, hz0, hz1, hz2⟩ := info_parts u8info
  go_enter Tryd.func42, Tryd.ntmps42
  go_wp2
  go_loopw [3, 4] (fun v j wr => ∃ n : Nat, n ≤ k ∧ j = .int .i64 n ∧ Own wr w.heap.size 5 v (upToL n) ∧ Below w.heap.size w wr) (fun _ j _ => k - (intOf j).toNat)
  case atStart => exact ⟨0, by omega, rfl, Own.nil _ _ _, Below.refl _ _⟩
  case round =>
    obtain ⟨n, hn, rfl, hown, hb⟩ := hrel
    have HO : Hid (Own wr w.heap.size 5 u3 (upToL n)) := hown
    have HB : Hid (Below w.heap.size w wr) := hb
    have hbz : w.heap.size ≤ wr.heap.size := hb.size
    have hul : (upToL n).length = n := by simp [upToL]
    clear hown hb
    by_cases hlt : n < k
    · have HU : Hid (upToL (n + 1) = upToL n ++ [n]) := by show _ = _; simp [upToL, List.range_succ]
      go_wp2_with (first | (at_builtin; refine wpList_append_byte rfl (.tmp 10) (.tmp 13) 48 rfl w.heap.size 5 i0 Tryd.underlying48 hi0 hz0 hz1 hz2 u3 (upToL n) rfl (HO.out.kept (World.grownBy_alloc wr _ none) (by cases hv : u3.ownBlock <;> simp)) ⟨wr.heap.size, 0, none⟩ 1 n rfl (by simp [byteV]) (by omega) (by simp; omega) ?_; intro v1 w1 hX hgX hwX))
      have hb1 : Below w.heap.size w w1 := (HB.out.alloc hbz _).grown hgX (by simp; omega) (fun k' hk' => (HO.out.block hk').1)
      go_roundw
      case rel => exact ⟨n + 1, by omega, by go_num, by rw [HU.out]; exact hX, hb1⟩
      case measure => simp [intOf]; omega
    · have hne : n = k := by omega
      subst hne
      go_wp2
      go_ret
      exact ⟨⟨u3, rfl, HO.out⟩, HB.out⟩
end Go.Proofs.YthokfjkgmopeoaaDoor
