/- The document's own hold: where Put lays a version (its walk is not there yet). -/
import Derived.Test.YtoapbjifkjehhaaGreatDoorRTrimW
import Derived.Test.YtoapbjifkjehhaaGreatDoorRPutEW
import Derived.Deep.RegionHeld3
namespace Go.Proofs.YtoapbjifkjehhaaGreatDoor
open Go.RowKit
theorem run_keps_from (p : Option Addr) (l : List Kep) (c k : Nat) (hk : k ≤ l.length) (W : World) : Sem.run Tryz.prog (Instr.slice 41 (.slice p l.length c) (some (.int .i64 (k : Int))) none none) W = .ok (.slice (if c = k then p else p.map (·.add (k * 6))) (l.drop k).length (c - k)) W := by
  have hsz : (sizeOf (Tryz.prog.elem 41)).run Tryz.prog W = .ok 6 W := by kernel_rfl
  have hel : Tryz.prog.elem 41 = 51 := by kernel_rfl
  have hun : Tryz.prog.underlying 41 = some (.slice (Tryz.prog.elem 41)) := by rw [hel]; exact Tryz.underlying41
  rw [run_slice_l W 41 p l.length c hun .i64 (k : Int) (by omega) (by omega), hsz]
  simp [Result.andThen, sliced]
theorem run_keps_to (p : Option Addr) (l : List Kep) (c k : Nat) (hk : k ≤ l.length) (hc : l.length ≤ c) (W : World) : Sem.run Tryz.prog (Instr.slice 41 (.slice p l.length c) none (some (.int .i64 (k : Int))) none) W = .ok (.slice p (l.take k).length c) W := by
  have hsz : (sizeOf (Tryz.prog.elem 41)).run Tryz.prog W = .ok 6 W := by kernel_rfl
  have hel : Tryz.prog.elem 41 = 51 := by kernel_rfl
  have hun : Tryz.prog.underlying 41 = some (.slice (Tryz.prog.elem 41)) := by rw [hel]; exact Tryz.underlying41
  have hl : (l.take k).length = k := by rw [List.length_take]; omega
  rw [run_slice_h W 41 p l.length c hun .i64 (k : Int) (by omega) (by omega), hsz, hl]
  simp [Result.andThen, sliced, Addr.add]
theorem kep_new (key : ByteArray) (v : Ver) (z1 : World) : ∀ j u, (kepE.enc (key, v))[j]? = some u → (z1.alloc (.cells #[.string key, .int .i64 v.n, .int .i64 v.who, .int .i64 v.size, .int .i64 v.at_, .string v.text] 51)).cell? ⟨z1.heap.size, 0 + j, none⟩ = some u := fun j u hj => by
  rw [Nat.zero_add, World.cell?_alloc_at _ _ _ _ rfl]
  match j, hj with
  | 0, hj => exact hj
  | 1, hj => exact hj
  | 2, hj => exact hj
  | 3, hj => exact hj
  | 4, hj => exact hj
  | 5, hj => exact hj
end Go.Proofs.YtoapbjifkjehhaaGreatDoor
