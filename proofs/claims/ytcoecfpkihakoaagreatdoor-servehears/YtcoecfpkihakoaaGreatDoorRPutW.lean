/- The document's own hold: where Put lays a version (its walk is not there yet). -/
import Derived.Test.YtcoecfpkihakoaaGreatDoorGz6
import Derived.Test.YtcoecfpkihakoaaGreatDoorRPutEW
import Derived.Deep.RegionHeld3
namespace Go.Proofs.YtcoecfpkihakoaaGreatDoor
open Go.RowKit
theorem run_keps_from (p : Option Addr) (l : List Kep) (c k : Nat) (hk : k ≤ l.length) (W : World) : Sem.run Tryz.prog (Instr.slice 72 (.slice p l.length c) (some (.int .i64 (k : Int))) none none) W = .ok (.slice (if c = k then p else p.map (·.add (k * 6))) (l.drop k).length (c - k)) W := by
  have hsz : (sizeOf (Tryz.prog.elem 72)).run Tryz.prog W = .ok 6 W := by kernel_rfl
  have hel : Tryz.prog.elem 72 = 102 := by kernel_rfl
  have hun : Tryz.prog.underlying 72 = some (.slice (Tryz.prog.elem 72)) := by rw [hel]; exact Tryz.underlying72
  rw [run_slice_l W 72 p l.length c hun .i64 (k : Int) (by omega) (by omega), hsz]
  simp [Result.andThen, sliced]
theorem run_keps_to (p : Option Addr) (l : List Kep) (c k : Nat) (hk : k ≤ l.length) (hc : l.length ≤ c) (W : World) : Sem.run Tryz.prog (Instr.slice 72 (.slice p l.length c) none (some (.int .i64 (k : Int))) none) W = .ok (.slice p (l.take k).length c) W := by
  have hsz : (sizeOf (Tryz.prog.elem 72)).run Tryz.prog W = .ok 6 W := by kernel_rfl
  have hel : Tryz.prog.elem 72 = 102 := by kernel_rfl
  have hun : Tryz.prog.underlying 72 = some (.slice (Tryz.prog.elem 72)) := by rw [hel]; exact Tryz.underlying72
  have hl : (l.take k).length = k := by rw [List.length_take]; omega
  rw [run_slice_h W 72 p l.length c hun .i64 (k : Int) (by omega) (by omega), hsz, hl]
  simp [Result.andThen, sliced, Addr.add]
theorem kep_new (key : ByteArray) (v : Ver) (z1 : World) : ∀ j u, (kepE.enc (key, v))[j]? = some u → (z1.alloc (.cells #[.string key, .int .i64 v.n, .int .i64 v.who, .int .i64 v.size, .int .i64 v.at_, .string v.text] 102)).cell? ⟨z1.heap.size, 0 + j, none⟩ = some u := fun j u hj => by
  rw [Nat.zero_add, World.cell?_alloc_at _ _ _ _ rfl]
  match j, hj with
  | 0, hj => exact hj
  | 1, hj => exact hj
  | 2, hj => exact hj
  | 3, hj => exact hj
  | 4, hj => exact hj
  | 5, hj => exact hj
end Go.Proofs.YtcoecfpkihakoaaGreatDoor
