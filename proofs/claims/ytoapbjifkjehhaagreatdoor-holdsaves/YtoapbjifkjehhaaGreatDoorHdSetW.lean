/- Package hold: set. -/
import Derived.Test.YtoapbjifkjehhaaGreatDoorHdGetW
import Derived.Deep.RegionWith
namespace Go.Proofs.YtoapbjifkjehhaaGreatDoor
open Go.RowKit
/-- Into a map that is there. -/
structure SetOk (w w' : World) (b : Nat) (D : DataW Value) (key : ByteArray) (v : Value) : Prop where
  own : ∃ n, OwnM w' b n (D.put (litK key) (.held v))
  grown : w.grownBy w' (some b)
theorem set_step {w W : World} {b n : Nat} {D : DataW Value} {key : ByteArray} {v : Value} (hown : OwnM w b n D) (hn : n < maxLen) (hk : key.size ≤ maxLen) (hb : Below w.heap.size w W) :
    ∃ w', (Instr.mapUpdate 37 (.map (some b)) (.string key) v).run Tryz.prog W = .ok () w' ∧ SetOk w w' b D key v := by
  have hlt : b < w.heap.size := World.ownsMap.lt hown
  have hown2 : OwnM W b n D := hown.same (hb.block b hlt)
  obtain ⟨w', hrun, h1, h2⟩ := World.ownsMap.update hown2 keyedK Tryz.underlying37 hn (val := v) (d := .held v) (ps := []) (keyOfK hk) rfl
  refine ⟨w', hrun, ⟨_, h1⟩, ⟨h2.os.trans hb.os, h2.tape.trans hb.tape, h2.output.trans hb.output, Nat.le_trans hb.size h2.size, fun k hk hne => ?_⟩⟩
  rw [h2.block k (Nat.lt_of_lt_of_le hk hb.size) hne]
  exact hb.block k hk
theorem map_not_nil (b : Nat) (W : World) : Sem.run Tryz.prog (binOp .eql 37 (.map (some b)) (.map none)) W = .ok (.bool false) W := by kernel_rfl
theorem map_is_nil (W : World) : Sem.run Tryz.prog (binOp .eql 37 (.map none) (.map none)) W = .ok (.bool true) W := by kernel_rfl
theorem below_drew' {B : Nat} {w W : World} (h : Below B w.drew W) : Below B w W := ⟨h.os, h.tape, h.output, h.size, h.block⟩
set_option maxRecDepth 10000 in
set_option maxHeartbeats 1600000 in
theorem set_some (h b n : Nat) (D : DataW Value) (key : ByteArray) (p : Option Addr) (k c : Nat) (w : World) (hk : key.size ≤ 1000000) (hk0 : 0 < k) (hk1 : k ≤ 1000) (q0 : w.cell? ⟨h, 0, none⟩ = some (.map (some b))) (hown : OwnM w b n D) (hn : n < maxLen) :
    Calls Tryz.prog 40 #[.pointer (some ⟨h, 0, none⟩), .string key, .slice p k c] w fun e w' => e = .returned (.tuple #[]) ∧ SetOk w w' b D key (.slice p k c) := by
  have hlt : h < w.heap.size := lt_of_cellH q0
  have HUP : Hid (∀ W, Below w.heap.size w W → ∃ w', (Instr.mapUpdate 37 (.map (some b)) (.string key) (.slice p k c)).run Tryz.prog W = .ok () w' ∧ SetOk w w' b D key (.slice p k c)) := fun W hW => set_step hown hn (by unfold maxLen; omega) hW
  have HCL : Hid (∀ W, Calls Tryz.prog 44 #[.string key] W fun e w' => e = .returned (.string key) ∧ Below W.heap.size W w') := fun W => sclone_any key W hk
  have HQ : Hid (∀ W, Below w.heap.size w W → W.cell? ⟨h, 0, none⟩ = some (.map (some b))) := fun W hW => (hW.cell (p := ⟨h, 0, none⟩) hlt).trans q0
  have hz : ¬ ((k : Int) = 0) := by omega
  have hmn := map_not_nil b
  clear hown hn hk
  go_enter Tryz.func40, Tryz.ntmps40
  go_wp2
  go_region_with (go_at_call 44; refine (HCL.out _).mono ?_; rintro e w5 ⟨rfl, hb5⟩; have hb6 := below_drew' hb5; have q5 := HQ.out w5 hb6; obtain ⟨w9, hrun9, hset9⟩ := HUP.out w5 hb6; clear hb5 hb6)
  all_goals
    go_wp2
    go_end0
    first | exact ⟨rfl, hset9⟩ | exact ⟨rfl, by assumption⟩
set_option maxRecDepth 10000 in
set_option maxHeartbeats 1600000 in
/-- Where no map is there yet. -/
theorem set_none (h : Nat) (key : ByteArray) (p : Option Addr) (k c : Nat) (w : World) (hk : key.size ≤ 1000000) (hk0 : 0 < k) (hk1 : k ≤ 1000) (q0 : w.cell? ⟨h, 0, none⟩ = some (.map none)) (f0 : w.frozen? ⟨h, 0, none⟩ = false) :
    Calls Tryz.prog 40 #[.pointer (some ⟨h, 0, none⟩), .string key, .slice p k c] w fun e w' => e = .returned (.tuple #[]) ∧ SetOk ((w.setCell ⟨h, 0, none⟩ (.map (some w.heap.size))).alloc (.map #[] 0)) w' w.heap.size (.map []) key (.slice p k c) := by
  have hlt : h < w.heap.size := lt_of_cellH q0
  obtain ⟨W0, hW0⟩ : ∃ W0, W0 = (w.setCell ⟨h, 0, none⟩ (.map (some w.heap.size))).alloc (.map #[] 0) := ⟨_, rfl⟩
  have HW0 : Hid (W0 = (w.setCell ⟨h, 0, none⟩ (.map (some w.heap.size))).alloc (.map #[] 0)) := hW0
  have hsz : (w.setCell ⟨h, 0, none⟩ (.map (some w.heap.size))).heap.size = w.heap.size := by simp
  have hown : OwnM W0 w.heap.size 0 (.map []) := by
    have := World.ownsMap_made (w.setCell ⟨h, 0, none⟩ (.map (some w.heap.size))) Tryz.prog 9 anyR
    rw [hsz] at this
    rw [hW0]
    exact this
  have hq : W0.cell? ⟨h, 0, none⟩ = some (.map (some w.heap.size)) := by
    rw [hW0, ((Below.refl _ (w.setCell ⟨h, 0, none⟩ (.map (some w.heap.size)))).alloc (Nat.le_refl _) _).cell (p := ⟨h, 0, none⟩) (by rw [hsz]; exact hlt)]
    exact World.cell?_setCell_same _ _ _ q0
  have hlt0 : h < W0.heap.size := lt_of_cellH hq
  have HUP : Hid (∀ W, Below W0.heap.size W0 W → ∃ w', (Instr.mapUpdate 37 (.map (some w.heap.size)) (.string key) (.slice p k c)).run Tryz.prog W = .ok () w' ∧ SetOk W0 w' w.heap.size (.map []) key (.slice p k c)) := fun W hW => set_step hown (by unfold maxLen; omega) (by unfold maxLen; omega) hW
  have HCL : Hid (∀ W, Calls Tryz.prog 44 #[.string key] W fun e w' => e = .returned (.string key) ∧ Below W.heap.size W w') := fun W => sclone_any key W hk
  have HQ : Hid (∀ W, Below W0.heap.size W0 W → W.cell? ⟨h, 0, none⟩ = some (.map (some w.heap.size))) := fun W hW => (hW.cell (p := ⟨h, 0, none⟩) hlt0).trans hq
  have hz : ¬ ((k : Int) = 0) := by omega
  have hmn := map_is_nil
  have hf1 : (w.alloc (.map #[] 0)).frozen? ⟨h, 0, none⟩ = false := by rw [((Below.refl _ w).alloc (Nat.le_refl _) _).frozen (p := ⟨h, 0, none⟩) hlt]; exact f0
  have hc1 : (w.alloc (.map #[] 0)).cell? ⟨h, 0, none⟩ = some (.map none) := by rw [((Below.refl _ w).alloc (Nat.le_refl _) _).cell (p := ⟨h, 0, none⟩) hlt]; exact q0
  have hmk : (Instr.makeMap 37 none).run Tryz.prog w = .ok (.map (some w.heap.size)) (w.alloc (.map #[] 0)) := by kernel_rfl
  rw [← hW0]
  clear hown hk hW0 hsz
  go_enter Tryz.func40, Tryz.ntmps40
  go_wp2
  rw [← HW0.out]
  clear HW0
  go_region_with (go_at_call 44; refine (HCL.out _).mono ?_; rintro e w5 ⟨rfl, hb5⟩; have hb6 := below_drew' hb5; have q5 := HQ.out w5 hb6; obtain ⟨w9, hrun9, hset9⟩ := HUP.out w5 hb6; clear hb5 hb6)
  all_goals
    go_wp2
    go_end0
    first | exact ⟨rfl, hset9⟩ | exact ⟨rfl, by assumption⟩
end Go.Proofs.YtoapbjifkjehhaaGreatDoor
