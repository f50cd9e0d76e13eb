/- The document's own member: a message that it does not answer. -/
import Derived.Test.YtcoecfpkihakoaaGreatDoorRMemW
import Derived.Test.YtcoecfpkihakoaaGreatDoorGz5
import Derived.BigQuiet
import Derived.Test.YtcoecfpkihakoaaGreatDoorRPutIW
import Derived.Test.YtcoecfpkihakoaaGreatDoorGz6
import Derived.Deep.OwnRows
import Derived.Deep.CutRange
import Derived.Deep.RegionWith
import Derived.Deep.RegionHeld3
namespace Go.Proofs.YtcoecfpkihakoaaGreatDoor
open Go.RowKit
theorem RMem.name {w : World} {B : Nat} {S : Nat → Prop} {h : Nat} {m : MMem} {up : Bool} {lv : Value} {bs : List Nat} (hm : RMem w B S h m up lv bs) : w.cell? ⟨h, 0, none⟩ = some (.string m.name) := by simp [World.cell?, hm.blk]
set_option maxRecDepth 10000 in
set_option maxHeartbeats 8000000 in
theorem rmhear_no {w : World} {B : Nat} {S : Nat → Prop} {h : Nat} {m : MMem} {up : Bool} {lv : Value} {bs : List Nat} (hm : RMem w B S h m up lv bs) (x : Msg × Lv) (hx : x.2.2.1 = x.1.L.length) (hl : x.1.L.length ≤ 2932031007317) (hno : m.off x.1 ∨ oddK x.1) :
    Calls Tryz.prog 13 #[.pointer (some ⟨h, 0, none⟩), .agg #[.string x.1.from_, .string x.1.to_, .string x.1.kind, .string x.1.key, .int .i64 x.1.op, .int .i64 x.1.config, .bool x.1.shut, .slice x.2.1 x.2.2.1 x.2.2.2]] w fun e w' => e = .returned (.slice none 0 0) ∧ Below w.heap.size w w' := by
  obtain ⟨⟨m1, m2, m3, m4, m5, m6, m7, mL⟩, lp, ln, lc⟩ := x
  dsimp only at *
  subst hx
  obtain ⟨w1, hw1⟩ : ∃ w1, w1 = w.alloc (.cells #[.string m1, .string m2, .string m3, .string m4, .int .i64 m5, .int .i64 m6, .bool m7, .slice lp mL.length lc] 44) := ⟨_, rfl⟩
  have hb1 : Below w.heap.size w w1 := by rw [hw1]; exact (Below.refl _ _).alloc (Nat.le_refl _) _
  have c0 := (hm.below hb1).name
  have d0 : w1.cell? ⟨w.heap.size, 0, none⟩ = some (.string m1) := by rw [hw1, World.cell?_alloc_at _ _ _ _ rfl]; rfl
  have d1 : w1.cell? ⟨w.heap.size, 1, none⟩ = some (.string m2) := by rw [hw1, World.cell?_alloc_at _ _ _ _ rfl]; rfl
  have d2 : w1.cell? ⟨w.heap.size, 2, none⟩ = some (.string m3) := by rw [hw1, World.cell?_alloc_at _ _ _ _ rfl]; rfl
  have d3 : w1.cell? ⟨w.heap.size, 3, none⟩ = some (.string m4) := by rw [hw1, World.cell?_alloc_at _ _ _ _ rfl]; rfl
  have d5 : w1.cell? ⟨w.heap.size, 5, none⟩ = some (.int .i64 m6) := by rw [hw1, World.cell?_alloc_at _ _ _ _ rfl]; rfl
  have d7 : w1.cell? ⟨w.heap.size, 7, none⟩ = some (.slice lp mL.length lc) := by rw [hw1, World.cell?_alloc_at _ _ _ _ rfl]; rfl
  have HW1 : Hid (w1 = w.alloc (.cells #[.string m1, .string m2, .string m3, .string m4, .int .i64 m5, .int .i64 m6, .bool m7, .slice lp mL.length lc] 44)) := hw1
  have HB1 : Hid (Below w.heap.size w w1) := hb1
  have HIN := isNameBig_any m4 w1
  have HNO : (m2 ≠ m.name ∨ m6 < 0 ∨ isN m4 = false) ∨ (m3 ≠ ⟨#[108, 111, 111, 107]⟩ ∧ m3 ≠ ⟨#[115, 101, 97, 108]⟩ ∧ (m3 ≠ ⟨#[107, 101, 101, 112]⟩ ∨ mL.length ≠ 1)) := hno
  clear hm hno hw1 hb1
  generalize m.name = nm at *
  generalize isN m4 = bn at *
  by_cases g2 : m2 = nm
  · subst g2
    by_cases g6 : m6 < 0
    · have n6 : decide (m6 < 0) = true := decide_eq_true g6
      clear HNO
      go_enter Tryz.func13, Tryz.ntmps13
      go_wp2_with (first | rw [← HW1.out] | fail)
      refine HIN.mono ?_
      rintro e w2 ⟨rfl, hw2⟩
      rw [hw2]
      clear hw2 w2 HIN
      go_wp2
      go_quiet (fail)
      go_wp2
      go_ret
      exact ⟨rfl, below_drewN HB1.out _⟩
    · have n6 : decide (m6 < 0) = false := decide_eq_false g6
      cases bn with
      | false =>
        clear HNO
        go_enter Tryz.func13, Tryz.ntmps13
        go_wp2_with (first | rw [← HW1.out] | fail)
        refine HIN.mono ?_
        rintro e w2 ⟨rfl, hw2⟩
        rw [hw2]
        clear hw2 w2 HIN
        go_wp2
        go_quiet (fail)
        go_wp2
        go_ret
        exact ⟨rfl, below_drewN HB1.out _⟩
      | true =>
        have HN2 : m3 ≠ ⟨#[108, 111, 111, 107]⟩ ∧ m3 ≠ ⟨#[115, 101, 97, 108]⟩ ∧ (m3 ≠ ⟨#[107, 101, 101, 112]⟩ ∨ mL.length ≠ 1) := by
          rcases HNO with (h | h | h) | h
          · exact absurd rfl h
          · exact absurd h g6
          · cases h
          · exact h
        clear HNO
        obtain ⟨a1, a2, a3⟩ := HN2
        have s1 : ¬ m3.toList = [108, 111, 111, 107] := lit_ne a1
        have t1 : ¬ m3.toList = [115, 101, 97, 108] := lit_ne a2
        have s2 : (m3.toList == [108, 111, 111, 107]) = false := lit_beq a1
        have t2 : (m3.toList == [115, 101, 97, 108]) = false := lit_beq a2
        clear a1 a2
        by_cases g3 : m3 = ⟨#[107, 101, 101, 112]⟩
        · have gL : mL.length ≠ 1 := a3.elim (fun h => absurd g3 h) id
          have gl : (((mL.length : Nat) : Int) == 1) = false := by simp; omega
          clear a3
          subst g3
          clear s1 t1 s2 t2
          go_enter Tryz.func13, Tryz.ntmps13
          go_wp2_with (first | rw [← HW1.out] | fail)
          refine HIN.mono ?_
          rintro e w2 ⟨rfl, hw2⟩
          rw [hw2]
          clear hw2 w2 HIN
          go_wp2
          go_quiet (fail)
          go_wp2
          go_ret
          exact ⟨rfl, below_drewN HB1.out _⟩
        · have r1 : ¬ m3.toList = [107, 101, 101, 112] := lit_ne g3
          have r2 : (m3.toList == [107, 101, 101, 112]) = false := lit_beq g3
          clear a3 g3
          go_enter Tryz.func13, Tryz.ntmps13
          go_wp2_with (first | rw [← HW1.out] | fail)
          refine HIN.mono ?_
          rintro e w2 ⟨rfl, hw2⟩
          rw [hw2]
          clear hw2 w2 HIN
          go_wp2
          go_quiet (fail)
          go_wp2
          go_ret
          exact ⟨rfl, below_drewN HB1.out _⟩
  · have t0 := toList_ne g2
    have u0 := toList_beq g2
    have v0 := bytes_beq g2
    clear HNO g2
    go_enter Tryz.func13, Tryz.ntmps13
    go_wp2_with (first | rw [← HW1.out] | fail)
    refine HIN.mono ?_
    rintro e w2 ⟨rfl, hw2⟩
    rw [hw2]
    clear hw2 w2 HIN
    go_wp2
    go_quiet (fail)
    go_wp2
    go_ret
    exact ⟨rfl, below_drewN HB1.out _⟩
end Go.Proofs.YtcoecfpkihakoaaGreatDoor
/- The document's own member: a message that it answers. -/
namespace Go.Proofs.YtcoecfpkihakoaaGreatDoor
open Go.RowKit
theorem held_name {m my : MMem} {c : Int} (h : m.held c = some my) : my.name = m.name := by
  unfold MMem.held at h
  split at h
  · rw [← Option.some.inj h]
  · split at h
    · cases h
    · rw [← Option.some.inj h]
theorem Upd.below {S S' : Nat → Prop} {w w' w2 : World} (h : Upd S S' w w') (hb : Below w.heap.size w' w2) : Upd S S' w w2 := ⟨hb.os.trans h.os, hb.tape.trans h.tape, hb.output.trans h.output, Nat.le_trans h.size hb.size, fun k hk hs => (hb.block k hk).trans (h.block k hk hs), h.new⟩
theorem MHold.nil_same {w w' : World} {h : Nat} {L L' : List Kep} {s s' : Bool} (h1 : MHold w h L s) (h2 : MHold w' h L' s') (e : w'.cell? ⟨h, 0, none⟩ = w.cell? ⟨h, 0, none⟩) (h0 : L = []) : L' = [] := by
  obtain ⟨p, c, q, _⟩ := h1.row
  obtain ⟨p', c', q', _⟩ := h2.row
  rw [e, q] at q'
  injection q' with q'
  injection q' with _ q' _
  rw [h0] at q'
  exact List.eq_nil_of_length_eq_zero q'.symm
/-- A hold is sealed. -/
theorem MHold.shut {w : World} {h : Nat} {L : List Kep} {s : Bool} (hm : MHold w h L s) : MHold (w.setCell ⟨h, 1, none⟩ (.bool true)) h L true ∧ Turn h w (w.setCell ⟨h, 1, none⟩ (.bool true)) := by
  obtain ⟨p, c, q0, hr, hc, hn, hne⟩ := hm.row
  have e0 : (w.setCell ⟨h, 1, none⟩ (.bool true)).cell? ⟨h, 0, none⟩ = w.cell? ⟨h, 0, none⟩ := World.cell?_setCell_other _ _ _ _ (fun e => by cases e)
  refine ⟨⟨⟨p, c, e0.trans q0, ?_, hc, hn, hne⟩, World.cell?_setCell_same _ _ _ hm.sealed_, by rw [World.frozen?_setCell]; exact hm.free0, by rw [World.frozen?_setCell]; exact hm.free1⟩, ⟨rfl, rfl, rfl, by simp [World.setCell], fun k _ hne => Deep.blk_setCell_other _ _ _ _ hne, Or.inl e0⟩⟩
  rcases hr with hr | ⟨b, o, hp, hlt, hcell⟩
  · exact Or.inl hr
  · refine Or.inr ⟨b, o, hp, by simpa [World.setCell] using hlt, fun i x hx j u hu => ?_⟩
    rw [World.cell?_setCell_other _ _ _ _ (fun e => by have h2 : h = b := congrArg Addr.block e; exact hne b o hp h2.symm)]
    exact hcell i x hx j u hu
/-- Behind a turn of one hold, where nothing of the member's own is written any more. -/
theorem RMem.turned {w2 w4 w5 w9 : World} {B : Nat} {S S2 : Nat → Prop} {w : World} {h : Nat} {m : MMem} {up : Bool} {lv : Value} {bs : List Nat} (hm : RMem w2 B S2 h m up lv bs) (hU : Upd S S2 w w2) (h24 : Below w2.heap.size w2 w4) {i : Nat} (hi : i < m.L.length) {L' : List Kep} {s' : Bool} (hT : Turn (blkAt bs i) w4 w5) (hH : MHold w5 (blkAt bs i) L' s') (hne : (cfdAt m.L i).2.1 = [] → w5.cell? ⟨blkAt bs i, 0, none⟩ = w4.cell? ⟨blkAt bs i, 0, none⟩ → L' = []) (h59 : Below w2.heap.size w5 w9) (hnew : ∀ k, w4.heap.size ≤ k → k < w5.heap.size → w9.heap[k]? = w5.heap[k]?) :
    ∃ S', RMem w9 B S' h (m.put i (L', s')) up lv bs ∧ Upd S S' w w9 := by
  obtain ⟨g1, g2⟩ := (hm.below h24).turn hi hT hH hne
  refine ⟨_, g1.keep h59.size (fun k hk => ?_), hU.trans (((Upd.of_below h24).trans g2).below h59)⟩
  rcases hk with hk | hk
  · exact h59.block k (hm.inB k hk).2
  · exact hnew k hk.1 hk.2
end Go.Proofs.YtcoecfpkihakoaaGreatDoor
