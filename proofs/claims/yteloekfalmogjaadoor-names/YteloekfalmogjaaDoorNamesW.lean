/- The walk of the law Names: the call returns true; nothing that was there is written. -/
import Derived.Test.YteloekfalmogjaaDoorNamesErrW
import Derived.Deep.QuietTactic
import Derived.BigQuiet
import Derived.WalkSmall
namespace Go.Proofs.YteloekfalmogjaaDoor
open Go.RowKit Go.Extern.Stop Go.Stop Go.Extern
set_option maxRecDepth 10000 in
set_option maxHeartbeats 4000000 in
theorem code_fault (ad : Nat → Addr) (i fb : Nat) (hi : i < 12) (w : World) (hS : Sent w ad) (h0 : w.cell? ⟨fb, 0, none⟩ = some (.int .i64 7)) (h1 : w.cell? ⟨fb, 1, none⟩ = some (.iface 55 (.pointer (some (ad i))))) :
    Calls Tryd.prog 10 #[.iface 29 (.pointer (some ⟨fb, 0, none⟩))] w fun e w' => e = .returned (.tuple #[.int .i64 ((i + 1 : Nat) : Int), .int .i64 7]) ∧ Below w.heap.size w w' := by
  have hfb : fb < w.heap.size := lt_of_cell h0
  have hb1 : Below w.heap.size w (w.alloc (.cells #[.pointer none] 29)) := (Below.refl _ _).alloc (Nat.le_refl _) _
  have hS1 := hS.below hb1
  have ht0 : (w.alloc (.cells #[.pointer none] 29)).cell? ⟨w.heap.size, 0, none⟩ = some (.pointer none) := by simp
  have hf0 : (w.alloc (.cells #[.pointer none] 29)).frozen? ⟨w.heap.size, 0, none⟩ = false := by simp
  go_enter Tryd.func10, Tryd.ntmps10
  go_wp2_with fail
  refine (as_hit ⟨fb, 0, none⟩ ⟨w.heap.size, 0, none⟩ (.pointer none) _ hS1.typ ht0 hf0).mono ?_
  rintro e w2 ⟨rfl, wx, hbx, hw2⟩
  have hb2 : Below w.heap.size w w2 := by rw [hw2]; exact (hb1.trans (hbx.mono (by simp))).setCell (Nat.le_refl _) _
  have hS2 := hS.below hb2
  have ht2 : w2.cell? ⟨w.heap.size, 0, none⟩ = some (.pointer (some ⟨fb, 0, none⟩)) := by
    rw [hw2]
    exact World.cell?_setCell_same wx ⟨w.heap.size, 0, none⟩ _ ((hbx.cell (p := ⟨w.heap.size, 0, none⟩) (by simp)).trans ht0)
  have h02 : w2.cell? ⟨fb, 0, none⟩ = some (.int .i64 7) := (hb2.cell (p := ⟨fb, 0, none⟩) hfb).trans h0
  have h12 : w2.cell? ⟨fb, 1, none⟩ = some (.iface 55 (.pointer (some (ad i)))) := (hb2.cell (p := ⟨fb, 1, none⟩) hfb).trans h1
  have hfb2 : fb < w2.heap.size := Nat.lt_of_lt_of_le hfb hb2.size
  have HB2 : Hid (Below w.heap.size w w2) := hb2
  clear hw2 hbx wx hb2 hS1 hb1 ht0 hf0 h0 h1 hS hfb
  have hS2' := hS2
  obtain ⟨c0, c1, c2, c3, c4, c5, c6, c7, c8, c9, c10, c11, _, _, _⟩ := hS2'
  go_wp2
  clear c0 c1 c2 c3 c4 c5 c6 c7 c8 c9 c10 c11 ht2 h02
  have hb3 : Below w2.heap.size w2 (w2.alloc (.cells (sentRow ad) 25)) := (Below.refl _ _).alloc (Nat.le_refl _) _
  have hS3 := hS2.below hb3
  have hrow := sentRow_cell ad w2
  have h13 := (hb3.cell (p := ⟨fb, 1, none⟩) hfb2).trans h12
  have hb4 : Hid (Below w.heap.size w (w2.alloc (.cells (sentRow ad) 25))) := HB2.out.trans (hb3.mono HB2.out.size)
  unfold sentRow at hS3 hrow hb4 h13
  generalize w2.alloc (.cells _ 25) = w3 at hS3 hrow hb4 h13 ⊢
  clear hb3 hS2 HB2 h12 hfb2
  go_loop [3, 30] (fun y x => y = .int .i64 7 ∧ ∃ k : Nat, k ≤ i ∧ x = .int .i64 k) (fun _ x => 12 - (intOf x).toNat)
  case atStart => exact ⟨rfl, 0, by omega, rfl⟩
  case round =>
    obtain ⟨rfl, k, hk, rfl⟩ := hrel
    have hk12 : k < 12 := by omega
    have hc := hrow k hk12
    obtain ⟨ca, ta, hra⟩ := hS3.row i hi
    obtain ⟨cb, tb, hrb⟩ := hS3.row k hk12
    have H13 : Hid (w3.cell? ⟨fb, 1, none⟩ = some (.iface 55 (.pointer (some (ad i))))) := h13
    clear hrow h13
    by_cases hki : k = i
    · subst hki
      go_wp2_with (go_at_call 27; refine (is_wrap_same fb (ad k) _ H13.out).mono ?_; rintro e w' ⟨rfl, rfl⟩)
      go_ret2
      exact ⟨by simp, hb4.out⟩
    · have hne := hS3.ne i k hi hk12 (fun h => hki h.symm)
      have HN : Hid (ad i ≠ ad k) := hne
      have HA : Hid (w3.heap[(ad i).block]? = some (.cells ca ta (0, 0))) := hra
      have HB : Hid (w3.heap[(ad k).block]? = some (.cells cb tb (0, 0))) := hrb
      clear hne hra hrb
      go_wp2_with (go_at_call 27; refine (is_wrap_other fb (ad i) (ad k) ca cb ta tb _ H13.out HN.out HA.out HB.out).mono ?_; rintro e w' ⟨rfl, rfl⟩)
      go_round
      case rel => exact ⟨rfl, k + 1, by omega, by go_num⟩
      case measure => simp [intOf]; omega
set_option maxRecDepth 10000 in
set_option maxHeartbeats 4000000 in
theorem code_new (ad : Nat → Addr) (z : Addr) (cz : Array Value) (tz : TypeId) (w : World) (hS : Sent w ad) (hz : w.heap[z.block]? = some (.cells cz tz (0, 0))) (hne : ∀ k, k < 12 → z ≠ ad k) :
    Calls Tryd.prog 10 #[.iface 55 (.pointer (some z))] w fun e w' => e = .returned (.tuple #[.int .i64 (-1), .int .i64 (-1)]) ∧ Below w.heap.size w w' := by
  have hb1 : Below w.heap.size w (w.alloc (.cells #[.pointer none] 29)) := (Below.refl _ _).alloc (Nat.le_refl _) _
  have hS1 := hS.below hb1
  have hzlt := lt_of_row hz
  go_enter Tryd.func10, Tryd.ntmps10
  go_wp2_with fail
  refine (as_miss _ _ _ hS1.typ).mono ?_
  rintro e w2 ⟨rfl, hb2⟩
  have hS2 := hS1.below hb2
  have hz2 : w2.heap[z.block]? = some (.cells cz tz (0, 0)) := (hb2.block _ (by simp; omega)).trans ((hb1.block _ hzlt).trans hz)
  have hS2' := hS2
  obtain ⟨c0, c1, c2, c3, c4, c5, c6, c7, c8, c9, c10, c11, _, _, _⟩ := hS2'
  have HZ2 : Hid (w2.heap[z.block]? = some (.cells cz tz (0, 0))) := hz2
  clear hz2 hz
  go_wp2
  clear c0 c1 c2 c3 c4 c5 c6 c7 c8 c9 c10 c11 hS1 hS
  have hb3 : Below w2.heap.size w2 (w2.alloc (.cells (sentRow ad) 25)) := (Below.refl _ _).alloc (Nat.le_refl _) _
  have hS3 := hS2.below hb3
  have hrow := sentRow_cell ad w2
  have HZ3 : Hid ((w2.alloc (.cells (sentRow ad) 25)).heap[z.block]? = some (.cells cz tz (0, 0))) := (hb3.block _ (lt_of_row HZ2.out)).trans HZ2.out
  have hb4 : Hid (Below w.heap.size w (w2.alloc (.cells (sentRow ad) 25))) := (hb1.trans (hb2.mono (by simp))).trans (hb3.mono (by have := hb2.size; simp at this; omega))
  unfold sentRow at hS3 hrow hb4 HZ3
  generalize w2.alloc (.cells _ 25) = w3 at hS3 hrow hb4 HZ3 ⊢
  clear hb2 hb3 hS2 HZ2 hb1
  go_loop [3, 30] (fun y x => y = .int .i64 (-1) ∧ ∃ k : Nat, k ≤ 12 ∧ x = .int .i64 k) (fun _ x => 12 - (intOf x).toNat)
  case atStart => exact ⟨rfl, 0, by omega, rfl⟩
  case round =>
    obtain ⟨rfl, k, hk, rfl⟩ := hrel
    by_cases hk12 : k < 12
    · have hc := hrow k hk12
      obtain ⟨cb, tb, hrb⟩ := hS3.row k hk12
      have HN : Hid (z ≠ ad k) := hne k hk12
      have HB : Hid (w3.heap[(ad k).block]? = some (.cells cb tb (0, 0))) := hrb
      clear hrow hrb hne
      go_wp2_with (go_at_call 27; refine (is_other z (ad k) cz cb tz tb _ HN.out HZ3.out HB.out).mono ?_; rintro e w' ⟨rfl, rfl⟩)
      go_round
      case rel => exact ⟨rfl, k + 1, by omega, by go_num⟩
      case measure => simp [intOf]; omega
    · have hke : k = 12 := by omega
      subst hke
      go_wp2
      go_ret2
      exact ⟨rfl, hb4.out⟩
set_option maxRecDepth 10000 in
set_option maxHeartbeats 1000000 in
theorem same_ints (pa pb n : Nat) (f : Nat → Int) (w : World) (hn : n < 2 ^ 40) (ha : ∀ i, i < n → w.cell? ⟨pa, i, none⟩ = some (.int .i64 (f i))) (hb : ∀ i, i < n → w.cell? ⟨pb, i, none⟩ = some (.int .i64 (f i))) :
    Calls Tryd.prog 9 #[.slice (some ⟨pa, 0, none⟩) n n, .slice (some ⟨pb, 0, none⟩) n n] w fun e w' => e = .returned (.bool true) ∧ ∃ m, w' = w.drewN m := by
  go_enter Tryd.func9, Tryd.ntmps9
  go_wp2
  go_loopw [5] (fun j wr => (∃ m, wr = w.drewN m) ∧ ∃ k : Nat, k ≤ n ∧ j = .int .i64 k) (fun j _ => n - (intOf j).toNat)
  case atStart => exact ⟨⟨0, rfl⟩, 0, by omega, rfl⟩
  case round =>
    obtain ⟨hw0, k, hk, rfl⟩ := hrel
    have HW : Hid (∃ m, wr = w.drewN m) := hw0
    clear hw0
    by_cases hlt : k < n
    · have h1 : wr.cell? ⟨pa, k, none⟩ = some (.int .i64 (f k)) := by obtain ⟨m, hm⟩ := HW.out; rw [hm]; exact ha k hlt
      have h2 : wr.cell? ⟨pb, k, none⟩ = some (.int .i64 (f k)) := by obtain ⟨m, hm⟩ := HW.out; rw [hm]; exact hb k hlt
      clear ha hb
      generalize f k = v at h1 h2
      go_wp2
      go_quiet (fail)
      go_wp2
      go_roundw
      case rel => obtain ⟨m, hm⟩ := HW.out; exact ⟨⟨m + nq, by rw [hm, World.drewN_drewN]⟩, k + 1, by omega, by go_num⟩
      case measure => simp [intOf]; omega
    · go_wp2
      go_ret
      exact ⟨rfl, HW.out⟩
theorem code_fault' (ad : Nat → Addr) (i fb : Nat) (hi : i < 12) (w : World) (hS : Sent w ad) (h0 : w.cell? ⟨fb, 0, none⟩ = some (.int .i64 7)) (h1 : w.cell? ⟨fb, 1, none⟩ = some (.iface 55 (.pointer (some (ad i))))) :
    Calls Tryd.prog 10 #[.iface 29 (.pointer (some ⟨fb, 0, none⟩))] w fun e w' => e = .returned (.tuple #[.int .i64 ((i : Int) + 1), .int .i64 7]) ∧ Below w.heap.size w w' := by
  have := code_fault ad i fb hi w hS h0 h1
  rw [show ((i + 1 : Nat) : Int) = (i : Int) + 1 from by omega] at this
  exact this
theorem coded_sent' (ad : Nat → Addr) (i : Nat) (hi : i < 12) (w : World) (hS : Sent w ad) :
    Calls Tryd.prog 11 #[.iface 55 (.pointer (some (ad i))), .int .i64 ((i : Int) + 1)] w fun e w' => e = .returned (.bool true) ∧ Below w.heap.size w w' := by
  have := coded_sent ad i hi w hS
  rw [show ((i + 1 : Nat) : Int) = (i : Int) + 1 from by omega] at this
  exact this
theorem new_any (s : ByteArray) (w : World) : Calls Tryd.prog 12 #[.string s] w fun e w' => e = .returned (.iface 55 (.pointer (some ⟨w.heap.size, 0, none⟩))) ∧ Below w.heap.size w w' ∧ ∃ c t, w'.heap[w.heap.size]? = some (.cells c t (0, 0)) := by
  go_enter Tryd.func12, Tryd.ntmps12
  go_wp2
  go_ret
  exact ⟨rfl, (Below.refl _ _).alloc (Nat.le_refl _) _, _, _, heap_alloc_new w _⟩
/-- The numbers of package api. -/
def nums : List Int := [1000, 12, 16, 16, 16, 8, 60, 6, 12, 200, 120, 3000, 4000, 100, 16]
def numRow : Array Value := #[.int .i64 1000, .int .i64 12, .int .i64 16, .int .i64 16, .int .i64 16, .int .i64 8, .int .i64 60, .int .i64 6, .int .i64 12, .int .i64 200, .int .i64 120, .int .i64 3000, .int .i64 4000, .int .i64 100, .int .i64 16]
theorem numRow_at (k : Nat) (hk : k < 15) : numRow[k]? = some (.int .i64 (nums.getD k 0)) := by
  match k, hk with
  | 0, _ | 1, _ | 2, _ | 3, _ | 4, _ | 5, _ | 6, _ | 7, _ | 8, _ | 9, _ | 10, _ | 11, _ | 12, _ | 13, _ | 14, _ => rfl
theorem numRow_first (w : World) (k : Nat) (hk : k < 15) : ((w.alloc (.cells numRow 3)).alloc (.cells numRow 3)).cell? ⟨w.heap.size, k, none⟩ = some (.int .i64 (nums.getD k 0)) := by
  rw [World.cell?_alloc_lt _ _ ⟨w.heap.size, k, none⟩ (by simp), World.cell?_alloc_at _ _ _ _ rfl]
  exact numRow_at k hk
theorem numRow_second (w : World) (k : Nat) (hk : k < 15) : ((w.alloc (.cells numRow 3)).alloc (.cells numRow 3)).cell? ⟨w.heap.size + 1, k, none⟩ = some (.int .i64 (nums.getD k 0)) := by
  rw [World.cell?_alloc_at _ _ _ _ (by simp)]
  exact numRow_at k hk
theorem same_nums (w : World) : Calls Tryd.prog 9 #[.slice (some ⟨w.heap.size, 0, none⟩) 15 15, .slice (some ⟨w.heap.size + 1, 0, none⟩) 15 15] ((w.alloc (.cells numRow 3)).alloc (.cells numRow 3)) fun e w' => e = .returned (.bool true) ∧ Below w.heap.size w w' := by
  refine (same_ints w.heap.size (w.heap.size + 1) 15 (fun i => nums.getD i 0) _ (by decide) (numRow_first w) (numRow_second w)).mono ?_
  rintro e w' ⟨he, m, hm⟩
  rw [hm]
  exact ⟨he, below_drewN (((Below.refl _ _).alloc (Nat.le_refl _) _).alloc (by simp) _) m⟩
set_option maxRecDepth 10000 in
set_option maxHeartbeats 4000000 in
theorem names_any (ad : Nat → Addr) (w : World) (hS : Sent w ad) :
    Calls Tryd.prog 3 #[] w fun e w' => e = .returned (.bool true) ∧ Below w.heap.size w w' := by
  go_enter Tryd.func3, Tryd.ntmps3
  go_wp2_with fail
  have hsame := same_nums w
  unfold numRow at hsame
  refine hsame.mono ?_
  clear hsame
  rintro e w2 ⟨rfl, hb2⟩
  have hS2 := hS.below hb2
  have hS2' := hS2
  obtain ⟨c0, c1, c2, c3, c4, c5, c6, c7, c8, c9, c10, c11, _, _, _⟩ := hS2'
  go_wp2
  clear c0 c1 c2 c3 c4 c5 c6 c7 c8 c9 c10 c11
  have hb3 : Below w2.heap.size w2 (w2.alloc (.cells (sentRow ad) 25)) := (Below.refl _ _).alloc (Nat.le_refl _) _
  have hS3 := hS2.below hb3
  have hrow := sentRow_cell ad w2
  have hb4 : Hid (Below w.heap.size w (w2.alloc (.cells (sentRow ad) 25))) := hb2.trans (hb3.mono hb2.size)
  have hsz : w2.heap.size < (w2.alloc (.cells (sentRow ad) 25)).heap.size := by simp
  unfold sentRow at hS3 hrow hb4 hsz
  generalize w2.alloc (.cells _ 25) = w3 at hS3 hrow hb4 hsz ⊢
  clear hb3 hS2 hb2 hS
  go_loopw [4] (fun j wr => Below w3.heap.size w3 wr ∧ ∃ k : Nat, k ≤ 12 ∧ j = .int .i64 k) (fun j _ => 12 - (intOf j).toNat)
  case atStart => exact ⟨Below.refl _ _, 0, by omega, rfl⟩
  case round =>
    obtain ⟨hw0, k, hk, rfl⟩ := hrel
    have hSr := hS3.below hw0
    by_cases hk12 : k < 12
    · have hc : wr.cell? ⟨w2.heap.size, k, none⟩ = _ := (hw0.cell (p := ⟨w2.heap.size, k, none⟩) hsz).trans (hrow k hk12)
      have HW : Hid (Below w3.heap.size w3 wr) := hw0
      have HR : Hid (∀ k, k < 12 → w3.cell? ⟨w2.heap.size, k, none⟩ = some (.iface 55 (.pointer (some (ad k))))) := hrow
      clear hw0 hrow
      have hbx : Below wr.heap.size wr (wr.alloc (.cells #[.int .i64 7, .iface 55 (.pointer (some (ad k)))] 31)) := (Below.refl _ _).alloc (Nat.le_refl _) _
      have hSx := hSr.below hbx
      have HX : Hid (Below w3.heap.size w3 (wr.alloc (.cells #[.int .i64 7, .iface 55 (.pointer (some (ad k)))] 31))) := HW.out.trans (hbx.mono HW.out.size)
      clear hbx hSr
      go_wp2_with fail
      refine (code_fault' ad k wr.heap.size hk12 _ hSx (by simp) (by simp)).mono ?_
      rintro e w5 ⟨rfl, hb5⟩
      have hS5 := hSx.below hb5
      have HB5 : Hid (Below w3.heap.size w3 w5) := HX.out.trans (hb5.mono HX.out.size)
      have hc5 : w5.cell? ⟨w2.heap.size, k, none⟩ = some (.iface 55 (.pointer (some (ad k)))) := (HB5.out.cell (p := ⟨w2.heap.size, k, none⟩) hsz).trans (HR.out k hk12)
      clear hb5 hSx HX hc HW
      go_wp2_with fail
      refine (coded_sent' ad k hk12 _ hS5).mono ?_
      rintro e w6 ⟨rfl, hb6⟩
      have HB6 : Hid (Below w3.heap.size w3 w6) := HB5.out.trans (hb6.mono HB5.out.size)
      clear hb6 hS5 hc5 HB5
      go_wp2
      go_roundw
      case rel => exact ⟨HB6.out, k + 1, by omega, by go_num⟩
      case measure => simp [intOf]; omega
    · have hke : k = 12 := by omega
      subst hke
      have HW : Hid (Below w3.heap.size w3 wr) := hw0
      clear hw0 hrow
      go_wp2_with fail
      refine (new_any _ _).mono ?_
      rintro e w5 ⟨rfl, hb5, cz, tz, hz5⟩
      have HB5 : Hid (Below w3.heap.size w3 w5) := HW.out.trans (hb5.mono HW.out.size)
      have hS5 := hSr.below hb5
      have HZ : Hid (∀ k, k < 12 → (⟨wr.heap.size, 0, none⟩ : Addr) ≠ ad k) := by
        intro k hk e
        obtain ⟨c, t, hr⟩ := hSr.row k hk
        have := lt_of_row hr
        rw [← e] at this
        simp at this
      have HZ5 : Hid (w5.heap[wr.heap.size]? = some (.cells cz tz (0, 0))) := hz5
      clear hb5 hSr hz5
      go_wp2_with fail
      refine (code_new ad ⟨wr.heap.size, 0, none⟩ cz tz _ hS5 HZ5.out HZ.out).mono ?_
      rintro e w6 ⟨rfl, hb6⟩
      have HB6 : Hid (Below w3.heap.size w3 w6) := HB5.out.trans (hb6.mono HB5.out.size)
      clear hb6 hS5 HB5 HZ HZ5
      go_wp2_with fail
      refine (coded_nil _).mono ?_
      rintro e w7 ⟨rfl, hw7⟩
      rw [hw7]; clear hw7 w7
      go_wp2
      go_ret
      exact ⟨rfl, hb4.out.trans (HB6.out.mono hb4.out.size)⟩
end Go.Proofs.YteloekfalmogjaaDoor
