/- The document's own PreferFault. -/
import Derived.Test.YtakfjkphmfblaaaGreatDoorRNodesW
namespace Go.Proofs.YtakfjkphmfblaaaGreatDoor
open Go.RowKit
set_option maxRecDepth 10000 in
set_option maxHeartbeats 4000000 in
theorem preferFault_any (p : Option Addr) (l : List ByteArray) (c : Nat) (n : Int) (w : World) (hl : l.length ≤ 1000000) (hc : l.length ≤ c) (ht : ∀ x ∈ l, x.size ≤ 1000000) (hs : Strs w p l) :
    Calls Tryz.prog 12 #[.slice p l.length c, .int .i64 n] w fun e w' => e = .returned (.agg #[.int .i64 (preferF l n).1, .int .i64 (preferF l n).2]) ∧ Below w.heap.size w w' := by
  have HN : Hid (∀ W, Strs W p l → Calls Tryz.prog 10 #[.slice p l.length c] W fun e w' => e = .returned (.agg #[.int .i64 (nodesF l).1, .int .i64 (nodesF l).2]) ∧ Below W.heap.size W w') := fun W hW => nodesFault_any p l c W hl hc ht hW
  have HS : Hid (Strs w p l) := hs
  have HR1 : Hid (0 < (nodesF l).1 → preferF l n = nodesF l) := fun h => by unfold preferF; rw [if_pos h]
  have HR2 : Hid (¬ 0 < (nodesF l).1 → (l.length : Int) < n → preferF l n = (8, -1)) := fun h h2 => by unfold preferF; rw [if_neg h, if_pos h2]
  have HR3 : Hid (¬ 0 < (nodesF l).1 → ¬ (l.length : Int) < n → n < 0 → preferF l n = (2, -1)) := fun h h2 h3 => by unfold preferF; rw [if_neg h, if_neg h2, if_pos h3]
  have HR4 : Hid (¬ 0 < (nodesF l).1 → ¬ (l.length : Int) < n → ¬ n < 0 → preferF l n = nodesF l) := fun h h2 h3 => by unfold preferF; rw [if_neg h, if_neg h2, if_neg h3]
  clear hs ht
  generalize preferF l n = R at *
  generalize nodesF l = F at *
  obtain ⟨f, g⟩ := F
  go_enter Tryz.func12, Tryz.ntmps12
  go_wp2_with fail
  have HK : Hid (∀ wq, Below (w.alloc (.cells #[.int .i64 0, .int .i64 0] 31)).heap.size (w.alloc (.cells #[.int .i64 0, .int .i64 0] 31)) wq → (wq.cell? ⟨w.heap.size, 0, none⟩ = some (.int .i64 0) ∧ wq.cell? ⟨w.heap.size, 1, none⟩ = some (.int .i64 0) ∧ wq.frozen? ⟨w.heap.size, 0, none⟩ = false ∧ wq.frozen? ⟨w.heap.size, 1, none⟩ = false) ∧ Below w.heap.size w wq) := fun wq h => ⟨pair_kept w _ wq h, pair_below h⟩
  have HS0 : Hid (Strs (w.alloc (.cells #[.int .i64 0, .int .i64 0] 31)) p l) := HS.out.below ((Below.refl _ _).alloc (Nat.le_refl _) _)
  have HSZ : Hid (w.heap.size < (w.alloc (.cells #[.int .i64 0, .int .i64 0] 31)).heap.size) := by show _ < _; simp
  generalize w.alloc (.cells #[.int .i64 0, .int .i64 0] 31) = w0 at HK HS0 HSZ ⊢
  refine (HN.out _ HS0.out).mono ?_
  rintro e w1 ⟨rfl, hb1⟩
  have HB1 : Hid (Below w0.heap.size w0 w1) := hb1
  clear hb1 HN HS0 HS
  obtain ⟨w2, hw2⟩ : ∃ w2, w2 = w1.alloc (.cells #[.int .i64 f, .int .i64 g] 31) := ⟨_, rfl⟩
  have hb2 : Below w0.heap.size w0 w2 := by rw [hw2]; exact HB1.out.alloc HB1.out.size _
  have p1 : w2.cell? ⟨w1.heap.size, 0, none⟩ = some (.int .i64 f) := by rw [hw2, World.cell?_alloc_at _ _ _ _ rfl]; rfl
  have p2 : w2.cell? ⟨w1.heap.size, 1, none⟩ = some (.int .i64 g) := by rw [hw2, World.cell?_alloc_at _ _ _ _ rfl]; rfl
  obtain ⟨⟨q1, q2, f1, f2⟩, hbw⟩ := HK.out w2 hb2
  have HBW : Hid (Below w.heap.size w w2) := hbw
  have HB2 : Hid (Below w0.heap.size w0 w2) := hb2
  have HNE : Hid (w.heap.size ≠ w1.heap.size) := by show _ ≠ _; have := HSZ.out; have := HB1.out.size; omega
  have hne := HNE.out
  have HW2 : Hid (w2 = w1.alloc (.cells #[.int .i64 f, .int .i64 g] 31)) := hw2
  clear hw2 hbw hb2
  by_cases h1 : 0 < f
  · have HA : Hid (R = (f, g)) := HR1.out h1
    go_wp2_with (rw [← HW2.out])
    refine bodyPost_ret (v := .agg #[.int .i64 R.1, .int .i64 R.2]) (by rw [HA.out]; simp [results, Tryz.results12, go_sem, q1, q2]) rfl ⟨rfl, ?_⟩
    exact pair_set HBW.out _ _
  have h1' : f ≤ 0 := by omega
  by_cases h2 : (l.length : Int) < n
  · have HA : Hid (R = (8, -1)) := HR2.out (by omega) h2
    go_wp2_with (rw [← HW2.out])
    refine (bare_any 8 _).mono ?_
    rintro e w3 ⟨rfl, hb3⟩
    obtain ⟨⟨r1, r2, e1, e2⟩, hbw⟩ := HK.out w3 (HB2.out.trans (hb3.mono HB2.out.size))
    clear q1 q2 f1 f2 hb3 p1 p2
    go_wp2
    refine bodyPost_ret (v := .agg #[.int .i64 R.1, .int .i64 R.2]) (by rw [HA.out]; simp [results, Tryz.results12, go_sem, r1, r2]) rfl ⟨rfl, ?_⟩
    exact pair_set hbw _ _
  by_cases h3 : n < 0
  · have HA : Hid (R = (2, -1)) := HR3.out (by omega) (by omega) h3
    go_wp2_with (rw [← HW2.out])
    refine (bare_any 2 _).mono ?_
    rintro e w3 ⟨rfl, hb3⟩
    obtain ⟨⟨r1, r2, e1, e2⟩, hbw⟩ := HK.out w3 (HB2.out.trans (hb3.mono HB2.out.size))
    clear q1 q2 f1 f2 hb3 p1 p2
    go_wp2
    refine bodyPost_ret (v := .agg #[.int .i64 R.1, .int .i64 R.2]) (by rw [HA.out]; simp [results, Tryz.results12, go_sem, r1, r2]) rfl ⟨rfl, ?_⟩
    exact pair_set hbw _ _
  · have HA : Hid (R = (f, g)) := HR4.out (by omega) (by omega) (by omega)
    go_wp2_with (rw [← HW2.out])
    refine bodyPost_ret (v := .agg #[.int .i64 R.1, .int .i64 R.2]) (by rw [HA.out]; simp [results, Tryz.results12, go_sem, q1, q2]) rfl ⟨rfl, ?_⟩
    exact pair_set HBW.out _ _
end Go.Proofs.YtakfjkphmfblaaaGreatDoor
