/- The document's own Unwire, of whatever text. -/
import Derived.Test.YteppmkpckdmnaaaDoorRUnwW
namespace Go.Proofs.YteppmkpckdmnaaaDoor
open Go.RowKit
theorem unw_set {w w1 : World} (h : Below w.heap.size w w1) (v0 v1 v2 v3 v4 v5 v6 v7 : Value) : Below w.heap.size w ((((((((w1.setCell ⟨w.heap.size, 0, none⟩ v0).setCell ⟨w.heap.size, 1, none⟩ v1).setCell ⟨w.heap.size, 2, none⟩ v2).setCell ⟨w.heap.size, 3, none⟩ v3).setCell ⟨w.heap.size, 4, none⟩ v4).setCell ⟨w.heap.size, 5, none⟩ v5).setCell ⟨w.heap.size, 6, none⟩ v6).setCell ⟨w.heap.size, 7, none⟩ v7) :=
  (((((((h.setCell (p := ⟨w.heap.size, 0, none⟩) (Nat.le_refl _) _).setCell (p := ⟨w.heap.size, 1, none⟩) (Nat.le_refl _) _).setCell (p := ⟨w.heap.size, 2, none⟩) (Nat.le_refl _) _).setCell (p := ⟨w.heap.size, 3, none⟩) (Nat.le_refl _) _).setCell (p := ⟨w.heap.size, 4, none⟩) (Nat.le_refl _) _).setCell (p := ⟨w.heap.size, 5, none⟩) (Nat.le_refl _) _).setCell (p := ⟨w.heap.size, 6, none⟩) (Nat.le_refl _) _).setCell (p := ⟨w.heap.size, 7, none⟩) (Nat.le_refl _) _
set_option maxRecDepth 10000 in
set_option maxHeartbeats 2000000 in
theorem runw_long (s : ByteArray) (w : World) (hs : 4000 < s.size) (hl : s.size ≤ 1000000) :
    Calls Tryd.prog 15 #[.string s] w fun e w' => e = .returned (.tuple #[msgA noMsg (.slice none 0 0), .int .i64 1]) ∧ Below w.heap.size w w' := by
  have d0 : decide (4000 < (s.size : Int)) = true := decide_eq_true (by omega)
  unfold msgA noMsg
  go_enter Tryd.func15, Tryd.ntmps15
  go_wp2
  refine bodyPost_ret (v := .tuple #[.agg #[.string ⟨#[]⟩, .string ⟨#[]⟩, .string ⟨#[]⟩, .string ⟨#[]⟩, .int .i64 0, .int .i64 0, .bool false, .slice none 0 0], .int .i64 1]) (by simp [results, Tryd.results15, go_sem]) rfl ⟨rfl, ?_⟩
  exact (Below.refl _ _).alloc (Nat.le_refl _) _
set_option maxRecDepth 10000 in
set_option maxHeartbeats 2000000 in
theorem runw_err (s x : ByteArray) (c : Nat) (w : World) (hs : s.size ≤ 4000) (hc : 0 < c) (hO : ∀ W, Calls Tryd.prog 27 #[.string s] W fun e w' => e = .returned (.tuple #[.string x, .int .i64 (c : Int)]) ∧ Below W.heap.size W w') :
    Calls Tryd.prog 15 #[.string s] w fun e w' => e = .returned (.tuple #[msgA noMsg (.slice none 0 0), .int .i64 (c : Int)]) ∧ Below w.heap.size w w' := by
  have d0 : decide (4000 < (s.size : Int)) = false := decide_eq_false (by omega)
  obtain ⟨w1, hw1⟩ : ∃ w1, w1 = w.alloc (.cells #[.string ⟨#[]⟩, .string ⟨#[]⟩, .string ⟨#[]⟩, .string ⟨#[]⟩, .int .i64 0, .int .i64 0, .bool false, .slice none 0 0] 24) := ⟨_, rfl⟩
  have HW1 : Hid (w1 = w.alloc (.cells #[.string ⟨#[]⟩, .string ⟨#[]⟩, .string ⟨#[]⟩, .string ⟨#[]⟩, .int .i64 0, .int .i64 0, .bool false, .slice none 0 0] 24)) := hw1
  have hb1 : Below w.heap.size w w1 := by rw [hw1]; exact (Below.refl _ _).alloc (Nat.le_refl _) _
  have he1 : w1.heap[w.heap.size]? = some (.cells #[.string ⟨#[]⟩, .string ⟨#[]⟩, .string ⟨#[]⟩, .string ⟨#[]⟩, .int .i64 0, .int .i64 0, .bool false, .slice none 0 0] 24 (0, 0)) := by rw [hw1]; exact heap_alloc_new _ _
  have hz1 : w.heap.size < w1.heap.size := by rw [hw1]; simp
  have HOC : Hid (Calls Tryd.prog 27 #[.string s] w1 fun e w' => e = .returned (.tuple #[.string x, .int .i64 (c : Int)]) ∧ Below w1.heap.size w1 w') := hO w1
  have d1 : decide (0 < c) = true := decide_eq_true hc
  have HE1 : Hid (w1.heap[w.heap.size]? = some (.cells #[.string ⟨#[]⟩, .string ⟨#[]⟩, .string ⟨#[]⟩, .string ⟨#[]⟩, .int .i64 0, .int .i64 0, .bool false, .slice none 0 0] 24 (0, 0)) ∧ Below w.heap.size w w1 ∧ w.heap.size < w1.heap.size) := ⟨he1, hb1, hz1⟩
  clear hO hw1 hb1 he1 hz1
  unfold msgA noMsg
  go_enter Tryd.func15, Tryd.ntmps15
  go_wp2_with fail
  rw [← HW1.out]
  refine HOC.out.mono ?_
  rintro e w2 ⟨rfl, hb2⟩
  have hbw2 : Below w.heap.size w w2 := HE1.out.2.1.trans (hb2.mono HE1.out.2.1.size)
  have he2 := (hb2.block _ HE1.out.2.2).trans HE1.out.1
  have HL2 : Hid (Below w.heap.size w w2) := hbw2
  have z0 : w2.cell? ⟨w.heap.size, 0, none⟩ = some (.string ⟨#[]⟩) := by simp [World.cell?, he2]
  have z1 : w2.cell? ⟨w.heap.size, 1, none⟩ = some (.string ⟨#[]⟩) := by simp [World.cell?, he2]
  have z2 : w2.cell? ⟨w.heap.size, 2, none⟩ = some (.string ⟨#[]⟩) := by simp [World.cell?, he2]
  have z3 : w2.cell? ⟨w.heap.size, 3, none⟩ = some (.string ⟨#[]⟩) := by simp [World.cell?, he2]
  have z4 : w2.cell? ⟨w.heap.size, 4, none⟩ = some (.int .i64 0) := by simp [World.cell?, he2]
  have z5 : w2.cell? ⟨w.heap.size, 5, none⟩ = some (.int .i64 0) := by simp [World.cell?, he2]
  have z6 : w2.cell? ⟨w.heap.size, 6, none⟩ = some (.bool false) := by simp [World.cell?, he2]
  have z7 : w2.cell? ⟨w.heap.size, 7, none⟩ = some (.slice none 0 0) := by simp [World.cell?, he2]
  have z8 : ∀ o, w2.frozen? ⟨w.heap.size, o, none⟩ = false := fun o => by simp [World.frozen?, he2]
  clear hb2 hbw2 he2 HE1 HOC HW1
  go_wp2
  refine bodyPost_ret (v := .tuple #[.agg #[.string ⟨#[]⟩, .string ⟨#[]⟩, .string ⟨#[]⟩, .string ⟨#[]⟩, .int .i64 0, .int .i64 0, .bool false, .slice none 0 0], .int .i64 (c : Int)]) (by simp [results, Tryd.results15, go_sem, z0, z1, z2, z3, z4, z5, z6, z7]) rfl ⟨rfl, ?_⟩
  exact unw_set HL2.out _ _ _ _ _ _ _ _
/-- What Decode is asked to tell: an error's number, or a message. -/
def decE (s : ByteArray) : Int × Option Msg :=
  if 4000 < s.size then (1, none) else if s.size < 4 then (1, none) else if fourT (crcOf (cutT s)) = endT s then (match unF (cutT s).data.toList with | none => (1, none) | some m => (0, some m)) else (9, none)
/-- An answer that is as decE tells. -/
def DecIs (x : Int × Option Msg) (B : Nat) (e : Ending) (w' : World) : Prop := (x.2 = none ∧ e = .returned (.tuple #[msgA noMsg (.slice none 0 0), .int .i64 x.1])) ∨ ∃ m lv, x = (0, some m) ∧ e = .returned (.tuple #[msgA m lv, .int .i64 0]) ∧ OwnR verE 50 w' B lv m.L
theorem runw_any (s : ByteArray) (w : World) (hl : s.size ≤ 1000000) :
    Calls Tryd.prog 15 #[.string s] w fun e w' => DecIs (decE s) w.heap.size e w' ∧ Below w.heap.size w w' := by
  by_cases h1 : 4000 < s.size
  · have e1 : decE s = (1, none) := by unfold decE; rw [if_pos h1]
    rw [e1]
    exact (runw_long s w h1 hl).mono fun e w' hp => ⟨Or.inl ⟨rfl, hp.1⟩, hp.2⟩
  by_cases h2 : s.size < 4
  · have e1 : decE s = (1, none) := by unfold decE; rw [if_neg h1, if_pos h2]
    rw [e1]
    exact (runw_err s ⟨#[]⟩ 1 w (by omega) (by decide) (fun W => (ropen_short s W h2).mono fun e w' hp => ⟨hp.1, by rw [hp.2]; exact Below.refl _ _⟩)).mono fun e w' hp => ⟨Or.inl ⟨rfl, hp.1⟩, hp.2⟩
  by_cases h3 : fourT (crcOf (cutT s)) = endT s
  · have e1 : decE s = (match unF (cutT s).data.toList with | none => (1, none) | some m => (0, some m)) := by unfold decE; rw [if_neg h1, if_neg h2, if_pos h3]
    rw [e1]
    refine (runw_main s (cutT s) w (by omega) (by rw [cutT_size]; omega) (fun W => ropen_ok s W (by omega) (by omega) h3)).mono fun e w' hp => ⟨?_, hp.2⟩
    rcases hp.1 with ⟨h4, h5⟩ | ⟨m, lv, h4, h5, h6⟩
    · rw [h4]
      exact Or.inl ⟨rfl, h5⟩
    · rw [h4]
      exact Or.inr ⟨m, lv, rfl, h5, h6⟩
  · have e1 : decE s = (9, none) := by unfold decE; rw [if_neg h1, if_neg h2, if_neg h3]
    rw [e1]
    exact (runw_err s ⟨#[]⟩ 9 w (by omega) (by decide) (fun W => ropen_bad s W (by omega) (by omega) h3)).mono fun e w' hp => ⟨Or.inl ⟨rfl, hp.1⟩, hp.2⟩
end Go.Proofs.YteppmkpckdmnaaaDoor
