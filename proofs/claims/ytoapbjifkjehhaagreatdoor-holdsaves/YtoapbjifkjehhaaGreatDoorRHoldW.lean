/- The document's own hold: Less, Get. -/
import Derived.Test.YtoapbjifkjehhaaGreatDoorG3
namespace Go.Proofs.YtoapbjifkjehhaaGreatDoor
open Go.RowKit
set_option maxRecDepth 10000 in
theorem rless_any (a b : Int × Int) (w : World) :
    Calls Tryz.prog 57 #[.agg #[.int .i64 a.1, .int .i64 a.2], .agg #[.int .i64 b.1, .int .i64 b.2]] w fun e w' => e = .returned (.bool (lessB a b)) ∧ Below w.heap.size w w' := by
  obtain ⟨a1, a2⟩ := a
  obtain ⟨b1, b2⟩ := b
  have HB : Hid (Below w.heap.size w ((w.alloc (.cells #[.int .i64 a1, .int .i64 a2] 45)).alloc (.cells #[.int .i64 b1, .int .i64 b2] 45))) := ((Below.refl _ _).alloc (Nat.le_refl _) _).alloc (by simp) _
  by_cases h1 : a1 < b1
  · have HE : Hid (lessB (a1, a2) (b1, b2) = true) := by show _ = _; unfold lessB; simp [h1]
    rw [HE.out]
    go_enter Tryz.func57, Tryz.ntmps57
    go_wp2
    go_ret
    exact ⟨rfl, HB.out⟩
  have d1 : decide (a1 < b1) = false := decide_eq_false h1
  by_cases h2 : a1 = b1
  · subst h2
    have HE : Hid (lessB (a1, a2) (a1, b2) = decide (a2 < b2)) := by show _ = _; unfold lessB; simp
    rw [HE.out]
    go_enter Tryz.func57, Tryz.ntmps57
    go_wp2
    go_ret
    exact ⟨rfl, HB.out⟩
  · have HE : Hid (lessB (a1, a2) (b1, b2) = false) := by show _ = _; unfold lessB; simp [h1, h2]
    rw [HE.out]
    have d2 : (a1 == b1) = false := by
      rw [beq_eq_false_iff_ne]
      exact h2
    go_enter Tryz.func57, Tryz.ntmps57
    go_wp2
    go_ret
    exact ⟨rfl, HB.out⟩
set_option maxRecDepth 10000 in
set_option maxHeartbeats 4000000 in
theorem rget_any (h : Nat) (L : List Kep) (s : Bool) (key : ByteArray) (w : World) (hl : L.length ≤ 1000000) (hm : MHold w h L s) :
    Calls Tryz.prog 31 #[.pointer (some ⟨h, 0, none⟩), .string key] w fun e w' => (∃ v, e = .returned v ∧ OwnR verE 49 w' w.heap.size v (getL L key)) ∧ Below w.heap.size w w' := by
  obtain ⟨p, c, q0, hrec, hc, hn, hne⟩ := hm.row
  have HREC : Hid (Rec kepE w p L) := hrec
  have hlt := lt_of_cellH q0
  have HQ0 : Hid (w.cell? ⟨h, 0, none⟩ = some (.slice p L.length c)) := q0
  clear hrec hm q0 hne hn
  go_enter Tryz.func31, Tryz.ntmps31
  go_wp2
  go_loopw [5, 6] (fun v x wq => ∃ i : Nat, i ≤ L.length ∧ x = .int .i64 i ∧ OwnR verE 49 wq w.heap.size v (getL (L.take i) key) ∧ Below w.heap.size w wq) (fun _ x _ => L.length - (intOf x).toNat)
  case atStart => exact ⟨0, Nat.zero_le _, rfl, OwnR.nil _ _ _, Below.refl _ _⟩
  case round =>
    obtain ⟨i, hi, rfl, hO, hB⟩ := hrel
    obtain ⟨w1, rfl⟩ : ∃ w1, w1 = wr := ⟨_, rfl⟩
    obtain ⟨v, rfl⟩ : ∃ v, v = u5 := ⟨_, rfl⟩
    have HO : Hid (OwnR verE 49 w1 w.heap.size v (getL (L.take i) key)) := hO
    have HB : Hid (Below w.heap.size w w1) := hB
    have q0 : w1.cell? ⟨h, 0, none⟩ = some (.slice p L.length c) := (hB.cell (p := ⟨h, 0, none⟩) hlt).trans HQ0.out
    have hz1 : w.heap.size ≤ w1.heap.size := hB.size
    clear hO hB
    by_cases hil : i < L.length
    · obtain ⟨b, o, hpp, hblt, c0, c1, c2, c3, c4, c5⟩ := kep_cells (HREC.out.below HB.out) hil
      subst hpp
      by_cases he : (kepAt L i).1 = key
      · have HNX : Hid (getL (L.take (i + 1)) key = getL (L.take i) key ++ [(kepAt L i).2]) := getL_succ_yes hil he
        have hgl : (getL (L.take i) key).length ≤ 1000000 := Nat.le_trans (getL_le _ _) (by rw [List.length_take]; omega)
        rw [he] at c0
        clear he
        generalize (kepAt L i).2 = x at *
        obtain ⟨xn, xw, xs, xa, xt⟩ := x
        generalize getL (L.take i) key = gs at *
        have HO2 : Hid (OwnR verE 49 (w1.alloc (.cells #[.int .i64 xn, .int .i64 xw, .int .i64 xs, .int .i64 xa, .string xt] 49)) w.heap.size v gs) := HO.out.kept ((Below.refl _ _).alloc (Nat.le_refl _) _)
        have HNW : Hid (∀ j u, (verE.enc ⟨xn, xw, xs, xa, xt⟩)[j]? = some u → (w1.alloc (.cells #[.int .i64 xn, .int .i64 xw, .int .i64 xs, .int .i64 xa, .string xt] 49)).cell? ⟨w1.heap.size, 0 + j, none⟩ = some u) := fun j u hj => by
          rw [Nat.zero_add, World.cell?_alloc_at _ _ _ _ rfl]
          match j, hj with
          | 0, hj => exact hj
          | 1, hj => exact hj
          | 2, hj => exact hj
          | 3, hj => exact hj
          | 4, hj => exact hj
        have HB2 : Hid (Below w.heap.size w (w1.alloc (.cells #[.int .i64 xn, .int .i64 xw, .int .i64 xs, .int .i64 xa, .string xt] 49))) := HB.out.alloc hz1 _
        go_wp2_with (first | (at_builtin; refine wpList_append_rec rfl (.tmp 26) (.tmp 35) 57 49 rfl (.agg #[.int .i64 0, .int .i64 0, .int .i64 0, .int .i64 0, .string ⟨#[]⟩]) 48 Tryz.underlying57 verinfo rfl w.heap.size v gs rfl HO2.out w1.heap.size 0 1 ⟨xn, xw, xs, xa, xt⟩ rfl HNW.out (by unfold maxLen; omega) (by omega) HB2.out.size (by simp) ?_; intro v3 w3 hO3 hb3))
        have HO3 : Hid (OwnR verE 49 w3 w.heap.size v3 (gs ++ [⟨xn, xw, xs, xa, xt⟩])) := hO3
        have HB3 : Hid (Below w.heap.size w w3) := HB2.out.trans hb3
        clear hO3 hb3
        go_wp2
        go_roundw
        case rel => exact ⟨i + 1, by omega, by go_num, by rw [HNX.out]; exact HO3.out, HB3.out⟩
        case measure => simp [intOf]; omega
      · have HNX : Hid (getL (L.take (i + 1)) key = getL (L.take i) key) := getL_succ_no hil he
        have d1 := toList_ne he
        have d2 := toList_beq he
        have d3 := bytes_beq he
        clear he
        generalize kepAt L i = x at *
        obtain ⟨xk, xv⟩ := x
        go_wp2
        go_roundw
        case rel => exact ⟨i + 1, by omega, by go_num, by rw [HNX.out]; exact HO.out, HB.out⟩
        case measure => simp [intOf]; omega
    · have hie : i = L.length := by omega
      subst hie
      have HE : Hid (L.take L.length = L) := List.take_length
      go_wp2
      go_ret
      exact ⟨⟨_, rfl, by have := HO.out; rw [HE.out] at this; exact this⟩, HB.out⟩
end Go.Proofs.YtoapbjifkjehhaaGreatDoor
