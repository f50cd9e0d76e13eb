/- The document's own IsMatrix, lead, upTo: what they answer; nothing that was there is written. -/
import Derived.Test.YtmlcbphcphpihaaDoorMatB
import Derived.Test.YtmlcbphcphpihaaDoorApp
import Derived.Deep.QuietTactic
import Derived.BigQuiet
namespace Go.Proofs.YtmlcbphcphpihaaDoor
open Go.RowKit
/-- Are these rows a matrix? -/
def isMatB (M : List (List Nat)) : Bool := decide (1 ≤ M.length ∧ M.length ≤ 16) && (List.range M.length).all fun i => decide (1 ≤ (rowOf M i).length ∧ (rowOf M i).length ≤ 16 ∧ (rowOf M i).length = (rowOf M 0).length)
theorem isMatB_iff (M : List (List Nat)) : isMatB M = true ↔ IsMat M := by
  unfold isMatB IsMat
  simp only [Bool.and_eq_true, decide_eq_true_eq, List.all_eq_true, List.mem_range]
  exact ⟨fun h => ⟨h.1.1, h.1.2, h.2⟩, fun h => ⟨⟨h.1, h.2.1⟩, h.2.2⟩⟩
theorem isMatB_false {M : List (List Nat)} (h : ¬ IsMat M) : isMatB M = false := by
  cases e : isMatB M with
  | false => rfl
  | true => exact absurd ((isMatB_iff M).1 e) h
set_option maxRecDepth 10000 in
set_option maxHeartbeats 2000000 in
theorem isMatrix_any (p : Option Addr) (M : List (List Nat)) (cap : Nat) (w : World) (hl : M.length < 2 ^ 63) (hm : ∀ i, (rowOf M i).length < 2 ^ 63) (h : Mat w p M) :
    Calls Tryd.prog 9 #[.slice p M.length cap] w fun e w' => e = .returned (.bool (isMatB M)) ∧ ∃ n, w' = w.drewN n := by
  by_cases hin : 1 ≤ M.length ∧ M.length ≤ 16
  · obtain ⟨hin1, hin2⟩ := hin
    rcases h with h | ⟨b, o, rfl, hb, hc⟩
    · rw [h] at hin1; simp at hin1
    go_enter Tryd.func9, Tryd.ntmps9
    go_wp2
    go_loopw [3] (fun j wr => (∃ n, wr = w.drewN n) ∧ ∃ k : Nat, k ≤ M.length ∧ j = .int .i64 k ∧ ∀ i, i < k → 1 ≤ (rowOf M i).length ∧ (rowOf M i).length ≤ 16 ∧ (rowOf M i).length = (rowOf M 0).length) (fun j _ => M.length - (intOf j).toNat)
    case atStart => exact ⟨⟨0, rfl⟩, 0, by omega, rfl, fun i hi => absurd hi (Nat.not_lt_zero _)⟩
    case round =>
      obtain ⟨hw0, k, hk, rfl, hr⟩ := hrel
      have HW : Hid (∃ n, wr = w.drewN n) := hw0
      have HR : Hid (∀ i, i < k → 1 ≤ (rowOf M i).length ∧ (rowOf M i).length ≤ 16 ∧ (rowOf M i).length = (rowOf M 0).length) := hr
      clear hr hw0
      by_cases hlt : k < M.length
      · obtain ⟨q, c, hc1, _⟩ := hc k hlt
        obtain ⟨q0, d, hc0, _⟩ := hc 0 (by omega)
        have hk1 : wr.cell? ⟨b, o + k, none⟩ = some (.slice q (rowOf M k).length c) := by obtain ⟨n, hn⟩ := HW.out; rw [hn]; exact hc1
        have hk0 : wr.cell? ⟨b, o, none⟩ = some (.slice q0 (rowOf M 0).length d) := by obtain ⟨n, hn⟩ := HW.out; rw [hn]; exact hc0
        have hmk := hm k
        have hm0 := hm 0
        have HNO : Hid (¬ (1 ≤ (rowOf M k).length ∧ (rowOf M k).length ≤ 16 ∧ (rowOf M k).length = (rowOf M 0).length) → isMatB M = false) := fun hno => isMatB_false fun hM => hno (hM.2.2 k hlt)
        have HYES : Hid ((1 ≤ (rowOf M k).length ∧ (rowOf M k).length ≤ 16 ∧ (rowOf M k).length = (rowOf M 0).length) → ∀ i, i < k + 1 → 1 ≤ (rowOf M i).length ∧ (rowOf M i).length ≤ 16 ∧ (rowOf M i).length = (rowOf M 0).length) := fun hyes i hi => by
          by_cases e : i = k
          · rw [e]; exact hyes
          · exact HR.out i (by omega)
        clear hc hc1 hc0 hm HR
        generalize (rowOf M k).length = L at hk1 hmk HNO HYES
        generalize (rowOf M 0).length = L0 at hk0 hm0 HNO HYES ⊢
        by_cases h1 : 1 ≤ L
        · have d1 : decide ((L : Int) < 1) = false := decide_eq_false (by omega)
          by_cases h2 : L ≤ 16
          · have d2 : decide ((16 : Int) < (L : Int)) = false := decide_eq_false (by omega)
            by_cases h3 : L = L0
            · subst h3
              have HY : Hid _ := HYES.out ⟨h1, h2, rfl⟩
              clear HNO HYES
              go_wp2
              go_quiet (fail)
              go_wp2
              go_roundw
              case rel =>
                obtain ⟨n, hn⟩ := HW.out
                exact ⟨⟨n + nq, by rw [hn, World.drewN_drewN]⟩, k + 1, by omega, by go_num, HY.out⟩
              case measure => simp [intOf]; omega
            · have d3 : ((L : Int) != (L0 : Int)) = true := by simp; omega
              have HF : Hid (isMatB M = false) := HNO.out fun h => h3 h.2.2
              clear HNO HYES h3
              go_wp2
              go_quiet (fail)
              go_wp2
              go_ret
              obtain ⟨n, hn⟩ := HW.out
              exact ⟨ret_bool HF.out.symm, n + nq, by rw [hn, World.drewN_drewN]⟩
          · have d2 : decide ((16 : Int) < (L : Int)) = true := decide_eq_true (by omega)
            have HF : Hid (isMatB M = false) := HNO.out fun h => h2 h.2.1
            clear HNO HYES
            go_wp2
            go_quiet (fail)
            go_wp2
            go_ret
            obtain ⟨n, hn⟩ := HW.out
            exact ⟨ret_bool HF.out.symm, n + nq, by rw [hn, World.drewN_drewN]⟩
        · have d1 : decide ((L : Int) < 1) = true := decide_eq_true (by omega)
          have HF : Hid (isMatB M = false) := HNO.out fun h => h1 h.1
          clear HNO HYES
          go_wp2
          go_quiet (fail)
          go_wp2
          go_ret
          obtain ⟨n, hn⟩ := HW.out
          exact ⟨ret_bool HF.out.symm, n + nq, by rw [hn, World.drewN_drewN]⟩
      · have hke : k = M.length := by omega
        subst hke
        have HT : Hid (isMatB M = true) := (isMatB_iff M).2 ⟨hin1, hin2, HR.out⟩
        go_wp2
        go_ret
        exact ⟨ret_bool HT.out.symm, HW.out⟩
  · have HF : Hid (isMatB M = false) := isMatB_false fun h => hin ⟨h.1, h.2.1⟩
    by_cases h1 : 1 ≤ M.length
    · have h2 : 16 < M.length := by omega
      go_enter Tryd.func9, Tryd.ntmps9
      go_wp2
      go_ret
      exact ⟨ret_bool HF.out.symm, 0, rfl⟩
    · go_enter Tryd.func9, Tryd.ntmps9
      go_wp2
      go_ret
      exact ⟨ret_bool HF.out.symm, 0, rfl⟩
set_option maxRecDepth 10000 in
set_option maxHeartbeats 1000000 in
theorem lead_some (p : Option Addr) (l : List Nat) (cap j : Nat) (w : World) (hl : l.length < 2 ^ 40) (hs : Seg w p l) (hj : j < l.length) (hne : Gf.nth l j ≠ 0) (hz : ∀ i, i < j → Gf.nth l i = 0) :
    Calls Tryd.prog 37 #[.slice p l.length cap] w fun e w' => e = .returned (.int .i64 (j : Int)) ∧ w' = w := by
  obtain ⟨hlt, hs⟩ := hs
  rcases hs with hs | ⟨b, o, rfl, hb, hc⟩
  · rw [hs] at hj; simp at hj
  have HZ : Hid (∀ i, i < j → Gf.nth l i = 0) := hz
  have HN : Hid (Gf.nth l j ≠ 0) := hne
  clear hz hne
  go_enter Tryd.func37, Tryd.ntmps37
  go_wp2
  go_loop [3] (fun i => ∃ k : Nat, k ≤ j ∧ i = .int .i64 k) (fun i => l.length - (intOf i).toNat)
  case atStart => exact ⟨0, by omega, rfl⟩
  case round =>
    obtain ⟨k, hk, rfl⟩ := hrel
    have hc1 := hc k (by omega)
    have hkl := hlt k
    clear hc
    by_cases hkj : k = j
    · subst hkj
      have h1 : (0 : Int) < ((Gf.nth l k : Nat) : Int) := by have := HN.out; omega
      go_wp2
      go_ret
      exact ⟨rfl, rfl⟩
    · have h1 : ¬ (0 : Int) < ((Gf.nth l k : Nat) : Int) := by rw [HZ.out k (by omega)]; decide
      go_wp2
      exact ⟨⟨k + 1, by omega, by go_num⟩, by simp [intOf]; omega⟩
set_option maxRecDepth 10000 in
set_option maxHeartbeats 1000000 in
theorem lead_none (p : Option Addr) (l : List Nat) (cap : Nat) (w : World) (hl : l.length < 2 ^ 40) (hs : Seg w p l) (hz : ∀ i, i < l.length → Gf.nth l i = 0) :
    Calls Tryd.prog 37 #[.slice p l.length cap] w fun e w' => e = .returned (.int .i64 (-1)) ∧ w' = w := by
  obtain ⟨hlt, hs⟩ := hs
  have HZ : Hid (∀ i, i < l.length → Gf.nth l i = 0) := hz
  clear hz
  go_enter Tryd.func37, Tryd.ntmps37
  go_wp2
  go_loop [3] (fun i => ∃ k : Nat, k ≤ l.length ∧ i = .int .i64 k) (fun i => l.length - (intOf i).toNat)
  case atStart => exact ⟨0, by omega, rfl⟩
  case round =>
    obtain ⟨k, hk, rfl⟩ := hrel
    by_cases hkj : k < l.length
    · rcases hs with hs | ⟨b, o, rfl, hb, hc⟩
      · rw [hs] at hkj; simp at hkj
      have hc1 := hc k (by omega)
      clear hc
      have h1 : ¬ (0 : Int) < ((Gf.nth l k : Nat) : Int) := by rw [HZ.out k (by omega)]; decide
      go_wp2
      exact ⟨⟨k + 1, by omega, by go_num⟩, by simp [intOf]; omega⟩
    · go_wp2
      go_ret
      exact ⟨rfl, rfl⟩
theorem u8info : (Tryd.prog.info? 5).map (fun i => (i.zero, i.size, i.bytes)) = some (some (byteV 0), 1, 1) := by kernel_rfl
/-- The bytes 0 to k - 1. -/
def upToL (k : Nat) : List Nat := List.range k
set_option maxRecDepth 10000 in
set_option maxHeartbeats 1000000 in
theorem upTo_any (k : Nat) (w : World) (hk : k ≤ 100) :
    Calls Tryd.prog 41 #[.int .i64 (k : Int)] w fun e w' => (∃ v, e = .returned v ∧ Own w' w.heap.size 5 v (upToL k)) ∧ Below w.heap.size w w' := by
  obtain ⟨i0, hi0, hz0, hz1, hz2⟩ := info_parts u8info
  go_enter Tryd.func41, Tryd.ntmps41
  go_wp2
  go_loopw [3, 4] (fun v j wr => ∃ n : Nat, n ≤ k ∧ j = .int .i64 n ∧ Own wr w.heap.size 5 v (upToL n) ∧ Below w.heap.size w wr) (fun _ j _ => k - (intOf j).toNat)
  case atStart => exact ⟨0, by omega, rfl, Own.nil _ _ _, Below.refl _ _⟩
  case round =>
    obtain ⟨n, hn, rfl, hown, hb⟩ := hrel
    have HO : Hid (Own wr w.heap.size 5 u3 (upToL n)) := hown
    have HB : Hid (Below w.heap.size w wr) := hb
    have hbz : w.heap.size ≤ wr.heap.size := hb.size
    have hul : (upToL n).length = n := by simp [upToL]
    clear hown hb
    by_cases hlt : n < k
    · have HU : Hid (upToL (n + 1) = upToL n ++ [n]) := by show _ = _; simp [upToL, List.range_succ]
      go_wp2_with (first | (at_builtin; refine wpList_append_byte rfl (.tmp 10) (.tmp 13) 39 rfl w.heap.size 5 i0 Tryd.underlying39 hi0 hz0 hz1 hz2 u3 (upToL n) rfl (HO.out.kept (World.grownBy_alloc wr _ none) (by cases hv : u3.ownBlock <;> simp)) ⟨wr.heap.size, 0, none⟩ 1 n rfl (by simp [byteV]) (by omega) (by simp; omega) ?_; intro v1 w1 hX hgX hwX))
      have hb1 : Below w.heap.size w w1 := (HB.out.alloc hbz _).grown hgX (by simp; omega) (fun k' hk' => (HO.out.block hk').1)
      go_roundw
      case rel => exact ⟨n + 1, by omega, by go_num, by rw [HU.out]; exact hX, hb1⟩
      case measure => simp [intOf]; omega
    · have hne : n = k := by omega
      subst hne
      go_wp2
      go_ret
      exact ⟨⟨u3, rfl, HO.out⟩, HB.out⟩
end Go.Proofs.YtmlcbphcphpihaaDoor
