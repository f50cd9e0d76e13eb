/- Go's own slices.Index, Contains at texts. -/
import Derived.Test.YtoapbjifkjehhaaGreatDoorG3
import Derived.BigQuiet
import Derived.Test.YtoapbjifkjehhaaGreatDoorG1
namespace Go.Proofs.YtoapbjifkjehhaaGreatDoor
open Go.RowKit
set_option maxRecDepth 10000 in
set_option maxHeartbeats 1000000 in
theorem sindex_miss (p : Option Addr) (l : List ByteArray) (c : Nat) (s : ByteArray) (w : World) (hl : l.length ≤ 1000000) (hs : Strs w p l) (h : s ∉ l) :
    Calls Tryz.prog 89 #[.slice p l.length c, .string s] w fun e w' => e = .returned (.int .i64 (-1)) ∧ w' = w := by
  have HH : Hid (s ∉ l) := h
  clear h
  go_enter Tryz.func89, Tryz.ntmps89
  go_wp2
  go_loop [8] (fun x => ∃ i : Nat, i ≤ l.length ∧ x = .int .i64 i) (fun x => l.length - (intOf x).toNat)
  case atStart => exact ⟨0, Nat.zero_le _, rfl⟩
  case round =>
    obtain ⟨i, hi, rfl⟩ := hrel
    by_cases hil : i < l.length
    · rcases hs with h0 | ⟨b, o, rfl, hlt, hc⟩
      · rw [h0] at hil; exact absurd hil (Nat.not_lt_zero _)
      have q1 := hc i hil
      have hne : txt l i ≠ s := fun e => HH.out (e ▸ txt_mem hil)
      have h1 := toList_ne (Ne.symm hne)
      have h2 := toList_beq (Ne.symm hne)
      have h3 := bytes_beq (Ne.symm hne)
      clear hne hc
      generalize txt l i = t at *
      go_wp2
      go_round
      case rel => exact ⟨i + 1, by omega, by go_num⟩
      case measure => simp [intOf]; omega
    · go_wp2
      go_ret
      exact ⟨rfl, rfl⟩
set_option maxRecDepth 10000 in
set_option maxHeartbeats 1000000 in
theorem sindex_hit (p : Option Addr) (l : List ByteArray) (c : Nat) (s : ByteArray) (w : World) (hl : l.length ≤ 1000000) (hs : Strs w p l) (h : s ∈ l) :
    Calls Tryz.prog 89 #[.slice p l.length c, .string s] w fun e w' => e = .returned (.int .i64 ((idxN l s : Nat) : Int)) ∧ w' = w := by
  have HH : Hid (s ∈ l) := h
  clear h
  go_enter Tryz.func89, Tryz.ntmps89
  go_wp2
  go_loop [8] (fun x => ∃ i : Nat, i ≤ l.length ∧ x = .int .i64 i ∧ ∀ j, j < i → txt l j ≠ s) (fun x => l.length - (intOf x).toNat)
  case atStart => exact ⟨0, Nat.zero_le _, rfl, fun j hj => absurd hj (Nat.not_lt_zero _)⟩
  case round =>
    obtain ⟨i, hi, rfl, hall⟩ := hrel
    have HALL : Hid (∀ j, j < i → txt l j ≠ s) := hall
    clear hall
    have hil : i < l.length := by
      rcases Nat.lt_or_ge i l.length with h | h
      · exact h
      · obtain ⟨j, hj, e⟩ := txt_of_mem HH.out
        exact absurd e (HALL.out j (by omega))
    rcases hs with h0 | ⟨b, o, rfl, hlt, hc⟩
    · rw [h0] at hil; exact absurd hil (Nat.not_lt_zero _)
    have q1 := hc i hil
    have HE : Hid (txt l i = txt l i) := by show _ = _; rfl
    clear hc
    by_cases hne : txt l i = s
    · have HI : Hid (idxN l s = i) := idxN_eq hil hne HALL.out
      rw [hne] at q1
      clear hne HE
      go_wp2
      go_ret
      exact ⟨by rw [HI.out]; rfl, rfl⟩
    · have HN : Hid (txt l i ≠ s) := hne
      have h1 := toList_ne (Ne.symm hne)
      have h2 := toList_beq (Ne.symm hne)
      have h3 := bytes_beq (Ne.symm hne)
      clear hne HE
      generalize htt : txt l i = t at *
      have HT : Hid (txt l i = t) := htt
      clear htt
      go_wp2
      go_round
      case rel => exact ⟨i + 1, by omega, by go_num, fun j hj => by
        rcases Nat.lt_or_ge j i with h | h
        · exact HALL.out j h
        · obtain rfl : j = i := by omega
          rw [HT.out]; exact HN.out⟩
      case measure => simp [intOf]; omega
set_option maxRecDepth 10000 in
theorem scont_any (p : Option Addr) (l : List ByteArray) (c : Nat) (s : ByteArray) (w : World) (hl : l.length ≤ 1000000) (hs : Strs w p l) :
    Calls Tryz.prog 61 #[.slice p l.length c, .string s] w fun e w' => e = .returned (.bool (inL l s)) ∧ w' = w := by
  by_cases h : s ∈ l
  · have HE : Hid (inL l s = true) := inL_iff.2 h
    have HI := sindex_hit p l c s w hl hs h
    rw [HE.out]
    clear h hs
    generalize idxN l s = k at *
    go_enter Tryz.func61, Tryz.ntmps61
    go_wp2_with fail
    refine HI.mono ?_
    rintro e w1 ⟨rfl, hw1⟩
    rw [hw1]
    clear hw1 w1 HI
    go_wp2
    go_ret
    exact ⟨rfl, rfl⟩
  · have HE : Hid (inL l s = false) := Bool.eq_false_iff.2 fun h2 => h (inL_iff.1 h2)
    have HI := sindex_miss p l c s w hl hs h
    rw [HE.out]
    clear h hs
    go_enter Tryz.func61, Tryz.ntmps61
    go_wp2_with fail
    refine HI.mono ?_
    rintro e w1 ⟨rfl, hw1⟩
    rw [hw1]
    clear hw1 w1 HI
    go_wp2
    go_ret
    exact ⟨rfl, rfl⟩
end Go.Proofs.YtoapbjifkjehhaaGreatDoor
/- Pieces of slices of texts. -/
namespace Go.Proofs.YtoapbjifkjehhaaGreatDoor
open Go.RowKit
theorem strs_from {w : World} {p : Option Addr} {l : List ByteArray} {c k : Nat} (h : Strs w p l) (hk : k ≤ l.length) (hc : l.length ≤ c) (hn : p = none → l = [] ∧ c = 0) :
    Strs w (if c = k then p else p.map (·.add k)) (l.drop k) ∧ ((if c = k then p else p.map (·.add k)) = none → l.drop k = [] ∧ c - k = 0) := by
  by_cases e : c = k
  · rw [if_pos e]
    have h0 : l.drop k = [] := List.drop_eq_nil_of_le (by omega)
    exact ⟨Or.inl h0, fun _ => ⟨h0, by omega⟩⟩
  · rw [if_neg e]
    cases p with
    | none =>
      obtain ⟨h1, h2⟩ := hn rfl
      rw [h1] at hk
      simp at hk
      omega
    | some a =>
      refine ⟨?_, fun h0 => by cases h0⟩
      rcases h with h | ⟨b, o, hp, hlt, hcell⟩
      · exact Or.inl (by rw [h, List.drop_nil])
      · obtain rfl : a = ⟨b, o, none⟩ := by simpa using hp
        refine Or.inr ⟨b, o + k, by simp [Addr.add_lit], hlt, fun i hi => ?_⟩
        rw [List.length_drop] at hi
        rw [Nat.add_assoc, hcell (k + i) (by omega)]
        congr 2
        unfold txt
        rw [List.getD_eq_getElem?_getD, List.getD_eq_getElem?_getD, List.getElem?_drop]
theorem run_strs_from (p : Option Addr) (l : List ByteArray) (c k : Nat) (hk : k ≤ l.length) (W : World) : Sem.run Tryz.prog (Instr.slice 77 (.slice p l.length c) (some (.int .i64 (k : Int))) none none) W = .ok (.slice (if c = k then p else p.map (·.add k)) (l.drop k).length (c - k)) W := by
  have hsz : (sizeOf (Tryz.prog.elem 77)).run Tryz.prog W = .ok 1 W := by kernel_rfl
  have hel : Tryz.prog.elem 77 = 9 := by kernel_rfl
  have hun : Tryz.prog.underlying 77 = some (.slice (Tryz.prog.elem 77)) := by rw [hel]; exact Tryz.underlying77
  rw [run_slice_l W 77 p l.length c hun .i64 (k : Int) (by omega) (by omega), hsz]
  simp [Result.andThen, sliced]
theorem run_strs_to (p : Option Addr) (l : List ByteArray) (c k : Nat) (hk : k ≤ l.length) (hc : l.length ≤ c) (W : World) : Sem.run Tryz.prog (Instr.slice 77 (.slice p l.length c) none (some (.int .i64 (k : Int))) none) W = .ok (.slice p (l.take k).length c) W := by
  have hsz : (sizeOf (Tryz.prog.elem 77)).run Tryz.prog W = .ok 1 W := by kernel_rfl
  have hel : Tryz.prog.elem 77 = 9 := by kernel_rfl
  have hun : Tryz.prog.underlying 77 = some (.slice (Tryz.prog.elem 77)) := by rw [hel]; exact Tryz.underlying77
  have hl : (l.take k).length = k := by rw [List.length_take]; omega
  rw [run_slice_h W 77 p l.length c hun .i64 (k : Int) (by omega) (by omega), hsz, hl]
  simp [Result.andThen, sliced, Addr.add]
end Go.Proofs.YtoapbjifkjehhaaGreatDoor
