/- The document's own Index. -/
import Derived.Test.YtgjehnahkbddgaaDoorNameM
import Derived.BigQuiet
namespace Go.Proofs.YtgjehnahkbddgaaDoor
open Go.RowKit
set_option maxRecDepth 10000 in
set_option maxHeartbeats 1000000 in
theorem index_miss (p : Option Addr) (l : List ByteArray) (c : Nat) (s : ByteArray) (w : World) (hl : l.length ≤ 1000000) (hs : Strs w p l) (h : s ∉ l) :
    Calls Tryd.prog 14 #[.slice p l.length c, .string s] w fun e w' => e = .returned (.int .i64 (-1)) ∧ w' = w := by
  have HH : Hid (s ∉ l) := h
  clear h
  go_enter Tryd.func14, Tryd.ntmps14
  go_wp2
  go_loop [5] (fun x => ∃ i : Nat, i ≤ l.length ∧ x = .int .i64 i) (fun x => l.length - (intOf x).toNat)
  case atStart => exact ⟨0, Nat.zero_le _, rfl⟩
  case round =>
    obtain ⟨i, hi, rfl⟩ := hrel
    by_cases hil : i < l.length
    · rcases hs with h0 | ⟨b, o, rfl, hlt, hc⟩
      · rw [h0] at hil; exact absurd hil (Nat.not_lt_zero _)
      have q1 := hc i hil
      have hne : txt l i ≠ s := fun e => HH.out (e ▸ txt_mem hil)
      have h1 := toList_ne hne
      have h2 := toList_beq hne
      have h3 := bytes_beq hne
      clear hne hc
      generalize txt l i = t at *
      go_wp2
      go_round
      case rel => exact ⟨i + 1, by omega, by go_num⟩
      case measure => simp [intOf]; omega
    · go_wp2
      go_ret
      exact ⟨rfl, rfl⟩
set_option maxRecDepth 10000 in
set_option maxHeartbeats 1000000 in
theorem index_hit (p : Option Addr) (l : List ByteArray) (c : Nat) (s : ByteArray) (w : World) (hl : l.length ≤ 1000000) (hs : Strs w p l) (h : s ∈ l) :
    Calls Tryd.prog 14 #[.slice p l.length c, .string s] w fun e w' => e = .returned (.int .i64 ((idxN l s : Nat) : Int)) ∧ w' = w := by
  have HH : Hid (s ∈ l) := h
  clear h
  go_enter Tryd.func14, Tryd.ntmps14
  go_wp2
  go_loop [5] (fun x => ∃ i : Nat, i ≤ l.length ∧ x = .int .i64 i ∧ ∀ j, j < i → txt l j ≠ s) (fun x => l.length - (intOf x).toNat)
  case atStart => exact ⟨0, Nat.zero_le _, rfl, fun j hj => absurd hj (Nat.not_lt_zero _)⟩
  case round =>
    obtain ⟨i, hi, rfl, hall⟩ := hrel
    have HALL : Hid (∀ j, j < i → txt l j ≠ s) := hall
    clear hall
    have hil : i < l.length := by
      rcases Nat.lt_or_ge i l.length with h | h
      · exact h
      · obtain ⟨j, hj, e⟩ := txt_of_mem HH.out
        exact absurd e (HALL.out j (by omega))
    rcases hs with h0 | ⟨b, o, rfl, hlt, hc⟩
    · rw [h0] at hil; exact absurd hil (Nat.not_lt_zero _)
    have q1 := hc i hil
    have HE : Hid (txt l i = txt l i) := by show _ = _; rfl
    clear hc
    by_cases hne : txt l i = s
    · have HI : Hid (idxN l s = i) := idxN_eq hil hne HALL.out
      rw [hne] at q1
      clear hne HE
      go_wp2
      go_ret
      exact ⟨by rw [HI.out]; rfl, rfl⟩
    · have HN : Hid (txt l i ≠ s) := hne
      have h1 := toList_ne hne
      have h2 := toList_beq hne
      have h3 := bytes_beq hne
      clear hne HE
      generalize htt : txt l i = t at *
      have HT : Hid (txt l i = t) := htt
      clear htt
      go_wp2
      go_round
      case rel => exact ⟨i + 1, by omega, by go_num, fun j hj => by
        rcases Nat.lt_or_ge j i with h | h
        · exact HALL.out j h
        · obtain rfl : j = i := by omega
          rw [HT.out]; exact HN.out⟩
      case measure => simp [intOf]; omega
end Go.Proofs.YtgjehnahkbddgaaDoor
