/- The statements' own longTexts and ownTexts. -/
import Derived.Test.YtakfjkphmfblaaaGreatDoorNameM
import Derived.Test.YtakfjkphmfblaaaGreatDoorOwnTB
namespace Go.Proofs.YtakfjkphmfblaaaGreatDoor
open Go.RowKit
set_option maxRecDepth 10000 in
set_option maxHeartbeats 1000000 in
theorem longTexts_any (p : Option Addr) (l : List ByteArray) (c : Nat) (w : World) (hl : l.length ≤ maxLen) (hx : ∀ x ∈ l, x.size ≤ maxLen) (hs : Strs w p l) :
    Calls Tryz.prog 6 #[.slice p l.length c] w fun e w' => e = .returned (.bool (longL l)) ∧ w' = w := by
  unfold maxLen at hl
  by_cases h1 : 40 < l.length
  · have HR : Hid (longL l = true) := by show _ = _; unfold longL; rw [decide_eq_true h1, Bool.true_or]
    rw [HR.out]
    go_enter Tryz.func6, Tryz.ntmps6
    go_wp2
    go_ret
    exact ⟨rfl, rfl⟩
  have HX : Hid (∀ i, i < l.length → (txt l i).size ≤ 9223372036854775807) := fun i hi => by have := hx _ (txt_mem hi); unfold maxLen at this; omega
  have HT : Hid (∀ i, i < l.length → 100 < (txt l i).size → longL l = true) := fun i hi h => by
    unfold longL
    rw [decide_eq_false h1, Bool.false_or, List.any_eq_true]
    exact ⟨txt l i, txt_mem hi, decide_eq_true h⟩
  have HF : Hid ((∀ i, i < l.length → ¬ 100 < (txt l i).size) → longL l = false) := fun h => by
    unfold longL
    rw [decide_eq_false h1, Bool.false_or, List.any_eq_false]
    intro x hx h2
    obtain ⟨i, hi, rfl⟩ := txt_of_mem hx
    exact h i hi (of_decide_eq_true h2)
  generalize longL l = r at *
  have HS : Hid (Strs w p l) := hs
  clear hs hx
  go_enter Tryz.func6, Tryz.ntmps6
  go_wp2
  go_loop [3] (fun x => ∃ i : Nat, i ≤ l.length ∧ x = .int .i64 i ∧ ∀ j, j < i → ¬ 100 < (txt l j).size) (fun x => l.length - (intOf x).toNat)
  case atStart => exact ⟨0, Nat.zero_le _, rfl, fun j hj => absurd hj (Nat.not_lt_zero _)⟩
  case round =>
    obtain ⟨i, hi, rfl, hall⟩ := hrel
    have HALL : Hid (∀ j, j < i → ¬ 100 < (txt l j).size) := hall
    clear hall
    by_cases hil : i < l.length
    · rcases HS.out with h0 | ⟨b, o, rfl, hlt, hc⟩
      · rw [h0] at hil; exact absurd hil (Nat.not_lt_zero _)
      have q1 := hc i hil
      have hsz := HX.out i hil
      clear hc
      by_cases hbig : 100 < (txt l i).size
      · have HR : Hid (r = true) := HT.out i hil hbig
        clear HT HF HALL HX
        generalize txt l i = t at *
        go_wp2
        go_ret
        exact ⟨by rw [HR.out]; rfl, rfl⟩
      · have HBG : Hid (¬ 100 < (txt l i).size) := hbig
        clear HT HF HX
        generalize hti : txt l i = t at *
        have HTI : Hid (txt l i = t) := hti
        clear hti
        go_wp2
        go_round
        case rel => exact ⟨i + 1, by omega, by go_num, fun j hj => by
          rcases Nat.lt_or_ge j i with h | h
          · exact HALL.out j h
          · obtain rfl : j = i := by omega
            rw [HTI.out]; exact HBG.out⟩
        case measure => simp [intOf]; omega
    · have HR : Hid (r = false) := HF.out (fun j hj => HALL.out j (by omega))
      go_wp2
      go_ret
      exact ⟨by rw [HR.out]; rfl, rfl⟩
set_option maxRecDepth 10000 in
theorem ownTexts_any (p : Option Addr) (l : List ByteArray) (c : Nat) (w : World) (hl : l.length ≤ 8796093021952) (hs : Strs w p l) (hn : p = none → l = [] ∧ c = 0) :
    Calls Tryz.prog 9 #[.slice p l.length c] w fun e w' => (∃ v, e = .returned v ∧ OwnT w' w.heap.size v l) ∧ Below w.heap.size w w' := by
  have HS : Hid (Strs w p l) := hs
  clear hs
  go_enter Tryz.func9, Tryz.ntmps9
  go_wp2_with (first | (at_builtin; refine wpList_append_strs rfl (.tmp 4) (.tmp 5) rfl w.heap.size (.slice none 0 0) [] rfl (OwnT.nil _ _) p l c rfl HS.out hn (by show 0 + l.length ≤ _; omega) (Nat.le_refl _) ?_; intro v' w1 hO hb; rw [List.nil_append] at hO))
  go_ret
  exact ⟨⟨v', rfl, hO⟩, hb⟩
end Go.Proofs.YtakfjkphmfblaaaGreatDoor
