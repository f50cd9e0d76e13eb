/- HoldActs, walked over what package hold is asked. -/
import Derived.Test.YtoapbjifkjehhaaGreatDoorHoldsW
import Derived.Test.YtoapbjifkjehhaaGreatDoorPlayW
import Derived.Test.YtoapbjifkjehhaaGreatDoorHeavyW
namespace Go.Proofs.YtoapbjifkjehhaaGreatDoor
open Go.RowKit
/-- A hold and its model, both new. -/
theorem two_new {ad : Nat → Addr} {Hd : World → Nat → (Nat → Prop) → List Kep → Bool → Prop} (hO : HoldOk ad Hd) (B : Nat) (w : World) (hB : B ≤ w.heap.size) :
    Two Hd B ((w.alloc (.cells #[.map none, .bool false] 39)).alloc (.cells #[.slice none 0 0, .bool false] 43)) w.heap.size (w.heap.size + 1) [] false (fun k => k = w.heap.size) := by
  have hb : Below (w.alloc (.cells #[.map none, .bool false] 39)).heap.size (w.alloc (.cells #[.map none, .bool false] 39)) ((w.alloc (.cells #[.map none, .bool false] 39)).alloc (.cells #[.slice none 0 0, .bool false] 43)) := (Below.refl _ _).alloc (Nat.le_refl _) _
  refine ⟨hO.keep (hO.zero w) hb.size (fun k hk => hb.block k (hO.lt (hO.zero w) k hk)), fun k hk => by have : k = w.heap.size := hk; omega, by show ¬ (_ = _); omega, fun h => absurd rfl h, ⟨⟨none, 0, by simp, Or.inl rfl, Nat.le_refl _, fun _ => ⟨rfl, rfl⟩, fun b o h => by cases h⟩, by simp, by simp, by simp⟩, by omega, by simp, fun x hx => by cases hx⟩
set_option maxRecDepth 10000 in
set_option maxHeartbeats 1600000 in
theorem holdActs_any {ad : Nat → Addr} {Hd : World → Nat → (Nat → Prop) → List Kep → Bool → Prop} (hO : HoldOk ad Hd) (pl : Option Addr) (acts : List HAct) (cl : Nat) (w : World) (hl : acts.length ≤ maxLen) (hr : Rec actE w pl acts)
    (hS : ∀ W, Below w.heap.size w W → Sent W ad) (hx : ∀ i, i < acts.length → (actAt acts i).key.size ≤ maxLen ∧ (actAt acts i).v.text.size ≤ maxLen ∧ -9223372036854775808 ≤ (actAt acts i).n ∧ (actAt acts i).n ≤ 9223372036854775807) :
    Calls Tryz.prog 4 #[.slice pl acts.length cl] w fun e w' => e = .returned (.bool true) ∧ Below w.heap.size w w' := by
  have HH := holds_any hO.toHoldOk0 w hS
  have HR : Hid (Rec actE w pl acts) := hr
  have HO : Hid (HoldOk ad Hd) := hO
  have HS : Hid (∀ W, Below w.heap.size w W → Sent W ad) := hS
  have HX : Hid (∀ i, i < acts.length → (actAt acts i).key.size ≤ maxLen ∧ (actAt acts i).v.text.size ≤ maxLen ∧ -9223372036854775808 ≤ (actAt acts i).n ∧ (actAt acts i).n ≤ 9223372036854775807) := hx
  have HL : Hid (acts.length ≤ maxLen) := hl
  clear hl hr hO hS hx
  go_enter Tryz.func4, Tryz.ntmps4
  go_wp2_with fail
  refine HH.mono ?_
  rintro e w1 ⟨rfl, hb1⟩
  clear HH
  have HB1 : Hid (Below w.heap.size w w1) := hb1
  have HV := heavy_any pl acts cl w1 HL.out (HR.out.below hb1)
  clear hb1
  go_wp2_with fail
  refine HV.mono ?_
  rintro e w2 ⟨⟨r, rfl⟩, hb2⟩
  clear HV
  have HB2 : Hid (Below w.heap.size w w2) := HB1.out.trans (hb2.mono HB1.out.size)
  clear hb2 HB1
  cases r
  · obtain ⟨w3, hw3⟩ : ∃ w3, w3 = (w2.alloc (.cells #[.map none, .bool false] 39)).alloc (.cells #[.slice none 0 0, .bool false] 43) := ⟨_, rfl⟩
    have hb3 : Below w.heap.size w w3 := by rw [hw3]; exact HB2.out.trans ((((Below.refl w2.heap.size _).alloc (Nat.le_refl _) _).alloc (by simp) _).mono HB2.out.size)
    have hT := two_new HO.out w.heap.size w2 HB2.out.size
    rw [← hw3] at hT
    have HP := play_any HO.out w.heap.size w2.heap.size (w2.heap.size + 1) [] false _ pl acts cl w3 hT hb3.size HL.out (fun W hW => HR.out.below (hb3.trans hW)) (fun W hW => HS.out W (hb3.trans hW)) HX.out
    have HW3 : Hid (w3 = (w2.alloc (.cells #[.map none, .bool false] 39)).alloc (.cells #[.slice none 0 0, .bool false] 43)) := hw3
    have HB3 : Hid (Below w.heap.size w w3) := hb3
    clear hw3 hb3 hT HB2
    go_wp2_with fail
    rw [← HW3.out]
    refine HP.mono ?_
    rintro e w4 ⟨rfl, _, hb4⟩
    go_wp2
    go_ret
    exact ⟨rfl, HB3.out.trans hb4⟩
  · go_wp2
    go_ret
    exact ⟨rfl, HB2.out⟩
end Go.Proofs.YtoapbjifkjehhaaGreatDoor
