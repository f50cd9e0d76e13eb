/- HoldLoads, walked over what package hold is asked. -/
import Derived.Test.YtoapbjifkjehhaaGreatDoorHoldsW
import Derived.Test.YtoapbjifkjehhaaGreatDoorG11
import Derived.Test.YtoapbjifkjehhaaGreatDoorQStepB
namespace Go.Proofs.YtoapbjifkjehhaaGreatDoor
open Go.RowKit
set_option maxRecDepth 10000 in
set_option maxHeartbeats 1600000 in
theorem holdLoads_any {ad : Nat → Addr} {Hd : World → Nat → (Nat → Prop) → List Kep → Bool → Prop} {Saved : ByteArray → List Kep → Bool → Prop} {X : World → Prop} (hO : HoldOk ad Hd) (hV : SaveOk ad Hd Saved X) (x : ByteArray) (w : World) (hs : x.size ≤ maxLen)
    (hS : ∀ W, Below w.heap.size w W → Sent W ad) (hXX : ∀ W, Below w.heap.size w W → X W) (hE : x.size ≤ 2000 → ∀ W, Calls Tryz.prog 8 #[.string x] W fun e w' => e = .returned (.string (sealT x)) ∧ Below W.heap.size W w') :
    Calls Tryz.prog 3 #[.string x] w fun e w' => e = .returned (.bool true) ∧ Below w.heap.size w w' := by
  have HH := holds_any hO.toHoldOk0 w hS
  have HO : Hid (HoldOk ad Hd) := hO
  have HVO : Hid (SaveOk ad Hd Saved X) := hV
  have HS : Hid (∀ W, Below w.heap.size w W → Sent W ad) := hS
  have HXX : Hid (∀ W, Below w.heap.size w W → X W) := hXX
  have hs' : x.size ≤ 9223372036854775807 := by unfold maxLen at hs; omega
  clear hO hV hS hs hXX
  by_cases hbig : 2000 < x.size
  · have d1 : decide (2000 < (x.size : Int)) = true := decide_eq_true (by omega)
    clear hE
    go_enter Tryz.func3, Tryz.ntmps3
    go_wp2_with fail
    refine HH.mono ?_
    rintro e w1 ⟨rfl, hb1⟩
    go_wp2
    go_ret
    exact ⟨rfl, hb1⟩
  have d1 : decide (2000 < (x.size : Int)) = false := decide_eq_false (by omega)
  have HE : Hid (∀ W, Calls Tryz.prog 8 #[.string x] W fun e w' => e = .returned (.string (sealT x)) ∧ Below W.heap.size W w') := hE (by omega)
  have HL : Hid (∀ W, Sent W ad → X W → Calls Tryz.prog 7 #[.string (sealT x)] W fun e w' => ((∃ ev, e = .returned (.tuple #[.pointer none, ev]) ∧ BareIs ad ev 1) ∨ ∃ h S L s, e = .returned (.tuple #[.pointer (some ⟨h, 0, none⟩), .nilIface]) ∧ Hd w' h S L s) ∧ Below W.heap.size W w') := fun W hW hWX => HVO.out.loadAny x W (by omega) hW hWX
  generalize sealT x = y at *
  clear hE hbig
  go_enter Tryz.func3, Tryz.ntmps3
  go_wp2_with fail
  refine HH.mono ?_
  rintro e w1 ⟨rfl, hb1⟩
  have HB1 : Hid (Below w.heap.size w w1) := hb1
  clear HH hb1
  go_wp2_with fail
  refine (HE.out _).mono ?_
  rintro e w2 ⟨rfl, hb2⟩
  have HB2 : Hid (Below w.heap.size w w2) := HB1.out.trans (hb2.mono HB1.out.size)
  clear HE hb2 HB1
  go_wp2_with fail
  refine (HL.out _ (HS.out _ HB2.out) (HXX.out _ HB2.out)).mono ?_
  rintro e w3 ⟨(⟨ev, rfl, hev⟩ | ⟨h, S, L, s, rfl, hD3⟩), hb3⟩
  · have HB3 : Hid (Below w.heap.size w w3) := HB2.out.trans (hb3.mono HB2.out.size)
    have HCO := coded2_any hev w3 (HS.out w3 HB3.out)
    obtain ⟨_, rfl⟩ := bare_at (i := 0) hev
    clear hev HL hb3 HB2
    go_wp2_with fail
    refine HCO.mono ?_
    rintro e w4 ⟨rfl, hb4⟩
    go_wp2
    go_ret
    exact ⟨rfl, HB3.out.trans (hb4.mono HB3.out.size)⟩
  have HB3 : Hid (Below w.heap.size w w3) := HB2.out.trans (hb3.mono HB2.out.size)
  have HD3 : Hid (Hd w3 h S L s) := hD3
  have HSV := HVO.out.save hD3 (HS.out w3 HB3.out) (HXX.out w3 HB3.out)
  clear HL hb3 HB2 hD3
  go_wp2_with fail
  refine HSV.mono ?_
  rintro e w4 ⟨(⟨t, rfl, hsv⟩ | ⟨ev, rfl, hev, _⟩), hb4⟩
  rotate_left
  · have HB4 : Hid (Below w.heap.size w w4) := HB3.out.trans (hb4.mono HB3.out.size)
    have HCO := coded2_any hev w4 (HS.out w4 HB4.out)
    obtain ⟨_, rfl⟩ := bare_at (i := 6) hev
    clear hev HSV hb4 HB3
    go_wp2_with fail
    refine HCO.mono ?_
    rintro e w5 ⟨rfl, hb5⟩
    go_wp2
    go_ret
    exact ⟨rfl, HB4.out.trans (hb5.mono HB4.out.size)⟩
  have HB4 : Hid (Below w.heap.size w w4) := HB3.out.trans (hb4.mono HB3.out.size)
  have HD4 : Hid (Hd w4 h S L s) := HO.out.keep HD3.out hb4.size (fun k hk => hb4.block k (HO.out.lt HD3.out k hk))
  have HLD := HVO.out.load hsv w4 (HS.out w4 HB4.out) (HXX.out w4 HB4.out)
  clear HSV hb4 HB3 HD3 hsv
  go_wp2_with fail
  refine HLD.mono ?_
  rintro e w5 ⟨⟨h2, S2, rfl, hD5, _⟩, hb5⟩
  have HB5 : Hid (Below w.heap.size w w5) := HB4.out.trans (hb5.mono HB4.out.size)
  have HD5 : Hid (Hd w5 h S L s) := HO.out.keep HD4.out hb5.size (fun k hk => hb5.block k (HO.out.lt HD4.out k hk))
  have HX5 : Hid (Hd w5 h2 S2 L s) := hD5
  have HKP : Hid (∀ W, Below w5.heap.size w5 W → Hd W h S L s ∧ Hd W h2 S2 L s) := fun W hW => ⟨HO.out.keep HD5.out hW.size (fun k hk => hW.block k (HO.out.lt HD5.out k hk)), HO.out.keep HX5.out hW.size (fun k hk => hW.block k (HO.out.lt HX5.out k hk))⟩
  clear hD5 hb5 HD4 HB4 HLD
  have HC1 := HO.out.count HX5.out
  go_wp2_with fail
  refine HC1.mono ?_
  rintro e w6 ⟨rfl, hb6⟩
  have HB6 : Hid (Below w5.heap.size w5 w6) := hb6
  clear hb6 HC1
  have HC2 := HO.out.count (HKP.out w6 HB6.out).1
  go_wp2_with fail
  refine HC2.mono ?_
  rintro e w7 ⟨rfl, hb7⟩
  have HB7 : Hid (Below w5.heap.size w5 w7) := HB6.out.trans (hb7.mono HB6.out.size)
  clear hb7 HC2 HB6
  have HC3 := HO.out.sealed_ (HKP.out w7 HB7.out).2
  go_wp2_with fail
  refine HC3.mono ?_
  rintro e w8 ⟨rfl, hb8⟩
  have HB8 : Hid (Below w5.heap.size w5 w8) := HB7.out.trans (hb8.mono HB7.out.size)
  clear hb8 HC3 HB7
  have HC4 := HO.out.sealed_ (HKP.out w8 HB8.out).1
  go_wp2_with fail
  refine HC4.mono ?_
  rintro e w9 ⟨rfl, hb9⟩
  have HB9 : Hid (Below w5.heap.size w5 w9) := HB8.out.trans (hb9.mono HB8.out.size)
  clear hb9 HC4 HB8
  go_wp2
  go_ret
  exact ⟨by simp, HB5.out.trans (HB9.out.mono HB5.out.size)⟩
end Go.Proofs.YtoapbjifkjehhaaGreatDoor
