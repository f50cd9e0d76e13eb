/- The statements' closed fact 'holds': what is put is told. -/
import Derived.Test.YtoapbjifkjehhaaGreatDoorHoldC0
import Derived.Test.YtoapbjifkjehhaaGreatDoorRLessW
import Derived.Deep.RegionHeld3
namespace Go.Proofs.YtoapbjifkjehhaaGreatDoor
open Go.RowKit
def keyK : ByteArray := ⟨#[107]⟩
def verK : Ver := ⟨1, 0, 1, 0, ⟨#[120]⟩⟩
theorem putK : putR [] false keyK verK = (0, [(keyK, verK)]) := by decide
theorem getK : getL [(keyK, verK)] keyK = [verK] := by decide
set_option maxRecDepth 10000 in
set_option maxHeartbeats 1600000 in
theorem holds_any {ad : Nat → Addr} {X : World → Prop} {Hd : World → Nat → (Nat → Prop) → List Kep → Bool → Prop} (hO : HoldOk0 ad X Hd) (w : World) (hS : ∀ W, Below w.heap.size w W → X W) :
    Calls Tryz.prog 6 #[] w fun e w' => e = .returned (.bool true) ∧ Below w.heap.size w w' := by
  obtain ⟨w2, hw2⟩ : ∃ w2, w2 = (w.alloc (.cells #[.map none, .bool false] 39)).alloc (.cells #[.int .i64 1, .int .i64 0, .int .i64 1, .int .i64 0, .string ⟨#[120]⟩] 49) := ⟨_, rfl⟩
  have HB2 : Hid (Below w.heap.size w w2) := by rw [hw2]; exact ((Below.refl _ _).alloc (Nat.le_refl _) _).alloc (by simp) _
  have hs2 : w2.heap.size = w.heap.size + 2 := by rw [hw2]; simp
  have HS2 : Hid (w2.heap.size = w.heap.size + 2) := hs2
  have HD2 : Hid (Hd w2 w.heap.size (fun k => k = w.heap.size) [] false) := by
    refine hO.keep (hO.zero w) (by rw [hw2]; simp) (fun k hk => ?_)
    subst hk
    rw [hw2]
    exact ((Below.refl (w.alloc (.cells #[.map none, .bool false] 39)).heap.size _).alloc (Nat.le_refl _) _).block w.heap.size (by simp)
  have HC2 : Hid (w2.cell? ⟨w.heap.size + 1, 0, none⟩ = some (.int .i64 1) ∧ w2.cell? ⟨w.heap.size + 1, 1, none⟩ = some (.int .i64 0) ∧ w2.cell? ⟨w.heap.size + 1, 2, none⟩ = some (.int .i64 1) ∧ w2.cell? ⟨w.heap.size + 1, 3, none⟩ = some (.int .i64 0) ∧ w2.cell? ⟨w.heap.size + 1, 4, none⟩ = some (.string ⟨#[120]⟩)) := by
    rw [hw2]; exact ⟨by simp, by simp, by simp, by simp, by simp⟩
  have HP := hO.put keyK verK (by decide) (by decide) HD2.out (hS w2 HB2.out)
  rw [putK] at HP
  have HP2 : Calls Tryz.prog 16 #[.pointer (some ⟨w.heap.size, 0, none⟩), .string ⟨#[107]⟩, .agg #[.int .i64 1, .int .i64 0, .int .i64 1, .int .i64 0, .string ⟨#[120]⟩]] w2 _ := HP
  have HW2 : Hid (w2 = (w.alloc (.cells #[.map none, .bool false] 39)).alloc (.cells #[.int .i64 1, .int .i64 0, .int .i64 1, .int .i64 0, .string ⟨#[120]⟩] 49)) := hw2
  clear hw2 hs2 hS HP
  have HO : Hid (HoldOk0 ad X Hd) := hO
  clear hO
  go_enter Tryz.func6, Tryz.ntmps6
  go_wp2_with fail
  rw [← HW2.out]
  refine HP2.mono ?_
  rintro e w3 ⟨⟨ev, rfl, hev⟩, S', hD3, hU⟩
  obtain rfl : ev = .nilIface := by
    rcases hev with ⟨h, _⟩ | ⟨i, _, _, h⟩
    · exact h
    · exact absurd h (by simp; omega)
  have HB3 : Hid (Below w.heap.size w w3) := HB2.out.trans ⟨hU.os, hU.tape, hU.output, hU.size, fun k hk => hU.block k (by have := HS2.out; omega) (by show ¬ (k = w.heap.size); omega)⟩
  have HC3 : Hid (w3.cell? ⟨w.heap.size + 1, 0, none⟩ = some (.int .i64 1) ∧ w3.cell? ⟨w.heap.size + 1, 1, none⟩ = some (.int .i64 0) ∧ w3.cell? ⟨w.heap.size + 1, 2, none⟩ = some (.int .i64 1) ∧ w3.cell? ⟨w.heap.size + 1, 3, none⟩ = some (.int .i64 0) ∧ w3.cell? ⟨w.heap.size + 1, 4, none⟩ = some (.string ⟨#[120]⟩)) := by
    have hb := hU.block (w.heap.size + 1) (by have := HS2.out; omega) (by show ¬ (_ = _); omega)
    have hc : ∀ o, w3.cell? ⟨w.heap.size + 1, o, none⟩ = w2.cell? ⟨w.heap.size + 1, o, none⟩ := fun o => by unfold World.cell?; rw [hb]
    obtain ⟨h0, h1, h2, h3, h4⟩ := HC2.out
    exact ⟨(hc 0).trans h0, (hc 1).trans h1, (hc 2).trans h2, (hc 3).trans h3, (hc 4).trans h4⟩
  have HD3 : Hid (Hd w3 w.heap.size S' [(keyK, verK)] false) := hD3
  have HX : Hid (w.heap.size + 1 < w3.heap.size) := by have := HS2.out; have := hU.size; show _ < _; omega
  clear hev hD3 hU HP2 HC2 HD2 HW2
  have HG := HO.out.get keyK (by decide) HD3.out
  rw [getK] at HG
  have HG2 : Calls Tryz.prog 17 #[.pointer (some ⟨w.heap.size, 0, none⟩), .string ⟨#[107]⟩] w3 _ := HG
  clear HG
  go_wp2_with fail
  refine HG2.mono ?_
  rintro e w4 ⟨⟨p, c, rfl, hr⟩, hb4⟩
  clear HG2
  have HB4 : Hid (Below w3.heap.size w3 w4) := hb4
  have HR4 : Hid (Rec verE w4 p [verK]) := hr
  have HD4 : Hid (Hd w4 w.heap.size S' [(keyK, verK)] false) := HO.out.keep HD3.out hb4.size (fun k hk => hb4.block k (HO.out.lt HD3.out k hk))
  have HL := HO.out.last keyK (by decide) HD4.out
  rw [getK] at HL
  have HL2 : Calls Tryz.prog 18 #[.pointer (some ⟨w.heap.size, 0, none⟩), .string ⟨#[107]⟩] w4 fun e w' => e = .returned (.tuple #[.agg #[.int .i64 1, .int .i64 0], .bool true]) ∧ Below w4.heap.size w4 w' := HL
  clear HL hr hb4
  go_wp2_with fail
  refine HL2.mono ?_
  rintro e w5 ⟨rfl, hb5⟩
  clear HL2
  have HB5 : Hid (Below w3.heap.size w3 w5) := HB4.out.trans (hb5.mono HB4.out.size)
  obtain ⟨b, o, hpp, hblt, hrc⟩ : ∃ b o, p = some ⟨b, o, none⟩ ∧ b < w4.heap.size ∧ ∀ j u, (verC verK)[j]? = some u → w4.cell? ⟨b, o + j, none⟩ = some u := by
    rcases HR4.out with h | ⟨b, o, hp, hlt, hc⟩
    · cases h
    · refine ⟨b, o, hp, hlt, fun j u hj => ?_⟩
      have := hc 0 verK rfl j u hj
      simpa using this
  subst hpp
  obtain ⟨w6, hw6⟩ : ∃ w6, w6 = w5.alloc (.cells #[.int .i64 1, .int .i64 0] 45) := ⟨_, rfl⟩
  have HB6 : Hid (Below w5.heap.size w5 w6) := by rw [hw6]; exact (Below.refl _ _).alloc (Nat.le_refl _) _
  have HS6 : Hid (w5.heap.size < w6.heap.size) := by rw [hw6]; show _ < _; simp
  have HD6 : Hid (Hd w6 w.heap.size S' [(keyK, verK)] false) := by
    have hb := (hb5.trans (HB6.out.mono hb5.size))
    exact HO.out.keep HD4.out hb.size (fun k hk => hb.block k (HO.out.lt HD4.out k hk))
  have HC6 : Hid (w6.cell? ⟨w5.heap.size, 0, none⟩ = some (.int .i64 1) ∧ w6.cell? ⟨w5.heap.size, 1, none⟩ = some (.int .i64 0)) := by rw [hw6]; exact ⟨by simp, by simp⟩
  have HALL : Hid (∀ W, Below w6.heap.size w6 W → (W.cell? ⟨w.heap.size + 1, 0, none⟩ = some (.int .i64 1) ∧ W.cell? ⟨w.heap.size + 1, 1, none⟩ = some (.int .i64 0) ∧ W.cell? ⟨w.heap.size + 1, 2, none⟩ = some (.int .i64 1) ∧ W.cell? ⟨w.heap.size + 1, 3, none⟩ = some (.int .i64 0) ∧ W.cell? ⟨w.heap.size + 1, 4, none⟩ = some (.string ⟨#[120]⟩) ∧ W.cell? ⟨b, o, none⟩ = some (.int .i64 1) ∧ W.cell? ⟨b, o + 1, none⟩ = some (.int .i64 0) ∧ W.cell? ⟨b, o + 2, none⟩ = some (.int .i64 1) ∧ W.cell? ⟨b, o + 3, none⟩ = some (.int .i64 0) ∧ W.cell? ⟨b, o + 4, none⟩ = some (.string ⟨#[120]⟩) ∧ W.cell? ⟨w5.heap.size, 0, none⟩ = some (.int .i64 1) ∧ W.cell? ⟨w5.heap.size, 1, none⟩ = some (.int .i64 0) ∧ Below w6.heap.size w6 W)) := fun W hW => by
    have hx := HX.out
    have h36 : Below w3.heap.size w3 w6 := HB5.out.trans (HB6.out.mono HB5.out.size)
    have h46 : Below w4.heap.size w4 w6 := hb5.trans (HB6.out.mono hb5.size)
    have t3 : ∀ o', W.cell? ⟨w.heap.size + 1, o', none⟩ = w3.cell? ⟨w.heap.size + 1, o', none⟩ := fun o' => ((h36.trans (hW.mono h36.size))).cell (p := ⟨w.heap.size + 1, o', none⟩) hx
    have t4 : ∀ o', W.cell? ⟨b, o', none⟩ = w4.cell? ⟨b, o', none⟩ := fun o' => ((h46.trans (hW.mono h46.size))).cell (p := ⟨b, o', none⟩) hblt
    have t6 : ∀ o', W.cell? ⟨w5.heap.size, o', none⟩ = w6.cell? ⟨w5.heap.size, o', none⟩ := fun o' => hW.cell (p := ⟨w5.heap.size, o', none⟩) HS6.out
    obtain ⟨h0, h1, h2, h3, h4⟩ := HC3.out
    exact ⟨(t3 0).trans h0, (t3 1).trans h1, (t3 2).trans h2, (t3 3).trans h3, (t3 4).trans h4, (t4 _).trans (hrc 0 _ rfl), (t4 _).trans (hrc 1 _ rfl), (t4 _).trans (hrc 2 _ rfl), (t4 _).trans (hrc 3 _ rfl), (t4 _).trans (hrc 4 _ rfl), (t6 0).trans HC6.out.1, (t6 1).trans HC6.out.2, hW⟩
  have HW6 : Hid (w6 = w5.alloc (.cells #[.int .i64 1, .int .i64 0] 45)) := hw6
  have HCN : Hid (∀ W, Below w6.heap.size w6 W → Calls Tryz.prog 11 #[.pointer (some ⟨w.heap.size, 0, none⟩)] W fun e w' => e = .returned (.int .i64 1) ∧ Below w6.heap.size w6 w') := fun W hW => (HO.out.count (HO.out.keep HD6.out hW.size (fun k hk => hW.block k (HO.out.lt HD6.out k hk)))).mono fun e w' ⟨h1, h2⟩ => ⟨h1, hW.trans (h2.mono hW.size)⟩
  have HLS : Hid (∀ W, Below w6.heap.size w6 W → Calls Tryz.prog 19 #[.agg #[.int .i64 0, .int .i64 0], .agg #[.int .i64 1, .int .i64 0]] W fun e w' => e = .returned (.bool true) ∧ Below w6.heap.size w6 w') := fun W hW => (HO.out.less (0, 0) (1, 0) W).mono fun e w' ⟨h1, q, os, h2⟩ => ⟨h1, by rw [h2]; exact hW.trans ((below_grow W q os).mono hW.size)⟩
  have HB : Hid (Below w.heap.size w w6) := HB3.out.trans ((HB5.out.trans (HB6.out.mono HB5.out.size)).mono HB3.out.size)
  have hS0 := HALL.out w6.drew (Below.refl _ _).drew
  clear hw6 HB5 HB6 HS6 HC6 HD6 HD4 HD3 HC3 HB4 hrc hblt HR4 hb5 HX HB2 HS2 HB3
  go_wp2_with fail
  rw [← HW6.out]
  go_region_held3 (fun W => (W.cell? ⟨w.heap.size + 1, 0, none⟩ = some (.int .i64 1) ∧ W.cell? ⟨w.heap.size + 1, 1, none⟩ = some (.int .i64 0) ∧ W.cell? ⟨w.heap.size + 1, 2, none⟩ = some (.int .i64 1) ∧ W.cell? ⟨w.heap.size + 1, 3, none⟩ = some (.int .i64 0) ∧ W.cell? ⟨w.heap.size + 1, 4, none⟩ = some (.string ⟨#[120]⟩) ∧ W.cell? ⟨b, o, none⟩ = some (.int .i64 1) ∧ W.cell? ⟨b, o + 1, none⟩ = some (.int .i64 0) ∧ W.cell? ⟨b, o + 2, none⟩ = some (.int .i64 1) ∧ W.cell? ⟨b, o + 3, none⟩ = some (.int .i64 0) ∧ W.cell? ⟨b, o + 4, none⟩ = some (.string ⟨#[120]⟩) ∧ W.cell? ⟨w5.heap.size, 0, none⟩ = some (.int .i64 1) ∧ W.cell? ⟨w5.heap.size, 1, none⟩ = some (.int .i64 0) ∧ Below w6.heap.size w6 W)) (first | assumption | exact hS0) (first | (go_at_call 11; refine (HCN.out _ (by have := hS0.2.2.2.2.2.2.2.2.2.2.2.2; first | assumption | exact (And.right (by assumption)))).mono ?_; rintro e w7 ⟨rfl, hb7⟩; have hS7 := HALL.out _ hb7) | (go_at_call 19; refine (HLS.out _ hb7).mono ?_; rintro e w8 ⟨rfl, hb8⟩; have hS8 := HALL.out _ hb8))
  go_wp2
  go_ret
  exact ⟨rfl, HB.out.trans (hb8.mono HB.out.size)⟩
end Go.Proofs.YtoapbjifkjehhaaGreatDoor
