/- The statements' own play, walked. -/
import Derived.Test.YtoapbjifkjehhaaGreatDoorG5
import Derived.Deep.RegionHeld3
import Derived.BigQuiet
namespace Go.Proofs.YtoapbjifkjehhaaGreatDoor
open Go.RowKit
theorem lit_ne {x : ByteArray} {l : List UInt8} (h : x ≠ ⟨l.toArray⟩) : (x.toList == l) = false := by
  rw [beq_eq_false_iff_ne]
  intro e
  refine h (ByteArray.ext ?_)
  rw [ByteArray.toList_eq] at e
  rw [← e]
set_option maxRecDepth 10000 in
set_option maxHeartbeats 16000000 in
theorem play_any {ad : Nat → Addr} {Hd : World → Nat → (Nat → Prop) → List Kep → Bool → Prop} (hO : HoldOk ad Hd) (B hp hm : Nat) (L0 : List Kep) (s0 : Bool) (S0 : Nat → Prop) (pl : Option Addr) (acts : List HAct) (cl : Nat) (w : World) (hT : Two Hd B w hp hm L0 s0 S0) (hB : B ≤ w.heap.size) (hl : acts.length ≤ maxLen)
    (hA : ∀ W, Below B w W → Rec actE W pl acts) (hS : ∀ W, Below B w W → Sent W ad) (hx : ∀ i, i < acts.length → (actAt acts i).key.size ≤ maxLen ∧ (actAt acts i).v.text.size ≤ maxLen ∧ -9223372036854775808 ≤ (actAt acts i).n ∧ (actAt acts i).n ≤ 9223372036854775807) :
    Calls Tryz.prog 14 #[.pointer (some ⟨hp, 0, none⟩), .pointer (some ⟨hm, 0, none⟩), .slice pl acts.length cl] w fun e w' => e = .returned (.bool true) ∧ (∃ L s S, Two Hd B w' hp hm L s S) ∧ Below B w w' := by
  have HA : Hid (∀ W, Below B w W → Rec actE W pl acts) := hA
  have HS : Hid (∀ W, Below B w W → Sent W ad) := hS
  have HX : Hid (∀ i, i < acts.length → (actAt acts i).key.size ≤ maxLen ∧ (actAt acts i).v.text.size ≤ maxLen ∧ -9223372036854775808 ≤ (actAt acts i).n ∧ (actAt acts i).n ≤ 9223372036854775807) := hx
  have HT0 : Hid (Two Hd B w hp hm L0 s0 S0) := hT
  have HO : Hid (HoldOk ad Hd) := hO
  have hl' : acts.length ≤ 9223372036854775807 := by unfold maxLen at hl; omega
  clear hA hS hx hT hO hl
  go_enter Tryz.func14, Tryz.ntmps14
  go_wp2
  go_loopw [7] (fun x wq => ∃ i : Nat, i ≤ acts.length ∧ x = .int .i64 i ∧ (∃ L s S, Two Hd B wq hp hm L s S) ∧ Below B w wq) (fun x _ => acts.length - (intOf x).toNat)
  case atStart => exact ⟨0, Nat.zero_le _, rfl, ⟨L0, s0, S0, HT0.out⟩, Below.refl _ _⟩
  case round =>
    obtain ⟨i, hi, rfl, ⟨L, s, S, hT2⟩, hb2⟩ := hrel
    obtain ⟨w2, rfl⟩ : ∃ w2, w2 = wr := ⟨_, rfl⟩
    have HT2 : Hid (Two Hd B w2 hp hm L s S) := hT2
    have HB2 : Hid (Below B w w2) := hb2
    have hB2 : B ≤ w2.heap.size := Nat.le_trans hB hb2.size
    clear hT2 hb2 HT0
    by_cases hil : i < acts.length
    · obtain ⟨b, o, hpp, hblt, c0, c1, c2, c3, c4, c5, c6, c7⟩ := act_cells (HA.out w2 HB2.out) hil
      obtain ⟨hky, hvt, hn0, hn1⟩ := HX.out i hil
      subst hpp
      generalize actAt acts i = a at *
      obtain ⟨kk, ky, v, an⟩ := a
      obtain ⟨w3, hw3⟩ : ∃ w3, w3 = w2.alloc (.cells #[.string kk, .string ky, .int .i64 v.n, .int .i64 v.who, .int .i64 v.size, .int .i64 v.at_, .string v.text, .int .i64 an] 70) := ⟨_, rfl⟩
      have hb3 : Below w2.heap.size w2 w3 := by rw [hw3]; exact (Below.refl _ _).alloc (Nat.le_refl _) _
      have hA3 : (w3.cell? ⟨w2.heap.size, 0, none⟩ = some (.string kk) ∧ w3.cell? ⟨w2.heap.size, 1, none⟩ = some (.string ky) ∧ w3.cell? ⟨w2.heap.size, 2, none⟩ = some (.int .i64 v.n) ∧ w3.cell? ⟨w2.heap.size, 3, none⟩ = some (.int .i64 v.who) ∧ w3.cell? ⟨w2.heap.size, 4, none⟩ = some (.int .i64 v.size) ∧ w3.cell? ⟨w2.heap.size, 5, none⟩ = some (.int .i64 v.at_) ∧ w3.cell? ⟨w2.heap.size, 6, none⟩ = some (.string v.text) ∧ w3.cell? ⟨w2.heap.size, 7, none⟩ = some (.int .i64 an)) := by rw [hw3]; exact ActIs.made w2 ⟨kk, ky, v, an⟩ _
      have HT3 : Hid (Two Hd B w3 hp hm L s S) := HT2.out.below HO.out hb3
      have HB3 : Hid (Below B w w3) := HB2.out.trans (hb3.mono hB2)
      have hB3 : B ≤ w3.heap.size := Nat.le_trans hB2 hb3.size
      have HNS : Hid (¬ S w2.heap.size) := fun h => absurd (HO.out.lt HT2.out.own _ h) (Nat.lt_irrefl _)
      have HNM : Hid (w2.heap.size ≠ hm) := fun h => by
        obtain ⟨p, c, q, _⟩ := HT2.out.model.row
        have := lt_of_cellH q
        omega
      have HW3 : Hid (w3 = w2.alloc (.cells #[.string kk, .string ky, .int .i64 v.n, .int .i64 v.who, .int .i64 v.size, .int .i64 v.at_, .string v.text, .int .i64 an] 70)) := hw3
      have HKEEP : Hid (∀ W W', (W.cell? ⟨w2.heap.size, 0, none⟩ = some (.string kk) ∧ W.cell? ⟨w2.heap.size, 1, none⟩ = some (.string ky) ∧ W.cell? ⟨w2.heap.size, 2, none⟩ = some (.int .i64 v.n) ∧ W.cell? ⟨w2.heap.size, 3, none⟩ = some (.int .i64 v.who) ∧ W.cell? ⟨w2.heap.size, 4, none⟩ = some (.int .i64 v.size) ∧ W.cell? ⟨w2.heap.size, 5, none⟩ = some (.int .i64 v.at_) ∧ W.cell? ⟨w2.heap.size, 6, none⟩ = some (.string v.text) ∧ W.cell? ⟨w2.heap.size, 7, none⟩ = some (.int .i64 an)) → Below W.heap.size W W' → (W'.cell? ⟨w2.heap.size, 0, none⟩ = some (.string kk) ∧ W'.cell? ⟨w2.heap.size, 1, none⟩ = some (.string ky) ∧ W'.cell? ⟨w2.heap.size, 2, none⟩ = some (.int .i64 v.n) ∧ W'.cell? ⟨w2.heap.size, 3, none⟩ = some (.int .i64 v.who) ∧ W'.cell? ⟨w2.heap.size, 4, none⟩ = some (.int .i64 v.size) ∧ W'.cell? ⟨w2.heap.size, 5, none⟩ = some (.int .i64 v.at_) ∧ W'.cell? ⟨w2.heap.size, 6, none⟩ = some (.string v.text) ∧ W'.cell? ⟨w2.heap.size, 7, none⟩ = some (.int .i64 an))) := fun W W' h hb => (show ActIs W' w2.heap.size ⟨kk, ky, v, an⟩ from ActIs.of_block (show ActIs W w2.heap.size ⟨kk, ky, v, an⟩ from h) (hb.block _ (lt_of_cellH h.1)))
      clear hw3 hb3 HT2 HB2
      by_cases hp0 : kk = ⟨#[112, 117, 116]⟩
      · subst hp0
        have HP : Hid (Calls Tryz.prog 16 #[.pointer (some ⟨hp, 0, none⟩), .string ky, .agg #[.int .i64 v.n, .int .i64 v.who, .int .i64 v.size, .int .i64 v.at_, .string v.text]] w3.drew fun e w' => ∃ ev, e = .returned ev ∧ BareIs ad ev (putR L s ky v).1 ∧ (w'.cell? ⟨w2.heap.size, 0, none⟩ = some (.string (⟨#[112, 117, 116]⟩ : ByteArray)) ∧ w'.cell? ⟨w2.heap.size, 1, none⟩ = some (.string ky) ∧ w'.cell? ⟨w2.heap.size, 2, none⟩ = some (.int .i64 v.n) ∧ w'.cell? ⟨w2.heap.size, 3, none⟩ = some (.int .i64 v.who) ∧ w'.cell? ⟨w2.heap.size, 4, none⟩ = some (.int .i64 v.size) ∧ w'.cell? ⟨w2.heap.size, 5, none⟩ = some (.int .i64 v.at_) ∧ w'.cell? ⟨w2.heap.size, 6, none⟩ = some (.string v.text) ∧ w'.cell? ⟨w2.heap.size, 7, none⟩ = some (.int .i64 an)) ∧
            Calls Tryz.prog 26 #[.pointer (some ⟨hm, 0, none⟩), .string ky, .agg #[.int .i64 v.n, .int .i64 v.who, .int .i64 v.size, .int .i64 v.at_, .string v.text]] w' fun e w'' => e = .returned (.int .i64 (putR L s ky v).1) ∧ (w''.cell? ⟨w2.heap.size, 0, none⟩ = some (.string (⟨#[112, 117, 116]⟩ : ByteArray)) ∧ w''.cell? ⟨w2.heap.size, 1, none⟩ = some (.string ky) ∧ w''.cell? ⟨w2.heap.size, 2, none⟩ = some (.int .i64 v.n) ∧ w''.cell? ⟨w2.heap.size, 3, none⟩ = some (.int .i64 v.who) ∧ w''.cell? ⟨w2.heap.size, 4, none⟩ = some (.int .i64 v.size) ∧ w''.cell? ⟨w2.heap.size, 5, none⟩ = some (.int .i64 v.at_) ∧ w''.cell? ⟨w2.heap.size, 6, none⟩ = some (.string v.text) ∧ w''.cell? ⟨w2.heap.size, 7, none⟩ = some (.int .i64 an)) ∧ (∃ S', Two Hd B w'' hp hm (putR L s ky v).2 s S') ∧ Below B w3.drew w'') := by
          have hd : Below w3.heap.size w3 w3.drew := (Below.refl _ _).drew
          exact (both_put HO.out (HT3.out.below HO.out hd) hB3 ⟨⟨#[112, 117, 116]⟩, ky, v, an⟩ hky hvt (HS.out _ (HB3.out.drew)) (show ActIs w3.drew w2.heap.size _ from hA3) HNS.out HNM.out)
        have HCO : Hid (∀ W ev c, BareIs ad ev c → (W.cell? ⟨w2.heap.size, 0, none⟩ = some (.string (⟨#[112, 117, 116]⟩ : ByteArray)) ∧ W.cell? ⟨w2.heap.size, 1, none⟩ = some (.string ky) ∧ W.cell? ⟨w2.heap.size, 2, none⟩ = some (.int .i64 v.n) ∧ W.cell? ⟨w2.heap.size, 3, none⟩ = some (.int .i64 v.who) ∧ W.cell? ⟨w2.heap.size, 4, none⟩ = some (.int .i64 v.size) ∧ W.cell? ⟨w2.heap.size, 5, none⟩ = some (.int .i64 v.at_) ∧ W.cell? ⟨w2.heap.size, 6, none⟩ = some (.string v.text) ∧ W.cell? ⟨w2.heap.size, 7, none⟩ = some (.int .i64 an)) → Below B w3.drew W → Calls Tryz.prog 9 #[ev, .int .i64 c] W fun e w' => e = .returned (.bool true) ∧ (w'.cell? ⟨w2.heap.size, 0, none⟩ = some (.string (⟨#[112, 117, 116]⟩ : ByteArray)) ∧ w'.cell? ⟨w2.heap.size, 1, none⟩ = some (.string ky) ∧ w'.cell? ⟨w2.heap.size, 2, none⟩ = some (.int .i64 v.n) ∧ w'.cell? ⟨w2.heap.size, 3, none⟩ = some (.int .i64 v.who) ∧ w'.cell? ⟨w2.heap.size, 4, none⟩ = some (.int .i64 v.size) ∧ w'.cell? ⟨w2.heap.size, 5, none⟩ = some (.int .i64 v.at_) ∧ w'.cell? ⟨w2.heap.size, 6, none⟩ = some (.string v.text) ∧ w'.cell? ⟨w2.heap.size, 7, none⟩ = some (.int .i64 an)) ∧ Below W.heap.size W w') := fun W ev c h1 h2 h3 => (coded2_any h1 W (HS.out W (HB3.out.drew.trans h3))).mono fun e w' ⟨h4, h5⟩ => ⟨h4, HKEEP.out W w' h2 h5, h5⟩
        have hS0 : (w3.drew.cell? ⟨w2.heap.size, 0, none⟩ = some (.string (⟨#[112, 117, 116]⟩ : ByteArray)) ∧ w3.drew.cell? ⟨w2.heap.size, 1, none⟩ = some (.string ky) ∧ w3.drew.cell? ⟨w2.heap.size, 2, none⟩ = some (.int .i64 v.n) ∧ w3.drew.cell? ⟨w2.heap.size, 3, none⟩ = some (.int .i64 v.who) ∧ w3.drew.cell? ⟨w2.heap.size, 4, none⟩ = some (.int .i64 v.size) ∧ w3.drew.cell? ⟨w2.heap.size, 5, none⟩ = some (.int .i64 v.at_) ∧ w3.drew.cell? ⟨w2.heap.size, 6, none⟩ = some (.string v.text) ∧ w3.drew.cell? ⟨w2.heap.size, 7, none⟩ = some (.int .i64 an)) := hA3
        generalize (putR L s ky v).1 = pc at *
        generalize (putR L s ky v).2 = L' at *
        go_wp2
        rw [← HW3.out]
        go_region_held3 (fun W => (W.cell? ⟨w2.heap.size, 0, none⟩ = some (.string (⟨#[112, 117, 116]⟩ : ByteArray)) ∧ W.cell? ⟨w2.heap.size, 1, none⟩ = some (.string ky) ∧ W.cell? ⟨w2.heap.size, 2, none⟩ = some (.int .i64 v.n) ∧ W.cell? ⟨w2.heap.size, 3, none⟩ = some (.int .i64 v.who) ∧ W.cell? ⟨w2.heap.size, 4, none⟩ = some (.int .i64 v.size) ∧ W.cell? ⟨w2.heap.size, 5, none⟩ = some (.int .i64 v.at_) ∧ W.cell? ⟨w2.heap.size, 6, none⟩ = some (.string v.text) ∧ W.cell? ⟨w2.heap.size, 7, none⟩ = some (.int .i64 an))) (first | assumption | exact hS0) (first | (go_at_call 16; refine HP.out.mono ?_; rintro e w4 ⟨ev, rfl, hI4, hX4, hC4⟩) | (go_at_call 26; refine hC4.mono ?_; rintro e w5 ⟨rfl, hX5, hT5, hB5⟩) | (go_at_call 9; refine (HCO.out _ ev pc hI4 (by assumption) hB5).mono ?_; rintro e w6 ⟨rfl, hX6, hb6⟩))
        have HT6 : Hid (∃ L s S, Two Hd B w6 hp hm L s S) := by
          obtain ⟨S', h⟩ := hT5
          exact ⟨L', s, S', h.below HO.out hb6⟩
        have HB6 : Hid (Below B w w6) := (HB3.out.drew.trans hB5).trans (hb6.mono (Nat.le_trans hB3 hB5.size))
        clear hT5 hB5 hb6 hX4 hX5 hX6 hI4 hC4 HP HCO hS0
        go_simp
        go_wp2
        go_roundw
        case rel => exact ⟨i + 1, by omega, by go_num, HT6.out, HB6.out⟩
        case measure => simp [intOf]; omega
      have p1 : (kk.toList == [112, 117, 116]) = false := lit_ne hp0
      clear hp0
      by_cases ht0 : kk = ⟨#[116, 114, 105, 109]⟩
      · subst ht0
        have HAI : Hid (ActIs w3 w2.heap.size ⟨⟨#[116, 114, 105, 109]⟩, ky, v, an⟩) := hA3
        by_cases hneg : an < 0
        · have HTB := HO.out.trimBad ky an hky hneg hn0 HT3.out.own (HS.out w3 HB3.out)
          have d1 : decide (an < 0) = true := decide_eq_true hneg
          obtain ⟨x0, x1, x2, x3, x4, x5, x6, x7⟩ := hA3
          go_wp2_with (rw [← HW3.out])
          refine HTB.mono ?_
          rintro e w4 ⟨⟨ev, rfl, hI⟩, hb4⟩
          have HCO := coded2_any hI w4 (HS.out w4 (HB3.out.trans (hb4.mono hB3)))
          have hA4 : ActIs w4 w2.heap.size ⟨⟨#[116, 114, 105, 109]⟩, ky, v, an⟩ := HAI.out.of_block (hb4.block _ (lt_of_cellH HAI.out.1))
          obtain ⟨y0, y1, y2, y3, y4, y5, y6, y7⟩ := hA4
          have HB4 : Hid (Below B w w4) := HB3.out.trans (hb4.mono hB3)
          have HT4 : Hid (Two Hd B w4 hp hm L s S) := HT3.out.below HO.out hb4
          have HZ4 : Hid (B ≤ w4.heap.size) := Nat.le_trans hB3 hb4.size
          clear hb4 HTB hI x0 x1 x2 x3 x4 x5 x6 x7
          go_wp2_with fail
          refine HCO.mono ?_
          rintro e w5 ⟨rfl, hb5⟩
          have HT5 : Hid (∃ L s S, Two Hd B w5 hp hm L s S) := ⟨L, s, S, HT4.out.below HO.out hb5⟩
          have HB5 : Hid (Below B w w5) := HB4.out.trans (hb5.mono HZ4.out)
          clear hb5 HCO
          go_wp2
          go_roundw
          case rel => exact ⟨i + 1, by omega, by go_num, HT5.out, HB5.out⟩
          case measure => simp [intOf]; omega
        · have HTR := both_trim HO.out HT3.out hB3 ⟨⟨#[116, 114, 105, 109]⟩, ky, v, an⟩ hky (by show 0 ≤ an; omega) hn1 HAI.out HNS.out
          have d1 : decide (an < 0) = false := decide_eq_false hneg
          obtain ⟨x0, x1, x2, x3, x4, x5, x6, x7⟩ := hA3
          have HTR' : Hid (Calls Tryz.prog 27 #[.pointer (some ⟨hp, 0, none⟩), .string ky, .int .i64 an] w3 fun e w' => e = .returned (.tuple #[.int .i64 ((goneN L ky an : Nat) : Int), .nilIface]) ∧ ActIs w' w2.heap.size ⟨⟨#[116, 114, 105, 109]⟩, ky, v, an⟩ ∧ w3.heap.size ≤ w'.heap.size ∧
            (∀ W, Below w'.heap.size w' W → Calls Tryz.prog 28 #[.pointer (some ⟨hm, 0, none⟩), .string ky, .int .i64 an] W fun e w'' => e = .returned (.int .i64 ((goneN L ky an : Nat) : Int)) ∧ (∃ S', Two Hd B w'' hp hm (trimL L ky an) s S') ∧ Below B w3 w'')) := HTR
          clear HTR
          generalize goneN L ky an = gn at *
          generalize trimL L ky an = L' at *
          go_wp2_with (rw [← HW3.out])
          refine HTR'.out.mono ?_
          rintro e w4 ⟨rfl, hA4, _, hC4⟩
          obtain ⟨y0, y1, y2, y3, y4, y5, y6, y7⟩ := hA4
          have HC4 := hC4 w4 (Below.refl _ _)
          clear hC4 HTR' x0 x1 x2 x3 x4 x5 x6 x7
          go_wp2_with fail
          refine HC4.mono ?_
          rintro e w5 ⟨rfl, hT5, hb5⟩
          have HT5 : Hid (∃ L s S, Two Hd B w5 hp hm L s S) := by
            obtain ⟨S', h⟩ := hT5
            exact ⟨L', s, S', h⟩
          have HB5 : Hid (Below B w w5) := HB3.out.trans hb5
          clear hb5 hT5 HC4 y0 y1 y2 y3 y4 y5 y6 y7
          go_wp2
          go_roundw
          case rel => exact ⟨i + 1, by omega, by go_num, HT5.out, HB5.out⟩
          case measure => simp [intOf]; omega
      have t1 : (kk.toList == [116, 114, 105, 109]) = false := lit_ne ht0
      clear ht0
      by_cases hs0 : kk = ⟨#[115, 101, 97, 108]⟩
      · subst hs0
        have HSE := both_seal HO.out HT3.out hB3
        obtain ⟨x0, x1, x2, x3, x4, x5, x6, x7⟩ := hA3
        go_wp2_with (rw [← HW3.out])
        refine HSE.mono ?_
        rintro e w4 ⟨rfl, ⟨z0, z1⟩, hT4, hb4⟩
        have HT4 : Hid (∃ L s S, Two Hd B (w4.setCell ⟨hm, 1, none⟩ (.bool true)) hp hm L s S) := by
          obtain ⟨S', h⟩ := hT4
          exact ⟨L, true, S', h⟩
        have HB4 : Hid (Below B w (w4.setCell ⟨hm, 1, none⟩ (.bool true))) := HB3.out.trans hb4
        clear hT4 hb4 HSE x0 x1 x2 x3 x4 x5 x6 x7
        go_wp2
        go_roundw
        case rel => exact ⟨i + 1, by omega, by go_num, HT4.out, HB4.out⟩
        case measure => simp [intOf]; omega
      have s1 : (kk.toList == [115, 101, 97, 108]) = false := lit_ne hs0
      clear hs0
      by_cases hw0 : kk = ⟨#[119, 105, 112, 101]⟩
      · subst hw0
        have HWI := both_wipe HO.out HT3.out hB3
        obtain ⟨x0, x1, x2, x3, x4, x5, x6, x7⟩ := hA3
        go_wp2_with (rw [← HW3.out])
        refine HWI.mono ?_
        rintro e w4 ⟨rfl, ⟨pz, nz, cz, z0⟩, ⟨z1, z2, z3⟩, hT4, hb4⟩
        have HT4 : Hid (∃ L s S, Two Hd B ((w4.setCell ⟨hm, 0, none⟩ (.slice none 0 0)).setCell ⟨hm, 1, none⟩ (.bool false)) hp hm L s S) := by
          obtain ⟨S', h⟩ := hT4
          exact ⟨[], false, S', h⟩
        have HB4 : Hid (Below B w ((w4.setCell ⟨hm, 0, none⟩ (.slice none 0 0)).setCell ⟨hm, 1, none⟩ (.bool false))) := HB3.out.trans hb4
        clear hT4 hb4 HWI x0 x1 x2 x3 x4 x5 x6 x7
        go_wp2
        go_roundw
        case rel => exact ⟨i + 1, by omega, by go_num, HT4.out, HB4.out⟩
        case measure => simp [intOf]; omega
      have v1 : (kk.toList == [119, 105, 112, 101]) = false := lit_ne hw0
      clear hw0
      have HAI : Hid (ActIs w3 w2.heap.size ⟨kk, ky, v, an⟩) := hA3
      have HLA := HO.out.last ky hky HT3.out.own
      obtain ⟨m0, hm0⟩ : ∃ m0, m0 = (getL L ky).length := ⟨_, rfl⟩
      have HM0 : Hid (m0 = (getL L ky).length) := hm0
      have HLZ : Hid (m0 = 0 → lastT (getL L ky) = (0, 0)) := fun h => by
        have : getL L ky = [] := List.length_eq_zero_iff.1 (by rw [← HM0.out]; exact h)
        rw [this]
        rfl
      have hgl : (getL L ky).length ≤ 900000 := Nat.le_trans (getL_le _ _) (by have := HT3.out.len; omega)
      have HMG : Hid (∀ W, Below w3.heap.size w3 W → Calls Tryz.prog 31 #[.pointer (some ⟨hm, 0, none⟩), .string ky] W fun e w' => (∃ p c, e = .returned (.slice p m0 c) ∧ Rec verE w' p (getL L ky)) ∧ Below W.heap.size W w') := fun W hW => by
        refine (rget_any hm L s ky W (by have := HT3.out.len; omega) (HT3.out.below HO.out hW).model).mono ?_
        rintro e w' ⟨⟨v, rfl, hv⟩, hb⟩
        obtain ⟨p, c, rfl, hs, _⟩ := hv.form
        exact ⟨⟨p, c, by rw [HM0.out], hs⟩, hb⟩
      have HGE : Hid (∀ W, Below w3.heap.size w3 W → Calls Tryz.prog 17 #[.pointer (some ⟨hp, 0, none⟩), .string ky] W fun e w' => (∃ p c, e = .returned (.slice p m0 c) ∧ Rec verE w' p (getL L ky)) ∧ Below W.heap.size W w') := fun W hW => by
        rw [HM0.out]
        exact HO.out.get ky hky (HT3.out.below HO.out hW).own
      have HSV : Hid (∀ W pa pb ca cb, Rec verE W pa (getL L ky) → Rec verE W pb (getL L ky) → Calls Tryz.prog 32 #[.slice pa m0 ca, .slice pb m0 cb] W fun e w' => e = .returned (.bool true) ∧ Below W.heap.size W w') := fun W pa pb ca cb h1 h2 => by
        have := sameVers_any pa pb _ _ ca cb W (by omega) h1 h2
        rw [decide_eq_true rfl, ← HM0.out] at this
        exact this
      rw [← hm0] at HLA hgl
      clear hm0 HM0
      generalize getL L ky = gl at *
      generalize hta : lastT gl = ta at *
      have HTA : Hid (m0 = 0 → ta = (0, 0)) := HLZ.out
      clear hta HLZ
      obtain ⟨t0, t9⟩ := ta
      obtain ⟨x0, x1, x2, x3, x4, x5, x6, x7⟩ := hA3
      go_wp2_with (rw [← HW3.out])
      refine HLA.mono ?_
      rintro e w4 ⟨rfl, hb4⟩
      obtain ⟨w5, hw5⟩ : ∃ w5, w5 = w4.alloc (.cells #[.int .i64 t0, .int .i64 t9] 45) := ⟨_, rfl⟩
      have hb45 : Below w4.heap.size w4 w5 := by rw [hw5]; exact (Below.refl _ _).alloc (Nat.le_refl _) _
      have r0 : w5.cell? ⟨w4.heap.size, 0, none⟩ = some (.int .i64 t0) := by rw [hw5]; simp
      have r1 : w5.cell? ⟨w4.heap.size, 1, none⟩ = some (.int .i64 t9) := by rw [hw5]; simp
      have HB35 : Hid (Below w3.heap.size w3 w5) := hb4.trans (hb45.mono hb4.size)
      have HTG : Hid (∀ W, Below w5.heap.size w5 W → W.cell? ⟨w4.heap.size, 0, none⟩ = some (.int .i64 t0) ∧ W.cell? ⟨w4.heap.size, 1, none⟩ = some (.int .i64 t9)) := fun W hW => ⟨(hW.cell (p := ⟨w4.heap.size, 0, none⟩) (lt_of_cellH r0)).trans r0, (hW.cell (p := ⟨w4.heap.size, 1, none⟩) (lt_of_cellH r0)).trans r1⟩
      have HW5 : Hid (w5 = w4.alloc (.cells #[.int .i64 t0, .int .i64 t9] 45)) := hw5
      have HKY : Hid (∀ W, Below w3.heap.size w3 W → W.cell? ⟨w2.heap.size, 1, none⟩ = some (.string ky)) := fun W hW => (hW.cell (p := ⟨w2.heap.size, 1, none⟩) (lt_of_cellH HAI.out.1)).trans HAI.out.2.1
      have y1 := HKY.out w5 HB35.out
      clear hb4 hb45 hw5 HLA r0 r1 x0 x1 x2 x3 x4 x5 x6 x7
      go_wp2_with (rw [← HW5.out])
      refine (HMG.out w5 HB35.out).mono ?_
      rintro e w6 ⟨⟨pm, cm, rfl, hrm⟩, hb6⟩
      have HB36 : Hid (Below w3.heap.size w3 w6) := HB35.out.trans (hb6.mono HB35.out.size)
      have HB56 : Hid (Below w5.heap.size w5 w6) := hb6
      have HRM : Hid (Rec verE w6 pm gl) := hrm
      have y2 := HKY.out w6 HB36.out
      clear hb6 hrm HMG y1
      go_wp2_with fail
      refine (HGE.out w6 HB36.out).mono ?_
      rintro e w7 ⟨⟨pg, cg, rfl, hrg⟩, hb7⟩
      have HB37 : Hid (Below w3.heap.size w3 w7) := HB36.out.trans (hb7.mono HB36.out.size)
      have HB57 : Hid (Below w5.heap.size w5 w7) := HB56.out.trans (hb7.mono HB56.out.size)
      have HSW := HSV.out w7 pg pm cg cm hrg (HRM.out.below hb7)
      clear hb7 hrg HGE y2 HSV
      go_wp2_with fail
      refine HSW.mono ?_
      rintro e w8 ⟨rfl, hb8⟩
      have HB38 : Hid (Below w3.heap.size w3 w8) := HB37.out.trans (hb8.mono HB37.out.size)
      obtain ⟨r0, r1⟩ := HTG.out w8 (HB57.out.trans (hb8.mono HB57.out.size))
      have HT8 : Hid (∃ L s S, Two Hd B w8 hp hm L s S) := ⟨L, s, S, HT3.out.below HO.out HB38.out⟩
      have HB8 : Hid (Below B w w8) := HB3.out.trans (HB38.out.mono hB3)
      clear hb8 HSW HTG
      by_cases hz : m0 = 0
      · have hta := HTA.out hz
        obtain ⟨rfl, rfl⟩ := Prod.mk.inj hta
        subst hz
        clear hta
        go_wp2
        go_roundw
        case rel => exact ⟨i + 1, by omega, by go_num, HT8.out, HB8.out⟩
        case measure => simp [intOf]; omega
      · have d1 : decide (0 < m0) = true := decide_eq_true (by omega)
        have d2 : decide (0 < (m0 : Int)) = true := decide_eq_true (by omega)
        have d3 : 0 < m0 := by omega
        go_wp2
        go_roundw
        case rel => exact ⟨i + 1, by omega, by go_num, HT8.out, HB8.out⟩
        case measure => simp [intOf]; omega
    · have hie : i = acts.length := by omega
      subst hie
      have HAS := asHold_any HO.out B hp hm L s S w2 HT2.out
      go_wp2_with fail
      refine HAS.mono ?_
      rintro e w3 ⟨rfl, hb3⟩
      have HT3 : Hid (∃ L s S, Two Hd B w3 hp hm L s S) := ⟨L, s, S, HT2.out.below HO.out hb3⟩
      have HB3 : Hid (Below B w w3) := HB2.out.trans (hb3.mono hB2)
      clear hb3 HAS
      go_wp2
      go_ret
      exact ⟨rfl, HT3.out, HB3.out⟩
end Go.Proofs.YtoapbjifkjehhaaGreatDoor
