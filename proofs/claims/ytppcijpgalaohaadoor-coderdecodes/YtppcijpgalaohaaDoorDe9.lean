/- Texts laid together. -/
import Derived.Test.YtppcijpgalaohaaDoorDe8
namespace Go.Proofs.YtppcijpgalaohaaDoor
open Go.RowKit
set_option maxRecDepth 10000 in
set_option maxHeartbeats 2000000 in
theorem decL_pass (n k size : Int) (p : Option Addr) (l : List (Int × ByteArray)) (cap : Nat) (at_ : Int) (z : Addr) (w : World) (hl : l.length ≤ maxLen) (h : 30 < l.length ∨ 100 < size ∧ size ≤ 1000) (hz : w.cell? ⟨3, 0, none⟩ = some (.iface 200 (.pointer (some z)))) :
    Calls Tryd.prog 3 #[.int .i64 n, .int .i64 k, .int .i64 size, .slice p l.length cap, .int .i64 at_] w fun e w' => e = .returned (.bool true) ∧ Below w.heap.size w w' := by
  unfold maxLen at hl
  have HU := single_any z w hz
  clear hz
  by_cases h1 : 30 < l.length
  · clear h
    go_enter Tryd.func3, Tryd.ntmps3
    go_wp2_with fail
    refine HU.mono ?_
    rintro e w1 ⟨rfl, hb1⟩
    clear HU
    go_wp2
    go_ret
    exact ⟨rfl, hb1⟩
  · have h2 : 100 < size := by omega
    have h3 : size ≤ 1000 := by omega
    clear h
    go_enter Tryd.func3, Tryd.ntmps3
    go_wp2_with fail
    refine HU.mono ?_
    rintro e w1 ⟨rfl, hb1⟩
    clear HU
    go_wp2
    go_ret
    exact ⟨rfl, hb1⟩
set_option maxRecDepth 10000 in
set_option maxHeartbeats 4000000 in
theorem decL_long (n k size : Int) (p : Option Addr) (l : List (Int × ByteArray)) (cap : Nat) (at_ : Int) (ad : Nat → Addr) (w : World) (hl : l.length ≤ 30) (hs : Shs w p l) (hS : Sent w ad) (hsz : ¬ (100 < size ∧ size ≤ 1000)) (hb : ∀ i, (shAt l i).2.size ≤ maxLen) (h : ∃ i, i < l.length ∧ 200 < (shAt l i).2.size) :
    Calls Tryd.prog 3 #[.int .i64 n, .int .i64 k, .int .i64 size, .slice p l.length cap, .int .i64 at_] w fun e w' => e = .returned (.bool true) ∧ Below w.heap.size w w' := by
  unfold maxLen at hb
  have HU := single_any (ad 11) w hS.c11
  have HS0 : Hid (Sent w ad) := hS
  have HL : Hid (∀ W, Below w.heap.size w W → Shs W p l) := fun W h => hs.below h
  have HSZ : Hid (∀ i, (shAt l i).2.size ≤ 9223372036854775807) := hb
  have HEX : Hid (∃ i, i < l.length ∧ 200 < (shAt l i).2.size) := h
  clear hs hS hb h
  by_cases h1 : 100 < size
  · have h2 : ¬ size ≤ 1000 := fun h2 => hsz ⟨h1, h2⟩
    clear hsz
    have g1 : decide (30 < (l.length : Int)) = false := decide_eq_false (by omega)
    go_enter Tryd.func3, Tryd.ntmps3
    go_wp2_with fail
    refine HU.mono ?_
    rintro e w1 ⟨rfl, hb1⟩
    have HB1 : Hid (Below w.heap.size w w1) := hb1
    clear HU hb1
    go_wp2
    go_loopw [12] (fun x wr => ∃ i : Nat, i ≤ l.length ∧ x = .int .i64 i ∧ (∀ j, j < i → (shAt l j).2.size ≤ 200) ∧ wr = w1) (fun x _ => l.length - (intOf x).toNat)
    case atStart => exact ⟨0, by omega, rfl, fun j hj => absurd hj (Nat.not_lt_zero _), rfl⟩
    case round =>
      obtain ⟨i, hi, rfl, hall, hww⟩ := hrel
      subst hww
      have HALL : Hid (∀ j, j < i → (shAt l j).2.size ≤ 200) := hall
      clear hall
      by_cases hil : i < l.length
      · rcases (HL.out wr HB1.out) with h0 | ⟨b1, o1, rfl, _, hc1⟩
        · rw [h0] at hil; simp at hil
        obtain ⟨_, q2⟩ := hc1 i hil
        have hsi := HSZ.out i
        clear hc1
        by_cases hlong : 200 < (shAt l i).2.size
        · generalize (shAt l i).2 = t at q2 hsi hlong
          go_wp2
          go_ret
          exact ⟨rfl, HB1.out⟩
        · have HSI : Hid ((shAt l i).2.size ≤ 200) := by show _ ≤ _; omega
          generalize (shAt l i).2 = t at q2 hsi hlong
          have hlong' : ¬ 200 < (t.size : Int) := by omega
          go_wp2
          go_roundw
          case rel =>
            refine ⟨i + 1, by omega, by go_num, fun j hj => ?_, trivial⟩
            by_cases e : j = i
            · rw [e]; exact HSI.out
            · exact HALL.out j (by omega)
          case measure => simp [intOf]; omega
      · obtain ⟨j, hj, hlong⟩ := HEX.out
        have := HALL.out j (by omega)
        omega
  · clear hsz
    have g1 : decide (30 < (l.length : Int)) = false := decide_eq_false (by omega)
    go_enter Tryd.func3, Tryd.ntmps3
    go_wp2_with fail
    refine HU.mono ?_
    rintro e w1 ⟨rfl, hb1⟩
    have HB1 : Hid (Below w.heap.size w w1) := hb1
    clear HU hb1
    go_wp2
    go_loopw [12] (fun x wr => ∃ i : Nat, i ≤ l.length ∧ x = .int .i64 i ∧ (∀ j, j < i → (shAt l j).2.size ≤ 200) ∧ wr = w1) (fun x _ => l.length - (intOf x).toNat)
    case atStart => exact ⟨0, by omega, rfl, fun j hj => absurd hj (Nat.not_lt_zero _), rfl⟩
    case round =>
      obtain ⟨i, hi, rfl, hall, hww⟩ := hrel
      subst hww
      have HALL : Hid (∀ j, j < i → (shAt l j).2.size ≤ 200) := hall
      clear hall
      by_cases hil : i < l.length
      · rcases (HL.out wr HB1.out) with h0 | ⟨b1, o1, rfl, _, hc1⟩
        · rw [h0] at hil; simp at hil
        obtain ⟨_, q2⟩ := hc1 i hil
        have hsi := HSZ.out i
        clear hc1
        by_cases hlong : 200 < (shAt l i).2.size
        · generalize (shAt l i).2 = t at q2 hsi hlong
          go_wp2
          go_ret
          exact ⟨rfl, HB1.out⟩
        · have HSI : Hid ((shAt l i).2.size ≤ 200) := by show _ ≤ _; omega
          generalize (shAt l i).2 = t at q2 hsi hlong
          have hlong' : ¬ 200 < (t.size : Int) := by omega
          go_wp2
          go_roundw
          case rel =>
            refine ⟨i + 1, by omega, by go_num, fun j hj => ?_, trivial⟩
            by_cases e : j = i
            · rw [e]; exact HSI.out
            · exact HALL.out j (by omega)
          case measure => simp [intOf]; omega
      · obtain ⟨j, hj, hlong⟩ := HEX.out
        have := HALL.out j (by omega)
        omega
set_option maxRecDepth 10000 in
set_option maxHeartbeats 8000000 in
theorem decL_err (n k size : Int) (p : Option Addr) (l : List (Int × ByteArray)) (cap : Nat) (at_ : Int) (ad : Nat → Addr) (w : World) (hl : l.length ≤ 30) (hnil : p = none → cap = 0) (hs : Shs w p l) (hS : Sent w ad) (hsz : ¬ (100 < size ∧ size ≤ 1000)) (htx : ∀ i, (shAt l i).2.size ≤ 200) (ei rb : Nat) (c : Int) (hc : 0 < c) (sp : Bool)
    (hdec : ∀ W q cq, Sent W ad → Shs W q l → Calls Tryd.prog 7 #[.int .i64 n, .int .i64 k, .int .i64 size, .slice q l.length cq] W fun e w' => e = .returned (.tuple #[.string ⟨#[]⟩, (.iface 200 (.pointer (some (ad ei))))]) ∧ Below W.heap.size W w')
    (href : ∀ W q cq, Shs W q l → Calls Tryd.prog 9 #[.int .i64 n, .int .i64 k, .int .i64 size, .slice q l.length cq] W fun e w' => e = .returned (.tuple #[.string ⟨#[]⟩, .int .i64 c]) ∧ Below W.heap.size W w')
    (hreb : ∀ W q cq, Sent W ad → Shs W q l → Calls Tryd.prog 12 #[.int .i64 n, .int .i64 k, .int .i64 size, .int .i64 at_, .slice q l.length cq] W fun e w' => e = .returned (.tuple #[.agg #[.int .i64 0, .string ⟨#[]⟩], (.iface 200 (.pointer (some (ad rb))))]) ∧ Below W.heap.size W w')
    (hisp : ∀ W, Calls Tryd.prog 13 #[.int .i64 n, .int .i64 k] W fun e w' => e = .returned (.bool sp) ∧ w' = W)
    (hcod : ∀ W, Sent W ad → Calls Tryd.prog 10 #[(.iface 200 (.pointer (some (ad ei)))), .int .i64 c] W fun e w' => e = .returned (.bool true) ∧ Below W.heap.size W w')
    (hcase : sp = true ∧ (at_ < 0 ∨ n ≤ at_) ∧ rb = 1 ∨ (sp = false ∨ 0 ≤ at_ ∧ at_ < n) ∧ rb = ei) :
    Calls Tryd.prog 3 #[.int .i64 n, .int .i64 k, .int .i64 size, .slice p l.length cap, .int .i64 at_] w fun e w' => e = .returned (.bool true) ∧ Below w.heap.size w w' := by
  have HU := single_any (ad 11) w hS.c11
  have HS0 : Hid (Sent w ad) := hS
  have HL : Hid (∀ W, Below w.heap.size w W → Shs W p l) := fun W h => hs.below h
  have HSZ : Hid (∀ i, (shAt l i).2.size ≤ 200) := htx
  have HTX : Hid (∀ i, (shAt l i).2.size ≤ 200) := htx
  have HNIL : Hid (p = none → cap = 0) := hnil
  have HDEC : Hid (∀ W q cq, Sent W ad → Shs W q l → Calls Tryd.prog 7 #[.int .i64 n, .int .i64 k, .int .i64 size, .slice q l.length cq] W fun e w' => e = .returned (.tuple #[.string ⟨#[]⟩, (.iface 200 (.pointer (some (ad ei))))]) ∧ Below W.heap.size W w') := hdec
  have HREF : Hid (∀ W q cq, Shs W q l → Calls Tryd.prog 9 #[.int .i64 n, .int .i64 k, .int .i64 size, .slice q l.length cq] W fun e w' => e = .returned (.tuple #[.string ⟨#[]⟩, .int .i64 c]) ∧ Below W.heap.size W w') := href
  have HREB : Hid (∀ W q cq, Sent W ad → Shs W q l → Calls Tryd.prog 12 #[.int .i64 n, .int .i64 k, .int .i64 size, .int .i64 at_, .slice q l.length cq] W fun e w' => e = .returned (.tuple #[.agg #[.int .i64 0, .string ⟨#[]⟩], (.iface 200 (.pointer (some (ad rb))))]) ∧ Below W.heap.size W w') := hreb
  have HISP : Hid (∀ W, Calls Tryd.prog 13 #[.int .i64 n, .int .i64 k] W fun e w' => e = .returned (.bool sp) ∧ w' = W) := hisp
  have HCOD : Hid (∀ W, Sent W ad → Calls Tryd.prog 10 #[(.iface 200 (.pointer (some (ad ei)))), .int .i64 c] W fun e w' => e = .returned (.bool true) ∧ Below W.heap.size W w') := hcod
  have HCASE : Hid (sp = true ∧ (at_ < 0 ∨ n ≤ at_) ∧ rb = 1 ∨ (sp = false ∨ 0 ≤ at_ ∧ at_ < n) ∧ rb = ei) := hcase
  clear hs hS htx hnil hdec href hreb hisp hcod hcase
  by_cases h1 : 100 < size
  · have h2 : ¬ size ≤ 1000 := fun h2 => hsz ⟨h1, h2⟩
    clear hsz
    have g1 : decide (30 < (l.length : Int)) = false := decide_eq_false (by omega)
    go_enter Tryd.func3, Tryd.ntmps3
    go_wp2_with fail
    refine HU.mono ?_
    rintro e w1 ⟨rfl, hb1⟩
    have HB1 : Hid (Below w.heap.size w w1) := hb1
    clear HU hb1
    go_wp2
    go_loopw [12] (fun x wr => ∃ i : Nat, i ≤ l.length ∧ x = .int .i64 i ∧ (∀ j, j < i → (shAt l j).2.size ≤ 200) ∧ wr = w1) (fun x _ => l.length - (intOf x).toNat)
    case atStart => exact ⟨0, by omega, rfl, fun j hj => absurd hj (Nat.not_lt_zero _), rfl⟩
    case round =>
      obtain ⟨i, hi, rfl, hall, hww⟩ := hrel
      subst hww
      have HALL : Hid (∀ j, j < i → (shAt l j).2.size ≤ 200) := hall
      clear hall
      by_cases hil : i < l.length
      · rcases (HL.out wr HB1.out) with h0 | ⟨b1, o1, rfl, _, hc1⟩
        · rw [h0] at hil; simp at hil
        obtain ⟨_, q2⟩ := hc1 i hil
        have hsi := HSZ.out i
        clear hc1
        by_cases hlong : 200 < (shAt l i).2.size
        · exact absurd (HTX.out i) (by omega)
        · have HSI : Hid ((shAt l i).2.size ≤ 200) := by show _ ≤ _; omega
          generalize (shAt l i).2 = t at q2 hsi hlong
          have hlong' : ¬ 200 < (t.size : Int) := by omega
          go_wp2
          go_roundw
          case rel =>
            refine ⟨i + 1, by omega, by go_num, fun j hj => ?_, trivial⟩
            by_cases e : j = i
            · rw [e]; exact HSI.out
            · exact HALL.out j (by omega)
          case measure => simp [intOf]; omega
      · have Hw1 : Hid (StillS w wr ad) := ⟨HS0.out.below HB1.out, HB1.out⟩
        obtain ⟨w1, rfl⟩ : ∃ w1, w1 = wr := ⟨_, rfl⟩
        clear HALL
        go_wp2_with fail
        refine (ownShards_any p l cap w1 (by omega) (HL.out _ Hw1.out.below) HNIL.out).mono ?_
        rintro e w2 ⟨⟨pw2, ⟨cw2, rfl⟩, hshw2⟩, hbw2⟩
        have Hw2 : Hid (StillS w w2 ad) := Hw1.out.next hbw2
        have HSHw2 : Hid (Shs w2 pw2 l) := hshw2
        clear hbw2 hshw2 Hw1
        go_wp2_with fail
        refine (HDEC.out w2 pw2 cw2 Hw2.out.sent HSHw2.out).mono ?_
        rintro e w3 ⟨rfl, hbw3⟩
        have Hw3 : Hid (StillS w w3 ad) := Hw2.out.next hbw3
        clear hbw3 Hw2 HSHw2
        go_wp2_with fail
        refine (HREF.out w3 p cap (HL.out _ Hw3.out.below)).mono ?_
        rintro e w4 ⟨rfl, hbw4⟩
        have Hw4 : Hid (StillS w w4 ad) := Hw3.out.next hbw4
        clear hbw4 Hw3
        go_wp2_with fail
        refine (HCOD.out _ Hw4.out.sent).mono ?_
        rintro e w5 ⟨rfl, hbw5⟩
        have Hw5 : Hid (StillS w w5 ad) := Hw4.out.next hbw5
        clear hbw5 Hw4
        go_wp2_with fail
        refine (ownShards_any p l cap w5 (by omega) (HL.out _ Hw5.out.below) HNIL.out).mono ?_
        rintro e w6 ⟨⟨pw6, ⟨cw6, rfl⟩, hshw6⟩, hbw6⟩
        have Hw6 : Hid (StillS w w6 ad) := Hw5.out.next hbw6
        have HSHw6 : Hid (Shs w6 pw6 l) := hshw6
        clear hbw6 hshw6 Hw5
        go_wp2_with fail
        refine (agree_bad _ _ _ _ (ad ei) w6 (HDEC.out w6 pw6 cw6 Hw6.out.sent HSHw6.out)).mono ?_
        rintro e w7 ⟨rfl, hbw7⟩
        have Hw7 : Hid (StillS w w7 ad) := Hw6.out.next hbw7
        clear hbw7 Hw6 HSHw6
        go_wp2_with fail
        refine (ownShards_any p l cap w7 (by omega) (HL.out _ Hw7.out.below) HNIL.out).mono ?_
        rintro e w8 ⟨⟨pw8, ⟨cw8, rfl⟩, hshw8⟩, hbw8⟩
        have Hw8 : Hid (StillS w w8 ad) := Hw7.out.next hbw8
        have HSHw8 : Hid (Shs w8 pw8 l) := hshw8
        clear hbw8 hshw8 Hw7
        go_wp2_with fail
        refine (HREB.out w8 pw8 cw8 Hw8.out.sent HSHw8.out).mono ?_
        rintro e w9 ⟨rfl, hbw9⟩
        have Hw9 : Hid (StillS w w9 ad) := Hw8.out.next hbw9
        clear hbw9 Hw8 HSHw8
        obtain ⟨w10, hw10⟩ : ∃ w10, w10 = w9.alloc (.cells #[.int .i64 0, .string ⟨#[]⟩] 25) := ⟨_, rfl⟩
        have hb10 : Below w9.heap.size w9 w10 := by rw [hw10]; exact (Below.refl _ _).alloc (Nat.le_refl _) _
        have hs10 : w9.heap.size < w10.heap.size := by rw [hw10]; simp
        have x1 : w10.cell? ⟨w9.heap.size, 0, none⟩ = some (.int .i64 0) := by rw [hw10, World.cell?_alloc_at _ _ _ _ rfl]; rfl
        have x2 : w10.cell? ⟨w9.heap.size, 1, none⟩ = some (.string ⟨#[]⟩) := by rw [hw10, World.cell?_alloc_at _ _ _ _ rfl]; rfl
        have Hw10 : Hid (StillS w w10 ad) := Hw9.out.next hb10
        have HXC : Hid (∀ W, Below w10.heap.size w10 W → W.cell? ⟨w9.heap.size, 0, none⟩ = some (.int .i64 0) ∧ W.cell? ⟨w9.heap.size, 1, none⟩ = some (.string ⟨#[]⟩)) := fun W hW => ⟨(hW.cell (p := ⟨w9.heap.size, 0, none⟩) hs10).trans x1, (hW.cell (p := ⟨w9.heap.size, 1, none⟩) hs10).trans x2⟩
        have HW10 : Hid (w10 = w9.alloc (.cells #[.int .i64 0, .string ⟨#[]⟩] 25)) := hw10
        clear hw10 hb10 x1 x2 Hw9
        rcases HCASE.out with ⟨hsp, hat, hrb⟩ | ⟨hat, hrb⟩
        · subst hsp hrb
          by_cases hlo : at_ < 0
          · clear hat
            go_wp2_with fail
            rw [← HW10.out]
            refine (HISP.out _).mono ?_
            rintro e w' ⟨rfl, hww⟩
            rw [hww]
            clear hww w'
            go_wp2_with fail
            refine (coded_bound ad _ Hw10.out.sent).mono ?_
            rintro e w12 ⟨rfl, hb12⟩
            have Hw12 : Hid (StillS w w12 ad) := Hw10.out.next hb12
            obtain ⟨y1, y2⟩ := HXC.out w12 hb12
            have HXD : Hid (∀ W, Below w12.heap.size w12 W → W.cell? ⟨w9.heap.size, 0, none⟩ = some (.int .i64 0) ∧ W.cell? ⟨w9.heap.size, 1, none⟩ = some (.string ⟨#[]⟩)) := fun W hW => HXC.out W (hb12.trans (hW.mono hb12.size))
            clear hb12 Hw10 HXC
            go_wp2_with fail
            refine (HCOD.out _ Hw12.out.sent).mono ?_
            rintro e w13 ⟨rfl, hb13⟩
            obtain ⟨z1, z2⟩ := HXD.out w13 hb13
            have Hw13 : Hid (StillS w w13 ad) := Hw12.out.next hb13
            clear hb13 Hw12 HXD y1 y2
            go_wp2
            go_ret
            exact ⟨rfl, Hw13.out.below⟩
          · have hhi : n ≤ at_ := by omega
            clear hat
            go_wp2_with fail
            rw [← HW10.out]
            refine (HISP.out _).mono ?_
            rintro e w' ⟨rfl, hww⟩
            rw [hww]
            clear hww w'
            go_wp2_with fail
            refine (coded_bound ad _ Hw10.out.sent).mono ?_
            rintro e w12 ⟨rfl, hb12⟩
            have Hw12 : Hid (StillS w w12 ad) := Hw10.out.next hb12
            obtain ⟨y1, y2⟩ := HXC.out w12 hb12
            have HXD : Hid (∀ W, Below w12.heap.size w12 W → W.cell? ⟨w9.heap.size, 0, none⟩ = some (.int .i64 0) ∧ W.cell? ⟨w9.heap.size, 1, none⟩ = some (.string ⟨#[]⟩)) := fun W hW => HXC.out W (hb12.trans (hW.mono hb12.size))
            clear hb12 Hw10 HXC
            go_wp2_with fail
            refine (HCOD.out _ Hw12.out.sent).mono ?_
            rintro e w13 ⟨rfl, hb13⟩
            obtain ⟨z1, z2⟩ := HXD.out w13 hb13
            have Hw13 : Hid (StillS w w13 ad) := Hw12.out.next hb13
            clear hb13 Hw12 HXD y1 y2
            go_wp2
            go_ret
            exact ⟨rfl, Hw13.out.below⟩
        · subst hrb
          by_cases hsp : sp = true
          · have hlo : ¬ at_ < 0 := by
              rcases hat with h | h
              · rw [h] at hsp; cases hsp
              · omega
            have hhi : ¬ n ≤ at_ := by
              rcases hat with h | h
              · rw [h] at hsp; cases hsp
              · omega
            clear hat
            subst hsp
            go_wp2_with fail
            rw [← HW10.out]
            refine (HISP.out _).mono ?_
            rintro e w' ⟨rfl, hww⟩
            rw [hww]
            clear hww w'
            go_wp2_with fail
            refine (HCOD.out _ Hw10.out.sent).mono ?_
            rintro e w12 ⟨rfl, hb12⟩
            have Hw12 : Hid (StillS w w12 ad) := Hw10.out.next hb12
            have HXD : Hid (∀ W, Below w12.heap.size w12 W → W.cell? ⟨w9.heap.size, 0, none⟩ = some (.int .i64 0) ∧ W.cell? ⟨w9.heap.size, 1, none⟩ = some (.string ⟨#[]⟩)) := fun W hW => HXC.out W (hb12.trans (hW.mono hb12.size))
            clear hb12 Hw10 HXC
            go_wp2_with fail
            refine (HCOD.out _ Hw12.out.sent).mono ?_
            rintro e w13 ⟨rfl, hb13⟩
            obtain ⟨z1, z2⟩ := HXD.out w13 hb13
            have Hw13 : Hid (StillS w w13 ad) := Hw12.out.next hb13
            clear hb13 Hw12 HXD
            go_wp2
            go_ret
            exact ⟨rfl, Hw13.out.below⟩
          · have hsp' : sp = false := Bool.eq_false_iff.2 hsp
            clear hat hsp
            subst hsp'
            go_wp2_with fail
            rw [← HW10.out]
            refine (HISP.out _).mono ?_
            rintro e w' ⟨rfl, hww⟩
            rw [hww]
            clear hww w'
            go_wp2_with fail
            refine (HCOD.out _ Hw10.out.sent).mono ?_
            rintro e w12 ⟨rfl, hb12⟩
            have Hw12 : Hid (StillS w w12 ad) := Hw10.out.next hb12
            have HXD : Hid (∀ W, Below w12.heap.size w12 W → W.cell? ⟨w9.heap.size, 0, none⟩ = some (.int .i64 0) ∧ W.cell? ⟨w9.heap.size, 1, none⟩ = some (.string ⟨#[]⟩)) := fun W hW => HXC.out W (hb12.trans (hW.mono hb12.size))
            clear hb12 Hw10 HXC
            go_wp2_with fail
            refine (HCOD.out _ Hw12.out.sent).mono ?_
            rintro e w13 ⟨rfl, hb13⟩
            obtain ⟨z1, z2⟩ := HXD.out w13 hb13
            have Hw13 : Hid (StillS w w13 ad) := Hw12.out.next hb13
            clear hb13 Hw12 HXD
            go_wp2
            go_ret
            exact ⟨rfl, Hw13.out.below⟩
  · clear hsz
    have g1 : decide (30 < (l.length : Int)) = false := decide_eq_false (by omega)
    go_enter Tryd.func3, Tryd.ntmps3
    go_wp2_with fail
    refine HU.mono ?_
    rintro e w1 ⟨rfl, hb1⟩
    have HB1 : Hid (Below w.heap.size w w1) := hb1
    clear HU hb1
    go_wp2
    go_loopw [12] (fun x wr => ∃ i : Nat, i ≤ l.length ∧ x = .int .i64 i ∧ (∀ j, j < i → (shAt l j).2.size ≤ 200) ∧ wr = w1) (fun x _ => l.length - (intOf x).toNat)
    case atStart => exact ⟨0, by omega, rfl, fun j hj => absurd hj (Nat.not_lt_zero _), rfl⟩
    case round =>
      obtain ⟨i, hi, rfl, hall, hww⟩ := hrel
      subst hww
      have HALL : Hid (∀ j, j < i → (shAt l j).2.size ≤ 200) := hall
      clear hall
      by_cases hil : i < l.length
      · rcases (HL.out wr HB1.out) with h0 | ⟨b1, o1, rfl, _, hc1⟩
        · rw [h0] at hil; simp at hil
        obtain ⟨_, q2⟩ := hc1 i hil
        have hsi := HSZ.out i
        clear hc1
        by_cases hlong : 200 < (shAt l i).2.size
        · exact absurd (HTX.out i) (by omega)
        · have HSI : Hid ((shAt l i).2.size ≤ 200) := by show _ ≤ _; omega
          generalize (shAt l i).2 = t at q2 hsi hlong
          have hlong' : ¬ 200 < (t.size : Int) := by omega
          go_wp2
          go_roundw
          case rel =>
            refine ⟨i + 1, by omega, by go_num, fun j hj => ?_, trivial⟩
            by_cases e : j = i
            · rw [e]; exact HSI.out
            · exact HALL.out j (by omega)
          case measure => simp [intOf]; omega
      · have Hw1 : Hid (StillS w wr ad) := ⟨HS0.out.below HB1.out, HB1.out⟩
        obtain ⟨w1, rfl⟩ : ∃ w1, w1 = wr := ⟨_, rfl⟩
        clear HALL
        go_wp2_with fail
        refine (ownShards_any p l cap w1 (by omega) (HL.out _ Hw1.out.below) HNIL.out).mono ?_
        rintro e w2 ⟨⟨pw2, ⟨cw2, rfl⟩, hshw2⟩, hbw2⟩
        have Hw2 : Hid (StillS w w2 ad) := Hw1.out.next hbw2
        have HSHw2 : Hid (Shs w2 pw2 l) := hshw2
        clear hbw2 hshw2 Hw1
        go_wp2_with fail
        refine (HDEC.out w2 pw2 cw2 Hw2.out.sent HSHw2.out).mono ?_
        rintro e w3 ⟨rfl, hbw3⟩
        have Hw3 : Hid (StillS w w3 ad) := Hw2.out.next hbw3
        clear hbw3 Hw2 HSHw2
        go_wp2_with fail
        refine (HREF.out w3 p cap (HL.out _ Hw3.out.below)).mono ?_
        rintro e w4 ⟨rfl, hbw4⟩
        have Hw4 : Hid (StillS w w4 ad) := Hw3.out.next hbw4
        clear hbw4 Hw3
        go_wp2_with fail
        refine (HCOD.out _ Hw4.out.sent).mono ?_
        rintro e w5 ⟨rfl, hbw5⟩
        have Hw5 : Hid (StillS w w5 ad) := Hw4.out.next hbw5
        clear hbw5 Hw4
        go_wp2_with fail
        refine (ownShards_any p l cap w5 (by omega) (HL.out _ Hw5.out.below) HNIL.out).mono ?_
        rintro e w6 ⟨⟨pw6, ⟨cw6, rfl⟩, hshw6⟩, hbw6⟩
        have Hw6 : Hid (StillS w w6 ad) := Hw5.out.next hbw6
        have HSHw6 : Hid (Shs w6 pw6 l) := hshw6
        clear hbw6 hshw6 Hw5
        go_wp2_with fail
        refine (agree_bad _ _ _ _ (ad ei) w6 (HDEC.out w6 pw6 cw6 Hw6.out.sent HSHw6.out)).mono ?_
        rintro e w7 ⟨rfl, hbw7⟩
        have Hw7 : Hid (StillS w w7 ad) := Hw6.out.next hbw7
        clear hbw7 Hw6 HSHw6
        go_wp2_with fail
        refine (ownShards_any p l cap w7 (by omega) (HL.out _ Hw7.out.below) HNIL.out).mono ?_
        rintro e w8 ⟨⟨pw8, ⟨cw8, rfl⟩, hshw8⟩, hbw8⟩
        have Hw8 : Hid (StillS w w8 ad) := Hw7.out.next hbw8
        have HSHw8 : Hid (Shs w8 pw8 l) := hshw8
        clear hbw8 hshw8 Hw7
        go_wp2_with fail
        refine (HREB.out w8 pw8 cw8 Hw8.out.sent HSHw8.out).mono ?_
        rintro e w9 ⟨rfl, hbw9⟩
        have Hw9 : Hid (StillS w w9 ad) := Hw8.out.next hbw9
        clear hbw9 Hw8 HSHw8
        obtain ⟨w10, hw10⟩ : ∃ w10, w10 = w9.alloc (.cells #[.int .i64 0, .string ⟨#[]⟩] 25) := ⟨_, rfl⟩
        have hb10 : Below w9.heap.size w9 w10 := by rw [hw10]; exact (Below.refl _ _).alloc (Nat.le_refl _) _
        have hs10 : w9.heap.size < w10.heap.size := by rw [hw10]; simp
        have x1 : w10.cell? ⟨w9.heap.size, 0, none⟩ = some (.int .i64 0) := by rw [hw10, World.cell?_alloc_at _ _ _ _ rfl]; rfl
        have x2 : w10.cell? ⟨w9.heap.size, 1, none⟩ = some (.string ⟨#[]⟩) := by rw [hw10, World.cell?_alloc_at _ _ _ _ rfl]; rfl
        have Hw10 : Hid (StillS w w10 ad) := Hw9.out.next hb10
        have HXC : Hid (∀ W, Below w10.heap.size w10 W → W.cell? ⟨w9.heap.size, 0, none⟩ = some (.int .i64 0) ∧ W.cell? ⟨w9.heap.size, 1, none⟩ = some (.string ⟨#[]⟩)) := fun W hW => ⟨(hW.cell (p := ⟨w9.heap.size, 0, none⟩) hs10).trans x1, (hW.cell (p := ⟨w9.heap.size, 1, none⟩) hs10).trans x2⟩
        have HW10 : Hid (w10 = w9.alloc (.cells #[.int .i64 0, .string ⟨#[]⟩] 25)) := hw10
        clear hw10 hb10 x1 x2 Hw9
        rcases HCASE.out with ⟨hsp, hat, hrb⟩ | ⟨hat, hrb⟩
        · subst hsp hrb
          by_cases hlo : at_ < 0
          · clear hat
            go_wp2_with fail
            rw [← HW10.out]
            refine (HISP.out _).mono ?_
            rintro e w' ⟨rfl, hww⟩
            rw [hww]
            clear hww w'
            go_wp2_with fail
            refine (coded_bound ad _ Hw10.out.sent).mono ?_
            rintro e w12 ⟨rfl, hb12⟩
            have Hw12 : Hid (StillS w w12 ad) := Hw10.out.next hb12
            obtain ⟨y1, y2⟩ := HXC.out w12 hb12
            have HXD : Hid (∀ W, Below w12.heap.size w12 W → W.cell? ⟨w9.heap.size, 0, none⟩ = some (.int .i64 0) ∧ W.cell? ⟨w9.heap.size, 1, none⟩ = some (.string ⟨#[]⟩)) := fun W hW => HXC.out W (hb12.trans (hW.mono hb12.size))
            clear hb12 Hw10 HXC
            go_wp2_with fail
            refine (HCOD.out _ Hw12.out.sent).mono ?_
            rintro e w13 ⟨rfl, hb13⟩
            obtain ⟨z1, z2⟩ := HXD.out w13 hb13
            have Hw13 : Hid (StillS w w13 ad) := Hw12.out.next hb13
            clear hb13 Hw12 HXD y1 y2
            go_wp2
            go_ret
            exact ⟨rfl, Hw13.out.below⟩
          · have hhi : n ≤ at_ := by omega
            clear hat
            go_wp2_with fail
            rw [← HW10.out]
            refine (HISP.out _).mono ?_
            rintro e w' ⟨rfl, hww⟩
            rw [hww]
            clear hww w'
            go_wp2_with fail
            refine (coded_bound ad _ Hw10.out.sent).mono ?_
            rintro e w12 ⟨rfl, hb12⟩
            have Hw12 : Hid (StillS w w12 ad) := Hw10.out.next hb12
            obtain ⟨y1, y2⟩ := HXC.out w12 hb12
            have HXD : Hid (∀ W, Below w12.heap.size w12 W → W.cell? ⟨w9.heap.size, 0, none⟩ = some (.int .i64 0) ∧ W.cell? ⟨w9.heap.size, 1, none⟩ = some (.string ⟨#[]⟩)) := fun W hW => HXC.out W (hb12.trans (hW.mono hb12.size))
            clear hb12 Hw10 HXC
            go_wp2_with fail
            refine (HCOD.out _ Hw12.out.sent).mono ?_
            rintro e w13 ⟨rfl, hb13⟩
            obtain ⟨z1, z2⟩ := HXD.out w13 hb13
            have Hw13 : Hid (StillS w w13 ad) := Hw12.out.next hb13
            clear hb13 Hw12 HXD y1 y2
            go_wp2
            go_ret
            exact ⟨rfl, Hw13.out.below⟩
        · subst hrb
          by_cases hsp : sp = true
          · have hlo : ¬ at_ < 0 := by
              rcases hat with h | h
              · rw [h] at hsp; cases hsp
              · omega
            have hhi : ¬ n ≤ at_ := by
              rcases hat with h | h
              · rw [h] at hsp; cases hsp
              · omega
            clear hat
            subst hsp
            go_wp2_with fail
            rw [← HW10.out]
            refine (HISP.out _).mono ?_
            rintro e w' ⟨rfl, hww⟩
            rw [hww]
            clear hww w'
            go_wp2_with fail
            refine (HCOD.out _ Hw10.out.sent).mono ?_
            rintro e w12 ⟨rfl, hb12⟩
            have Hw12 : Hid (StillS w w12 ad) := Hw10.out.next hb12
            have HXD : Hid (∀ W, Below w12.heap.size w12 W → W.cell? ⟨w9.heap.size, 0, none⟩ = some (.int .i64 0) ∧ W.cell? ⟨w9.heap.size, 1, none⟩ = some (.string ⟨#[]⟩)) := fun W hW => HXC.out W (hb12.trans (hW.mono hb12.size))
            clear hb12 Hw10 HXC
            go_wp2_with fail
            refine (HCOD.out _ Hw12.out.sent).mono ?_
            rintro e w13 ⟨rfl, hb13⟩
            obtain ⟨z1, z2⟩ := HXD.out w13 hb13
            have Hw13 : Hid (StillS w w13 ad) := Hw12.out.next hb13
            clear hb13 Hw12 HXD
            go_wp2
            go_ret
            exact ⟨rfl, Hw13.out.below⟩
          · have hsp' : sp = false := Bool.eq_false_iff.2 hsp
            clear hat hsp
            subst hsp'
            go_wp2_with fail
            rw [← HW10.out]
            refine (HISP.out _).mono ?_
            rintro e w' ⟨rfl, hww⟩
            rw [hww]
            clear hww w'
            go_wp2_with fail
            refine (HCOD.out _ Hw10.out.sent).mono ?_
            rintro e w12 ⟨rfl, hb12⟩
            have Hw12 : Hid (StillS w w12 ad) := Hw10.out.next hb12
            have HXD : Hid (∀ W, Below w12.heap.size w12 W → W.cell? ⟨w9.heap.size, 0, none⟩ = some (.int .i64 0) ∧ W.cell? ⟨w9.heap.size, 1, none⟩ = some (.string ⟨#[]⟩)) := fun W hW => HXC.out W (hb12.trans (hW.mono hb12.size))
            clear hb12 Hw10 HXC
            go_wp2_with fail
            refine (HCOD.out _ Hw12.out.sent).mono ?_
            rintro e w13 ⟨rfl, hb13⟩
            obtain ⟨z1, z2⟩ := HXD.out w13 hb13
            have Hw13 : Hid (StillS w w13 ad) := Hw12.out.next hb13
            clear hb13 Hw12 HXD
            go_wp2
            go_ret
            exact ⟨rfl, Hw13.out.below⟩
set_option maxRecDepth 10000 in
set_option maxHeartbeats 16000000 in
theorem decL_okIn (n k size : Nat) (p : Option Addr) (l : List (Int × ByteArray)) (cap : Nat) (a : Nat) (ad : Nat → Addr) (w : World) (hl : l.length ≤ 30) (hnil : p = none → cap = 0) (hs : Shs w p l) (hS : Sent w ad) (hk1 : 1 ≤ k) (hkn : k ≤ n) (hn : n ≤ 12) (hsz : size ≤ 100) (htx : ∀ i, (shAt l i).2.size ≤ 200) (hf : Fits n k size l) (hat : a < n) :
    Calls Tryd.prog 3 #[.int .i64 (n : Int), .int .i64 (k : Int), .int .i64 (size : Int), .slice p l.length cap, .int .i64 (a : Int)] w fun e w' => e = .returned (.bool true) ∧ Below w.heap.size w w' := by
  have HU := single_any (ad 11) w hS.c11
  have HS0 : Hid (Sent w ad) := hS
  have HL : Hid (∀ W, Below w.heap.size w W → Shs W p l) := fun W h => hs.below h
  have HDEC : Hid (∀ W q cq, Sent W ad → Shs W q l → Calls Tryd.prog 7 #[.int .i64 (n : Int), .int .i64 (k : Int), .int .i64 (size : Int), .slice q l.length cq] W fun e w' => e = .returned (.tuple #[.string (decT k size (pickN k l l.length)), .nilIface]) ∧ Below W.heap.size W w') := fun W q cq hW hq => decode_ok n k size q l cq (ad 11) W hk1 hkn hn (by omega) (by omega) hf hq hW.c11
  have HREF : Hid (∀ W q cq, Sent W ad → Shs W q l → Calls Tryd.prog 9 #[.int .i64 (n : Int), .int .i64 (k : Int), .int .i64 (size : Int), .slice q l.length cq] W fun e w' => e = .returned (.tuple #[.string (decT k size (pickN k l l.length)), .int .i64 0]) ∧ Below W.heap.size W w') := fun W q cq _ hq => rdecode_ok n k size q l cq W hk1 hkn hn (by omega) (by omega) (fun i => by have := htx i; omega) hf hq
  have HAGR : Hid (∀ W q cq, Sent W ad → Shs W q l → Calls Tryd.prog 11 #[.int .i64 (n : Int), .int .i64 (k : Int), .int .i64 (size : Int), .slice q l.length cq] W fun e w' => e = .returned (.tuple #[.bool (!l.any (neB k (decT k size (pickN k l l.length)))), .nilIface]) ∧ Below W.heap.size W w') := fun W q cq hW hq => agree_ok n k size q l cq (ad 11) W hk1 hkn hn (by omega) (by omega) hf hq hW.c11
  have HREB : Hid (∀ W q cq, Sent W ad → Shs W q l → Calls Tryd.prog 12 #[.int .i64 (n : Int), .int .i64 (k : Int), .int .i64 (size : Int), .int .i64 (a : Int), .slice q l.length cq] W fun e w' => e = .returned (.tuple #[.agg #[.int .i64 (a : Int), .string (encT k (decT k size (pickN k l l.length)) a)], .nilIface]) ∧ Below W.heap.size W w') := fun W q cq hW hq => rebuild_ok n k size a q l cq (ad 11) W hk1 hkn hn (by omega) (by omega) hat hf hq hW.c11
  have HENC : Hid (∀ W, Calls Tryd.prog 14 #[.int .i64 (n : Int), .int .i64 (k : Int), .string (decT k size (pickN k l l.length))] W fun e w' => (∃ p c, e = .returned (.slice p n c) ∧ Shs w' p (encL n k (decT k size (pickN k l l.length)))) ∧ Below W.heap.size W w') := fun W => rencode_shs n k _ W hk1 hkn hn (by rw [decT_size]; omega)
  have HATS : Hid (∀ i, i < l.length → 0 ≤ (shAt l i).1 ∧ (shAt l i).1 < n) := fun i hi => by
    have := hf.at_ (shAt_mem hi)
    omega
  have HSZ : Hid (∀ i, (shAt l i).2.size ≤ 200) := htx
  have HTX : Hid (∀ i, (shAt l i).2.size ≤ 200) := htx
  have HNIL : Hid (p = none → cap = 0) := hnil
  have hs1 : ¬ 100 < (size : Int) := by omega
  generalize decT k size (pickN k l l.length) = dt at *
  clear hs hS htx hnil hf
  have g1 : decide (30 < (l.length : Int)) = false := decide_eq_false (by omega)
  go_enter Tryd.func3, Tryd.ntmps3
  go_wp2_with fail
  refine HU.mono ?_
  rintro e w1 ⟨rfl, hb1⟩
  have HB1 : Hid (Below w.heap.size w w1) := hb1
  clear HU hb1
  go_wp2
  go_loopw [12] (fun x wr => ∃ i : Nat, i ≤ l.length ∧ x = .int .i64 i ∧ (∀ j, j < i → (shAt l j).2.size ≤ 200) ∧ wr = w1) (fun x _ => l.length - (intOf x).toNat)
  case atStart => exact ⟨0, by omega, rfl, fun j hj => absurd hj (Nat.not_lt_zero _), rfl⟩
  case round =>
    obtain ⟨i, hi, rfl, hall, hww⟩ := hrel
    subst hww
    have HALL : Hid (∀ j, j < i → (shAt l j).2.size ≤ 200) := hall
    clear hall
    by_cases hil : i < l.length
    · rcases (HL.out wr HB1.out) with h0 | ⟨b1, o1, rfl, _, hc1⟩
      · rw [h0] at hil; simp at hil
      obtain ⟨_, q2⟩ := hc1 i hil
      have hsi := HSZ.out i
      clear hc1
      by_cases hlong : 200 < (shAt l i).2.size
      · exact absurd (HTX.out i) (by omega)
      · have HSI : Hid ((shAt l i).2.size ≤ 200) := by show _ ≤ _; omega
        generalize (shAt l i).2 = t at q2 hsi hlong
        have hlong' : ¬ 200 < (t.size : Int) := by omega
        go_wp2
        go_roundw
        case rel =>
          refine ⟨i + 1, by omega, by go_num, fun j hj => ?_, trivial⟩
          by_cases e : j = i
          · rw [e]; exact HSI.out
          · exact HALL.out j (by omega)
        case measure => simp [intOf]; omega
    · have Hw1 : Hid (StillS w wr ad) := ⟨HS0.out.below HB1.out, HB1.out⟩
      obtain ⟨w1, rfl⟩ : ∃ w1, w1 = wr := ⟨_, rfl⟩
      clear HALL
      go_wp2_with fail
      refine (ownShards_any p l cap w1 (by omega) (HL.out _ Hw1.out.below) HNIL.out).mono ?_
      rintro e w2 ⟨⟨pw2, ⟨cw2, rfl⟩, hshw2⟩, hbw2⟩
      have Hw2 : Hid (StillS w w2 ad) := Hw1.out.next hbw2
      have HSHw2 : Hid (Shs w2 pw2 l) := hshw2
      clear hbw2 hshw2 Hw1
      go_wp2_with fail
      refine (HDEC.out w2 pw2 cw2 Hw2.out.sent HSHw2.out).mono ?_
      rintro e w3 ⟨rfl, hbw3⟩
      have Hw3 : Hid (StillS w w3 ad) := Hw2.out.next hbw3
      clear hbw3 Hw2 HSHw2
      go_wp2_with fail
      refine (HREF.out w3 p cap Hw3.out.sent (HL.out _ Hw3.out.below)).mono ?_
      rintro e w4 ⟨rfl, hbw4⟩
      have Hw4 : Hid (StillS w w4 ad) := Hw3.out.next hbw4
      clear hbw4 Hw3
      go_wp2_with fail
      refine (coded_nil _).mono ?_
      rintro e w' ⟨rfl, hww⟩
      rw [hww]
      clear hww w'
      go_wp2_with fail
      refine (ownShards_any p l cap w4 (by omega) (HL.out _ Hw4.out.below) HNIL.out).mono ?_
      rintro e w6 ⟨⟨pw6, ⟨cw6, rfl⟩, hshw6⟩, hbw6⟩
      have Hw6 : Hid (StillS w w6 ad) := Hw4.out.next hbw6
      have HSHw6 : Hid (Shs w6 pw6 l) := hshw6
      clear hbw6 hshw6 Hw4
      go_wp2_with fail
      refine (HAGR.out w6 pw6 cw6 Hw6.out.sent HSHw6.out).mono ?_
      rintro e w7 ⟨rfl, hbw7⟩
      have Hw7 : Hid (StillS w w7 ad) := Hw6.out.next hbw7
      clear hbw7 Hw6 HSHw6
      go_wp2_with fail
      refine (ownShards_any p l cap w7 (by omega) (HL.out _ Hw7.out.below) HNIL.out).mono ?_
      rintro e w8 ⟨⟨pw8, ⟨cw8, rfl⟩, hshw8⟩, hbw8⟩
      have Hw8 : Hid (StillS w w8 ad) := Hw7.out.next hbw8
      have HSHw8 : Hid (Shs w8 pw8 l) := hshw8
      clear hbw8 hshw8 Hw7
      go_wp2_with fail
      refine (HREB.out w8 pw8 cw8 Hw8.out.sent HSHw8.out).mono ?_
      rintro e w9 ⟨rfl, hbw9⟩
      have Hw9 : Hid (StillS w w9 ad) := Hw8.out.next hbw9
      clear hbw9 Hw8 HSHw8
      obtain ⟨w10, hw10⟩ : ∃ w10, w10 = w9.alloc (.cells #[.int .i64 (a : Int), .string (encT k dt a)] 25) := ⟨_, rfl⟩
      have hb10 : Below w9.heap.size w9 w10 := by rw [hw10]; exact (Below.refl _ _).alloc (Nat.le_refl _) _
      have hs10 : w9.heap.size < w10.heap.size := by rw [hw10]; simp
      have x1 : w10.cell? ⟨w9.heap.size, 0, none⟩ = some (.int .i64 (a : Int)) := by rw [hw10, World.cell?_alloc_at _ _ _ _ rfl]; rfl
      have x2 : w10.cell? ⟨w9.heap.size, 1, none⟩ = some (.string (encT k dt a)) := by rw [hw10, World.cell?_alloc_at _ _ _ _ rfl]; rfl
      have Hw10 : Hid (StillS w w10 ad) := Hw9.out.next hb10
      have HXC : Hid (∀ W, Below w10.heap.size w10 W → W.cell? ⟨w9.heap.size, 0, none⟩ = some (.int .i64 (a : Int)) ∧ W.cell? ⟨w9.heap.size, 1, none⟩ = some (.string (encT k dt a))) := fun W hW => ⟨(hW.cell (p := ⟨w9.heap.size, 0, none⟩) hs10).trans x1, (hW.cell (p := ⟨w9.heap.size, 1, none⟩) hs10).trans x2⟩
      have HW10 : Hid (w10 = w9.alloc (.cells #[.int .i64 (a : Int), .string (encT k dt a)] 25)) := hw10
      clear hw10 hb10 x1 x2 Hw9
      go_wp2_with fail
      rw [← HW10.out]
      refine (isSpread_yes (n : Int) (k : Int) _ (by omega) (by omega) (by omega)).mono ?_
      rintro e w' ⟨rfl, hww⟩
      rw [hww]
      clear hww w'
      go_wp2_with fail
      refine (coded_nil _).mono ?_
      rintro e w' ⟨rfl, hww⟩
      rw [hww]
      clear hww w'
      have Hw12 : Hid (StillS w w10 ad) := Hw10.out
      have HXD : Hid (∀ W, Below w10.heap.size w10 W → W.cell? ⟨w9.heap.size, 0, none⟩ = some (.int .i64 (a : Int)) ∧ W.cell? ⟨w9.heap.size, 1, none⟩ = some (.string (encT k dt a))) := HXC.out
      clear Hw10 HXC
      go_wp2_with fail
      refine (HENC.out _).mono ?_
      rintro e w14 ⟨⟨p14, c14, rfl, hs14⟩, hb14⟩
      have Hw14 : Hid (StillS w w14 ad) := Hw12.out.next hb14
      have HXE : Hid (∀ W, Below w14.heap.size w14 W → W.cell? ⟨w9.heap.size, 0, none⟩ = some (.int .i64 (a : Int)) ∧ W.cell? ⟨w9.heap.size, 1, none⟩ = some (.string (encT k dt a))) := fun W hW => HXD.out W (hb14.trans (hW.mono hb14.size))
      rcases hs14 with h0 | ⟨b3, o3, hp3, hlb3, hc3⟩
      · exact absurd (congrArg List.length h0) (by rw [encL_length]; simp; omega)
      subst hp3
      have HC3 : Hid (∀ q, q < n → w14.cell? ⟨b3, o3 + q * 2, none⟩ = some (.int .i64 (q : Int)) ∧ w14.cell? ⟨b3, o3 + q * 2 + 1, none⟩ = some (.string (encT k dt q))) := fun q hq => by
        have h := hc3 q (by rw [encL_length]; exact hq)
        have he : shAt (encL n k dt) q = encS k dt q := by
          unfold shAt encL
          rw [List.getD_eq_getElem?_getD, List.getElem?_map, List.getElem?_range hq]
          rfl
        rw [he] at h
        exact h
      clear hb14 Hw12 HXD hc3
      go_wp2
      go_loopw [21, 22] (fun v x wr => ∃ i : Nat, i ≤ l.length ∧ x = .int .i64 i ∧ v = .bool (!(l.take i).any (neB k dt)) ∧ Below w14.heap.size w14 wr) (fun _ x _ => l.length - (intOf x).toNat)
      case atStart => exact ⟨0, by omega, rfl, by simp, Below.refl _ _⟩
      case round =>
        obtain ⟨i, hi, rfl, rfl, hB15⟩ := hrel
        obtain ⟨w15, rfl⟩ : ∃ w15, w15 = wr := ⟨_, rfl⟩
        have HB15 : Hid (Below w14.heap.size w14 w15) := hB15
        have Hw15 : Hid (StillS w w15 ad) := Hw14.out.next hB15
        clear hB15
        by_cases hil : i < l.length
        · rcases (HL.out w15 Hw15.out.below) with h0 | ⟨b1, o1, hp1, _, hc1⟩
          · rw [h0] at hil; simp at hil
          obtain ⟨q1, q2⟩ := hc1 i hil
          have hat1 := HATS.out i hil
          have HTS : Hid ((l.take (i + 1)).any (neB k dt) = ((l.take i).any (neB k dt) || neB k dt (shAt l i))) := any_take_succ hil
          obtain ⟨a1, ha1⟩ := Int.eq_ofNat_of_zero_le hat1.1
          have ha1n : a1 < n := by omega
          have q3 : w15.cell? ⟨b3, o3 + a1 * 2, none⟩ = some (.int .i64 (a1 : Int)) := (HB15.out.cell (p := ⟨b3, o3 + a1 * 2, none⟩) hlb3).trans (HC3.out a1 ha1n).1
          have q4 : w15.cell? ⟨b3, o3 + a1 * 2 + 1, none⟩ = some (.string (encT k dt a1)) := (HB15.out.cell (p := ⟨b3, o3 + a1 * 2 + 1, none⟩) hlb3).trans (HC3.out a1 ha1n).2
          have hta : (shAt l i).1.toNat = a1 := by omega
          have HNE : Hid (neB k dt (shAt l i) = !decide ((shAt l i).2 = encT k dt a1)) := by show _ = _; unfold neB; rw [hta]
          rw [ha1] at q1
          have HPP : Hid (p = some ⟨b1, o1, none⟩) := hp1
          clear hc1 hat1 ha1 hta hp1
          generalize (shAt l i).2 = t at q2 HNE
          generalize encT k dt a1 = u at q4 HNE
          generalize (l.take i).any (neB k dt) = bb at *
          have HPV : Hid (∀ v : Option Addr, v = some ⟨b1, o1, none⟩ → v = some ⟨b1, o1, none⟩) := fun _ h => h
          clear HPV
          rw [HPP.out]
          by_cases he : t = u
          · subst he
            go_wp2
            go_quiet (fail)
            go_wp2
            go_roundw
            case rel => exact ⟨i + 1, by omega, by go_num, by rw [HTS.out, HNE.out]; simp, below_drewN HB15.out _⟩
            case measure => simp [intOf]; omega
          · have hl1 : ¬ u.toList = t.toList := fun e => he (toList_inj e).symm
            have hl2 : (u.toList == t.toList) = false := by simpa using hl1
            have HNT : Hid (neB k dt (shAt l i) = true) := by show _ = _; rw [HNE.out]; simp [he]
            clear he
            go_wp2
            go_quiet (fail)
            go_wp2
            go_roundw
            case rel => exact ⟨i + 1, by omega, by go_num, by rw [HTS.out, HNT.out]; simp, below_drewN HB15.out _⟩
            case measure => simp [intOf]; omega
        · have htk : l.take i = l := List.take_of_length_le (by omega)
          rw [htk]
          obtain ⟨y1, y2⟩ := HXE.out w15 HB15.out
          have q3 : w15.cell? ⟨b3, o3 + a * 2, none⟩ = some (.int .i64 (a : Int)) := (HB15.out.cell (p := ⟨b3, o3 + a * 2, none⟩) hlb3).trans (HC3.out a hat).1
          have q4 : w15.cell? ⟨b3, o3 + a * 2 + 1, none⟩ = some (.string (encT k dt a)) := (HB15.out.cell (p := ⟨b3, o3 + a * 2 + 1, none⟩) hlb3).trans (HC3.out a hat).2
          generalize encT k dt a = u at *
          clear htk
          generalize l.any (neB k dt) = bb at *
          go_wp2
          go_quiet (fail)
          go_wp2
          go_ret
          exact ⟨rfl, below_drewN Hw15.out.below _⟩
set_option maxRecDepth 10000 in
set_option maxHeartbeats 16000000 in
theorem decL_okOut (n k size : Nat) (p : Option Addr) (l : List (Int × ByteArray)) (cap : Nat) (at_ : Int) (ad : Nat → Addr) (w : World) (hl : l.length ≤ 30) (hnil : p = none → cap = 0) (hs : Shs w p l) (hS : Sent w ad) (hk1 : 1 ≤ k) (hkn : k ≤ n) (hn : n ≤ 12) (hsz : size ≤ 100) (htx : ∀ i, (shAt l i).2.size ≤ 200) (hf : Fits n k size l) (hat : at_ < 0 ∨ (n : Int) ≤ at_) :
    Calls Tryd.prog 3 #[.int .i64 (n : Int), .int .i64 (k : Int), .int .i64 (size : Int), .slice p l.length cap, .int .i64 at_] w fun e w' => e = .returned (.bool true) ∧ Below w.heap.size w w' := by
  have HU := single_any (ad 11) w hS.c11
  have HS0 : Hid (Sent w ad) := hS
  have HL : Hid (∀ W, Below w.heap.size w W → Shs W p l) := fun W h => hs.below h
  have HDEC : Hid (∀ W q cq, Sent W ad → Shs W q l → Calls Tryd.prog 7 #[.int .i64 (n : Int), .int .i64 (k : Int), .int .i64 (size : Int), .slice q l.length cq] W fun e w' => e = .returned (.tuple #[.string (decT k size (pickN k l l.length)), .nilIface]) ∧ Below W.heap.size W w') := fun W q cq hW hq => decode_ok n k size q l cq (ad 11) W hk1 hkn hn (by omega) (by omega) hf hq hW.c11
  have HREF : Hid (∀ W q cq, Sent W ad → Shs W q l → Calls Tryd.prog 9 #[.int .i64 (n : Int), .int .i64 (k : Int), .int .i64 (size : Int), .slice q l.length cq] W fun e w' => e = .returned (.tuple #[.string (decT k size (pickN k l l.length)), .int .i64 0]) ∧ Below W.heap.size W w') := fun W q cq _ hq => rdecode_ok n k size q l cq W hk1 hkn hn (by omega) (by omega) (fun i => by have := htx i; omega) hf hq
  have HAGR : Hid (∀ W q cq, Sent W ad → Shs W q l → Calls Tryd.prog 11 #[.int .i64 (n : Int), .int .i64 (k : Int), .int .i64 (size : Int), .slice q l.length cq] W fun e w' => e = .returned (.tuple #[.bool (!l.any (neB k (decT k size (pickN k l l.length)))), .nilIface]) ∧ Below W.heap.size W w') := fun W q cq hW hq => agree_ok n k size q l cq (ad 11) W hk1 hkn hn (by omega) (by omega) hf hq hW.c11
  have HREB : Hid (∀ W q cq, Sent W ad → Shs W q l → Calls Tryd.prog 12 #[.int .i64 (n : Int), .int .i64 (k : Int), .int .i64 (size : Int), .int .i64 at_, .slice q l.length cq] W fun e w' => e = .returned (.tuple #[.agg #[.int .i64 0, .string ⟨#[]⟩], (.iface 200 (.pointer (some (ad 1))))]) ∧ Below W.heap.size W w') := fun W q cq hW _ => rebuild_bound (n : Int) (k : Int) (size : Int) at_ (.slice q l.length cq) (ad 1) W hat hW.c1
  have HENC : Hid (∀ W, Calls Tryd.prog 14 #[.int .i64 (n : Int), .int .i64 (k : Int), .string (decT k size (pickN k l l.length))] W fun e w' => (∃ p c, e = .returned (.slice p n c) ∧ Shs w' p (encL n k (decT k size (pickN k l l.length)))) ∧ Below W.heap.size W w') := fun W => rencode_shs n k _ W hk1 hkn hn (by rw [decT_size]; omega)
  have HATS : Hid (∀ i, i < l.length → 0 ≤ (shAt l i).1 ∧ (shAt l i).1 < n) := fun i hi => by
    have := hf.at_ (shAt_mem hi)
    omega
  have HSZ : Hid (∀ i, (shAt l i).2.size ≤ 200) := htx
  have HTX : Hid (∀ i, (shAt l i).2.size ≤ 200) := htx
  have HNIL : Hid (p = none → cap = 0) := hnil
  have hs1 : ¬ 100 < (size : Int) := by omega
  generalize decT k size (pickN k l l.length) = dt at *
  clear hs hS htx hnil hf
  have g1 : decide (30 < (l.length : Int)) = false := decide_eq_false (by omega)
  go_enter Tryd.func3, Tryd.ntmps3
  go_wp2_with fail
  refine HU.mono ?_
  rintro e w1 ⟨rfl, hb1⟩
  have HB1 : Hid (Below w.heap.size w w1) := hb1
  clear HU hb1
  go_wp2
  go_loopw [12] (fun x wr => ∃ i : Nat, i ≤ l.length ∧ x = .int .i64 i ∧ (∀ j, j < i → (shAt l j).2.size ≤ 200) ∧ wr = w1) (fun x _ => l.length - (intOf x).toNat)
  case atStart => exact ⟨0, by omega, rfl, fun j hj => absurd hj (Nat.not_lt_zero _), rfl⟩
  case round =>
    obtain ⟨i, hi, rfl, hall, hww⟩ := hrel
    subst hww
    have HALL : Hid (∀ j, j < i → (shAt l j).2.size ≤ 200) := hall
    clear hall
    by_cases hil : i < l.length
    · rcases (HL.out wr HB1.out) with h0 | ⟨b1, o1, rfl, _, hc1⟩
      · rw [h0] at hil; simp at hil
      obtain ⟨_, q2⟩ := hc1 i hil
      have hsi := HSZ.out i
      clear hc1
      by_cases hlong : 200 < (shAt l i).2.size
      · exact absurd (HTX.out i) (by omega)
      · have HSI : Hid ((shAt l i).2.size ≤ 200) := by show _ ≤ _; omega
        generalize (shAt l i).2 = t at q2 hsi hlong
        have hlong' : ¬ 200 < (t.size : Int) := by omega
        go_wp2
        go_roundw
        case rel =>
          refine ⟨i + 1, by omega, by go_num, fun j hj => ?_, trivial⟩
          by_cases e : j = i
          · rw [e]; exact HSI.out
          · exact HALL.out j (by omega)
        case measure => simp [intOf]; omega
    · have Hw1 : Hid (StillS w wr ad) := ⟨HS0.out.below HB1.out, HB1.out⟩
      obtain ⟨w1, rfl⟩ : ∃ w1, w1 = wr := ⟨_, rfl⟩
      clear HALL
      go_wp2_with fail
      refine (ownShards_any p l cap w1 (by omega) (HL.out _ Hw1.out.below) HNIL.out).mono ?_
      rintro e w2 ⟨⟨pw2, ⟨cw2, rfl⟩, hshw2⟩, hbw2⟩
      have Hw2 : Hid (StillS w w2 ad) := Hw1.out.next hbw2
      have HSHw2 : Hid (Shs w2 pw2 l) := hshw2
      clear hbw2 hshw2 Hw1
      go_wp2_with fail
      refine (HDEC.out w2 pw2 cw2 Hw2.out.sent HSHw2.out).mono ?_
      rintro e w3 ⟨rfl, hbw3⟩
      have Hw3 : Hid (StillS w w3 ad) := Hw2.out.next hbw3
      clear hbw3 Hw2 HSHw2
      go_wp2_with fail
      refine (HREF.out w3 p cap Hw3.out.sent (HL.out _ Hw3.out.below)).mono ?_
      rintro e w4 ⟨rfl, hbw4⟩
      have Hw4 : Hid (StillS w w4 ad) := Hw3.out.next hbw4
      clear hbw4 Hw3
      go_wp2_with fail
      refine (coded_nil _).mono ?_
      rintro e w' ⟨rfl, hww⟩
      rw [hww]
      clear hww w'
      go_wp2_with fail
      refine (ownShards_any p l cap w4 (by omega) (HL.out _ Hw4.out.below) HNIL.out).mono ?_
      rintro e w6 ⟨⟨pw6, ⟨cw6, rfl⟩, hshw6⟩, hbw6⟩
      have Hw6 : Hid (StillS w w6 ad) := Hw4.out.next hbw6
      have HSHw6 : Hid (Shs w6 pw6 l) := hshw6
      clear hbw6 hshw6 Hw4
      go_wp2_with fail
      refine (HAGR.out w6 pw6 cw6 Hw6.out.sent HSHw6.out).mono ?_
      rintro e w7 ⟨rfl, hbw7⟩
      have Hw7 : Hid (StillS w w7 ad) := Hw6.out.next hbw7
      clear hbw7 Hw6 HSHw6
      go_wp2_with fail
      refine (ownShards_any p l cap w7 (by omega) (HL.out _ Hw7.out.below) HNIL.out).mono ?_
      rintro e w8 ⟨⟨pw8, ⟨cw8, rfl⟩, hshw8⟩, hbw8⟩
      have Hw8 : Hid (StillS w w8 ad) := Hw7.out.next hbw8
      have HSHw8 : Hid (Shs w8 pw8 l) := hshw8
      clear hbw8 hshw8 Hw7
      go_wp2_with fail
      refine (HREB.out w8 pw8 cw8 Hw8.out.sent HSHw8.out).mono ?_
      rintro e w9 ⟨rfl, hbw9⟩
      have Hw9 : Hid (StillS w w9 ad) := Hw8.out.next hbw9
      clear hbw9 Hw8 HSHw8
      obtain ⟨w10, hw10⟩ : ∃ w10, w10 = w9.alloc (.cells #[.int .i64 0, .string ⟨#[]⟩] 25) := ⟨_, rfl⟩
      have hb10 : Below w9.heap.size w9 w10 := by rw [hw10]; exact (Below.refl _ _).alloc (Nat.le_refl _) _
      have hs10 : w9.heap.size < w10.heap.size := by rw [hw10]; simp
      have x1 : w10.cell? ⟨w9.heap.size, 0, none⟩ = some (.int .i64 0) := by rw [hw10, World.cell?_alloc_at _ _ _ _ rfl]; rfl
      have x2 : w10.cell? ⟨w9.heap.size, 1, none⟩ = some (.string ⟨#[]⟩) := by rw [hw10, World.cell?_alloc_at _ _ _ _ rfl]; rfl
      have Hw10 : Hid (StillS w w10 ad) := Hw9.out.next hb10
      have HXC : Hid (∀ W, Below w10.heap.size w10 W → W.cell? ⟨w9.heap.size, 0, none⟩ = some (.int .i64 0) ∧ W.cell? ⟨w9.heap.size, 1, none⟩ = some (.string ⟨#[]⟩)) := fun W hW => ⟨(hW.cell (p := ⟨w9.heap.size, 0, none⟩) hs10).trans x1, (hW.cell (p := ⟨w9.heap.size, 1, none⟩) hs10).trans x2⟩
      have HW10 : Hid (w10 = w9.alloc (.cells #[.int .i64 0, .string ⟨#[]⟩] 25)) := hw10
      clear hw10 hb10 x1 x2 Hw9
      by_cases hlo : at_ < 0
      · clear hat
        go_wp2_with fail
        rw [← HW10.out]
        refine (isSpread_yes (n : Int) (k : Int) _ (by omega) (by omega) (by omega)).mono ?_
        rintro e w' ⟨rfl, hww⟩
        rw [hww]
        clear hww w'
        go_wp2_with fail
        refine (coded_bound ad _ Hw10.out.sent).mono ?_
        rintro e w12 ⟨rfl, hb12⟩
        have Hw12 : Hid (StillS w w12 ad) := Hw10.out.next hb12
        obtain ⟨z1, z2⟩ := HXC.out w12 hb12
        have HXD : Hid (∀ W, Below w12.heap.size w12 W → W.cell? ⟨w9.heap.size, 0, none⟩ = some (.int .i64 0) ∧ W.cell? ⟨w9.heap.size, 1, none⟩ = some (.string ⟨#[]⟩)) := fun W hW => HXC.out W (hb12.trans (hW.mono hb12.size))
        clear hb12 Hw10 HXC
        go_wp2_with fail
        refine (HENC.out _).mono ?_
        rintro e w14 ⟨⟨p14, c14, rfl, hs14⟩, hb14⟩
        have Hw14 : Hid (StillS w w14 ad) := Hw12.out.next hb14
        have HXE : Hid (∀ W, Below w14.heap.size w14 W → W.cell? ⟨w9.heap.size, 0, none⟩ = some (.int .i64 0) ∧ W.cell? ⟨w9.heap.size, 1, none⟩ = some (.string ⟨#[]⟩)) := fun W hW => HXD.out W (hb14.trans (hW.mono hb14.size))
        rcases hs14 with h0 | ⟨b3, o3, hp3, hlb3, hc3⟩
        · exact absurd (congrArg List.length h0) (by rw [encL_length]; simp; omega)
        subst hp3
        have HC3 : Hid (∀ q, q < n → w14.cell? ⟨b3, o3 + q * 2, none⟩ = some (.int .i64 (q : Int)) ∧ w14.cell? ⟨b3, o3 + q * 2 + 1, none⟩ = some (.string (encT k dt q))) := fun q hq => by
          have h := hc3 q (by rw [encL_length]; exact hq)
          have he : shAt (encL n k dt) q = encS k dt q := by
            unfold shAt encL
            rw [List.getD_eq_getElem?_getD, List.getElem?_map, List.getElem?_range hq]
            rfl
          rw [he] at h
          exact h
        clear hb14 Hw12 HXD hc3
        go_wp2
        go_loopw [21, 22] (fun v x wr => ∃ i : Nat, i ≤ l.length ∧ x = .int .i64 i ∧ v = .bool (!(l.take i).any (neB k dt)) ∧ Below w14.heap.size w14 wr) (fun _ x _ => l.length - (intOf x).toNat)
        case atStart => exact ⟨0, by omega, rfl, by simp, Below.refl _ _⟩
        case round =>
          obtain ⟨i, hi, rfl, rfl, hB15⟩ := hrel
          obtain ⟨w15, rfl⟩ : ∃ w15, w15 = wr := ⟨_, rfl⟩
          have HB15 : Hid (Below w14.heap.size w14 w15) := hB15
          have Hw15 : Hid (StillS w w15 ad) := Hw14.out.next hB15
          clear hB15
          by_cases hil : i < l.length
          · rcases (HL.out w15 Hw15.out.below) with h0 | ⟨b1, o1, hp1, _, hc1⟩
            · rw [h0] at hil; simp at hil
            obtain ⟨q1, q2⟩ := hc1 i hil
            have hat1 := HATS.out i hil
            have HTS : Hid ((l.take (i + 1)).any (neB k dt) = ((l.take i).any (neB k dt) || neB k dt (shAt l i))) := any_take_succ hil
            obtain ⟨a1, ha1⟩ := Int.eq_ofNat_of_zero_le hat1.1
            have ha1n : a1 < n := by omega
            have q3 : w15.cell? ⟨b3, o3 + a1 * 2, none⟩ = some (.int .i64 (a1 : Int)) := (HB15.out.cell (p := ⟨b3, o3 + a1 * 2, none⟩) hlb3).trans (HC3.out a1 ha1n).1
            have q4 : w15.cell? ⟨b3, o3 + a1 * 2 + 1, none⟩ = some (.string (encT k dt a1)) := (HB15.out.cell (p := ⟨b3, o3 + a1 * 2 + 1, none⟩) hlb3).trans (HC3.out a1 ha1n).2
            have hta : (shAt l i).1.toNat = a1 := by omega
            have HNE : Hid (neB k dt (shAt l i) = !decide ((shAt l i).2 = encT k dt a1)) := by show _ = _; unfold neB; rw [hta]
            rw [ha1] at q1
            have HPP : Hid (p = some ⟨b1, o1, none⟩) := hp1
            clear hc1 hat1 ha1 hta hp1
            generalize (shAt l i).2 = t at q2 HNE
            generalize encT k dt a1 = u at q4 HNE
            generalize (l.take i).any (neB k dt) = bb at *
            have HPV : Hid (∀ v : Option Addr, v = some ⟨b1, o1, none⟩ → v = some ⟨b1, o1, none⟩) := fun _ h => h
            clear HPV
            rw [HPP.out]
            by_cases he : t = u
            · subst he
              go_wp2
              go_quiet (fail)
              go_wp2
              go_roundw
              case rel => exact ⟨i + 1, by omega, by go_num, by rw [HTS.out, HNE.out]; simp, below_drewN HB15.out _⟩
              case measure => simp [intOf]; omega
            · have hl1 : ¬ u.toList = t.toList := fun e => he (toList_inj e).symm
              have hl2 : (u.toList == t.toList) = false := by simpa using hl1
              have HNT : Hid (neB k dt (shAt l i) = true) := by show _ = _; rw [HNE.out]; simp [he]
              clear he
              go_wp2
              go_quiet (fail)
              go_wp2
              go_roundw
              case rel => exact ⟨i + 1, by omega, by go_num, by rw [HTS.out, HNT.out]; simp, below_drewN HB15.out _⟩
              case measure => simp [intOf]; omega
          · have htk : l.take i = l := List.take_of_length_le (by omega)
            rw [htk]
            obtain ⟨y1, y2⟩ := HXE.out w15 HB15.out
            clear htk
            generalize l.any (neB k dt) = bb at *
            go_wp2
            go_quiet (fail)
            go_wp2
            go_ret
            exact ⟨rfl, below_drewN Hw15.out.below _⟩
      · have hhi : (n : Int) ≤ at_ := by omega
        clear hat
        go_wp2_with fail
        rw [← HW10.out]
        refine (isSpread_yes (n : Int) (k : Int) _ (by omega) (by omega) (by omega)).mono ?_
        rintro e w' ⟨rfl, hww⟩
        rw [hww]
        clear hww w'
        go_wp2_with fail
        refine (coded_bound ad _ Hw10.out.sent).mono ?_
        rintro e w12 ⟨rfl, hb12⟩
        have Hw12 : Hid (StillS w w12 ad) := Hw10.out.next hb12
        obtain ⟨z1, z2⟩ := HXC.out w12 hb12
        have HXD : Hid (∀ W, Below w12.heap.size w12 W → W.cell? ⟨w9.heap.size, 0, none⟩ = some (.int .i64 0) ∧ W.cell? ⟨w9.heap.size, 1, none⟩ = some (.string ⟨#[]⟩)) := fun W hW => HXC.out W (hb12.trans (hW.mono hb12.size))
        clear hb12 Hw10 HXC
        go_wp2_with fail
        refine (HENC.out _).mono ?_
        rintro e w14 ⟨⟨p14, c14, rfl, hs14⟩, hb14⟩
        have Hw14 : Hid (StillS w w14 ad) := Hw12.out.next hb14
        have HXE : Hid (∀ W, Below w14.heap.size w14 W → W.cell? ⟨w9.heap.size, 0, none⟩ = some (.int .i64 0) ∧ W.cell? ⟨w9.heap.size, 1, none⟩ = some (.string ⟨#[]⟩)) := fun W hW => HXD.out W (hb14.trans (hW.mono hb14.size))
        rcases hs14 with h0 | ⟨b3, o3, hp3, hlb3, hc3⟩
        · exact absurd (congrArg List.length h0) (by rw [encL_length]; simp; omega)
        subst hp3
        have HC3 : Hid (∀ q, q < n → w14.cell? ⟨b3, o3 + q * 2, none⟩ = some (.int .i64 (q : Int)) ∧ w14.cell? ⟨b3, o3 + q * 2 + 1, none⟩ = some (.string (encT k dt q))) := fun q hq => by
          have h := hc3 q (by rw [encL_length]; exact hq)
          have he : shAt (encL n k dt) q = encS k dt q := by
            unfold shAt encL
            rw [List.getD_eq_getElem?_getD, List.getElem?_map, List.getElem?_range hq]
            rfl
          rw [he] at h
          exact h
        clear hb14 Hw12 HXD hc3
        go_wp2
        go_loopw [21, 22] (fun v x wr => ∃ i : Nat, i ≤ l.length ∧ x = .int .i64 i ∧ v = .bool (!(l.take i).any (neB k dt)) ∧ Below w14.heap.size w14 wr) (fun _ x _ => l.length - (intOf x).toNat)
        case atStart => exact ⟨0, by omega, rfl, by simp, Below.refl _ _⟩
        case round =>
          obtain ⟨i, hi, rfl, rfl, hB15⟩ := hrel
          obtain ⟨w15, rfl⟩ : ∃ w15, w15 = wr := ⟨_, rfl⟩
          have HB15 : Hid (Below w14.heap.size w14 w15) := hB15
          have Hw15 : Hid (StillS w w15 ad) := Hw14.out.next hB15
          clear hB15
          by_cases hil : i < l.length
          · rcases (HL.out w15 Hw15.out.below) with h0 | ⟨b1, o1, hp1, _, hc1⟩
            · rw [h0] at hil; simp at hil
            obtain ⟨q1, q2⟩ := hc1 i hil
            have hat1 := HATS.out i hil
            have HTS : Hid ((l.take (i + 1)).any (neB k dt) = ((l.take i).any (neB k dt) || neB k dt (shAt l i))) := any_take_succ hil
            obtain ⟨a1, ha1⟩ := Int.eq_ofNat_of_zero_le hat1.1
            have ha1n : a1 < n := by omega
            have q3 : w15.cell? ⟨b3, o3 + a1 * 2, none⟩ = some (.int .i64 (a1 : Int)) := (HB15.out.cell (p := ⟨b3, o3 + a1 * 2, none⟩) hlb3).trans (HC3.out a1 ha1n).1
            have q4 : w15.cell? ⟨b3, o3 + a1 * 2 + 1, none⟩ = some (.string (encT k dt a1)) := (HB15.out.cell (p := ⟨b3, o3 + a1 * 2 + 1, none⟩) hlb3).trans (HC3.out a1 ha1n).2
            have hta : (shAt l i).1.toNat = a1 := by omega
            have HNE : Hid (neB k dt (shAt l i) = !decide ((shAt l i).2 = encT k dt a1)) := by show _ = _; unfold neB; rw [hta]
            rw [ha1] at q1
            have HPP : Hid (p = some ⟨b1, o1, none⟩) := hp1
            clear hc1 hat1 ha1 hta hp1
            generalize (shAt l i).2 = t at q2 HNE
            generalize encT k dt a1 = u at q4 HNE
            generalize (l.take i).any (neB k dt) = bb at *
            have HPV : Hid (∀ v : Option Addr, v = some ⟨b1, o1, none⟩ → v = some ⟨b1, o1, none⟩) := fun _ h => h
            clear HPV
            rw [HPP.out]
            by_cases he : t = u
            · subst he
              go_wp2
              go_quiet (fail)
              go_wp2
              go_roundw
              case rel => exact ⟨i + 1, by omega, by go_num, by rw [HTS.out, HNE.out]; simp, below_drewN HB15.out _⟩
              case measure => simp [intOf]; omega
            · have hl1 : ¬ u.toList = t.toList := fun e => he (toList_inj e).symm
              have hl2 : (u.toList == t.toList) = false := by simpa using hl1
              have HNT : Hid (neB k dt (shAt l i) = true) := by show _ = _; rw [HNE.out]; simp [he]
              clear he
              go_wp2
              go_quiet (fail)
              go_wp2
              go_roundw
              case rel => exact ⟨i + 1, by omega, by go_num, by rw [HTS.out, HNT.out]; simp, below_drewN HB15.out _⟩
              case measure => simp [intOf]; omega
          · have htk : l.take i = l := List.take_of_length_le (by omega)
            rw [htk]
            obtain ⟨y1, y2⟩ := HXE.out w15 HB15.out
            clear htk
            generalize l.any (neB k dt) = bb at *
            go_wp2
            go_quiet (fail)
            go_wp2
            go_ret
            exact ⟨rfl, below_drewN Hw15.out.below _⟩
theorem rebuild_err (n k size at_ : Int) (l : List (Int × ByteArray)) (ad : Nat → Addr) (ei : Nat) (h0 : 0 ≤ at_) (h1 : at_ < n)
    (hdec : ∀ W q cq, Sent W ad → Shs W q l → Calls Tryd.prog 7 #[.int .i64 n, .int .i64 k, .int .i64 size, .slice q l.length cq] W fun e w' => e = .returned (.tuple #[.string ⟨#[]⟩, .iface 200 (.pointer (some (ad ei)))]) ∧ Below W.heap.size W w') :
    ∀ W q cq, Sent W ad → Shs W q l → Calls Tryd.prog 12 #[.int .i64 n, .int .i64 k, .int .i64 size, .int .i64 at_, .slice q l.length cq] W fun e w' => e = .returned (.tuple #[.agg #[.int .i64 0, .string ⟨#[]⟩], .iface 200 (.pointer (some (ad ei)))]) ∧ Below W.heap.size W w' :=
  fun W q cq hW hq => rebuild_bad n (.int .i64 k) (.int .i64 size) (.slice q l.length cq) at_ (ad ei) W h0 h1 (hdec (resW W) q cq (hW.below (resW_below W)) (hq.below (resW_below W)))
theorem decLaw_any (n k size : Int) (p : Option Addr) (l : List (Int × ByteArray)) (cap : Nat) (at_ : Int) (ad : Nat → Addr) (w : World) (hl : l.length ≤ maxLen) (hb : ∀ i, (shAt l i).2.size ≤ maxLen) (hnil : p = none → cap = 0) (hs : Shs w p l) (hS : Sent w ad) :
    Calls Tryd.prog 3 #[.int .i64 n, .int .i64 k, .int .i64 size, .slice p l.length cap, .int .i64 at_] w fun e w' => e = .returned (.bool true) ∧ Below w.heap.size w w' := by
  by_cases hp : 30 < l.length ∨ 100 < size ∧ size ≤ 1000
  · exact decL_pass n k size p l cap at_ (ad 11) w hl hp hS.c11
  have hl30 : l.length ≤ 30 := by omega
  have hsz : ¬ (100 < size ∧ size ≤ 1000) := fun h => hp (Or.inr h)
  by_cases hlong : ∃ i, i < l.length ∧ 200 < (shAt l i).2.size
  · exact decL_long n k size p l cap at_ ad w hl30 hs hS hsz hb hlong
  have htx : ∀ i, (shAt l i).2.size ≤ 200 := fun i => by
    by_cases hi : i < l.length
    · exact Nat.le_of_not_lt fun h => hlong ⟨i, hi, h⟩
    · unfold shAt
      rw [List.getD_eq_getElem?_getD, List.getElem?_eq_none (by omega)]
      show 0 ≤ 200
      omega
  by_cases hbd : 1 ≤ k ∧ k ≤ n ∧ n ≤ 12 ∧ 0 ≤ size ∧ size ≤ 1000
  · obtain ⟨k', rfl⟩ := Int.eq_ofNat_of_zero_le (show 0 ≤ k by omega)
    obtain ⟨n', rfl⟩ := Int.eq_ofNat_of_zero_le (show 0 ≤ n by omega)
    obtain ⟨z', rfl⟩ := Int.eq_ofNat_of_zero_le (show 0 ≤ size by omega)
    have hk1 : 1 ≤ k' := by omega
    have hkn : k' ≤ n' := by omega
    have hn : n' ≤ 12 := by omega
    have hz : z' ≤ 1000 := by omega
    have ht5 : ∀ i, (shAt l i).2.size ≤ 100000 := fun i => by have := htx i; omega
    have isp : ∀ W, Calls Tryd.prog 13 #[.int .i64 (n' : Int), .int .i64 (k' : Int)] W fun e w' => e = .returned (.bool true) ∧ w' = W := fun W => isSpread_yes _ _ W (by omega) (by omega) (by omega)
    -- an error that is found in the shards
    have err : ∀ (ei : Nat) (c : Int), 0 < c → ei < 12 → c = ((ei + 1 : Nat) : Int) →
        (∀ W q cq, Sent W ad → Shs W q l → Calls Tryd.prog 7 #[.int .i64 (n' : Int), .int .i64 (k' : Int), .int .i64 (z' : Int), .slice q l.length cq] W fun e w' => e = .returned (.tuple #[.string ⟨#[]⟩, .iface 200 (.pointer (some (ad ei)))]) ∧ Below W.heap.size W w') →
        (∀ W q cq, Shs W q l → Calls Tryd.prog 31 #[.int .i64 (n' : Int), .int .i64 (k' : Int), .int .i64 (z' : Int), .slice q l.length cq] W fun e w' => e = .returned (.tuple #[.slice none 0 0, .int .i64 c]) ∧ Below W.heap.size W w') →
        Calls Tryd.prog 3 #[.int .i64 (n' : Int), .int .i64 (k' : Int), .int .i64 (z' : Int), .slice p l.length cap, .int .i64 at_] w fun e w' => e = .returned (.bool true) ∧ Below w.heap.size w w' := by
      intro ei c hc hei hce hdec hsome
      have hcod : ∀ W, Sent W ad → Calls Tryd.prog 10 #[.iface 200 (.pointer (some (ad ei))), .int .i64 c] W fun e w' => e = .returned (.bool true) ∧ Below W.heap.size W w' := fun W hW => by
        rw [hce]
        exact coded_sent ad ei hei W hW
      by_cases hat : at_ < 0 ∨ (n' : Int) ≤ at_
      · exact decL_err n' k' z' p l cap at_ ad w hl30 hnil hs hS hsz htx ei 1 c hc true hdec (fun W q cq hq => rdecode_bad _ _ _ _ c W hc (hsome W q cq hq)) (fun W q cq hW _ => rebuild_bound _ _ _ at_ _ (ad 1) W hat hW.c1) isp hcod (Or.inl ⟨rfl, hat, rfl⟩)
      · exact decL_err n' k' z' p l cap at_ ad w hl30 hnil hs hS hsz htx ei ei c hc true hdec (fun W q cq hq => rdecode_bad _ _ _ _ c W hc (hsome W q cq hq)) (rebuild_err n' k' z' at_ l ad ei (by omega) (by omega) hdec) isp hcod (Or.inr ⟨Or.inr ⟨by omega, by omega⟩, rfl⟩)
    by_cases hbad : l.any (badB (n' : Int) (wideN k' z')) = true
    · refine err 2 3 (by decide) (by decide) rfl (fun W q cq hW hq => decode_bad n' k' z' q l cq (ad 11) (ad 2) (ad 7) (ad 2) W hk1 hkn hn hz (by omega) hq hW.c11 hW.c2 hW.c7 (Or.inl ⟨hbad, rfl⟩)) (fun W q cq hq => ?_)
      refine (rsome_any n' k' z' q l cq W hk1 hkn hn hz (by omega) ht5 hq).mono ?_
      rintro e w' ⟨⟨v, c, rfl, hc⟩, hb'⟩
      rcases hc with ⟨rfl, rfl, _⟩ | ⟨_, _, h, _⟩ | ⟨_, h, _⟩
      · exact ⟨rfl, hb'⟩
      · exact absurd hbad (by rw [h]; decide)
      · exact absurd hbad (by rw [h]; decide)
    · have hgood : l.any (badB (n' : Int) (wideN k' z')) = false := Bool.eq_false_iff.2 hbad
      have hple := pickN_le k' l l.length
      by_cases hfew : (pickN k' l l.length).length < k'
      · refine err 7 8 (by decide) (by decide) rfl (fun W q cq hW hq => decode_bad n' k' z' q l cq (ad 11) (ad 2) (ad 7) (ad 7) W hk1 hkn hn hz (by omega) hq hW.c11 hW.c2 hW.c7 (Or.inr ⟨hgood, hfew, rfl⟩)) (fun W q cq hq => ?_)
        refine (rsome_any n' k' z' q l cq W hk1 hkn hn hz (by omega) ht5 hq).mono ?_
        rintro e w' ⟨⟨v, c, rfl, hc⟩, hb'⟩
        rcases hc with ⟨_, _, h⟩ | ⟨rfl, rfl, _, _⟩ | ⟨_, _, h, _⟩
        · exact absurd h hbad
        · exact ⟨rfl, hb'⟩
        · omega
      · have hf : Fits n' k' z' l := ⟨hgood, by omega⟩
        by_cases hat : at_ < 0 ∨ (n' : Int) ≤ at_
        · exact decL_okOut n' k' z' p l cap at_ ad w hl30 hnil hs hS hk1 hkn hn (by omega) htx hf hat
        · obtain ⟨a, rfl⟩ := Int.eq_ofNat_of_zero_le (show 0 ≤ at_ by omega)
          exact decL_okIn n' k' z' p l cap a ad w hl30 hnil hs hS hk1 hkn hn (by omega) htx hf (by omega)
  · have hdec : ∀ W q cq, Sent W ad → Shs W q l → Calls Tryd.prog 7 #[.int .i64 n, .int .i64 k, .int .i64 size, .slice q l.length cq] W fun e w' => e = .returned (.tuple #[.string ⟨#[]⟩, .iface 200 (.pointer (some (ad 1)))]) ∧ Below W.heap.size W w' := fun W q cq hW _ => decode_bound n k size _ (ad 1) W hbd hW.c1
    have href : ∀ W q cq, Shs W q l → Calls Tryd.prog 9 #[.int .i64 n, .int .i64 k, .int .i64 size, .slice q l.length cq] W fun e w' => e = .returned (.tuple #[.string ⟨#[]⟩, .int .i64 2]) ∧ Below W.heap.size W w' := fun W q cq _ => rdecode_bad _ _ _ _ 2 W (by decide) ((rsome_bound n k size _ W hbd).mono fun e w' ⟨h1, h2⟩ => ⟨h1, h2 ▸ Below.refl _ _⟩)
    have hcod : ∀ W, Sent W ad → Calls Tryd.prog 10 #[.iface 200 (.pointer (some (ad 1))), .int .i64 2] W fun e w' => e = .returned (.bool true) ∧ Below W.heap.size W w' := fun W hW => coded_bound ad W hW
    have hreb : ∀ W q cq, Sent W ad → Shs W q l → Calls Tryd.prog 12 #[.int .i64 n, .int .i64 k, .int .i64 size, .int .i64 at_, .slice q l.length cq] W fun e w' => e = .returned (.tuple #[.agg #[.int .i64 0, .string ⟨#[]⟩], .iface 200 (.pointer (some (ad 1)))]) ∧ Below W.heap.size W w' := by
      by_cases hat : at_ < 0 ∨ n ≤ at_
      · exact fun W q cq hW _ => rebuild_bound n k size at_ _ (ad 1) W hat hW.c1
      · exact rebuild_err n k size at_ l ad 1 (by omega) (by omega) hdec
    by_cases hsp : 1 ≤ k ∧ k ≤ n ∧ n ≤ 12
    · refine decL_err n k size p l cap at_ ad w hl30 hnil hs hS hsz htx 1 1 2 (by decide) true hdec href hreb (fun W => isSpread_yes n k W hsp.1 hsp.2.1 hsp.2.2) hcod ?_
      by_cases hat : at_ < 0 ∨ n ≤ at_
      · exact Or.inl ⟨rfl, hat, rfl⟩
      · exact Or.inr ⟨Or.inr ⟨by omega, by omega⟩, rfl⟩
    · exact decL_err n k size p l cap at_ ad w hl30 hnil hs hS hsz htx 1 1 2 (by decide) false hdec href hreb (fun W => isSpread_no n k W hsp) hcod (Or.inr ⟨Or.inl rfl, rfl⟩)
end Go.Proofs.YtppcijpgalaohaaDoor
