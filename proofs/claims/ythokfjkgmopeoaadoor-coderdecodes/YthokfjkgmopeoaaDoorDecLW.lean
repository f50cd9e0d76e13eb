/- The walk of the law CoderDecodes: whatever the numbers and the shards, the call returns true; nothing that was there is written. -/
import Derived.Test.YthokfjkgmopeoaaDoorRDecW
import Derived.Test.YthokfjkgmopeoaaDoorAgrW
import Derived.Test.YthokfjkgmopeoaaDoorEncLawW
namespace Go.Proofs.YthokfjkgmopeoaaDoor
open Go.RowKit
set_option maxRecDepth 10000 in
set_option maxHeartbeats 2000000 in
theorem decL_pass (n k size : Int) (p : Option Addr) (l : List (Int × ByteArray)) (cap : Nat) (at_ : Int) (z : Addr) (w : World) (hl : l.length ≤ maxLen) (h : 30 < l.length ∨ 100 < size ∧ size ≤ 1000) (hz : w.cell? ⟨11, 0, none⟩ = some (.iface 136 (.pointer (some z)))) :
    Calls Tryd.prog 4 #[.int .i64 n, .int .i64 k, .int .i64 size, .slice p l.length cap, .int .i64 at_] w fun e w' => e = .returned (.bool true) ∧ Below w.heap.size w w' := by
  unfold maxLen at hl
  have HU := single_any z w hz
  clear hz
  by_cases h1 : 30 < l.length
  · clear h
    go_enter Tryd.func4, Tryd.ntmps4
    go_wp2_with fail
    refine HU.mono ?_
    rintro e w1 ⟨rfl, hb1⟩
    clear HU
    go_wp2
    go_ret
    exact ⟨rfl, hb1⟩
  · have h2 : 100 < size := by omega
    have h3 : size ≤ 1000 := by omega
    clear h
    go_enter Tryd.func4, Tryd.ntmps4
    go_wp2_with fail
    refine HU.mono ?_
    rintro e w1 ⟨rfl, hb1⟩
    clear HU
    go_wp2
    go_ret
    exact ⟨rfl, hb1⟩
set_option maxRecDepth 10000 in
set_option maxHeartbeats 4000000 in
theorem decL_long (n k size : Int) (p : Option Addr) (l : List (Int × ByteArray)) (cap : Nat) (at_ : Int) (ad : Nat → Addr) (w : World) (hl : l.length ≤ 30) (hs : Shs w p l) (hS : Sent w ad) (hsz : ¬ (100 < size ∧ size ≤ 1000)) (hb : ∀ i, (shAt l i).2.size ≤ maxLen) (h : ∃ i, i < l.length ∧ 200 < (shAt l i).2.size) :
    Calls Tryd.prog 4 #[.int .i64 n, .int .i64 k, .int .i64 size, .slice p l.length cap, .int .i64 at_] w fun e w' => e = .returned (.bool true) ∧ Below w.heap.size w w' := by
  unfold maxLen at hb
  have HU := single_any (ad 11) w hS.c11
  have HS0 : Hid (Sent w ad) := hS
  have HL : Hid (∀ W, Below w.heap.size w W → Shs W p l) := fun W h => hs.below h
  have HSZ : Hid (∀ i, (shAt l i).2.size ≤ 9223372036854775807) := hb
  have HEX : Hid (∃ i, i < l.length ∧ 200 < (shAt l i).2.size) := h
  clear hs hS hb h
  by_cases h1 : 100 < size
  · have h2 : ¬ size ≤ 1000 := fun h2 => hsz ⟨h1, h2⟩
    clear hsz
    have g1 : decide (30 < (l.length : Int)) = false := decide_eq_false (by omega)
    go_enter Tryd.func4, Tryd.ntmps4
    go_wp2_with fail
    refine HU.mono ?_
    rintro e w1 ⟨rfl, hb1⟩
    have HB1 : Hid (Below w.heap.size w w1) := hb1
    clear HU hb1
    go_wp2
    go_loopw [12] (fun x wr => ∃ i : Nat, i ≤ l.length ∧ x = .int .i64 i ∧ (∀ j, j < i → (shAt l j).2.size ≤ 200) ∧ wr = w1) (fun x _ => l.length - (intOf x).toNat)
    case atStart => exact ⟨0, by omega, rfl, fun j hj => absurd hj (Nat.not_lt_zero _), rfl⟩
    case round =>
      obtain ⟨i, hi, rfl, hall, hww⟩ := hrel
      subst hww
      have HALL : Hid (∀ j, j < i → (shAt l j).2.size ≤ 200) := hall
      clear hall
      by_cases hil : i < l.length
      · rcases (HL.out wr HB1.out) with h0 | ⟨b1, o1, rfl, _, hc1⟩
        · rw [h0] at hil; simp at hil
        obtain ⟨_, q2⟩ := hc1 i hil
        have hsi := HSZ.out i
        clear hc1
        by_cases hlong : 200 < (shAt l i).2.size
        · generalize (shAt l i).2 = t at q2 hsi hlong
          go_wp2
          go_ret
          exact ⟨rfl, HB1.out⟩
        · have HSI : Hid ((shAt l i).2.size ≤ 200) := by show _ ≤ _; omega
          generalize (shAt l i).2 = t at q2 hsi hlong
          have hlong' : ¬ 200 < (t.size : Int) := by omega
          go_wp2
          go_roundw
          case rel =>
            refine ⟨i + 1, by omega, by go_num, fun j hj => ?_, trivial⟩
            by_cases e : j = i
            · rw [e]; exact HSI.out
            · exact HALL.out j (by omega)
          case measure => simp [intOf]; omega
      · obtain ⟨j, hj, hlong⟩ := HEX.out
        have := HALL.out j (by omega)
        omega
  · clear hsz
    have g1 : decide (30 < (l.length : Int)) = false := decide_eq_false (by omega)
    go_enter Tryd.func4, Tryd.ntmps4
    go_wp2_with fail
    refine HU.mono ?_
    rintro e w1 ⟨rfl, hb1⟩
    have HB1 : Hid (Below w.heap.size w w1) := hb1
    clear HU hb1
    go_wp2
    go_loopw [12] (fun x wr => ∃ i : Nat, i ≤ l.length ∧ x = .int .i64 i ∧ (∀ j, j < i → (shAt l j).2.size ≤ 200) ∧ wr = w1) (fun x _ => l.length - (intOf x).toNat)
    case atStart => exact ⟨0, by omega, rfl, fun j hj => absurd hj (Nat.not_lt_zero _), rfl⟩
    case round =>
      obtain ⟨i, hi, rfl, hall, hww⟩ := hrel
      subst hww
      have HALL : Hid (∀ j, j < i → (shAt l j).2.size ≤ 200) := hall
      clear hall
      by_cases hil : i < l.length
      · rcases (HL.out wr HB1.out) with h0 | ⟨b1, o1, rfl, _, hc1⟩
        · rw [h0] at hil; simp at hil
        obtain ⟨_, q2⟩ := hc1 i hil
        have hsi := HSZ.out i
        clear hc1
        by_cases hlong : 200 < (shAt l i).2.size
        · generalize (shAt l i).2 = t at q2 hsi hlong
          go_wp2
          go_ret
          exact ⟨rfl, HB1.out⟩
        · have HSI : Hid ((shAt l i).2.size ≤ 200) := by show _ ≤ _; omega
          generalize (shAt l i).2 = t at q2 hsi hlong
          have hlong' : ¬ 200 < (t.size : Int) := by omega
          go_wp2
          go_roundw
          case rel =>
            refine ⟨i + 1, by omega, by go_num, fun j hj => ?_, trivial⟩
            by_cases e : j = i
            · rw [e]; exact HSI.out
            · exact HALL.out j (by omega)
          case measure => simp [intOf]; omega
      · obtain ⟨j, hj, hlong⟩ := HEX.out
        have := HALL.out j (by omega)
        omega
set_option maxRecDepth 10000 in
set_option maxHeartbeats 8000000 in
theorem decL_err (n k size : Int) (p : Option Addr) (l : List (Int × ByteArray)) (cap : Nat) (at_ : Int) (ad : Nat → Addr) (w : World) (hl : l.length ≤ 30) (hnil : p = none → cap = 0) (hs : Shs w p l) (hS : Sent w ad) (hsz : ¬ (100 < size ∧ size ≤ 1000)) (htx : ∀ i, (shAt l i).2.size ≤ 200) (ei rb : Nat) (c : Int) (hc : 0 < c) (sp : Bool)
    (hdec : ∀ W q cq, Sent W ad → Shs W q l → Calls Tryd.prog 14 #[.int .i64 n, .int .i64 k, .int .i64 size, .slice q l.length cq] W fun e w' => e = .returned (.tuple #[.string ⟨#[]⟩, (.iface 136 (.pointer (some (ad ei))))]) ∧ Below W.heap.size W w')
    (href : ∀ W q cq, Shs W q l → Calls Tryd.prog 16 #[.int .i64 n, .int .i64 k, .int .i64 size, .slice q l.length cq] W fun e w' => e = .returned (.tuple #[.string ⟨#[]⟩, .int .i64 c]) ∧ Below W.heap.size W w')
    (hreb : ∀ W q cq, Sent W ad → Shs W q l → Calls Tryd.prog 18 #[.int .i64 n, .int .i64 k, .int .i64 size, .int .i64 at_, .slice q l.length cq] W fun e w' => e = .returned (.tuple #[.agg #[.int .i64 0, .string ⟨#[]⟩], (.iface 136 (.pointer (some (ad rb))))]) ∧ Below W.heap.size W w')
    (hisp : ∀ W, Calls Tryd.prog 10 #[.int .i64 n, .int .i64 k] W fun e w' => e = .returned (.bool sp) ∧ w' = W)
    (hcod : ∀ W, Sent W ad → Calls Tryd.prog 11 #[(.iface 136 (.pointer (some (ad ei)))), .int .i64 c] W fun e w' => e = .returned (.bool true) ∧ Below W.heap.size W w')
    (hcase : sp = true ∧ (at_ < 0 ∨ n ≤ at_) ∧ rb = 1 ∨ (sp = false ∨ 0 ≤ at_ ∧ at_ < n) ∧ rb = ei) :
    Calls Tryd.prog 4 #[.int .i64 n, .int .i64 k, .int .i64 size, .slice p l.length cap, .int .i64 at_] w fun e w' => e = .returned (.bool true) ∧ Below w.heap.size w w' := by
  have HU := single_any (ad 11) w hS.c11
  have HS0 : Hid (Sent w ad) := hS
  have HL : Hid (∀ W, Below w.heap.size w W → Shs W p l) := fun W h => hs.below h
  have HSZ : Hid (∀ i, (shAt l i).2.size ≤ 200) := htx
  have HTX : Hid (∀ i, (shAt l i).2.size ≤ 200) := htx
  have HNIL : Hid (p = none → cap = 0) := hnil
  have HDEC : Hid (∀ W q cq, Sent W ad → Shs W q l → Calls Tryd.prog 14 #[.int .i64 n, .int .i64 k, .int .i64 size, .slice q l.length cq] W fun e w' => e = .returned (.tuple #[.string ⟨#[]⟩, (.iface 136 (.pointer (some (ad ei))))]) ∧ Below W.heap.size W w') := hdec
  have HREF : Hid (∀ W q cq, Shs W q l → Calls Tryd.prog 16 #[.int .i64 n, .int .i64 k, .int .i64 size, .slice q l.length cq] W fun e w' => e = .returned (.tuple #[.string ⟨#[]⟩, .int .i64 c]) ∧ Below W.heap.size W w') := href
  have HREB : Hid (∀ W q cq, Sent W ad → Shs W q l → Calls Tryd.prog 18 #[.int .i64 n, .int .i64 k, .int .i64 size, .int .i64 at_, .slice q l.length cq] W fun e w' => e = .returned (.tuple #[.agg #[.int .i64 0, .string ⟨#[]⟩], (.iface 136 (.pointer (some (ad rb))))]) ∧ Below W.heap.size W w') := hreb
  have HISP : Hid (∀ W, Calls Tryd.prog 10 #[.int .i64 n, .int .i64 k] W fun e w' => e = .returned (.bool sp) ∧ w' = W) := hisp
  have HCOD : Hid (∀ W, Sent W ad → Calls Tryd.prog 11 #[(.iface 136 (.pointer (some (ad ei)))), .int .i64 c] W fun e w' => e = .returned (.bool true) ∧ Below W.heap.size W w') := hcod
  have HCASE : Hid (sp = true ∧ (at_ < 0 ∨ n ≤ at_) ∧ rb = 1 ∨ (sp = false ∨ 0 ≤ at_ ∧ at_ < n) ∧ rb = ei) := hcase
  clear hs hS htx hnil hdec href hreb hisp hcod hcase
  by_cases h1 : 100 < size
  · have h2 : ¬ size ≤ 1000 := fun h2 => hsz ⟨h1, h2⟩
    clear hsz
    have g1 : decide (30 < (l.length : Int)) = false := decide_eq_false (by omega)
    go_enter Tryd.func4, Tryd.ntmps4
    go_wp2_with fail
    refine HU.mono ?_
    rintro e w1 ⟨rfl, hb1⟩
    have HB1 : Hid (Below w.heap.size w w1) := hb1
    clear HU hb1
    go_wp2
    go_loopw [12] (fun x wr => ∃ i : Nat, i ≤ l.length ∧ x = .int .i64 i ∧ (∀ j, j < i → (shAt l j).2.size ≤ 200) ∧ wr = w1) (fun x _ => l.length - (intOf x).toNat)
    case atStart => exact ⟨0, by omega, rfl, fun j hj => absurd hj (Nat.not_lt_zero _), rfl⟩
    case round =>
      obtain ⟨i, hi, rfl, hall, hww⟩ := hrel
      subst hww
      have HALL : Hid (∀ j, j < i → (shAt l j).2.size ≤ 200) := hall
      clear hall
      by_cases hil : i < l.length
      · rcases (HL.out wr HB1.out) with h0 | ⟨b1, o1, rfl, _, hc1⟩
        · rw [h0] at hil; simp at hil
        obtain ⟨_, q2⟩ := hc1 i hil
        have hsi := HSZ.out i
        clear hc1
        by_cases hlong : 200 < (shAt l i).2.size
        · exact absurd (HTX.out i) (by omega)
        · have HSI : Hid ((shAt l i).2.size ≤ 200) := by show _ ≤ _; omega
          generalize (shAt l i).2 = t at q2 hsi hlong
          have hlong' : ¬ 200 < (t.size : Int) := by omega
          go_wp2
          go_roundw
          case rel =>
            refine ⟨i + 1, by omega, by go_num, fun j hj => ?_, trivial⟩
            by_cases e : j = i
            · rw [e]; exact HSI.out
            · exact HALL.out j (by omega)
          case measure => simp [intOf]; omega
      · have Hw1 : Hid (StillS w wr ad) := ⟨HS0.out.below HB1.out, HB1.out⟩
        obtain ⟨w1, rfl⟩ : ∃ w1, w1 = wr := ⟨_, rfl⟩
        clear HALL
        go_wp2_with fail
        refine (ownShards_any p l cap w1 (by omega) (HL.out _ Hw1.out.below) HNIL.out).mono ?_
        rintro e w2 ⟨⟨pw2, ⟨cw2, rfl⟩, hshw2⟩, hbw2⟩
        have Hw2 : Hid (StillS w w2 ad) := Hw1.out.next hbw2
        have HSHw2 : Hid (Shs w2 pw2 l) := hshw2
        clear hbw2 hshw2 Hw1
        go_wp2_with fail
        refine (HDEC.out w2 pw2 cw2 Hw2.out.sent HSHw2.out).mono ?_
        rintro e w3 ⟨rfl, hbw3⟩
        have Hw3 : Hid (StillS w w3 ad) := Hw2.out.next hbw3
        clear hbw3 Hw2 HSHw2
        go_wp2_with fail
        refine (HREF.out w3 p cap (HL.out _ Hw3.out.below)).mono ?_
        rintro e w4 ⟨rfl, hbw4⟩
        have Hw4 : Hid (StillS w w4 ad) := Hw3.out.next hbw4
        clear hbw4 Hw3
        go_wp2_with fail
        refine (HCOD.out _ Hw4.out.sent).mono ?_
        rintro e w5 ⟨rfl, hbw5⟩
        have Hw5 : Hid (StillS w w5 ad) := Hw4.out.next hbw5
        clear hbw5 Hw4
        go_wp2_with fail
        refine (ownShards_any p l cap w5 (by omega) (HL.out _ Hw5.out.below) HNIL.out).mono ?_
        rintro e w6 ⟨⟨pw6, ⟨cw6, rfl⟩, hshw6⟩, hbw6⟩
        have Hw6 : Hid (StillS w w6 ad) := Hw5.out.next hbw6
        have HSHw6 : Hid (Shs w6 pw6 l) := hshw6
        clear hbw6 hshw6 Hw5
        go_wp2_with fail
        refine (agree_bad _ _ _ _ (ad ei) w6 (HDEC.out w6 pw6 cw6 Hw6.out.sent HSHw6.out)).mono ?_
        rintro e w7 ⟨rfl, hbw7⟩
        have Hw7 : Hid (StillS w w7 ad) := Hw6.out.next hbw7
        clear hbw7 Hw6 HSHw6
        go_wp2_with fail
        refine (ownShards_any p l cap w7 (by omega) (HL.out _ Hw7.out.below) HNIL.out).mono ?_
        rintro e w8 ⟨⟨pw8, ⟨cw8, rfl⟩, hshw8⟩, hbw8⟩
        have Hw8 : Hid (StillS w w8 ad) := Hw7.out.next hbw8
        have HSHw8 : Hid (Shs w8 pw8 l) := hshw8
        clear hbw8 hshw8 Hw7
        go_wp2_with fail
        refine (HREB.out w8 pw8 cw8 Hw8.out.sent HSHw8.out).mono ?_
        rintro e w9 ⟨rfl, hbw9⟩
        have Hw9 : Hid (StillS w w9 ad) := Hw8.out.next hbw9
        clear hbw9 Hw8 HSHw8
        obtain ⟨w10, hw10⟩ : ∃ w10, w10 = w9.alloc (.cells #[.int .i64 0, .string ⟨#[]⟩] 34) := ⟨_, rfl⟩
        have hb10 : Below w9.heap.size w9 w10 := by rw [hw10]; exact (Below.refl _ _).alloc (Nat.le_refl _) _
        have hs10 : w9.heap.size < w10.heap.size := by rw [hw10]; simp
        have x1 : w10.cell? ⟨w9.heap.size, 0, none⟩ = some (.int .i64 0) := by rw [hw10, World.cell?_alloc_at _ _ _ _ rfl]; rfl
        have x2 : w10.cell? ⟨w9.heap.size, 1, none⟩ = some (.string ⟨#[]⟩) := by rw [hw10, World.cell?_alloc_at _ _ _ _ rfl]; rfl
        have Hw10 : Hid (StillS w w10 ad) := Hw9.out.next hb10
        have HXC : Hid (∀ W, Below w10.heap.size w10 W → W.cell? ⟨w9.heap.size, 0, none⟩ = some (.int .i64 0) ∧ W.cell? ⟨w9.heap.size, 1, none⟩ = some (.string ⟨#[]⟩)) := fun W hW => ⟨(hW.cell (p := ⟨w9.heap.size, 0, none⟩) hs10).trans x1, (hW.cell (p := ⟨w9.heap.size, 1, none⟩) hs10).trans x2⟩
        have HW10 : Hid (w10 = w9.alloc (.cells #[.int .i64 0, .string ⟨#[]⟩] 34)) := hw10
        clear hw10 hb10 x1 x2 Hw9
        rcases HCASE.out with ⟨hsp, hat, hrb⟩ | ⟨hat, hrb⟩
        · subst hsp hrb
          by_cases hlo : at_ < 0
          · clear hat
            go_wp2_with fail
            rw [← HW10.out]
            refine (HISP.out _).mono ?_
            rintro e w' ⟨rfl, hww⟩
            rw [hww]
            clear hww w'
            go_wp2_with fail
            refine (coded_bound ad _ Hw10.out.sent).mono ?_
            rintro e w12 ⟨rfl, hb12⟩
            have Hw12 : Hid (StillS w w12 ad) := Hw10.out.next hb12
            obtain ⟨y1, y2⟩ := HXC.out w12 hb12
            have HXD : Hid (∀ W, Below w12.heap.size w12 W → W.cell? ⟨w9.heap.size, 0, none⟩ = some (.int .i64 0) ∧ W.cell? ⟨w9.heap.size, 1, none⟩ = some (.string ⟨#[]⟩)) := fun W hW => HXC.out W (hb12.trans (hW.mono hb12.size))
            clear hb12 Hw10 HXC
            go_wp2_with fail
            refine (HCOD.out _ Hw12.out.sent).mono ?_
            rintro e w13 ⟨rfl, hb13⟩
            obtain ⟨z1, z2⟩ := HXD.out w13 hb13
            have Hw13 : Hid (StillS w w13 ad) := Hw12.out.next hb13
            clear hb13 Hw12 HXD y1 y2
            go_wp2
            go_ret
            exact ⟨rfl, Hw13.out.below⟩
          · have hhi : n ≤ at_ := by omega
            clear hat
            go_wp2_with fail
            rw [← HW10.out]
            refine (HISP.out _).mono ?_
            rintro e w' ⟨rfl, hww⟩
            rw [hww]
            clear hww w'
            go_wp2_with fail
            refine (coded_bound ad _ Hw10.out.sent).mono ?_
            rintro e w12 ⟨rfl, hb12⟩
            have Hw12 : Hid (StillS w w12 ad) := Hw10.out.next hb12
            obtain ⟨y1, y2⟩ := HXC.out w12 hb12
            have HXD : Hid (∀ W, Below w12.heap.size w12 W → W.cell? ⟨w9.heap.size, 0, none⟩ = some (.int .i64 0) ∧ W.cell? ⟨w9.heap.size, 1, none⟩ = some (.string ⟨#[]⟩)) := fun W hW => HXC.out W (hb12.trans (hW.mono hb12.size))
            clear hb12 Hw10 HXC
            go_wp2_with fail
            refine (HCOD.out _ Hw12.out.sent).mono ?_
            rintro e w13 ⟨rfl, hb13⟩
            obtain ⟨z1, z2⟩ := HXD.out w13 hb13
            have Hw13 : Hid (StillS w w13 ad) := Hw12.out.next hb13
            clear hb13 Hw12 HXD y1 y2
            go_wp2
            go_ret
            exact ⟨rfl, Hw13.out.below⟩
        · subst hrb
          by_cases hsp : sp = true
          · have hlo : ¬ at_ < 0 := by
              rcases hat with h | h
              · rw [h] at hsp; cases hsp
              · omega
            have hhi : ¬ n ≤ at_ := by
              rcases hat with h | h
              · rw [h] at hsp; cases hsp
              · omega
            clear hat
            subst hsp
            go_wp2_with fail
            rw [← HW10.out]
            refine (HISP.out _).mono ?_
            rintro e w' ⟨rfl, hww⟩
            rw [hww]
            clear hww w'
            go_wp2_with fail
            refine (HCOD.out _ Hw10.out.sent).mono ?_
            rintro e w12 ⟨rfl, hb12⟩
            have Hw12 : Hid (StillS w w12 ad) := Hw10.out.next hb12
            have HXD : Hid (∀ W, Below w12.heap.size w12 W → W.cell? ⟨w9.heap.size, 0, none⟩ = some (.int .i64 0) ∧ W.cell? ⟨w9.heap.size, 1, none⟩ = some (.string ⟨#[]⟩)) := fun W hW => HXC.out W (hb12.trans (hW.mono hb12.size))
            clear hb12 Hw10 HXC
            go_wp2_with fail
            refine (HCOD.out _ Hw12.out.sent).mono ?_
            rintro e w13 ⟨rfl, hb13⟩
            obtain ⟨z1, z2⟩ := HXD.out w13 hb13
            have Hw13 : Hid (StillS w w13 ad) := Hw12.out.next hb13
            clear hb13 Hw12 HXD
            go_wp2
            go_ret
            exact ⟨rfl, Hw13.out.below⟩
          · have hsp' : sp = false := Bool.eq_false_iff.2 hsp
            clear hat hsp
            subst hsp'
            go_wp2_with fail
            rw [← HW10.out]
            refine (HISP.out _).mono ?_
            rintro e w' ⟨rfl, hww⟩
            rw [hww]
            clear hww w'
            go_wp2_with fail
            refine (HCOD.out _ Hw10.out.sent).mono ?_
            rintro e w12 ⟨rfl, hb12⟩
            have Hw12 : Hid (StillS w w12 ad) := Hw10.out.next hb12
            have HXD : Hid (∀ W, Below w12.heap.size w12 W → W.cell? ⟨w9.heap.size, 0, none⟩ = some (.int .i64 0) ∧ W.cell? ⟨w9.heap.size, 1, none⟩ = some (.string ⟨#[]⟩)) := fun W hW => HXC.out W (hb12.trans (hW.mono hb12.size))
            clear hb12 Hw10 HXC
            go_wp2_with fail
            refine (HCOD.out _ Hw12.out.sent).mono ?_
            rintro e w13 ⟨rfl, hb13⟩
            obtain ⟨z1, z2⟩ := HXD.out w13 hb13
            have Hw13 : Hid (StillS w w13 ad) := Hw12.out.next hb13
            clear hb13 Hw12 HXD
            go_wp2
            go_ret
            exact ⟨rfl, Hw13.out.below⟩
  · clear hsz
    have g1 : decide (30 < (l.length : Int)) = false := decide_eq_false (by omega)
    go_enter Tryd.func4, Tryd.ntmps4
    go_wp2_with fail
    refine HU.mono ?_
    rintro e w1 ⟨rfl, hb1⟩
    have HB1 : Hid (Below w.heap.size w w1) := hb1
    clear HU hb1
    go_wp2
    go_loopw [12] (fun x wr => ∃ i : Nat, i ≤ l.length ∧ x = .int .i64 i ∧ (∀ j, j < i → (shAt l j).2.size ≤ 200) ∧ wr = w1) (fun x _ => l.length - (intOf x).toNat)
    case atStart => exact ⟨0, by omega, rfl, fun j hj => absurd hj (Nat.not_lt_zero _), rfl⟩
    case round =>
      obtain ⟨i, hi, rfl, hall, hww⟩ := hrel
      subst hww
      have HALL : Hid (∀ j, j < i → (shAt l j).2.size ≤ 200) := hall
      clear hall
      by_cases hil : i < l.length
      · rcases (HL.out wr HB1.out) with h0 | ⟨b1, o1, rfl, _, hc1⟩
        · rw [h0] at hil; simp at hil
        obtain ⟨_, q2⟩ := hc1 i hil
        have hsi := HSZ.out i
        clear hc1
        by_cases hlong : 200 < (shAt l i).2.size
        · exact absurd (HTX.out i) (by omega)
        · have HSI : Hid ((shAt l i).2.size ≤ 200) := by show _ ≤ _; omega
          generalize (shAt l i).2 = t at q2 hsi hlong
          have hlong' : ¬ 200 < (t.size : Int) := by omega
          go_wp2
          go_roundw
          case rel =>
            refine ⟨i + 1, by omega, by go_num, fun j hj => ?_, trivial⟩
            by_cases e : j = i
            · rw [e]; exact HSI.out
            · exact HALL.out j (by omega)
          case measure => simp [intOf]; omega
      · have Hw1 : Hid (StillS w wr ad) := ⟨HS0.out.below HB1.out, HB1.out⟩
        obtain ⟨w1, rfl⟩ : ∃ w1, w1 = wr := ⟨_, rfl⟩
        clear HALL
        go_wp2_with fail
        refine (ownShards_any p l cap w1 (by omega) (HL.out _ Hw1.out.below) HNIL.out).mono ?_
        rintro e w2 ⟨⟨pw2, ⟨cw2, rfl⟩, hshw2⟩, hbw2⟩
        have Hw2 : Hid (StillS w w2 ad) := Hw1.out.next hbw2
        have HSHw2 : Hid (Shs w2 pw2 l) := hshw2
        clear hbw2 hshw2 Hw1
        go_wp2_with fail
        refine (HDEC.out w2 pw2 cw2 Hw2.out.sent HSHw2.out).mono ?_
        rintro e w3 ⟨rfl, hbw3⟩
        have Hw3 : Hid (StillS w w3 ad) := Hw2.out.next hbw3
        clear hbw3 Hw2 HSHw2
        go_wp2_with fail
        refine (HREF.out w3 p cap (HL.out _ Hw3.out.below)).mono ?_
        rintro e w4 ⟨rfl, hbw4⟩
        have Hw4 : Hid (StillS w w4 ad) := Hw3.out.next hbw4
        clear hbw4 Hw3
        go_wp2_with fail
        refine (HCOD.out _ Hw4.out.sent).mono ?_
        rintro e w5 ⟨rfl, hbw5⟩
        have Hw5 : Hid (StillS w w5 ad) := Hw4.out.next hbw5
        clear hbw5 Hw4
        go_wp2_with fail
        refine (ownShards_any p l cap w5 (by omega) (HL.out _ Hw5.out.below) HNIL.out).mono ?_
        rintro e w6 ⟨⟨pw6, ⟨cw6, rfl⟩, hshw6⟩, hbw6⟩
        have Hw6 : Hid (StillS w w6 ad) := Hw5.out.next hbw6
        have HSHw6 : Hid (Shs w6 pw6 l) := hshw6
        clear hbw6 hshw6 Hw5
        go_wp2_with fail
        refine (agree_bad _ _ _ _ (ad ei) w6 (HDEC.out w6 pw6 cw6 Hw6.out.sent HSHw6.out)).mono ?_
        rintro e w7 ⟨rfl, hbw7⟩
        have Hw7 : Hid (StillS w w7 ad) := Hw6.out.next hbw7
        clear hbw7 Hw6 HSHw6
        go_wp2_with fail
        refine (ownShards_any p l cap w7 (by omega) (HL.out _ Hw7.out.below) HNIL.out).mono ?_
        rintro e w8 ⟨⟨pw8, ⟨cw8, rfl⟩, hshw8⟩, hbw8⟩
        have Hw8 : Hid (StillS w w8 ad) := Hw7.out.next hbw8
        have HSHw8 : Hid (Shs w8 pw8 l) := hshw8
        clear hbw8 hshw8 Hw7
        go_wp2_with fail
        refine (HREB.out w8 pw8 cw8 Hw8.out.sent HSHw8.out).mono ?_
        rintro e w9 ⟨rfl, hbw9⟩
        have Hw9 : Hid (StillS w w9 ad) := Hw8.out.next hbw9
        clear hbw9 Hw8 HSHw8
        obtain ⟨w10, hw10⟩ : ∃ w10, w10 = w9.alloc (.cells #[.int .i64 0, .string ⟨#[]⟩] 34) := ⟨_, rfl⟩
        have hb10 : Below w9.heap.size w9 w10 := by rw [hw10]; exact (Below.refl _ _).alloc (Nat.le_refl _) _
        have hs10 : w9.heap.size < w10.heap.size := by rw [hw10]; simp
        have x1 : w10.cell? ⟨w9.heap.size, 0, none⟩ = some (.int .i64 0) := by rw [hw10, World.cell?_alloc_at _ _ _ _ rfl]; rfl
        have x2 : w10.cell? ⟨w9.heap.size, 1, none⟩ = some (.string ⟨#[]⟩) := by rw [hw10, World.cell?_alloc_at _ _ _ _ rfl]; rfl
        have Hw10 : Hid (StillS w w10 ad) := Hw9.out.next hb10
        have HXC : Hid (∀ W, Below w10.heap.size w10 W → W.cell? ⟨w9.heap.size, 0, none⟩ = some (.int .i64 0) ∧ W.cell? ⟨w9.heap.size, 1, none⟩ = some (.string ⟨#[]⟩)) := fun W hW => ⟨(hW.cell (p := ⟨w9.heap.size, 0, none⟩) hs10).trans x1, (hW.cell (p := ⟨w9.heap.size, 1, none⟩) hs10).trans x2⟩
        have HW10 : Hid (w10 = w9.alloc (.cells #[.int .i64 0, .string ⟨#[]⟩] 34)) := hw10
        clear hw10 hb10 x1 x2 Hw9
        rcases HCASE.out with ⟨hsp, hat, hrb⟩ | ⟨hat, hrb⟩
        · subst hsp hrb
          by_cases hlo : at_ < 0
          · clear hat
            go_wp2_with fail
            rw [← HW10.out]
            refine (HISP.out _).mono ?_
            rintro e w' ⟨rfl, hww⟩
            rw [hww]
            clear hww w'
            go_wp2_with fail
            refine (coded_bound ad _ Hw10.out.sent).mono ?_
            rintro e w12 ⟨rfl, hb12⟩
            have Hw12 : Hid (StillS w w12 ad) := Hw10.out.next hb12
            obtain ⟨y1, y2⟩ := HXC.out w12 hb12
            have HXD : Hid (∀ W, Below w12.heap.size w12 W → W.cell? ⟨w9.heap.size, 0, none⟩ = some (.int .i64 0) ∧ W.cell? ⟨w9.heap.size, 1, none⟩ = some (.string ⟨#[]⟩)) := fun W hW => HXC.out W (hb12.trans (hW.mono hb12.size))
            clear hb12 Hw10 HXC
            go_wp2_with fail
            refine (HCOD.out _ Hw12.out.sent).mono ?_
            rintro e w13 ⟨rfl, hb13⟩
            obtain ⟨z1, z2⟩ := HXD.out w13 hb13
            have Hw13 : Hid (StillS w w13 ad) := Hw12.out.next hb13
            clear hb13 Hw12 HXD y1 y2
            go_wp2
            go_ret
            exact ⟨rfl, Hw13.out.below⟩
          · have hhi : n ≤ at_ := by omega
            clear hat
            go_wp2_with fail
            rw [← HW10.out]
            refine (HISP.out _).mono ?_
            rintro e w' ⟨rfl, hww⟩
            rw [hww]
            clear hww w'
            go_wp2_with fail
            refine (coded_bound ad _ Hw10.out.sent).mono ?_
            rintro e w12 ⟨rfl, hb12⟩
            have Hw12 : Hid (StillS w w12 ad) := Hw10.out.next hb12
            obtain ⟨y1, y2⟩ := HXC.out w12 hb12
            have HXD : Hid (∀ W, Below w12.heap.size w12 W → W.cell? ⟨w9.heap.size, 0, none⟩ = some (.int .i64 0) ∧ W.cell? ⟨w9.heap.size, 1, none⟩ = some (.string ⟨#[]⟩)) := fun W hW => HXC.out W (hb12.trans (hW.mono hb12.size))
            clear hb12 Hw10 HXC
            go_wp2_with fail
            refine (HCOD.out _ Hw12.out.sent).mono ?_
            rintro e w13 ⟨rfl, hb13⟩
            obtain ⟨z1, z2⟩ := HXD.out w13 hb13
            have Hw13 : Hid (StillS w w13 ad) := Hw12.out.next hb13
            clear hb13 Hw12 HXD y1 y2
            go_wp2
            go_ret
            exact ⟨rfl, Hw13.out.below⟩
        · subst hrb
          by_cases hsp : sp = true
          · have hlo : ¬ at_ < 0 := by
              rcases hat with h | h
              · rw [h] at hsp; cases hsp
              · omega
            have hhi : ¬ n ≤ at_ := by
              rcases hat with h | h
              · rw [h] at hsp; cases hsp
              · omega
            clear hat
            subst hsp
            go_wp2_with fail
            rw [← HW10.out]
            refine (HISP.out _).mono ?_
            rintro e w' ⟨rfl, hww⟩
            rw [hww]
            clear hww w'
            go_wp2_with fail
            refine (HCOD.out _ Hw10.out.sent).mono ?_
            rintro e w12 ⟨rfl, hb12⟩
            have Hw12 : Hid (StillS w w12 ad) := Hw10.out.next hb12
            have HXD : Hid (∀ W, Below w12.heap.size w12 W → W.cell? ⟨w9.heap.size, 0, none⟩ = some (.int .i64 0) ∧ W.cell? ⟨w9.heap.size, 1, none⟩ = some (.string ⟨#[]⟩)) := fun W hW => HXC.out W (hb12.trans (hW.mono hb12.size))
            clear hb12 Hw10 HXC
            go_wp2_with fail
            refine (HCOD.out _ Hw12.out.sent).mono ?_
            rintro e w13 ⟨rfl, hb13⟩
            obtain ⟨z1, z2⟩ := HXD.out w13 hb13
            have Hw13 : Hid (StillS w w13 ad) := Hw12.out.next hb13
            clear hb13 Hw12 HXD
            go_wp2
            go_ret
            exact ⟨rfl, Hw13.out.below⟩
          · have hsp' : sp = false := Bool.eq_false_iff.2 hsp
            clear hat hsp
            subst hsp'
            go_wp2_with fail
            rw [← HW10.out]
            refine (HISP.out _).mono ?_
            rintro e w' ⟨rfl, hww⟩
            rw [hww]
            clear hww w'
            go_wp2_with fail
            refine (HCOD.out _ Hw10.out.sent).mono ?_
            rintro e w12 ⟨rfl, hb12⟩
            have Hw12 : Hid (StillS w w12 ad) := Hw10.out.next hb12
            have HXD : Hid (∀ W, Below w12.heap.size w12 W → W.cell? ⟨w9.heap.size, 0, none⟩ = some (.int .i64 0) ∧ W.cell? ⟨w9.heap.size, 1, none⟩ = some (.string ⟨#[]⟩)) := fun W hW => HXC.out W (hb12.trans (hW.mono hb12.size))
            clear hb12 Hw10 HXC
            go_wp2_with fail
            refine (HCOD.out _ Hw12.out.sent).mono ?_
            rintro e w13 ⟨rfl, hb13⟩
            obtain ⟨z1, z2⟩ := HXD.out w13 hb13
            have Hw13 : Hid (StillS w w13 ad) := Hw12.out.next hb13
            clear hb13 Hw12 HXD
            go_wp2
            go_ret
            exact ⟨rfl, Hw13.out.below⟩
end Go.Proofs.YthokfjkgmopeoaaDoor
