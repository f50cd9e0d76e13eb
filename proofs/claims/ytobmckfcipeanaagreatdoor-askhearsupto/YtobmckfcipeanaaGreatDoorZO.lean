import Derived.Test.YtobmckfcipeanaaGreatDoorZA
import Derived.Test.YtobmckfcipeanaaGreatDoorRgShW
import Derived.Laws.RangeAny
import Derived.BigQuiet
import Derived.Test.YtobmckfcipeanaaGreatDoorYB
namespace Go.Proofs.YtobmckfcipeanaaGreatDoor
open Go.RowKit
set_option maxRecDepth 10000 in
set_option maxHeartbeats 1000000 in
theorem sign_any (r : Nat) (W : World) : Calls Tryz.prog 76 #[.int .i32 (r : Int)] W fun e w' => e = .returned (.bool (!letterB r)) /\ w' = W := by
 have key : ∀ b, letterB r = b -> Hid ((!letterB r) = (!b)) := fun b h => by show _ = _; rw [h]
 rcases (show (97 <= r /\ r <= 122) ∨ (48 <= r /\ r <= 57) ∨ r = 45 ∨ 122 < r ∨ (57 < r /\ r < 97) ∨ (r < 48 /\ r ≠ 45) by omega) with hc | hc | hc | hc | hc | hc
 ·have HL := key true (by simp [letterB, hc])
  obtain ⟨hc1, hc2⟩ := hc
  have d1 : decide ((r : Int) < 97) = false := decide_eq_false (by omega)
  have d2 : decide (122 < (r : Int)) = false := decide_eq_false (by omega)
  rw [HL.out]
  clear key
  go_enter Tryz.func76, Tryz.ntmps76
  go_wp2
  go_ret
  exact ⟨rfl, rfl⟩
 ·have HL := key true (by simp [letterB, hc])
  obtain ⟨hc1, hc2⟩ := hc
  have d1 : decide ((r : Int) < 97) = true := decide_eq_true (by omega)
  have d3 : decide ((r : Int) < 48) = false := decide_eq_false (by omega)
  have d4 : decide (57 < (r : Int)) = false := decide_eq_false (by omega)
  rw [HL.out]
  clear key
  go_enter Tryz.func76, Tryz.ntmps76
  go_wp2
  go_ret
  exact ⟨rfl, rfl⟩
 ·have HL := key true (by simp [letterB, hc])
  subst hc
  rw [HL.out]
  clear key
  go_enter Tryz.func76, Tryz.ntmps76
  go_wp2
  go_ret
  exact ⟨rfl, rfl⟩
 ·have HL := key false (by unfold letterB; rw [decide_eq_false (by omega), decide_eq_false (by omega), decide_eq_false (by omega)]; rfl)
  have d1 : decide ((r : Int) < 97) = false := decide_eq_false (by omega)
  have d2 : decide (122 < (r : Int)) = true := decide_eq_true (by omega)
  have d3 : decide ((r : Int) < 48) = false := decide_eq_false (by omega)
  have d4 : decide (57 < (r : Int)) = true := decide_eq_true (by omega)
  have d5 : ((r : Int) != 45) = true := by rw [bne_iff_ne]; omega
  have d6 : ((r : Int) == 45) = false := by rw [beq_eq_false_iff_ne]; omega
  rw [HL.out]
  clear key
  go_enter Tryz.func76, Tryz.ntmps76
  go_wp2
  go_ret
  exact ⟨rfl, rfl⟩
 ·have HL := key false (by unfold letterB; rw [decide_eq_false (by omega), decide_eq_false (by omega), decide_eq_false (by omega)]; rfl)
  obtain ⟨hc1, hc2⟩ := hc
  have d1 : decide ((r : Int) < 97) = true := decide_eq_true (by omega)
  have d3 : decide ((r : Int) < 48) = false := decide_eq_false (by omega)
  have d4 : decide (57 < (r : Int)) = true := decide_eq_true (by omega)
  have d5 : ((r : Int) != 45) = true := by rw [bne_iff_ne]; omega
  have d6 : ((r : Int) == 45) = false := by rw [beq_eq_false_iff_ne]; omega
  rw [HL.out]
  clear key
  go_enter Tryz.func76, Tryz.ntmps76
  go_wp2
  go_ret
  exact ⟨rfl, rfl⟩
 ·have HL := key false (by unfold letterB; rw [decide_eq_false (by omega), decide_eq_false (by omega), decide_eq_false (by omega)]; rfl)
  obtain ⟨hc1, hc2⟩ := hc
  have d1 : decide ((r : Int) < 97) = true := decide_eq_true (by omega)
  have d3 : decide ((r : Int) < 48) = true := decide_eq_true (by omega)
  have d5 : ((r : Int) != 45) = true := by rw [bne_iff_ne]; omega
  have d6 : ((r : Int) == 45) = false := by rw [beq_eq_false_iff_ne]; omega
  rw [HL.out]
  clear key
  go_enter Tryz.func76, Tryz.ntmps76
  go_wp2
  go_ret
  exact ⟨rfl, rfl⟩
theorem idxFrom (s : ByteArray) : ∀ (f i : Nat), s.size <= i + f -> (decide (0 <= Lib.idxFuncFrom (fun r => !letterB r) true s f i) = true ↔ ∃ j, i <= j /\ j < s.size /\ letterB (Gf.nth (bytesOf s) j) = false)
 | 0, i, h => by
  constructor
  ·intro h1
   have h2 : decide ((0 : Int) <= -1) = true := h1
   cases h2
  ·rintro ⟨j, h1, h2, _⟩
   omega
 | f + 1, i, h => by
  show decide (0 <= (if i < s.size then (if (!letterB (Utf8.decode s i).1) = true then (i : Int) else Lib.idxFuncFrom (fun r => !letterB r) true s f (i + (Utf8.decode s i).2)) else -1)) = true ↔ _
  by_cases hi : i < s.size
  ·rw [if_pos hi]
   by_cases ha : (s[i]'hi).toNat < 128
   ·rw [decode_ascii s i hi ha, <- bytesOf_nth s i hi]
    have ih := idxFrom s f (i + 1) (by omega)
    cases hl : letterB (Gf.nth (bytesOf s) i) with
    | false =>
     rw [if_pos (by rfl)]
     exact ⟨fun _ => ⟨i, Nat.le_refl _, hi, hl⟩, fun _ => decide_eq_true (by omega)⟩
    | true =>
     rw [if_neg (by simp), ih]
     constructor
     ·rintro ⟨j, h1, h2, h3⟩
      exact ⟨j, by omega, h2, h3⟩
     ·rintro ⟨j, h1, h2, h3⟩
      refine ⟨j, ?_, h2, h3⟩
      by_cases e : j = i
      ·rw [e, hl] at h3; cases h3
      ·omega
   ·have h1 := (decode_high s i hi (by omega)).1
    have hl : letterB (Utf8.decode s i).1 = false := by
     unfold letterB
     rw [decide_eq_false (by omega), decide_eq_false (by omega), decide_eq_false (by omega)]
     rfl
    have hl2 : letterB (Gf.nth (bytesOf s) i) = false := by
     rw [bytesOf_nth s i hi]
     unfold letterB
     rw [decide_eq_false (by omega), decide_eq_false (by omega), decide_eq_false (by omega)]
     rfl
    rw [hl, if_pos (by rfl)]
    exact ⟨fun _ => ⟨i, Nat.le_refl _, hi, hl2⟩, fun _ => decide_eq_true (by omega)⟩
  ·rw [if_neg hi]
   constructor
   ·intro h1
    cases h1
   ·rintro ⟨j, h1, h2, _⟩
    omega
theorem idxOf (s : ByteArray) : decide (0 <= Lib.idxFunc (fun r => !letterB r) true s) = !((bytesOf s).all letterB) := by
 have h := idxFrom s s.size 0 (by omega)
 cases ha : (bytesOf s).all letterB with
 | true =>
  rw [show (!true) = false from rfl, Bool.eq_false_iff]
  intro h1
  obtain ⟨j, _, hj, h3⟩ := h.1 h1
  have hj' : j < (bytesOf s).length := by rw [bytesOf_length]; exact hj
  rw [List.all_eq_true] at ha
  have := ha (Gf.nth (bytesOf s) j) (by rw [Gf.nth_getElem _ j hj']; exact List.getElem_mem hj')
  rw [h3] at this
  cases this
 | false =>
  obtain ⟨x, hx, hne⟩ := List.all_eq_false.1 ha
  obtain ⟨j, hj, rfl⟩ := List.getElem_of_mem hx
  refine h.2 ⟨j, Nat.zero_le _, by rw [bytesOf_length] at hj; exact hj, ?_⟩
  rw [Gf.nth_getElem _ j hj]
  exact Bool.eq_false_iff.2 hne
set_option maxRecDepth 10000 in
set_option maxHeartbeats 1000000 in
theorem pname_any (s : ByteArray) (w : World) : Calls Tryz.prog 49 #[.string s] w fun e w' => e = .returned (.bool (isN s)) /\ Below w.heap.size w w' := by
 by_cases h1 : s.size < 1
 ·have HE : Hid (isN s = false) := isN_len (by omega)
  have d1 : decide (1 <= (s.size : Int)) = false := decide_eq_false (by omega)
  rw [HE.out]
  go_enter Tryz.func49, Tryz.ntmps49
  go_wp2
  go_ret
  exact ⟨rfl, Below.refl _ _⟩
 have d1 : decide (1 <= (s.size : Int)) = true := decide_eq_true (by omega)
 by_cases h2 : 16 < s.size
 ·have HE : Hid (isN s = false) := isN_len (by omega)
  have d2 : decide ((s.size : Int) <= 16) = false := decide_eq_false (by omega)
  rw [HE.out]
  go_enter Tryz.func49, Tryz.ntmps49
  go_wp2
  go_ret
  exact ⟨rfl, Below.refl _ _⟩
 have d2 : decide ((s.size : Int) <= 16) = true := decide_eq_true (by omega)
 have HC := Tryz.strings_ContainsFunc 76 #[] (enters_of Tryz.func76 (by kernel_rfl) rfl) (fun r => !letterB r) s w (fun W r _ => by
  unfold FnGives
  exact (sign_any r W).mono fun _ _ ⟨he, hw⟩ => ⟨he, 0, hw⟩)
 rw [idxOf] at HC
 have HE : Hid (isN s = (bytesOf s).all letterB) := by show _ = _; unfold isN; rw [decide_eq_true ⟨by omega, by omega⟩, Bool.true_and]
 rw [HE.out]
 generalize (bytesOf s).all letterB = r at *
 clear HE
 go_enter Tryz.func49, Tryz.ntmps49
 go_wp2_with fail
 refine HC.mono ?_
 rintro e w1 ⟨rfl, hb1⟩
 clear HC
 cases r with
 | true =>
  go_wp2
  go_ret
  exact ⟨rfl, hb1⟩
 | false =>
  go_wp2
  go_ret
  exact ⟨rfl, hb1⟩
set_option maxRecDepth 10000 in
set_option maxHeartbeats 1000000 in
theorem sindex_miss (p : Option Addr) (l : List ByteArray) (c : Nat) (s : ByteArray) (w : World) (hl : l.length <= 1000000) (hs : Strs w p l) (h : s ∉ l) :
 Calls Tryz.prog 103 #[.slice p l.length c, .string s] w fun e w' => e = .returned (.int .i64 (-1)) /\ w' = w := by
 have HH : Hid (s ∉ l) := h
 clear h
 go_enter Tryz.func103, Tryz.ntmps103
 go_wp2
 go_loop [8] (fun x => ∃ i : Nat, i <= l.length /\ x = .int .i64 i) (fun x => l.length - (intOf x).toNat)
 case atStart => exact ⟨0, Nat.zero_le _, rfl⟩
 case round =>
  obtain ⟨i, hi, rfl⟩ := hrel
  by_cases hil : i < l.length
  ·rcases hs with h0 | ⟨b, o, rfl, hlt, hc⟩
   ·rw [h0] at hil; exact absurd hil (Nat.not_lt_zero _)
   have q1 := hc i hil
   have hne : txt l i ≠ s := fun e => HH.out (e ▸ txt_mem hil)
   have h1 := toList_ne (Ne.symm hne)
   have h2 := toList_beq (Ne.symm hne)
   have h3 := bytes_beq (Ne.symm hne)
   clear hne hc
   generalize txt l i = t at *
   go_wp2
   go_round
   case rel => exact ⟨i + 1, by omega, by go_num⟩
   case measure => simp [intOf]; omega
  ·go_wp2
   go_ret
   exact ⟨rfl, rfl⟩
set_option maxRecDepth 10000 in
set_option maxHeartbeats 1000000 in
theorem sindex_hit (p : Option Addr) (l : List ByteArray) (c : Nat) (s : ByteArray) (w : World) (hl : l.length <= 1000000) (hs : Strs w p l) (h : s ∈ l) :
 Calls Tryz.prog 103 #[.slice p l.length c, .string s] w fun e w' => e = .returned (.int .i64 ((idxN l s : Nat) : Int)) /\ w' = w := by
 have HH : Hid (s ∈ l) := h
 clear h
 go_enter Tryz.func103, Tryz.ntmps103
 go_wp2
 go_loop [8] (fun x => ∃ i : Nat, i <= l.length /\ x = .int .i64 i /\ ∀ j, j < i -> txt l j ≠ s) (fun x => l.length - (intOf x).toNat)
 case atStart => exact ⟨0, Nat.zero_le _, rfl, fun j hj => absurd hj (Nat.not_lt_zero _)⟩
 case round =>
  obtain ⟨i, hi, rfl, hall⟩ := hrel
  have HALL : Hid (∀ j, j < i -> txt l j ≠ s) := hall
  clear hall
  have hil : i < l.length := by
   rcases Nat.lt_or_ge i l.length with h | h
   ·exact h
   ·obtain ⟨j, hj, e⟩ := txt_of_mem HH.out
    exact absurd e (HALL.out j (by omega))
  rcases hs with h0 | ⟨b, o, rfl, hlt, hc⟩
  ·rw [h0] at hil; exact absurd hil (Nat.not_lt_zero _)
  have q1 := hc i hil
  have HE : Hid (txt l i = txt l i) := by show _ = _; rfl
  clear hc
  by_cases hne : txt l i = s
  ·have HI : Hid (idxN l s = i) := idxN_eq hil hne HALL.out
   rw [hne] at q1
   clear hne HE
   go_wp2
   go_ret
   exact ⟨by rw [HI.out]; rfl, rfl⟩
  ·have HN : Hid (txt l i ≠ s) := hne
   have h1 := toList_ne (Ne.symm hne)
   have h2 := toList_beq (Ne.symm hne)
   have h3 := bytes_beq (Ne.symm hne)
   clear hne HE
   generalize htt : txt l i = t at *
   have HT : Hid (txt l i = t) := htt
   clear htt
   go_wp2
   go_round
   case rel => exact ⟨i + 1, by omega, by go_num, fun j hj => by
    rcases Nat.lt_or_ge j i with h | h
    ·exact HALL.out j h
    ·obtain rfl : j = i := by omega
     rw [HT.out]; exact HN.out⟩
   case measure => simp [intOf]; omega
set_option maxRecDepth 10000 in
theorem scont_any (p : Option Addr) (l : List ByteArray) (c : Nat) (s : ByteArray) (w : World) (hl : l.length <= 1000000) (hs : Strs w p l) :
 Calls Tryz.prog 66 #[.slice p l.length c, .string s] w fun e w' => e = .returned (.bool (inL l s)) /\ w' = w := by
 by_cases h : s ∈ l
 ·have HE : Hid (inL l s = true) := inL_iff.2 h
  have HI := sindex_hit p l c s w hl hs h
  rw [HE.out]
  clear h hs
  generalize idxN l s = k at *
  go_enter Tryz.func66, Tryz.ntmps66
  go_wp2_with fail
  refine HI.mono ?_
  rintro e w1 ⟨rfl, hw1⟩
  rw [hw1]
  clear hw1 w1 HI
  go_wp2
  go_ret
  exact ⟨rfl, rfl⟩
 ·have HE : Hid (inL l s = false) := Bool.eq_false_iff.2 fun h2 => h (inL_iff.1 h2)
  have HI := sindex_miss p l c s w hl hs h
  rw [HE.out]
  clear h hs
  go_enter Tryz.func66, Tryz.ntmps66
  go_wp2_with fail
  refine HI.mono ?_
  rintro e w1 ⟨rfl, hw1⟩
  rw [hw1]
  clear hw1 w1 HI
  go_wp2
  go_ret
  exact ⟨rfl, rfl⟩
theorem errIs_fault {w w' : World} {ad : Nat -> Addr} {t : TypeId} (i : Nat) (hi : i < 12) (at_ : Int) (hw : w' = w.alloc (.cells #[.int .i64 at_, .iface 234 (.pointer (some (ad i)))] t)) : ErrIs w' ad (.iface 114 (.pointer (some ⟨w.heap.size, 0, none⟩))) ((i + 1 : Nat) : Int) at_ := by
 subst hw
 refine Or.inr (Or.inr ⟨i, w.heap.size, hi, rfl, rfl, ?_, ?_⟩)
 ·rw [World.cell?_alloc_at _ _ _ _ rfl]; rfl
 ·rw [World.cell?_alloc_at _ _ _ _ rfl]; rfl
set_option maxRecDepth 10000 in
set_option maxHeartbeats 1000000 in
theorem check_bound (ad : Nat -> Addr) (p : Option Addr) (l : List ByteArray) (c : Nat) (w : World) (hl : l.length <= 1000) (hE : ErrsQ w ad) (h : l.length < 1 ∨ 16 < l.length) :
 Calls Tryz.prog 80 #[.slice p l.length c] w fun e w' => (∃ ev, e = .returned ev /\ ErrIs w' ad ev 2 (-1)) /\ Below w.heap.size w w' := by
 have q1 := hE.c1
 have HI : Hid (∀ W, ErrIs W ad (.iface 234 (.pointer (some (ad 1)))) 2 (-1)) := fun W => ErrIs.sent 1 (by decide)
 clear hE
 rcases h with h | h
 ·have d1 : decide ((l.length : Int) < 1) = true := decide_eq_true (by omega)
  go_enter Tryz.func80, Tryz.ntmps80
  go_wp2
  go_ret
  exact ⟨⟨_, rfl, HI.out _⟩, Below.refl _ _⟩
 ·have d1 : decide ((l.length : Int) < 1) = false := decide_eq_false (by omega)
  have d2 : decide (16 < (l.length : Int)) = true := decide_eq_true (by omega)
  go_enter Tryz.func80, Tryz.ntmps80
  go_wp2
  go_ret
  exact ⟨⟨_, rfl, HI.out _⟩, Below.refl _ _⟩
set_option maxRecDepth 10000 in
set_option maxHeartbeats 4000000 in
theorem check_scan (ad : Nat -> Addr) (p : Option Addr) (l : List ByteArray) (c : Nat) (w : World) (h1 : ¬ l.length < 1) (h2 : ¬ 16 < l.length) (hc : l.length <= c) (hs : Strs w p l) (hE : ErrsQ w ad) :
 Calls Tryz.prog 80 #[.slice p l.length c] w fun e w' => (∃ ev, e = .returned ev /\ ErrIs w' ad ev (scanF l 0 l.length).1 (scanF l 0 l.length).2) /\ Below w.heap.size w w' := by
 have HS : Hid (Strs w p l) := hs
 have HE : Hid (ErrsQ w ad) := hE
 have g1 : decide ((l.length : Int) < 1) = false := decide_eq_false (by omega)
 have g2 : decide (16 < (l.length : Int)) = false := decide_eq_false (by omega)
 obtain ⟨b, o, rfl⟩ : ∃ b o, p = some ⟨b, o, none⟩ := by
  rcases hs with h0 | ⟨b, o, hp, _⟩
  ·rw [h0] at h1; exact absurd (by decide) h1
  ·exact ⟨b, o, hp⟩
 clear hs hE
 obtain ⟨R, hR⟩ : ∃ R, R = scanF l 0 l.length := ⟨_, rfl⟩
 rw [<- hR]
 have HR : Hid (R = scanF l 0 l.length) := hR
 clear hR
 go_enter Tryz.func80, Tryz.ntmps80
 go_wp2
 go_loopw [16] (fun x wq => ∃ i : Nat, i <= l.length /\ x = .int .i64 i /\ scanF l i (l.length - i) = R /\ Below w.heap.size w wq) (fun x _ => l.length - (intOf x).toNat)
 case atStart => exact ⟨0, Nat.zero_le _, rfl, HR.out.symm, Below.refl _ _⟩
 case round =>
  obtain ⟨i, hi, rfl, hsc, hbq⟩ := hrel
  obtain ⟨w1, rfl⟩ : ∃ w1, w1 = wr := ⟨_, rfl⟩
  have HSC : Hid (scanF l i (l.length - i) = R) := hsc
  have HBW : Hid (Below w.heap.size w w1) := hbq
  have HS1 : Hid (Strs w1 (some ⟨b, o, none⟩) l) := HS.out.below hbq
  have HE1 : Hid (ErrsQ w1 ad) := HE.out.below hbq
  clear hsc hbq HR HS HE
  by_cases hil : i < l.length
  ·have q3 : w1.cell? ⟨b, o + i, none⟩ = some (.string (txt l i)) := by
    rcases HS1.out with h0 | ⟨b', o', hp, _, hcell⟩
    ·rw [h0] at hil; exact absurd hil (Nat.not_lt_zero _)
    ·obtain ⟨rfl, rfl⟩ : b = b' /\ o = o' := by simpa using hp
     exact hcell i hil
   have HNAME : Hid (∀ W, Calls Tryz.prog 49 #[.string (txt l i)] W fun e w' => e = .returned (.bool (isN (txt l i))) /\ Below W.heap.size W w') := fun W => pname_any _ W
   have HSUC : Hid (scanF l i (l.length - i) = if faultAt l i = 0 then scanF l (i + 1) (l.length - (i + 1)) else (((faultAt l i : Nat) : Int), (i : Int))) := by
    show _ = _
    rw [show l.length - i = (l.length - (i + 1)) + 1 by omega]
    rfl
   by_cases hN : isN (txt l i) = true
   ·have HCON : Hid (∀ W, Strs W (some ⟨b, o, none⟩) (l.take i) -> Calls Tryz.prog 66 #[.slice (some ⟨b, o, none⟩) (l.take i).length c, .string (txt l i)] W fun e w' => e = .returned (.bool (inL (l.take i) (txt l i))) /\ w' = W) := fun W hW => scont_any _ _ c _ W (by rw [List.length_take]; omega) hW
    rw [show (l.take i).length = i by rw [List.length_take]; omega] at HCON
    rw [hN] at HNAME
    by_cases hM : txt l i ∈ l.take i
    ·have HA : Hid (R = (6, (i : Int))) := by
      show _ = _
      rw [<- HSC.out, HSUC.out, faultAt_twice hN hM, if_neg (by decide)]
      rfl
     rw [inL_iff.2 hM] at HCON
     clear HSC HSUC hN hM
     generalize txt l i = t at *
     go_wp2_with fail
     refine (HNAME.out _).mono ?_
     rintro e w2 ⟨rfl, hb2⟩
     have HB2 : Hid (Below w.heap.size w w2) := HBW.out.trans (hb2.mono HBW.out.size)
     have HS2 : Hid (Strs w2 (some ⟨b, o, none⟩) (l.take i)) := (HS1.out.below hb2).take i
     have hE2 : ErrsQ w2 ad := HE1.out.below hb2
     have q4 := hE2.c5
     clear hE2 hb2 HNAME q3
     go_wp2_with fail
     refine (HCON.out _ HS2.out).mono ?_
     rintro e w3 ⟨rfl, hw3⟩
     rw [hw3]
     clear hw3 w3 HCON HS2
     go_wp2
     go_ret
     exact ⟨⟨_, rfl, by rw [HA.out]; exact errIs_fault (w := w2) 5 (by decide) (i : Int) rfl⟩, HB2.out.alloc HB2.out.size _⟩
    ·have HA : Hid (scanF l (i + 1) (l.length - (i + 1)) = R) := by
      show _ = _
      rw [<- HSC.out, HSUC.out, faultAt_fine hN hM, if_pos rfl]
     rw [Bool.eq_false_iff.2 (fun h => hM (inL_iff.1 h))] at HCON
     clear HSC HSUC hN hM
     generalize txt l i = t at *
     go_wp2_with fail
     refine (HNAME.out _).mono ?_
     rintro e w2 ⟨rfl, hb2⟩
     have HB2 : Hid (Below w.heap.size w w2) := HBW.out.trans (hb2.mono HBW.out.size)
     have HS2 : Hid (Strs w2 (some ⟨b, o, none⟩) (l.take i)) := (HS1.out.below hb2).take i
     clear hb2 HNAME q3
     go_wp2_with fail
     refine (HCON.out _ HS2.out).mono ?_
     rintro e w3 ⟨rfl, hw3⟩
     rw [hw3]
     clear hw3 w3 HCON HS2
     go_wp2
     go_roundw
     case rel => exact ⟨i + 1, by omega, by go_num, HA.out, HB2.out⟩
     case measure => simp [intOf]; omega
   ·have hN' : isN (txt l i) = false := Bool.eq_false_iff.2 hN
    have HA : Hid (R = (4, (i : Int))) := by
     show _ = _
     rw [<- HSC.out, HSUC.out, faultAt_name hN', if_neg (by decide)]
     rfl
    rw [hN'] at HNAME
    clear HSC HSUC hN hN'
    generalize txt l i = t at *
    go_wp2_with fail
    refine (HNAME.out _).mono ?_
    rintro e w2 ⟨rfl, hb2⟩
    have HB2 : Hid (Below w.heap.size w w2) := HBW.out.trans (hb2.mono HBW.out.size)
    have hE2 : ErrsQ w2 ad := HE1.out.below hb2
    have q4 := hE2.c3
    clear hE2 hb2 HNAME q3
    go_wp2
    go_ret
    exact ⟨⟨_, rfl, by rw [HA.out]; exact errIs_fault (w := w2) 3 (by decide) (i : Int) rfl⟩, HB2.out.alloc HB2.out.size _⟩
  ·have hie : i = l.length := by omega
   subst hie
   have HA : Hid (R = (0, -1)) := by
    show _ = _
    rw [<- HSC.out, Nat.sub_self]
    rfl
   clear HSC
   go_wp2
   go_ret
   exact ⟨⟨_, rfl, by rw [HA.out]; exact ErrIs.nil _ _⟩, HBW.out⟩
theorem check_any (ad : Nat -> Addr) (p : Option Addr) (l : List ByteArray) (c : Nat) (w : World) (hl : l.length <= 1000) (hc : l.length <= c) (hs : Strs w p l) (hE : ErrsQ w ad) :
 Calls Tryz.prog 80 #[.slice p l.length c] w fun e w' => (∃ ev, e = .returned ev /\ ErrIs w' ad ev (nodesF l).1 (nodesF l).2) /\ Below w.heap.size w w' := by
 by_cases h : l.length < 1 ∨ 16 < l.length
 ·rw [nodesF_bound h]
  exact check_bound ad p l c w hl hE h
 ·rw [nodesF_scan (by omega) (by omega)]
  exact check_scan ad p l c w (by omega) (by omega) hc hs hE
structure CfgBox (w : World) (b : Nat) (c : Cfg) (lv : Value) : Prop where
 f0 : w.cell? ⟨b, 0, none⟩ = some (.int .i64 c.n)
 f1 : w.cell? ⟨b, 1, none⟩ = some (.int .i64 c.k)
 f2 : w.cell? ⟨b, 2, none⟩ = some lv
theorem CfgBox.below {w w' : World} {b : Nat} {c : Cfg} {lv : Value} (h : CfgBox w b c lv) (hb : Below w.heap.size w w') : CfgBox w' b c lv :=
 ⟨(hb.cell (lt_of_cellE h.f0)).trans h.f0, (hb.cell (lt_of_cellE h.f0)).trans h.f1, (hb.cell (lt_of_cellE h.f0)).trans h.f2⟩
theorem cfgBox_made (w : World) (c : Cfg) (lv : Value) (t : TypeId) : CfgBox (w.alloc (.cells #[.int .i64 c.n, .int .i64 c.k, lv] t)) w.heap.size c lv :=
 ⟨by rw [World.cell?_alloc_at _ _ _ _ rfl]; rfl, by rw [World.cell?_alloc_at _ _ _ _ rfl]; rfl, by rw [World.cell?_alloc_at _ _ _ _ rfl]; rfl⟩
set_option maxRecDepth 10000 in
set_option maxHeartbeats 4000000 in
theorem qcheck_any (ad : Nat -> Addr) (c : Cfg) (p : Option Addr) (cap : Nat) (w : World) (hc : CfgAt w c p cap) (hE : ErrsQ w ad) :
 Calls Tryz.prog 55 #[cfgA c (.slice p c.L.length cap)] w fun e w' => (∃ ev, e = .returned ev /\ ErrIs w' ad ev (cfgF c).1 (cfgF c).2) /\ Below w.heap.size w w' := by
 obtain ⟨w1, hw1⟩ : ∃ w1, w1 = w.alloc (.cells #[.int .i64 c.n, .int .i64 c.k, .slice p c.L.length cap] 24) := ⟨_, rfl⟩
 have hb1 : Below w.heap.size w w1 := by rw [hw1]; exact (Below.refl _ _).alloc (Nat.le_refl _) _
 have hx1 : CfgBox w1 w.heap.size c (.slice p c.L.length cap) := by rw [hw1]; exact cfgBox_made w c _ _
 have hE1 := hE.below hb1
 have HCK : Hid (Calls Tryz.prog 80 #[.slice p c.L.length cap] w1 fun e w' => (∃ ev, e = .returned ev /\ ErrIs w' ad ev (nodesF c.L).1 (nodesF c.L).2) /\ Below w1.heap.size w1 w') := check_any ad p c.L cap w1 hc.len hc.room (hc.strs.below hb1) hE1
 have HW1 : Hid (w1 = w.alloc (.cells #[.int .i64 c.n, .int .i64 c.k, .slice p c.L.length cap] 24)) := hw1
 have HB1 : Hid (Below w.heap.size w w1) := hb1
 have HMF : Hid (∀ W, Calls Tryz.prog 79 #[.int .i64 c.n, .int .i64 c.k] W fun e w' => e = .returned (.bool (decide (1 <= c.k /\ c.k <= c.n /\ c.n <= 12))) /\ w' = W) := fun W => mfits_any c.n c.k W
 have q1 := hE1.c1
 have q2 := hE1.c2
 have f0 := hx1.f0
 have f1 := hx1.f1
 have f2 := hx1.f2
 have HI1 : Hid (∀ W, ErrIs W ad (.iface 234 (.pointer (some (ad 1)))) 2 (-1)) := fun W => ErrIs.sent 1 (by decide)
 have HI2 : Hid (∀ W, ErrIs W ad (.iface 234 (.pointer (some (ad 2)))) 3 (-1)) := fun W => ErrIs.sent 2 (by decide)
 have hl1 := hc.len
 unfold cfgA
 clear hw1 hb1 hx1 hE1 hE hc
 by_cases hf : 1 <= c.k /\ c.k <= c.n /\ c.n <= 12
 ·have HMF1 : Hid (∀ W, Calls Tryz.prog 79 #[.int .i64 c.n, .int .i64 c.k] W fun e w' => e = .returned (.bool true) /\ w' = W) := fun W => by have := HMF.out W; rw [decide_eq_true hf] at this; exact this
  by_cases hn : (c.L.length : Int) = c.n
  ·have HF : Hid (cfgF c = nodesF c.L) := cfgF_nodes hf hn
   rw [HF.out]
   obtain ⟨n, k, L⟩ := c
   dsimp only at *
   subst hn
   clear HMF HF hf
   generalize nodesF L = R at *
   go_enter Tryz.func55, Tryz.ntmps55
   go_wp2_with fail
   rw [<- HW1.out]
   refine (HMF1.out _).mono ?_
   rintro e w2 ⟨rfl, hw2⟩
   rw [hw2]
   clear hw2 w2 HMF1
   go_wp2_with fail
   refine HCK.out.mono ?_
   rintro e w3 ⟨⟨ev, rfl, hev⟩, hb3⟩
   have HB3 : Hid (Below w.heap.size w w3) := HB1.out.trans (hb3.mono HB1.out.size)
   have HEV : Hid (ErrIs w3 ad ev R.1 R.2) := hev
   clear hev hb3 HCK
   go_wp2
   go_ret
   exact ⟨⟨_, rfl, HEV.out⟩, HB3.out⟩
  ·have HF : Hid (cfgF c = (3, -1)) := cfgF_shape hf hn
   rw [HF.out]
   obtain ⟨n, k, L⟩ := c
   dsimp only at *
   clear HMF HF hf HCK
   go_enter Tryz.func55, Tryz.ntmps55
   go_wp2_with fail
   rw [<- HW1.out]
   refine (HMF1.out _).mono ?_
   rintro e w2 ⟨rfl, hw2⟩
   rw [hw2]
   clear hw2 w2 HMF1
   go_wp2
   go_ret
   exact ⟨⟨_, rfl, HI2.out _⟩, HB1.out⟩
 ·have HF : Hid (cfgF c = (2, -1)) := cfgF_bound hf
  have HMF1 : Hid (∀ W, Calls Tryz.prog 79 #[.int .i64 c.n, .int .i64 c.k] W fun e w' => e = .returned (.bool false) /\ w' = W) := fun W => by have := HMF.out W; rw [decide_eq_false hf] at this; exact this
  rw [HF.out]
  obtain ⟨n, k, L⟩ := c
  dsimp only at *
  clear HMF HF hf HCK
  go_enter Tryz.func55, Tryz.ntmps55
  go_wp2_with fail
  rw [<- HW1.out]
  refine (HMF1.out _).mono ?_
  rintro e w2 ⟨rfl, hw2⟩
  rw [hw2]
  clear hw2 w2 HMF1
  go_wp2
  go_ret
  exact ⟨⟨_, rfl, HI1.out _⟩, HB1.out⟩
set_option maxRecDepth 10000 in
set_option maxHeartbeats 4000000 in
theorem qenough_any (ad : Nat -> Addr) (c : Cfg) (p : Option Addr) (cap : Nat) (w : World) (hc : CfgAt w c p cap) (hE : ErrsQ w ad) :
 Calls Tryz.prog 48 #[cfgA c (.slice p c.L.length cap)] w fun e w' => (∃ ev, e = .returned (.tuple #[.int .i64 ((if 0 < (cfgF c).1 then 0 else enoughN c : Nat) : Int), ev]) /\ ErrIs w' ad ev (cfgF c).1 (cfgF c).2) /\ Below w.heap.size w w' := by
 obtain ⟨w1, hw1⟩ : ∃ w1, w1 = w.alloc (.cells #[.int .i64 c.n, .int .i64 c.k, .slice p c.L.length cap] 24) := ⟨_, rfl⟩
 have hb1 : Below w.heap.size w w1 := by rw [hw1]; exact (Below.refl _ _).alloc (Nat.le_refl _) _
 have hx1 : CfgBox w1 w.heap.size c (.slice p c.L.length cap) := by rw [hw1]; exact cfgBox_made w c _ _
 have HCK := qcheck_any ad c p cap w1 (hc.below hb1) (hE.below hb1)
 have HW1 : Hid (w1 = w.alloc (.cells #[.int .i64 c.n, .int .i64 c.k, .slice p c.L.length cap] 24)) := hw1
 have HB1 : Hid (Below w.heap.size w w1) := hb1
 have HX1 : Hid (CfgBox w1 w.heap.size c (.slice p c.L.length cap)) := hx1
 have f0 := hx1.f0
 have f1 := hx1.f1
 have f2 := hx1.f2
 unfold cfgA at HCK ⊢
 clear hw1 hb1 hx1 hE hc
 by_cases hp : 0 < (cfgF c).1
 ·rw [if_pos hp]
  have HP : Hid (0 < (cfgF c).1) := hp
  clear hp
  generalize cfgF c = R at *
  obtain ⟨n, k, L⟩ := c
  dsimp only at *
  go_enter Tryz.func48, Tryz.ntmps48
  go_wp2_with fail
  rw [<- HW1.out]
  refine HCK.mono ?_
  rintro e w3 ⟨⟨ev, rfl, hev⟩, hb3⟩
  have HB3 : Hid (Below w.heap.size w w3) := HB1.out.trans (hb3.mono HB1.out.size)
  have HEV : Hid (ErrIs w3 ad ev R.1 R.2) := hev
  obtain ⟨et, eu, rfl⟩ := hev.some HP.out
  clear hev hb3 HCK
  go_wp2
  go_ret2
  exact ⟨⟨_, rfl, HEV.out⟩, HB3.out⟩
 ·obtain ⟨hf, hn, h0, _, _⟩ := cfgF_fine hp
  rw [if_neg hp, h0]
  rw [h0] at HCK
  have HEN : Hid ((c.n + c.k + 1) / 2 = ((enoughN c : Nat) : Int)) := by
   show _ = _
   unfold enoughN
   omega
  have hf1 : 1 <= c.k := hf.1
  have hf2 : c.k <= c.n := hf.2.1
  have hf3 : c.n <= 12 := hf.2.2
  clear hp hn h0 hf
  generalize enoughN c = en at *
  obtain ⟨n, k, L⟩ := c
  dsimp only at *
  go_enter Tryz.func48, Tryz.ntmps48
  go_wp2_with fail
  rw [<- HW1.out]
  refine HCK.mono ?_
  rintro e w3 ⟨⟨ev, rfl, hev⟩, hb3⟩
  have HB3 : Hid (Below w.heap.size w w3) := HB1.out.trans (hb3.mono HB1.out.size)
  have hx3 := HX1.out.below hb3
  have g0 := hx3.f0
  have g1 := hx3.f1
  dsimp only at g0 g1
  obtain rfl := ErrIs.isNil hev
  clear hev hb3 HCK hx3 f0 f1 f2
  go_wp2
  go_ret2
  exact ⟨⟨_, by rw [HEN.out]; rfl, ErrIs.nil _ _⟩, HB3.out⟩
end Go.Proofs.YtobmckfcipeanaaGreatDoor
