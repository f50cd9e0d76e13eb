import Derived.Test.YtobmckfcipeanaaGreatDoorZA
import Derived.BigQuiet
import Derived.Test.YtobmckfcipeanaaGreatDoorZI
namespace Go.Proofs.YtobmckfcipeanaaGreatDoor
open Go.RowKit
set_option maxRecDepth 10000 in
set_option maxHeartbeats 1000000 in
theorem index_miss (p : Option Addr) (l : List ByteArray) (c : Nat) (s : ByteArray) (w : World) (hl : l.length <= 1000000) (hs : Strs w p l) (h : s ∉ l) :
 Calls Tryz.prog 44 #[.slice p l.length c, .string s] w fun e w' => e = .returned (.int .i64 (-1)) /\ w' = w := by
 have HH : Hid (s ∉ l) := h
 clear h
 go_enter Tryz.func44, Tryz.ntmps44
 go_wp2
 go_loop [5] (fun x => ∃ i : Nat, i <= l.length /\ x = .int .i64 i) (fun x => l.length - (intOf x).toNat)
 case atStart => exact ⟨0, Nat.zero_le _, rfl⟩
 case round =>
  obtain ⟨i, hi, rfl⟩ := hrel
  by_cases hil : i < l.length
  ·rcases hs with h0 | ⟨b, o, rfl, hlt, hc⟩
   ·rw [h0] at hil; exact absurd hil (Nat.not_lt_zero _)
   have q1 := hc i hil
   have hne : txt l i ≠ s := fun e => HH.out (e ▸ txt_mem hil)
   have h1 := toList_ne hne
   have h2 := toList_beq hne
   have h3 := bytes_beq hne
   clear hne hc
   generalize txt l i = t at *
   go_wp2
   go_round
   case rel => exact ⟨i + 1, by omega, by go_num⟩
   case measure => simp [intOf]; omega
  ·go_wp2
   go_ret
   exact ⟨rfl, rfl⟩
set_option maxRecDepth 10000 in
set_option maxHeartbeats 1000000 in
theorem index_hit (p : Option Addr) (l : List ByteArray) (c : Nat) (s : ByteArray) (w : World) (hl : l.length <= 1000000) (hs : Strs w p l) (h : s ∈ l) :
 Calls Tryz.prog 44 #[.slice p l.length c, .string s] w fun e w' => e = .returned (.int .i64 ((idxN l s : Nat) : Int)) /\ w' = w := by
 have HH : Hid (s ∈ l) := h
 clear h
 go_enter Tryz.func44, Tryz.ntmps44
 go_wp2
 go_loop [5] (fun x => ∃ i : Nat, i <= l.length /\ x = .int .i64 i /\ ∀ j, j < i -> txt l j ≠ s) (fun x => l.length - (intOf x).toNat)
 case atStart => exact ⟨0, Nat.zero_le _, rfl, fun j hj => absurd hj (Nat.not_lt_zero _)⟩
 case round =>
  obtain ⟨i, hi, rfl, hall⟩ := hrel
  have HALL : Hid (∀ j, j < i -> txt l j ≠ s) := hall
  clear hall
  have hil : i < l.length := by
   rcases Nat.lt_or_ge i l.length with h | h
   ·exact h
   ·obtain ⟨j, hj, e⟩ := txt_of_mem HH.out
    exact absurd e (HALL.out j (by omega))
  rcases hs with h0 | ⟨b, o, rfl, hlt, hc⟩
  ·rw [h0] at hil; exact absurd hil (Nat.not_lt_zero _)
  have q1 := hc i hil
  have HE : Hid (txt l i = txt l i) := by show _ = _; rfl
  clear hc
  by_cases hne : txt l i = s
  ·have HI : Hid (idxN l s = i) := idxN_eq hil hne HALL.out
   rw [hne] at q1
   clear hne HE
   go_wp2
   go_ret
   exact ⟨by rw [HI.out]; rfl, rfl⟩
  ·have HN : Hid (txt l i ≠ s) := hne
   have h1 := toList_ne hne
   have h2 := toList_beq hne
   have h3 := bytes_beq hne
   clear hne HE
   generalize htt : txt l i = t at *
   have HT : Hid (txt l i = t) := htt
   clear htt
   go_wp2
   go_round
   case rel => exact ⟨i + 1, by omega, by go_num, fun j hj => by
    rcases Nat.lt_or_ge j i with h | h
    ·exact HALL.out j h
    ·obtain rfl : j = i := by omega
     rw [HT.out]; exact HN.out⟩
   case measure => simp [intOf]; omega
set_option maxRecDepth 10000 in
set_option maxHeartbeats 4000000 in
theorem isName_any (s : ByteArray) (w : World) (hs : s.size <= 1000000) :
 Calls Tryz.prog 30 #[.string s] w fun e w' => e = .returned (.bool (isN s)) /\ w' = w := by
 by_cases h1 : s.size < 1
 ·have HE : Hid (isN s = false) := isN_len (by omega)
  rw [HE.out]
  go_enter Tryz.func30, Tryz.ntmps30
  go_wp2
  go_ret
  exact ⟨rfl, rfl⟩
 by_cases h2 : 16 < s.size
 ·have HE : Hid (isN s = false) := isN_len (by omega)
  rw [HE.out]
  go_enter Tryz.func30, Tryz.ntmps30
  go_wp2
  go_ret
  exact ⟨rfl, rfl⟩
 have g1 : decide ((s.size : Int) < 1) = false := decide_eq_false (by omega)
 have g2 : decide (16 < (s.size : Int)) = false := decide_eq_false (by omega)
 have HF : Hid (∀ j, j < s.size -> letterB (Gf.nth (bytesOf s) j) = false -> isN s = false) := fun j hj h => isN_one hj h
 have HT : Hid ((∀ j, j < s.size -> letterB (Gf.nth (bytesOf s) j) = true) -> isN s = true) := fun h => isN_all (by omega) (by omega) h
 generalize isN s = r at *
 go_enter Tryz.func30, Tryz.ntmps30
 go_wp2
 go_loop [3] (fun x => ∃ i : Nat, i <= s.size /\ x = .int .i64 i /\ ∀ j, j < i -> letterB (Gf.nth (bytesOf s) j) = true) (fun x => s.size - (intOf x).toNat)
 case atStart => exact ⟨0, Nat.zero_le _, rfl, fun j hj => absurd hj (Nat.not_lt_zero _)⟩
 case round =>
  obtain ⟨i, hi, rfl, hall⟩ := hrel
  have HALL : Hid (∀ j, j < i -> letterB (Gf.nth (bytesOf s) j) = true) := hall
  clear hall
  by_cases hil : i < s.size
  ·have hix := run_idx s i hil
   have hy := bytesOf_lt s i
   have HB : Hid (letterB (Gf.nth (bytesOf s) i) = false -> r = false) := fun h => HF.out i hil h
   have HN : Hid (letterB (Gf.nth (bytesOf s) i) = true -> ∀ j, j < i + 1 -> letterB (Gf.nth (bytesOf s) j) = true) := fun h j hj => by
    rcases Nat.lt_or_ge j i with h' | h'
    ·exact HALL.out j h'
    ·obtain rfl : j = i := by omega
     exact h
   clear HF HALL
   generalize Gf.nth (bytesOf s) i = y at *
   rcases (show (97 <= y /\ y <= 122) ∨ (48 <= y /\ y <= 57) ∨ y = 45 ∨ 122 < y ∨ (57 < y /\ y < 97) ∨ (y < 48 /\ y ≠ 45) by omega) with hc | hc | hc | hc | hc | hc
   ·have HL : Hid (letterB y = true) := by show _ = _; simp [letterB, hc]
    obtain ⟨hc1, hc2⟩ := hc
    go_wp2
    go_round
    case rel => exact ⟨i + 1, by omega, by go_num, HN.out HL.out⟩
    case measure => simp [intOf]; omega
   ·have HL : Hid (letterB y = true) := by show _ = _; simp [letterB, hc]
    obtain ⟨hc1, hc2⟩ := hc
    go_wp2
    go_round
    case rel => exact ⟨i + 1, by omega, by go_num, HN.out HL.out⟩
    case measure => simp [intOf]; omega
   ·have HL : Hid (letterB y = true) := by show _ = _; simp [letterB, hc]
    subst hc
    go_wp2
    go_round
    case rel => exact ⟨i + 1, by omega, by go_num, HN.out HL.out⟩
    case measure => simp [intOf]; omega
   ·have HL : Hid (r = false) := HB.out (by
     unfold letterB
     rw [decide_eq_false (by omega), decide_eq_false (by omega), decide_eq_false (by omega)]
     rfl)
    have d1 : decide ((y : Int) <= 122) = false := decide_eq_false (by omega)
    have d2 : decide ((y : Int) <= 57) = false := decide_eq_false (by omega)
    have hc3 : ((y : Int) == 45) = false := by
     rw [beq_eq_false_iff_ne]
     omega
    go_wp2
    go_ret
    exact ⟨by rw [HL.out]; rfl, rfl⟩
   ·have HL : Hid (r = false) := HB.out (by
     unfold letterB
     rw [decide_eq_false (by omega), decide_eq_false (by omega), decide_eq_false (by omega)]
     rfl)
    obtain ⟨hc1, hc2⟩ := hc
    have d2 : decide ((y : Int) <= 57) = false := decide_eq_false (by omega)
    have hc3 : ((y : Int) == 45) = false := by
     rw [beq_eq_false_iff_ne]
     omega
    go_wp2
    go_ret
    exact ⟨by rw [HL.out]; rfl, rfl⟩
   ·have HL : Hid (r = false) := HB.out (by
     unfold letterB
     rw [decide_eq_false (by omega), decide_eq_false (by omega), decide_eq_false (by omega)]
     rfl)
    obtain ⟨hc1, hc2⟩ := hc
    have hc3 : ((y : Int) == 45) = false := by
     rw [beq_eq_false_iff_ne]
     omega
    go_wp2
    go_ret
    exact ⟨by rw [HL.out]; rfl, rfl⟩
  ·have hie : i = s.size := by omega
   subst hie
   have HR : Hid (r = true) := HT.out HALL.out
   go_wp2
   go_ret
   exact ⟨by rw [HR.out]; rfl, rfl⟩
set_option maxRecDepth 10000 in
theorem bare_any (c : Int) (w : World) : Calls Tryz.prog 31 #[.int .i64 c] w fun e w' => e = .returned (.agg #[.int .i64 c, .int .i64 (-1)]) /\ Below w.heap.size w w' := by
 go_enter Tryz.func31, Tryz.ntmps31
 go_wp2
 refine bodyPost_ret (v := .agg #[.int .i64 c, .int .i64 (-1)]) (by simp [results, Tryz.results31, go_sem]) rfl ⟨rfl, ?_⟩
 exact (Below.refl _ _).alloc (Nat.le_refl _) _
set_option maxRecDepth 10000 in
theorem fine_any (w : World) : Calls Tryz.prog 93 #[] w fun e w' => e = .returned (.agg #[.int .i64 0, .int .i64 (-1)]) /\ Below w.heap.size w w' := by
 go_enter Tryz.func93, Tryz.ntmps93
 go_wp2
 refine bodyPost_ret (v := .agg #[.int .i64 0, .int .i64 (-1)]) (by simp [results, Tryz.results93, go_sem]) rfl ⟨rfl, ?_⟩
 exact (Below.refl _ _).alloc (Nat.le_refl _) _
theorem pair_kept (w : World) (t : TypeId) (wq : World) (hb : Below (w.alloc (.cells #[.int .i64 0, .int .i64 0] t)).heap.size (w.alloc (.cells #[.int .i64 0, .int .i64 0] t)) wq) :
 wq.cell? ⟨w.heap.size, 0, none⟩ = some (.int .i64 0) /\ wq.cell? ⟨w.heap.size, 1, none⟩ = some (.int .i64 0) /\ wq.frozen? ⟨w.heap.size, 0, none⟩ = false /\ wq.frozen? ⟨w.heap.size, 1, none⟩ = false := by
 have hlt : w.heap.size < (w.alloc (.cells #[.int .i64 0, .int .i64 0] t)).heap.size := by simp
 refine ⟨(hb.cell (p := ⟨w.heap.size, 0, none⟩) hlt).trans ?_, (hb.cell (p := ⟨w.heap.size, 1, none⟩) hlt).trans ?_, (hb.frozen (p := ⟨w.heap.size, 0, none⟩) hlt).trans ?_, (hb.frozen (p := ⟨w.heap.size, 1, none⟩) hlt).trans ?_⟩
 ·rw [World.cell?_alloc_at _ _ _ _ rfl]; rfl
 ·rw [World.cell?_alloc_at _ _ _ _ rfl]; rfl
 ·unfold World.frozen?; rw [heap_alloc_new]; rfl
 ·unfold World.frozen?; rw [heap_alloc_new]; rfl
theorem pair_below {w wq : World} {t : TypeId} (hb : Below (w.alloc (.cells #[.int .i64 0, .int .i64 0] t)).heap.size (w.alloc (.cells #[.int .i64 0, .int .i64 0] t)) wq) : Below w.heap.size w wq :=
 ((Below.refl _ w).alloc (Nat.le_refl _) _).trans (hb.mono (by simp))
theorem pair_set {w wq : World} (hb : Below w.heap.size w wq) (a b : Value) : Below w.heap.size w ((wq.setCell ⟨w.heap.size, 0, none⟩ a).setCell ⟨w.heap.size, 1, none⟩ b) := by
 refine (hb.setCell ?_ _).setCell ?_ _ <;> exact Nat.le_refl _
set_option maxRecDepth 10000 in
set_option maxHeartbeats 4000000 in
theorem nodesFault_bound (p : Option Addr) (l : List ByteArray) (c : Nat) (w : World) (hl : l.length <= 1000000) (h : l.length < 1 ∨ 16 < l.length) :
 Calls Tryz.prog 60 #[.slice p l.length c] w fun e w' => e = .returned (.agg #[.int .i64 2, .int .i64 (-1)]) /\ Below w.heap.size w w' := by
 rcases h with h | h
 ·go_enter Tryz.func60, Tryz.ntmps60
  go_wp2_with fail
  refine (bare_any 2 _).mono ?_
  rintro e w1 ⟨rfl, hb1⟩
  obtain ⟨q1, q2, f1, f2⟩ := pair_kept w _ w1 hb1
  have HB : Hid (Below w.heap.size w w1) := pair_below hb1
  clear hb1
  go_wp2
  refine bodyPost_ret (v := .agg #[.int .i64 2, .int .i64 (-1)]) (by simp [results, Tryz.results60, go_sem, q1, q2]) rfl ⟨rfl, pair_set HB.out _ _⟩
 ·go_enter Tryz.func60, Tryz.ntmps60
  go_wp2_with fail
  refine (bare_any 2 _).mono ?_
  rintro e w1 ⟨rfl, hb1⟩
  obtain ⟨q1, q2, f1, f2⟩ := pair_kept w _ w1 hb1
  have HB : Hid (Below w.heap.size w w1) := pair_below hb1
  clear hb1
  go_wp2
  refine bodyPost_ret (v := .agg #[.int .i64 2, .int .i64 (-1)]) (by simp [results, Tryz.results60, go_sem, q1, q2]) rfl ⟨rfl, pair_set HB.out _ _⟩
set_option maxRecDepth 10000 in
set_option maxHeartbeats 4000000 in
theorem nodesFault_scan (p : Option Addr) (l : List ByteArray) (c : Nat) (w : World) (h1 : ¬ l.length < 1) (h2 : ¬ 16 < l.length) (hc : l.length <= c) (ht : ∀ x ∈ l, x.size <= 1000000) (hs : Strs w p l) :
 Calls Tryz.prog 60 #[.slice p l.length c] w fun e w' => e = .returned (.agg #[.int .i64 (scanF l 0 l.length).1, .int .i64 (scanF l 0 l.length).2]) /\ Below w.heap.size w w' := by
 have HT : Hid (∀ i, i < l.length -> (txt l i).size <= 1000000) := fun i hi => ht _ (txt_mem hi)
 have HS : Hid (Strs w p l) := hs
 have g1 : decide ((l.length : Int) < 1) = false := decide_eq_false (by omega)
 have g2 : decide (16 < (l.length : Int)) = false := decide_eq_false (by omega)
 obtain ⟨b, o, rfl⟩ : ∃ b o, p = some ⟨b, o, none⟩ := by
  rcases hs with h0 | ⟨b, o, hp, _⟩
  ·rw [h0] at h1; exact absurd (by decide) h1
  ·exact ⟨b, o, hp⟩
 clear hs ht
 obtain ⟨R, hR⟩ : ∃ R, R = scanF l 0 l.length := ⟨_, rfl⟩
 rw [<- hR]
 have HR : Hid (R = scanF l 0 l.length) := hR
 clear hR
 go_enter Tryz.func60, Tryz.ntmps60
 go_wp2
 have HB0 : Hid (Below (w.alloc (.cells #[.int .i64 0, .int .i64 0] 39)).heap.size (w.alloc (.cells #[.int .i64 0, .int .i64 0] 39)) (w.alloc (.cells #[.int .i64 0, .int .i64 0] 39))) := Below.refl _ _
 have HK : Hid (∀ wq, Below (w.alloc (.cells #[.int .i64 0, .int .i64 0] 39)).heap.size (w.alloc (.cells #[.int .i64 0, .int .i64 0] 39)) wq -> (wq.cell? ⟨w.heap.size, 0, none⟩ = some (.int .i64 0) /\ wq.cell? ⟨w.heap.size, 1, none⟩ = some (.int .i64 0) /\ wq.frozen? ⟨w.heap.size, 0, none⟩ = false /\ wq.frozen? ⟨w.heap.size, 1, none⟩ = false) /\ Below w.heap.size w wq) := fun wq h => ⟨pair_kept w _ wq h, pair_below h⟩
 generalize w.alloc (.cells #[.int .i64 0, .int .i64 0] 39) = w0 at HB0 HK ⊢
 go_loopw [3] (fun x wq => ∃ i : Nat, i <= l.length /\ x = .int .i64 i /\ scanF l i (l.length - i) = R /\ Below w0.heap.size w0 wq) (fun x _ => l.length - (intOf x).toNat)
 case atStart => exact ⟨0, Nat.zero_le _, rfl, HR.out.symm, HB0.out⟩
 case round =>
  obtain ⟨i, hi, rfl, hsc, hbq⟩ := hrel
  obtain ⟨w1, rfl⟩ : ∃ w1, w1 = wr := ⟨_, rfl⟩
  have HSC : Hid (scanF l i (l.length - i) = R) := hsc
  have HBQ : Hid (Below w0.heap.size w0 w1) := hbq
  obtain ⟨⟨q1, q2, f1, f2⟩, hbw⟩ := HK.out w1 hbq
  have HBW : Hid (Below w.heap.size w w1) := hbw
  have HS1 : Hid (Strs w1 (some ⟨b, o, none⟩) l) := HS.out.below hbw
  clear hsc hbq hbw HR
  by_cases hil : i < l.length
  ·have q3 : w1.cell? ⟨b, o + i, none⟩ = some (.string (txt l i)) := by
    rcases HS1.out with h0 | ⟨b', o', hp, _, hcell⟩
    ·rw [h0] at hil; exact absurd hil (Nat.not_lt_zero _)
    ·obtain ⟨rfl, rfl⟩ : b = b' /\ o = o' := by simpa using hp
     exact hcell i hil
   have HNAME : Hid (∀ W, Calls Tryz.prog 30 #[.string (txt l i)] W fun e w' => e = .returned (.bool (isN (txt l i))) /\ w' = W) := fun W => isName_any _ W (HT.out i hil)
   have HTAKE : Hid ((l.take i).length = i) := by show _ = _; rw [List.length_take]; omega
   have HSUC : Hid (scanF l i (l.length - i) = if faultAt l i = 0 then scanF l (i + 1) (l.length - (i + 1)) else (((faultAt l i : Nat) : Int), (i : Int))) := by
    show _ = _
    rw [show l.length - i = (l.length - (i + 1)) + 1 by omega]
    rfl
   by_cases hN : isN (txt l i) = true
   ·by_cases hM : txt l i ∈ l.take i
    ·have HA : Hid (R = (6, (i : Int))) := by
      show _ = _
      rw [<- HSC.out, HSUC.out, faultAt_twice hN hM, if_neg (by decide)]
      rfl
     have HIX : Hid (∀ W, Strs W (some ⟨b, o, none⟩) (l.take i) -> Calls Tryz.prog 44 #[.slice (some ⟨b, o, none⟩) (l.take i).length c, .string (txt l i)] W fun e w' => e = .returned (.int .i64 ((idxN (l.take i) (txt l i) : Nat) : Int)) /\ w' = W) := fun W hW => index_hit _ _ c _ W (by rw [List.length_take]; omega) hW hM
     rw [hN] at HNAME
     rw [HTAKE.out] at HIX
     have HST : Hid (Strs w1 (some ⟨b, o, none⟩) (l.take i)) := HS1.out.take i
     clear HSC HSUC HT HTAKE hN hM
     generalize idxN (l.take i) (txt l i) = k at *
     generalize txt l i = t at *
     go_wp2_with fail
     refine (HNAME.out _).mono ?_
     rintro e w2 ⟨rfl, hw2⟩
     rw [hw2]
     clear hw2 w2 HNAME
     go_wp2
     go_quiet ((go_at_call 44; exact Calls.quiet_of_same (HIX.out _ (HST.out.drewN _))))
     go_wp2
     refine bodyPost_ret (v := .agg #[.int .i64 R.1, .int .i64 R.2]) (by rw [HA.out]; simp [results, Tryz.results60, go_sem, q1, q2]) rfl ⟨rfl, ?_⟩
     exact pair_set (below_drewN HBW.out _) _ _
    ·have HA : Hid (scanF l (i + 1) (l.length - (i + 1)) = R) := by
      show _ = _
      rw [<- HSC.out, HSUC.out, faultAt_fine hN hM, if_pos rfl]
     have HIX : Hid (∀ W, Strs W (some ⟨b, o, none⟩) (l.take i) -> Calls Tryz.prog 44 #[.slice (some ⟨b, o, none⟩) (l.take i).length c, .string (txt l i)] W fun e w' => e = .returned (.int .i64 (-1)) /\ w' = W) := fun W hW => index_miss _ _ c _ W (by rw [List.length_take]; omega) hW hM
     rw [hN] at HNAME
     rw [HTAKE.out] at HIX
     have HST : Hid (Strs w1 (some ⟨b, o, none⟩) (l.take i)) := HS1.out.take i
     clear HSC HSUC HT HTAKE hN hM
     generalize txt l i = t at *
     go_wp2_with fail
     refine (HNAME.out _).mono ?_
     rintro e w2 ⟨rfl, hw2⟩
     rw [hw2]
     clear hw2 w2 HNAME
     go_wp2
     go_quiet ((go_at_call 44; exact Calls.quiet_of_same (HIX.out _ (HST.out.drewN _))))
     go_wp2
     go_roundw
     case rel => exact ⟨i + 1, by omega, by go_num, HA.out, below_drewN HBQ.out _⟩
     case measure => simp [intOf]; omega
   ·have hN' : isN (txt l i) = false := Bool.eq_false_iff.2 hN
    have HA : Hid (R = (4, (i : Int))) := by
     show _ = _
     rw [<- HSC.out, HSUC.out, faultAt_name hN', if_neg (by decide)]
     rfl
    rw [hN'] at HNAME
    clear HSC HSUC HT HTAKE hN hN'
    generalize txt l i = t at *
    go_wp2_with fail
    refine (HNAME.out _).mono ?_
    rintro e w2 ⟨rfl, hw2⟩
    rw [hw2]
    clear hw2 w2 HNAME
    go_wp2
    refine bodyPost_ret (v := .agg #[.int .i64 R.1, .int .i64 R.2]) (by rw [HA.out]; simp [results, Tryz.results60, go_sem, q1, q2]) rfl ⟨rfl, ?_⟩
    exact pair_set HBW.out _ _
  ·have hie : i = l.length := by omega
   subst hie
   have HA : Hid (R = (0, -1)) := by
    show _ = _
    rw [<- HSC.out, Nat.sub_self]
    rfl
   clear HSC
   go_wp2_with fail
   refine (fine_any _).mono ?_
   rintro e w2 ⟨rfl, hb2⟩
   obtain ⟨⟨r1, r2, e1, e2⟩, hbw⟩ := HK.out w2 (HBQ.out.trans (hb2.mono HBQ.out.size))
   clear q1 q2 f1 f2 hb2
   go_wp2
   refine bodyPost_ret (v := .agg #[.int .i64 R.1, .int .i64 R.2]) (by rw [HA.out]; simp [results, Tryz.results60, go_sem, r1, r2]) rfl ⟨rfl, ?_⟩
   exact pair_set hbw _ _
theorem nodesFault_any (p : Option Addr) (l : List ByteArray) (c : Nat) (w : World) (hl : l.length <= 1000000) (hc : l.length <= c) (ht : ∀ x ∈ l, x.size <= 1000000) (hs : Strs w p l) :
 Calls Tryz.prog 60 #[.slice p l.length c] w fun e w' => e = .returned (.agg #[.int .i64 (nodesF l).1, .int .i64 (nodesF l).2]) /\ Below w.heap.size w w' := by
 by_cases h : l.length < 1 ∨ 16 < l.length
 ·rw [nodesF_bound h]
  exact nodesFault_bound p l c w hl h
 ·rw [nodesF_scan (by omega) (by omega)]
  exact nodesFault_scan p l c w (by omega) (by omega) hc ht hs
theorem box_set {w wq : World} (hb : Below w.heap.size w wq) (a b : Value) : Below w.heap.size w ((wq.setCell ⟨w.heap.size + 1, 0, none⟩ a).setCell ⟨w.heap.size + 1, 1, none⟩ b) :=
 (hb.setCell (p := ⟨w.heap.size + 1, 0, none⟩) (by show w.heap.size <= w.heap.size + 1; omega) _).setCell (p := ⟨w.heap.size + 1, 1, none⟩) (by show w.heap.size <= w.heap.size + 1; omega) _
set_option maxRecDepth 10000 in
set_option maxHeartbeats 4000000 in
theorem rcfg_any (c : Cfg) (p : Option Addr) (cap : Nat) (w : World) (hc : CfgAt w c p cap) :
 Calls Tryz.prog 29 #[cfgA c (.slice p c.L.length cap)] w fun e w' => e = .returned (.agg #[.int .i64 (cfgF c).1, .int .i64 (cfgF c).2]) /\ Below w.heap.size w w' := by
 obtain ⟨hs, hcap, hnn, hlen, hsz, hin⟩ := hc
 obtain ⟨w1, hw1⟩ : ∃ w1, w1 = (w.alloc (.cells #[.int .i64 c.n, .int .i64 c.k, .slice p c.L.length cap] 24)).alloc (.cells #[.int .i64 0, .int .i64 0] 39) := ⟨_, rfl⟩
 have HW1 : Hid (w1 = (w.alloc (.cells #[.int .i64 c.n, .int .i64 c.k, .slice p c.L.length cap] 24)).alloc (.cells #[.int .i64 0, .int .i64 0] 39)) := hw1
 have e2 : (w.alloc (.cells #[.int .i64 c.n, .int .i64 c.k, .slice p c.L.length cap] 24)).heap.size = w.heap.size + 1 := by simp
 have hb1 : Below w.heap.size w w1 := by rw [hw1]; exact ((Below.refl _ _).alloc (Nat.le_refl _) _).alloc (by rw [e2]; omega) _
 have hx1 : w1.heap[w.heap.size]? = some (.cells #[.int .i64 c.n, .int .i64 c.k, .slice p c.L.length cap] 24 (0, 0)) := by
  rw [hw1, heap_alloc_old _ _ (by rw [e2]; omega)]
  exact heap_alloc_new _ _
 have hy1 : w1.heap[w.heap.size + 1]? = some (.cells #[.int .i64 0, .int .i64 0] 39 (0, 0)) := by
  rw [hw1, <- e2]
  exact heap_alloc_new _ _
 have hl1 := (Array.getElem?_eq_some_iff.1 hy1).1
 have HKE : Hid (∀ W, Below w1.heap.size w1 W -> W.cell? ⟨w.heap.size + 1, 0, none⟩ = some (.int .i64 0) /\ W.cell? ⟨w.heap.size + 1, 1, none⟩ = some (.int .i64 0) /\ (∀ i, W.frozen? ⟨w.heap.size + 1, i, none⟩ = false) /\ Below w.heap.size w W) := fun W hW => by
  have hy := (hW.block _ hl1).trans hy1
  exact ⟨by simp [World.cell?, hy], by simp [World.cell?, hy], fun i => by simp [World.frozen?, hy], hb1.trans (hW.mono hb1.size)⟩
 have q0 : w1.cell? ⟨w.heap.size, 0, none⟩ = some (.int .i64 c.n) := by simp [World.cell?, hx1]
 have q1 : w1.cell? ⟨w.heap.size, 1, none⟩ = some (.int .i64 c.k) := by simp [World.cell?, hx1]
 have q2 : w1.cell? ⟨w.heap.size, 2, none⟩ = some (.slice p c.L.length cap) := by simp [World.cell?, hx1]
 have HBA : Hid (∀ (x : Int) (W : World), Calls Tryz.prog 31 #[.int .i64 x] W fun e w' => e = .returned (.agg #[.int .i64 x, .int .i64 (-1)]) /\ Below W.heap.size W w') := fun x W => bare_any x W
 by_cases h1 : 1 <= c.k /\ c.k <= c.n /\ c.n <= 12
 ·have HIS : Hid (Calls Tryz.prog 59 #[.int .i64 c.n, .int .i64 c.k] w1 fun e w' => e = .returned (.bool true) /\ w' = w1) := isSpread_yes c.n c.k w1 h1.1 h1.2.1 h1.2.2
  by_cases h2 : (c.L.length : Int) = c.n
  ·have HNF : Hid (Calls Tryz.prog 60 #[.slice p c.L.length cap] w1 fun e w' => e = .returned (.agg #[.int .i64 (nodesF c.L).1, .int .i64 (nodesF c.L).2]) /\ Below w1.heap.size w1 w') := nodesFault_any p c.L cap w1 (by omega) hcap (fun x hx => by have := hsz x hx; omega) (hs.below hb1)
   rw [cfgF_nodes h1 h2]
   clear hw1 hb1 hx1 hy1 hl1 e2 hs hin HBA
   generalize nodesF c.L = F at *
   obtain ⟨cn, ck, L⟩ := c
   obtain ⟨F1, F2⟩ := F
   unfold cfgA
   simp only [] at *
   have d1 : ((L.length : Int) == cn) = true := by simpa using h2
   go_enter Tryz.func29, Tryz.ntmps29
   go_wp2_with fail
   rw [<- HW1.out]
   refine HIS.out.mono ?_
   rintro e w2 ⟨rfl, hw2⟩
   rw [hw2]
   clear hw2 w2 HIS
   go_wp2_with fail
   refine HNF.out.mono ?_
   rintro e w3 ⟨rfl, hb3⟩
   obtain ⟨z0, z1, z2, hlow⟩ := HKE.out w3 hb3
   have HB3 : Hid (Below w.heap.size w w3) := hlow
   clear hb3 hlow HNF
   go_wp2
   refine bodyPost_ret (v := .agg #[.int .i64 F1, .int .i64 F2]) (by simp [results, Tryz.results29, go_sem, z0, z1]) rfl ⟨rfl, box_set HB3.out _ _⟩
  ·rw [cfgF_shape h1 h2]
   clear hw1 hb1 hx1 hy1 hl1 e2 hs hin
   obtain ⟨cn, ck, L⟩ := c
   unfold cfgA
   simp only [] at *
   have d1 : ((L.length : Int) == cn) = false := by simpa using h2
   have d2 : ((L.length : Int) != cn) = true := by simpa using h2
   go_enter Tryz.func29, Tryz.ntmps29
   go_wp2_with fail
   rw [<- HW1.out]
   refine HIS.out.mono ?_
   rintro e w2 ⟨rfl, hw2⟩
   rw [hw2]
   clear hw2 w2 HIS
   go_wp2_with fail
   refine (HBA.out 3 w1).mono ?_
   rintro e w3 ⟨rfl, hb3⟩
   obtain ⟨z0, z1, z2, hlow⟩ := HKE.out w3 hb3
   have HB3 : Hid (Below w.heap.size w w3) := hlow
   clear hb3 hlow
   go_wp2
   refine bodyPost_ret (v := .agg #[.int .i64 3, .int .i64 (-1)]) (by simp [results, Tryz.results29, go_sem, z0, z1]) rfl ⟨rfl, box_set HB3.out _ _⟩
 ·have HIS : Hid (Calls Tryz.prog 59 #[.int .i64 c.n, .int .i64 c.k] w1 fun e w' => e = .returned (.bool false) /\ w' = w1) := isSpread_no c.n c.k w1 h1
  rw [cfgF_bound h1]
  clear hw1 hb1 hx1 hy1 hl1 e2 hs hin h1
  obtain ⟨cn, ck, L⟩ := c
  unfold cfgA
  simp only [] at *
  go_enter Tryz.func29, Tryz.ntmps29
  go_wp2_with fail
  rw [<- HW1.out]
  refine HIS.out.mono ?_
  rintro e w2 ⟨rfl, hw2⟩
  rw [hw2]
  clear hw2 w2 HIS
  go_wp2_with fail
  refine (HBA.out 2 w1).mono ?_
  rintro e w3 ⟨rfl, hb3⟩
  obtain ⟨z0, z1, z2, hlow⟩ := HKE.out w3 hb3
  have HB3 : Hid (Below w.heap.size w w3) := hlow
  clear hb3 hlow
  go_wp2
  refine bodyPost_ret (v := .agg #[.int .i64 2, .int .i64 (-1)]) (by simp [results, Tryz.results29, go_sem, z0, z1]) rfl ⟨rfl, box_set HB3.out _ _⟩
end Go.Proofs.YtobmckfcipeanaaGreatDoor
