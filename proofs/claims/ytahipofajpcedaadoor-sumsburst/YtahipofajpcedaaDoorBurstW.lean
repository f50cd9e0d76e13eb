/- The walk of the law SumsBurst: whatever the text, the place and the burst, the call returns true; nothing that was there is written. -/
import Derived.Test.YtahipofajpcedaaDoorOpenW
namespace Go.Proofs.YtahipofajpcedaaDoor
open Go.RowKit
set_option maxRecDepth 10000 in
set_option maxHeartbeats 4000000 in
theorem burstLaw_pass (s : ByteArray) (at_ : Int) (burst : Nat) (w : World) (hs : s.size ≤ maxLen) (hb : burst < 4294967296) (h1 : -9223372036854775808 ≤ at_) (h2 : at_ ≤ 9223372036854775807) (h : ¬ (s.size ≤ 600 ∧ burst ≠ 0 ∧ 0 ≤ at_ ∧ at_ < 8 * s.size)) :
    Calls Tryd.prog 4 #[.string s, .int .i64 at_, .int .u32 (burst : Int)] w fun e w' => e = .returned (.bool true) ∧ Below w.heap.size w w' := by
  unfold maxLen at hs
  by_cases e1 : 600 < s.size
  · go_enter Tryd.func4, Tryd.ntmps4
    go_wp2_with fail
    refine (check_any _).mono ?_
    rintro e w1 ⟨rfl, h1⟩
    rw [h1]
    clear h1 w1
    go_wp2
    go_ret
    exact ⟨rfl, Below.refl _ _⟩
  have HH : Hid (¬ (s.size ≤ 600 ∧ burst ≠ 0 ∧ 0 ≤ at_ ∧ at_ < 8 * s.size)) := h
  clear h
  by_cases e2 : burst = 0
  · subst e2
    go_enter Tryd.func4, Tryd.ntmps4
    go_wp2_with fail
    refine (check_any _).mono ?_
    rintro e w1 ⟨rfl, h1⟩
    rw [h1]
    clear h1 w1
    go_wp2
    go_ret
    exact ⟨rfl, Below.refl _ _⟩
  have e2' : ((burst : Int) == 0) = false := by
    rw [beq_eq_false_iff_ne]
    omega
  by_cases e3 : at_ < 0
  · go_enter Tryd.func4, Tryd.ntmps4
    go_wp2_with fail
    refine (check_any _).mono ?_
    rintro e w1 ⟨rfl, h1⟩
    rw [h1]
    clear h1 w1
    go_wp2
    go_ret
    exact ⟨rfl, Below.refl _ _⟩
  have e4 : (8 * (s.size : Int)) ≤ at_ := Classical.byContradiction fun hx => HH.out ⟨by omega, e2, by omega, by omega⟩
  by_cases e5 : 8 * (s.size : Int) + 32 < wrap64 (at_ + 32)
  · go_enter Tryd.func4, Tryd.ntmps4
    go_wp2_with fail
    refine (check_any _).mono ?_
    rintro e w1 ⟨rfl, h1⟩
    rw [h1]
    clear h1 w1
    go_wp2
    go_ret
    exact ⟨rfl, Below.refl _ _⟩
  have HSE : Hid (∀ W, Calls Tryd.prog 6 #[.string s] W fun e w' => e = .returned (.string (sealT s)) ∧ Below W.heap.size W w') := fun W => seal_any s W (by omega)
  go_enter Tryd.func4, Tryd.ntmps4
  go_wp2_with fail
  refine (check_any _).mono ?_
  rintro e w1 ⟨rfl, h1⟩
  rw [h1]
  clear h1 w1
  go_wp2_with fail
  refine (HSE.out _).mono ?_
  rintro e w1 ⟨rfl, hb1⟩
  have hcv : Sem.run Tryd.prog (convert 9 36 (.string (sealT s))) w1 = .ok (.slice (some ⟨w1.heap.size, 0, none⟩) (sealT s).size (grownCap w1 (sealT s).size 0 5)) (Lib.bytesWorld w1 5 (sealT s)) := Lib.run_convert_string_bytes w1 9 36 5 (sealT s) Tryd.underlying9 Tryd.underlying36 Tryd.underlying5
  have HB2 : Hid (Below w1.heap.size w1 (Lib.bytesWorld w1 5 (sealT s))) := below_bytesWorld w1 5 (sealT s)
  have HB1 : Hid (Below w.heap.size w w1) := hb1
  generalize Lib.bytesWorld w1 5 (sealT s) = w3 at hcv HB2
  generalize grownCap w1 (sealT s).size 0 5 = cp at hcv
  generalize sealT s = t at *
  clear HSE hb1
  go_wp2
  go_ret
  exact ⟨rfl, HB1.out.trans (HB2.out.mono HB1.out.size)⟩
set_option maxRecDepth 10000 in
set_option maxHeartbeats 8000000 in
theorem burstLaw_in (s : ByteArray) (a burst : Nat) (ad : Nat → Addr) (w : World) (hs : s.size ≤ 600) (_hb : burst < 4294967296) (hb0 : burst ≠ 0) (ha : a < 8 * s.size) (hS : Sent w ad) :
    Calls Tryd.prog 4 #[.string s, .int .i64 (a : Int), .int .u32 (burst : Int)] w fun e w' => e = .returned (.bool true) ∧ Below w.heap.size w w' := by
  have HS : Hid (Sent w ad) := hS
  have HSE : Hid (∀ W, Calls Tryd.prog 6 #[.string s] W fun e w' => e = .returned (.string (sealT s)) ∧ Below W.heap.size W w') := fun W => seal_any s W (by omega)
  have HBO : Hid (∀ i, i ≤ 32 → strOf (flipTo (bytesOf (sealT s)) (8 * s.size) a burst i) ≠ sealT s → fourT (crcOf (cutT (strOf (flipTo (bytesOf (sealT s)) (8 * s.size) a burst i)))) ≠ endT (strOf (flipTo (bytesOf (sealT s)) (8 * s.size) a burst i))) := fun i hi h => burst_open s a burst i hi h
  have hsz : (sealT s).size = s.size + 4 := sealT_size s
  have hlen : (bytesOf (sealT s)).length = s.size + 4 := by rw [bytesOf_length, hsz]
  have HLEN : Hid (∀ i, (flipTo (bytesOf (sealT s)) (8 * s.size) a burst i).length = s.size + 4) := fun i => by rw [flipTo_length, hlen]
  have HSZ : Hid ((sealT s).size = s.size + 4) := hsz
  have g1 : decide (600 < (s.size : Int)) = false := decide_eq_false (by omega)
  have g2 : ((burst : Int) == 0) = false := by
    rw [beq_eq_false_iff_ne]
    omega
  have g2' : ¬ burst = 0 := hb0
  clear hS hb0 hlen
  go_enter Tryd.func4, Tryd.ntmps4
  go_wp2_with fail
  refine (check_any _).mono ?_
  rintro e w1 ⟨rfl, h1⟩
  rw [h1]
  clear h1 w1
  go_wp2_with fail
  refine (HSE.out _).mono ?_
  rintro e w1 ⟨rfl, hb1⟩
  have hcv : Sem.run Tryd.prog (convert 9 36 (.string (sealT s))) w1 = .ok (.slice (some ⟨w1.heap.size, 0, none⟩) (s.size + 4) (grownCap w1 (sealT s).size 0 5)) (Lib.bytesWorld w1 5 (sealT s)) := by
    have h := Lib.run_convert_string_bytes (P := Tryd.prog) w1 9 36 5 (sealT s) Tryd.underlying9 Tryd.underlying36 Tryd.underlying5
    rw [h]
    congr 2
  have HR2 : Hid (BRow (Lib.bytesWorld w1 5 (sealT s)) w1.heap.size (bytesOf (sealT s))) := brow_bytesWorld w1 5 (sealT s)
  have HB2 : Hid (Below w.heap.size w (Lib.bytesWorld w1 5 (sealT s))) := hb1.trans ((below_bytesWorld w1 5 (sealT s)).mono hb1.size)
  have hgw : w.heap.size ≤ w1.heap.size := hb1.size
  generalize Lib.bytesWorld w1 5 (sealT s) = w3 at hcv HB2 HR2
  generalize grownCap w1 (sealT s).size 0 5 = cp at hcv
  generalize w1.heap.size = g at hcv HR2 hgw
  clear hb1 hsz
  go_wp2
  go_loopw [9] (fun x wq => ∃ i : Nat, i ≤ 32 ∧ x = .int .i64 i ∧ BRow wq g (flipTo (bytesOf (sealT s)) (8 * s.size) a burst i) ∧ Below w.heap.size w wq) (fun x _ => 32 - (intOf x).toNat)
  case atStart => exact ⟨0, by omega, rfl, HR2.out, HB2.out⟩
  case round =>
    obtain ⟨i, hi, rfl, hRq, hBq⟩ := hrel
    obtain ⟨w4, rfl⟩ : ∃ w4, w4 = wr := ⟨_, rfl⟩
    have HRq : Hid (BRow w4 g (flipTo (bytesOf (sealT s)) (8 * s.size) a burst i)) := hRq
    have HBq : Hid (Below w.heap.size w w4) := hBq
    clear hRq hBq HR2 HB2
    by_cases hil : i < 32
    · have HNX : Hid (flipTo (bytesOf (sealT s)) (8 * s.size) a burst (i + 1) = if burst / 2 ^ i % 2 = 1 ∧ a + i < 8 * s.size then flip1 (flipTo (bytesOf (sealT s)) (8 * s.size) a burst i) (a + i) else flipTo (bytesOf (sealT s)) (8 * s.size) a burst i) := by show _ = _; rfl
      have HL := HLEN.out i
      generalize flipTo (bytesOf (sealT s)) (8 * s.size) a burst i = l at *
      have ht := tmod_test burst i
      by_cases hbit : Gf.bitOf burst i = 1
      · by_cases hin : a + i < 8 * s.size
        · rw [decide_eq_true hbit] at ht
          have hk : (a + i) / 8 < l.length := by omega
          have q1 := HRq.out.cell hk
          have q2 := HRq.out.free hk
          have lx := HRq.out.2.1 ((a + i) / 8)
          have HFL : Hid (flip1 l (a + i) = l.set ((a + i) / 8) (Gf.nth l ((a + i) / 8) ^^^ 2 ^ ((a + i) % 8))) := by show _ = _; rfl
          generalize Gf.nth l ((a + i) / 8) = x at *
          have HK : Hid ((a + i) / 8 < l.length) := hk
          have HE : Hid (flipTo (bytesOf (sealT s)) (8 * s.size) a burst (i + 1) = flip1 l (a + i)) := by
            show _ = _
            rw [HNX.out, if_pos ⟨hbit, hin⟩]
          have hp : 2 ^ ((a + i) % 8) < 256 := Nat.lt_of_lt_of_le (Nat.pow_lt_pow_right (by decide) (Nat.mod_lt (a + i) (by decide : 0 < 8))) (by decide)
          have HXL : Hid (x ^^^ 2 ^ ((a + i) % 8) < 256) := Gf.xlt lx hp
          have HV : Hid (bits .xor .u8 (x : Int) ((2 : Int) ^ ((a + i) % 8) % 256) = ((x ^^^ 2 ^ ((a + i) % 8) : Nat) : Int)) := by
            show _ = _
            rw [show ((2 : Int) ^ ((a + i) % 8) % 256) = ((2 ^ ((a + i) % 8) : Nat) : Int) by
              rw [show ((2 : Int) ^ ((a + i) % 8)) = ((2 ^ ((a + i) % 8) : Nat) : Int) by simp]
              generalize 2 ^ ((a + i) % 8) = y at *
              omega]
            exact u8_xor_nat _ _ lx hp
          clear hbit hk hp HNX
          go_wp2
          go_roundw
          case rel =>
            have h1 := HRq.out.set (i := (a + i) / 8) HK.out HXL.out
            have h2 := HBq.out.setCell (p := ⟨g, (a + i) / 8, none⟩) hgw (.int .u8 ((x ^^^ 2 ^ ((a + i) % 8) : Nat) : Int))
            rw [← HFL.out, ← HE.out] at h1
            rw [HV.out]
            exact ⟨i + 1, by omega, by go_num, h1, h2⟩
          case measure => simp [intOf]; omega
        · rw [decide_eq_true hbit] at ht
          have HE : Hid (flipTo (bytesOf (sealT s)) (8 * s.size) a burst (i + 1) = l) := by show _ = _; rw [HNX.out, if_neg (by omega)]
          clear hbit HNX
          go_wp2
          go_roundw
          case rel => exact ⟨i + 1, by omega, by go_num, by rw [HE.out]; exact HRq.out, HBq.out⟩
          case measure => simp [intOf]; omega
      · rw [decide_eq_false hbit] at ht
        have HE : Hid (flipTo (bytesOf (sealT s)) (8 * s.size) a burst (i + 1) = l) := by show _ = _; rw [HNX.out, if_neg (fun h => hbit h.1)]
        clear hbit HNX
        go_wp2
        go_roundw
        case rel => exact ⟨i + 1, by omega, by go_num, by rw [HE.out]; exact HRq.out, HBq.out⟩
        case measure => simp [intOf]; omega
    · have hie : i = 32 := by omega
      subst hie
      have hcv2 : Sem.run Tryd.prog (convert 36 9 (.slice (some ⟨g, 0, none⟩) (s.size + 4) cp)) w4 = .ok (.string (strOf (flipTo (bytesOf (sealT s)) (8 * s.size) a burst 32))) w4 := by
        have h := conv_seg HRq.out.seg cp
        rw [HLEN.out] at h
        exact h
      have hts : (strOf (flipTo (bytesOf (sealT s)) (8 * s.size) a burst 32)).size = s.size + 4 := by rw [strOf_size, HLEN.out]
      have hop := HBO.out 32 (Nat.le_refl _)
      clear HRq hcv HBO HLEN HSZ
      generalize strOf (flipTo (bytesOf (sealT s)) (8 * s.size) a burst 32) = t at *
      by_cases hq : t = sealT s
      · subst hq
        clear hop hts
        go_wp2_with fail
        refine (HSE.out _).mono ?_
        rintro e w5 ⟨rfl, hb5⟩
        clear HSE hcv2
        generalize sealT s = t at *
        go_wp2
        go_ret
        exact ⟨rfl, HBq.out.trans (hb5.mono HBq.out.size)⟩
      · have HO : Hid (∀ W, Sent W ad → Calls Tryd.prog 12 #[.string t] W fun e w' => e = .returned (.tuple #[.string ⟨#[]⟩, .iface 79 (.pointer (some (ad 8)))]) ∧ Below W.heap.size W w') := fun W hW => open_bad t ad W (by omega) (by omega) (hop hq) hW
        have HCO : Hid (∀ W, Sent W ad → Calls Tryd.prog 14 #[.iface 79 (.pointer (some (ad 8))), .int .i64 9] W fun e w' => e = .returned (.bool true) ∧ Below W.heap.size W w') := fun W hW => coded_sent ad 8 (by decide) W hW
        have h1 : ¬ t.toList = (sealT s).toList := fun e => hq (toListInj e)
        have h2 : (t.toList == (sealT s).toList) = false := by simpa using h1
        have h3 : (t == sealT s) = false := by rw [beq_toListBytes]; exact h2
        clear hop hts
        generalize sealT s = u at *
        go_wp2_with fail
        refine (HSE.out _).mono ?_
        rintro e w5 ⟨rfl, hb5⟩
        have HB5 : Hid (Below w.heap.size w w5) := HBq.out.trans (hb5.mono HBq.out.size)
        clear HSE hcv2 hb5 HBq
        go_wp2_with fail
        refine (HO.out _ (HS.out.below HB5.out)).mono ?_
        rintro e w6 ⟨rfl, hb6⟩
        have HB6 : Hid (Below w.heap.size w w6) := HB5.out.trans (hb6.mono HB5.out.size)
        clear HO hb6 HB5
        go_wp2_with fail
        refine (HCO.out _ (HS.out.below HB6.out)).mono ?_
        rintro e w7 ⟨rfl, hb7⟩
        clear HCO
        go_wp2
        go_ret
        exact ⟨rfl, HB6.out.trans (hb7.mono HB6.out.size)⟩
theorem burstLaw_any (s : ByteArray) (at_ : Int) (burst : Nat) (ad : Nat → Addr) (w : World) (hs : s.size ≤ maxLen) (hb : burst < 4294967296) (h1 : -9223372036854775808 ≤ at_) (h2 : at_ ≤ 9223372036854775807) (hS : Sent w ad) :
    Calls Tryd.prog 4 #[.string s, .int .i64 at_, .int .u32 (burst : Int)] w fun e w' => e = .returned (.bool true) ∧ Below w.heap.size w w' := by
  by_cases h : s.size ≤ 600 ∧ burst ≠ 0 ∧ 0 ≤ at_ ∧ at_ < 8 * s.size
  · obtain ⟨a, rfl⟩ := Int.eq_ofNat_of_zero_le h.2.2.1
    exact burstLaw_in s a burst ad w h.1 hb h.2.1 (by have := h.2.2.2; omega) hS
  · exact burstLaw_pass s at_ burst w hs hb h1 h2 h
end Go.Proofs.YtahipofajpcedaaDoor
