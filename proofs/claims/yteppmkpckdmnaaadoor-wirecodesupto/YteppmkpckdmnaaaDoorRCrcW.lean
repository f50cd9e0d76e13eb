/- The document's own CRC of a text. -/
import Derived.Test.YteppmkpckdmnaaaDoorHashM
import Derived.Test.YteppmkpckdmnaaaDoorSealD
namespace Go.Proofs.YteppmkpckdmnaaaDoor
open Go.RowKit
set_option maxRecDepth 10000 in
set_option maxHeartbeats 2000000 in
theorem rcrc_any (s : ByteArray) (w : World) (hs : s.size ≤ 1000000) :
    Calls Tryd.prog 20 #[.string s] w fun e w' => e = .returned (.int .i64 ((crcOf s : Nat) : Int)) ∧ w' = w := by
  have HF : Hid (bits .xor .i64 ((crcS s : Nat) : Int) 4294967295 = ((crcOf s : Nat) : Int)) := by
    show _ = _
    have := i64_xor_nat (crcS s) 4294967295 (by have := crcS_lt s; omega) (by decide)
    exact this
  go_enter Tryd.func20, Tryd.ntmps20
  go_wp2
  go_loop [3, 4] (fun c x => ∃ i : Nat, i ≤ s.size ∧ x = .int .i64 i ∧ c = .int .i64 ((Crc.crcTo (tbit s) 4294967295 (8 * i) : Nat) : Int)) (fun _ x => s.size - (intOf x).toNat)
  case atStart => exact ⟨0, Nat.zero_le _, rfl, rfl⟩
  case round =>
    obtain ⟨i, hi, rfl, rfl⟩ := hrel
    by_cases hil : i < s.size
    · have hix := run_idx s i hil
      have HIX : Hid (∀ W, Sem.run Tryd.prog (Instr.index 9 (.string s) (.int .i64 (i : Int))) W = .ok (.int .u8 ((Gf.nth (bytesOf s) i : Nat) : Int)) W) := hix
      have hy := bytesOf_lt s i
      clear hix
      go_wp2
      go_loop [3, 5] (fun c x => ∃ k : Nat, k ≤ 8 ∧ x = .int .i64 k ∧ c = .int .i64 ((Crc.crcTo (tbit s) 4294967295 (8 * i + k) : Nat) : Int)) (fun _ x => 8 - (intOf x).toNat)
      case atStart => exact ⟨0, by omega, rfl, rfl⟩
      case round =>
        obtain ⟨k, hk, rfl, rfl⟩ := hrel
        have hcl : Crc.crcTo (tbit s) 4294967295 (8 * i + k) < 4294967296 := Crc.crcTo_lt (by decide) _
        by_cases hkl : k < 8
        · have hix := HIX.out
          have hd : ((Gf.nth (bytesOf s) i : Nat) : Int) / 2 ^ k = ((Gf.nth (bytesOf s) i / 2 ^ k : Nat) : Int) := by simp
          have hq : Gf.nth (bytesOf s) i / 2 ^ k < 256 := Nat.lt_of_le_of_lt (Nat.div_le_self _ _) hy
          have htb : tbit s (8 * i + k) = Gf.nth (bytesOf s) i / 2 ^ k % 2 := by
            unfold tbit Gf.bitOf
            rw [show (8 * i + k) / 8 = i by omega, show (8 * i + k) % 8 = k by omega]
          have HTB : Hid (tbit s (8 * i + k) = Gf.nth (bytesOf s) i / 2 ^ k % 2) := htb
          have HNX : Hid (Crc.crcTo (tbit s) 4294967295 (8 * i + (k + 1)) = Crc.step (Crc.crcTo (tbit s) 4294967295 (8 * i + k)) (tbit s (8 * i + k))) := by show _ = _; rfl
          have hx : bits .xor .i64 ((Crc.crcTo (tbit s) 4294967295 (8 * i + k) : Nat) : Int) (((Gf.nth (bytesOf s) i : Nat) : Int) / 2 ^ k) = ((Crc.crcTo (tbit s) 4294967295 (8 * i + k) ^^^ (Gf.nth (bytesOf s) i / 2 ^ k) : Nat) : Int) := by
            rw [hd]
            exact i64_xor_nat _ _ (by omega) (by omega)
          have HX : Hid (bits .xor .i64 ((Crc.crcTo (tbit s) 4294967295 (8 * i + k) : Nat) : Int) (((Gf.nth (bytesOf s) i : Nat) : Int) / 2 ^ k) = ((Crc.crcTo (tbit s) 4294967295 (8 * i + k) ^^^ (Gf.nth (bytesOf s) i / 2 ^ k) : Nat) : Int)) := hx
          clear htb hd hx
          generalize Crc.crcTo (tbit s) 4294967295 (8 * i + k) = c at *
          generalize Gf.nth (bytesOf s) i = y at *
          rcases Nat.mod_two_eq_zero_or_one (c ^^^ y / 2 ^ k) with hp | hp
          · have ht : ((bits .xor .i64 (c : Int) ((y : Int) / 2 ^ k)).tmod 2 == 1) = false := by
              rw [HX.out, Int.tmod_eq_emod_of_nonneg (by omega), beq_eq_false_iff_ne]
              omega
            have HE : Hid (((c / 2 : Nat) : Int) = ((Crc.crcTo (tbit s) 4294967295 (8 * i + (k + 1)) : Nat) : Int)) := by show _ = _; rw [HNX.out, step_none hp HTB.out]
            clear hp
            go_wp2
            go_round
            case rel => exact ⟨k + 1, by omega, by go_num, by rw [← HE.out]; simp⟩
            case measure => simp [intOf]; omega
          · have ht : ((bits .xor .i64 (c : Int) ((y : Int) / 2 ^ k)).tmod 2 == 1) = true := by
              rw [HX.out, Int.tmod_eq_emod_of_nonneg (by omega), beq_iff_eq]
              omega
            have HE : Hid (bits .xor .i64 ((c : Int) / 2) 3988292384 = ((Crc.crcTo (tbit s) 4294967295 (8 * i + (k + 1)) : Nat) : Int)) := by
              show _ = _
              rw [HNX.out, step_one hp HTB.out, show ((c : Int) / 2) = ((c / 2 : Nat) : Int) by omega]
              exact i64_xor_nat (c / 2) 3988292384 (by omega) (by decide)
            clear hp
            go_wp2
            go_round
            case rel => exact ⟨k + 1, by omega, by go_num, by rw [← HE.out]⟩
            case measure => simp [intOf]; omega
        · have hke : k = 8 := by omega
          subst hke
          have HE : Hid (8 * i + 8 = 8 * (i + 1)) := by show _ = _; omega
          go_wp2
          go_round
          case rel => exact ⟨i + 1, by omega, by go_num, by rw [← HE.out]⟩
          case measure => simp [intOf]; omega
    · have hie : i = s.size := by omega
      subst hie
      have HC : Hid (crcS s = Crc.crcTo (tbit s) 4294967295 (8 * s.size)) := by show _ = _; rfl
      go_wp2
      go_ret
      exact ⟨ret_int (by rw [← HC.out]; exact HF.out), rfl⟩
end Go.Proofs.YteppmkpckdmnaaaDoor
