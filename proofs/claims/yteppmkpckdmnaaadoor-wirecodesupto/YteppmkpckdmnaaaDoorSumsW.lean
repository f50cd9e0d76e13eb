/- Package sums: CRC of a text: what the document's arithmetic gives, bit by bit. -/
import Derived.Test.YteppmkpckdmnaaaDoorSealM
import Derived.Test.YteppmkpckdmnaaaDoorSealD
namespace Go.Proofs.YteppmkpckdmnaaaDoor
open Go.RowKit
theorem u32_and_one (a : Nat) (ha : a < 4294967296) : bits .and .u32 (a : Int) 1 = ((a % 2 : Nat) : Int) := by
  show IntKind.u32.wrap ((BitVec.ofInt 32 (a : Int) &&& BitVec.ofInt 32 ((1 : Nat) : Int)).toNat : Int) = _
  rw [BitVec.toNat_and, BitVec.ofInt_natCast, BitVec.ofInt_natCast, BitVec.toNat_ofNat, BitVec.toNat_ofNat, Nat.mod_eq_of_lt (by omega), Nat.mod_eq_of_lt (by omega), Nat.and_one_is_mod]
  show ((a % 2 : Nat) : Int) % 4294967296 = _
  omega
theorem zs_succ (k c : Nat) : Crc.zs (k + 1) c = Crc.step (Crc.zs k c) 0 := rfl
theorem zs_lt {c : Nat} (h : c < 4294967296) (k : Nat) : Crc.zs k c < 4294967296 := Crc.crcTo_lt (by omega) k
set_option maxRecDepth 10000 in
set_option maxHeartbeats 1000000 in
theorem divided_any (c : Nat) (w : World) (hc : c < 4294967296) :
    Calls Tryd.prog 51 #[.int .u32 (c : Int)] w fun e w' => e = .returned (.int .u32 ((Crc.zs 8 c : Nat) : Int)) ∧ w' = w := by
  go_enter Tryd.func51, Tryd.ntmps51
  go_wp2
  go_loop [0, 4] (fun x i => ∃ k : Nat, k ≤ 8 ∧ i = .int .i64 k ∧ x = .int .u32 ((Crc.zs k c : Nat) : Int)) (fun _ i => 8 - (intOf i).toNat)
  case atStart => exact ⟨0, by omega, rfl, rfl⟩
  case round =>
    obtain ⟨k, hk, rfl, rfl⟩ := hrel
    have hlt := zs_lt hc k
    have HNX : Hid (Crc.zs (k + 1) c = Crc.step (Crc.zs k c) 0) := by show _ = _; rfl
    by_cases hkl : k < 8
    · have ha := u32_and_one (Crc.zs k c) hlt
      generalize Crc.zs k c = d at *
      rcases Nat.mod_two_eq_zero_or_one d with hp | hp
      · have HE : Hid (((d / 2 : Nat) : Int) = ((Crc.zs (k + 1) c : Nat) : Int)) := by show _ = _; rw [HNX.out, step_none (q := 0) (by rw [Nat.xor_zero]; exact hp) rfl]
        rw [hp] at ha
        clear hp
        go_wp2
        go_round
        case rel => exact ⟨k + 1, by omega, by go_num, by rw [← HE.out]; simp⟩
        case measure => simp [intOf]; omega
      · have HE : Hid (bits .xor .u32 ((d : Int) / 2) 3988292384 = ((Crc.zs (k + 1) c : Nat) : Int)) := by
          show _ = _
          rw [HNX.out, step_one (q := 0) (by rw [Nat.xor_zero]; exact hp) rfl, show ((d : Int) / 2) = ((d / 2 : Nat) : Int) by omega]
          exact u32_xor_nat (d / 2) 3988292384 (by omega) (by decide)
        rw [hp] at ha
        clear hp
        go_wp2
        go_round
        case rel => exact ⟨k + 1, by omega, by go_num, by rw [← HE.out]⟩
        case measure => simp [intOf]; omega
    · have hke : k = 8 := by omega
      subst hke
      go_wp2
      go_ret
      exact ⟨rfl, rfl⟩
theorem num_byte {y : Nat} (hy : y < 256) : Crc.num (fun k => Gf.bitOf y k) 8 = y := by
  revert y
  have h : ∀ y : Fin 256, Crc.num (fun k => Gf.bitOf y.1 k) 8 = y.1 := by decide +kernel
  intro y hy
  exact h ⟨y, hy⟩
theorem num_congr {f g : Nat → Nat} : ∀ m, (∀ i, i < m → f i = g i) → Crc.num f m = Crc.num g m
  | 0, _ => rfl
  | m + 1, h => by
    show Crc.num f m ^^^ 2 ^ m * f m = Crc.num g m ^^^ 2 ^ m * g m
    rw [num_congr m (fun i hi => h i (by omega)), h m (by omega)]
/-- The remainder byte by byte. -/
theorem crc_byte (s : ByteArray) (i : Nat) : Crc.crcTo (tbit s) 4294967295 (8 * (i + 1)) = Crc.zs 8 (Crc.crcTo (tbit s) 4294967295 (8 * i) ^^^ Gf.nth (bytesOf s) i) := by
  rw [show 8 * (i + 1) = 8 * i + 8 by omega, Crc.crcTo_add, Crc.crcTo_num (fun k => tbit_lt s _)]
  congr 2
  rw [← num_byte (bytesOf_lt s i)]
  refine num_congr 8 fun k hk => ?_
  show Gf.bitOf (Gf.nth (bytesOf s) ((8 * i + k) / 8)) ((8 * i + k) % 8) = _
  rw [show (8 * i + k) / 8 = i by omega, show (8 * i + k) % 8 = k by omega]
set_option maxRecDepth 10000 in
set_option maxHeartbeats 1000000 in
theorem crc_any (s : ByteArray) (w : World) (hs : s.size ≤ 1000000) :
    Calls Tryd.prog 41 #[.string s] w fun e w' => e = .returned (.int .u32 ((crcOf s : Nat) : Int)) ∧ w' = w := by
  go_enter Tryd.func41, Tryd.ntmps41
  go_wp2
  go_loop [3, 7] (fun c x => ∃ i : Nat, i ≤ s.size ∧ x = .int .i64 i ∧ c = .int .u32 ((Crc.crcTo (tbit s) 4294967295 (8 * i) : Nat) : Int)) (fun _ x => s.size - (intOf x).toNat)
  case atStart => exact ⟨0, Nat.zero_le _, rfl, rfl⟩
  case round =>
    obtain ⟨i, hi, rfl, rfl⟩ := hrel
    have hcl : Crc.crcTo (tbit s) 4294967295 (8 * i) < 4294967296 := Crc.crcTo_lt (by decide) _
    by_cases hil : i < s.size
    · have hix := run_idx s i hil
      have hy := bytesOf_lt s i
      have HNX : Hid (Crc.crcTo (tbit s) 4294967295 (8 * (i + 1)) = Crc.zs 8 (Crc.crcTo (tbit s) 4294967295 (8 * i) ^^^ Gf.nth (bytesOf s) i)) := crc_byte s i
      have hxl : Crc.crcTo (tbit s) 4294967295 (8 * i) ^^^ Gf.nth (bytesOf s) i < 4294967296 := Nat.xor_lt_two_pow (n := 32) hcl (by omega)
      have hx := u32_xor_nat (Crc.crcTo (tbit s) 4294967295 (8 * i)) (Gf.nth (bytesOf s) i) hcl (by omega)
      generalize Crc.crcTo (tbit s) 4294967295 (8 * i) = c at *
      generalize Gf.nth (bytesOf s) i = y at *
      generalize c ^^^ y = q at *
      have HD := fun W => divided_any q W hxl
      rw [← HNX.out] at HD
      clear hxl HNX
      go_wp2_with (go_at_call 51; refine (HD _).mono ?_; rintro e w' ⟨rfl, rfl⟩)
      go_round
      case rel => exact ⟨i + 1, by omega, by go_num, rfl⟩
      case measure => simp [intOf]; omega
    · have hie : i = s.size := by omega
      subst hie
      have HC : Hid (crcS s = Crc.crcTo (tbit s) 4294967295 (8 * s.size)) := by show _ = _; rfl
      have HX : Hid (bits .xor .u32 IntKind.u32.max ((Crc.crcTo (tbit s) 4294967295 (8 * s.size) : Nat) : Int) = ((crcOf s : Nat) : Int)) := by
        show _ = _
        have h := u32_xor_nat 4294967295 (Crc.crcTo (tbit s) 4294967295 (8 * s.size)) (by decide) hcl
        unfold crcOf
        rw [HC.out, Nat.xor_comm]
        exact h
      go_wp2
      go_ret
      exact ⟨ret_int HX.out, rfl⟩
end Go.Proofs.YteppmkpckdmnaaaDoor
