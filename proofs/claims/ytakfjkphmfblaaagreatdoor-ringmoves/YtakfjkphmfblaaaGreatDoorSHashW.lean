/- Package sums: Hash of a text. -/
import Derived.Test.YtakfjkphmfblaaaGreatDoorHashM
namespace Go.Proofs.YtakfjkphmfblaaaGreatDoor
open Go.RowKit
theorem u32_xor_nat (a b : Nat) (ha : a < 4294967296) (hb : b < 4294967296) : bits .xor .u32 (a : Int) (b : Int) = ((a ^^^ b : Nat) : Int) := by
  have hx : a ^^^ b < 2 ^ 32 := Nat.xor_lt_two_pow (by omega) (by omega)
  show IntKind.u32.wrap ((BitVec.ofInt 32 (a : Int) ^^^ BitVec.ofInt 32 (b : Int)).toNat : Int) = _
  rw [BitVec.toNat_xor, BitVec.ofInt_natCast, BitVec.ofInt_natCast, BitVec.toNat_ofNat, BitVec.toNat_ofNat, Nat.mod_eq_of_lt (by omega), Nat.mod_eq_of_lt (by omega)]
  show ((a ^^^ b : Nat) : Int) % 4294967296 = _
  omega
set_option maxRecDepth 10000 in
set_option maxHeartbeats 1000000 in
theorem hash_any (s : ByteArray) (w : World) (hs : s.size ≤ 1000000) :
    Calls Tryz.prog 37 #[.string s] w fun e w' => e = .returned (.int .u32 ((hashTo s s.size : Nat) : Int)) ∧ w' = w := by
  go_enter Tryz.func37, Tryz.ntmps37
  go_wp2
  go_loop [3, 7] (fun c x => ∃ i : Nat, i ≤ s.size ∧ x = .int .i64 i ∧ c = .int .u32 ((hashTo s i : Nat) : Int)) (fun _ x => s.size - (intOf x).toNat)
  case atStart => exact ⟨0, Nat.zero_le _, rfl, rfl⟩
  case round =>
    obtain ⟨i, hi, rfl, rfl⟩ := hrel
    have hcl := hashTo_lt s i
    by_cases hil : i < s.size
    · have hix := run_idx s i hil
      have hy := bytesOf_lt s i
      have HNX : Hid (hashTo s (i + 1) = (hashTo s i ^^^ Gf.nth (bytesOf s) i) * 16777619 % 4294967296) := by show _ = _; rfl
      generalize hashTo s i = c at *
      generalize Gf.nth (bytesOf s) i = y at *
      have hx : bits .xor .u32 (c : Int) (y : Int) = ((c ^^^ y : Nat) : Int) := u32_xor_nat _ _ hcl (by omega)
      generalize c ^^^ y = q at *
      go_wp2
      go_round
      case rel => exact ⟨i + 1, by omega, by go_num, by rw [HNX.out]; congr 1⟩
      case measure => simp [intOf]; omega
    · have hie : i = s.size := by omega
      subst hie
      go_wp2
      go_ret
      exact ⟨rfl, rfl⟩
end Go.Proofs.YtakfjkphmfblaaaGreatDoor
