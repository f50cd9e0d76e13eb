/- The document's own Hash of a text. -/
import Derived.Test.YtakfjkphmfblaaaGreatDoorHashM
namespace Go.Proofs.YtakfjkphmfblaaaGreatDoor
open Go.RowKit
set_option maxRecDepth 10000 in
set_option maxHeartbeats 2000000 in
theorem rhash_any (s : ByteArray) (w : World) (hs : s.size ≤ 1000000) :
    Calls Tryz.prog 24 #[.string s] w fun e w' => e = .returned (.int .i64 ((hashTo s s.size : Nat) : Int)) ∧ w' = w := by
  go_enter Tryz.func24, Tryz.ntmps24
  go_wp2
  go_loop [3, 4] (fun c x => ∃ i : Nat, i ≤ s.size ∧ x = .int .i64 i ∧ c = .int .i64 ((hashTo s i : Nat) : Int)) (fun _ x => s.size - (intOf x).toNat)
  case atStart => exact ⟨0, Nat.zero_le _, rfl, rfl⟩
  case round =>
    obtain ⟨i, hi, rfl, rfl⟩ := hrel
    have hcl := hashTo_lt s i
    by_cases hil : i < s.size
    · have hix := run_idx s i hil
      have hy := bytesOf_lt s i
      have HNX : Hid (hashTo s (i + 1) = (hashTo s i ^^^ Gf.nth (bytesOf s) i) * 16777619 % 4294967296) := by show _ = _; rfl
      generalize hashTo s i = c at *
      generalize Gf.nth (bytesOf s) i = y at *
      have hxl : c ^^^ y < 4294967296 := Nat.xor_lt_two_pow (n := 32) hcl (by omega)
      have hx : bits .xor .i64 (c : Int) (y : Int) = ((c ^^^ y : Nat) : Int) := i64_xor_nat _ _ (by omega) (by omega)
      generalize c ^^^ y = q at *
      go_wp2
      go_round
      case rel => exact ⟨i + 1, by omega, by go_num, by rw [HNX.out]; congr 1⟩
      case measure => simp [intOf]; omega
    · have hie : i = s.size := by omega
      subst hie
      go_wp2
      go_ret
      exact ⟨rfl, rfl⟩
end Go.Proofs.YtakfjkphmfblaaaGreatDoor
