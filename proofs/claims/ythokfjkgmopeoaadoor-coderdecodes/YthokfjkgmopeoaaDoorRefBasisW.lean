/- The document's own Basis: Lagrange's polynomial of one point; nothing is written. -/
import Derived.Test.YthokfjkgmopeoaaDoorRefMulW
import Derived.Test.YthokfjkgmopeoaaDoorG1
import Derived.Test.YthokfjkgmopeoaaDoorGfAll
import Derived.Deep.RegionWith
import Derived.Deep.QuietTactic
import Derived.BigQuiet
namespace Go.Proofs.YthokfjkgmopeoaaDoor
open Go.RowKit
set_option maxRecDepth 10000 in
set_option maxHeartbeats 2000000 in
theorem basis_any (p : Option Addr) (l : List Nat) (cap i x : Nat) (w : World) (hx : x < 256) (hl : l.length < 2 ^ 40) (hi : i < l.length) (hn : l.Nodup) (hs : Seg w p l) :
    Calls Tryd.prog 34 #[.slice p l.length cap, .int .i64 (i : Int), .int .u8 (x : Int)] w fun e w' => e = .returned (.int .u8 ((Gf.shareOf l i x : Nat) : Int)) ∧ ∃ n, w' = w.drewN n := by
  obtain ⟨hlt, hs⟩ := hs
  rcases hs with hs | ⟨b, o, rfl, hb, hc⟩
  · rw [hs] at hi; simp at hi
  have hxi := hlt i
  have HE : Hid (Gf.bas l i x l.length = Gf.shareOf l i x) := Gf.bas_share l hlt hn i x hi hx
  have HI : Hid (∀ k, k < l.length → k ≠ i → Gf.nth l i ^^^ Gf.nth l k ≠ 0) := fun k hk e => Gf.xor_ne fun h' => e (Gf.nth_inj l hn hk hi h'.symm)
  clear hn
  go_enter Tryd.func34, Tryd.ntmps34
  go_wp2
  go_loopw [7, 8] (fun s j wr => (∃ n, wr = w.drewN n) ∧ ∃ k : Nat, k ≤ l.length ∧ j = .int .i64 k ∧ s = .int .u8 (Gf.bas l i x k : Nat)) (fun _ j _ => l.length - (intOf j).toNat)
  case atStart => exact ⟨⟨0, rfl⟩, 0, by omega, rfl, rfl⟩
  case round =>
    obtain ⟨hw0, k, hk, rfl, rfl⟩ := hrel
    have HW : Hid (∃ n, wr = w.drewN n) := hw0
    clear hw0
    have hpa := Gf.bas_lt l i x k
    by_cases hlt2 : k < l.length
    · have hc1 : wr.cell? ⟨b, o + k, none⟩ = some (.int .u8 ((Gf.nth l k : Nat) : Int)) := by
        obtain ⟨n, hn⟩ := HW.out
        rw [hn]
        exact hc k hlt2
      have hc2 : wr.cell? ⟨b, o + i, none⟩ = some (.int .u8 ((Gf.nth l i : Nat) : Int)) := by
        obtain ⟨n, hn⟩ := HW.out
        rw [hn]
        exact hc i hi
      have hkl := hlt k
      have HA : Hid (Gf.bas l i x (k + 1) = if k = i then Gf.bas l i x k else Gf.mul (Gf.bas l i x k) (Gf.mul (x ^^^ Gf.nth l k) (Gf.inv (Gf.nth l i ^^^ Gf.nth l k)))) := rfl
      clear hc
      by_cases hki : k = i
      · have HA' := HA.out
        rw [if_pos hki] at HA'
        have HA2 : Hid (Gf.bas l i x (k + 1) = Gf.bas l i x k) := HA'
        have ht : ((k : Int) != (i : Int)) = false := by simp; omega
        clear HA HA' hki
        go_wp2
        go_roundw
        case rel => exact ⟨HW.out, k + 1, by omega, by go_num, by rw [HA2.out]⟩
        case measure => simp [intOf]; omega
      · have HA' := HA.out
        rw [if_neg hki] at HA'
        have HA2 : Hid (Gf.bas l i x (k + 1) = Gf.mul (Gf.bas l i x k) (Gf.mul (x ^^^ Gf.nth l k) (Gf.inv (Gf.nth l i ^^^ Gf.nth l k)))) := HA'
        have HZ : Hid (Gf.nth l i ^^^ Gf.nth l k ≠ 0) := HI.out k hlt2 hki
        have ht : ((k : Int) != (i : Int)) = true := by simp; omega
        clear HA HA' hki HI
        generalize Gf.bas l i x k = pa at hpa HA2 ⊢
        generalize Gf.nth l k = c at hc1 hkl HA2 HZ
        generalize Gf.nth l i = d at hc2 hxi HA2 HZ
        have hxc := Gf.xlt hx hkl
        have hdc := Gf.xlt hxi hkl
        have hb1 := u8_xor_nat x c hx hkl
        have hb2 := u8_xor_nat d c hxi hkl
        have hin := Gf.inv_lt (d ^^^ c)
        have hm := Gf.mul_lt hxc (Gf.inv (d ^^^ c))
        go_wp2
        go_quiet ((first | (go_at_call 54; exact Calls.quiet_of_same (rinv_any (d ^^^ c) _ hdc HZ.out)) | (go_at_call_of 26 (Value.int IntKind.u8 ((x ^^^ c : Nat) : Int)); exact Calls.quiet_of_same (rmul_any (x ^^^ c) (Gf.inv (d ^^^ c)) _ hxc hin)) | (go_at_call_of 26 (Value.int IntKind.u8 ((pa : Nat) : Int)); exact Calls.quiet_of_same (rmul_any pa (Gf.mul (x ^^^ c) (Gf.inv (d ^^^ c))) _ hpa hm))))
        go_wp2
        go_roundw
        case rel =>
          obtain ⟨n, hn⟩ := HW.out
          exact ⟨⟨n + nq, by rw [hn, World.drewN_drewN]⟩, k + 1, by omega, by go_num, by rw [HA2.out]⟩
        case measure => simp [intOf]; omega
    · have hke : k = l.length := by omega
      subst hke
      go_wp2
      go_ret
      exact ⟨by simp [HE.out], HW.out⟩
end Go.Proofs.YthokfjkgmopeoaaDoor
