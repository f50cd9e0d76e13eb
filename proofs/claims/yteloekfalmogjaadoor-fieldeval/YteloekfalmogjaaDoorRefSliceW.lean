/- The document's own Eval, Basis and Between: what the program's arithmetic gives; nothing is written. -/
import Derived.Test.YteloekfalmogjaaDoorRefW
import Derived.Test.YteloekfalmogjaaDoorSliceW
import Derived.Test.YteloekfalmogjaaDoorGfRefPoly
import Derived.Deep.RegionWith
namespace Go.Proofs.YteloekfalmogjaaDoor
open Go.RowKit
set_option maxRecDepth 10000 in
set_option maxHeartbeats 1000000 in
theorem reval_any (p : Option Addr) (l : List Nat) (cap x : Nat) (w : World) (hx : x < 256) (hl : l.length < 2 ^ 40) (hs : Seg w p l) :
    Calls Tryd.prog 23 #[.slice p l.length cap, .int .u8 (x : Int)] w fun e w' => e = .returned (.int .u8 ((Gf.horner x l : Nat) : Int)) ∧ w' = w := by
  obtain ⟨hlt, hs⟩ := hs
  go_enter Tryd.func23, Tryd.ntmps23
  go_wp2
  go_loop [5, 6, 7] (fun s t i => ∃ k : Nat, k ≤ l.length ∧ i = .int .i64 k ∧ s = .int .u8 (Gf.rsum l x k : Nat) ∧ t = .int .u8 (Gf.rep x k : Nat)) (fun _ _ i => l.length - (intOf i).toNat)
  case atStart => exact ⟨0, by omega, rfl, rfl, rfl⟩
  case round =>
    obtain ⟨k, hk, rfl, rfl, rfl⟩ := hrel
    have hr1 := Gf.rsum_lt l x hlt k
    have hr2 := Gf.rep_lt x k
    by_cases hlt2 : k < l.length
    · rcases hs with hs | ⟨b, o, rfl, hb, hc⟩
      · rw [hs] at hlt2; simp at hlt2
      have hc1 := hc k hlt2
      have hkl := hlt k
      have hm := Gf.mul_lt hkl (Gf.rep x k)
      have HX : Hid (bits .xor .u8 ((Gf.rsum l x k : Nat) : Int) ((Gf.mul (Gf.nth l k) (Gf.rep x k) : Nat) : Int) = ((Gf.rsum l x (k + 1) : Nat) : Int)) := u8_xor_nat _ _ hr1 hm
      clear hc
      go_wp2_with fail
      refine (rmul_any (Gf.nth l k) (Gf.rep x k) _ hkl hr2).mono ?_
      rintro e w1 ⟨rfl, hw1⟩
      rw [hw1]; clear hw1 w1
      go_wp2_with fail
      refine (rmul_any (Gf.rep x k) x _ hr2 hx).mono ?_
      rintro e w1 ⟨rfl, hw1⟩
      rw [hw1]; clear hw1 w1
      go_wp2
      go_round
      case rel => exact ⟨k + 1, by omega, by go_num, by rw [HX.out], rfl⟩
      case measure => simp [intOf]; omega
    · have hke : k = l.length := by omega
      subst hke
      have HE : Hid (Gf.rsum l x l.length = Gf.horner x l) := Gf.rsum_all l x hx hlt
      go_wp2
      go_ret
      exact ⟨by simp [HE.out], rfl⟩
set_option maxRecDepth 10000 in
set_option maxHeartbeats 2000000 in
theorem basis_any (p : Option Addr) (l : List Nat) (cap i x : Nat) (w : World) (hx : x < 256) (hl : l.length < 2 ^ 40) (hi : i < l.length) (hn : l.Nodup) (hs : Seg w p l) :
    Calls Tryd.prog 34 #[.slice p l.length cap, .int .i64 (i : Int), .int .u8 (x : Int)] w fun e w' => e = .returned (.int .u8 ((Gf.shareOf l i x : Nat) : Int)) ∧ ∃ n, w' = w.drewN n := by
  obtain ⟨hlt, hs⟩ := hs
  rcases hs with hs | ⟨b, o, rfl, hb, hc⟩
  · rw [hs] at hi; simp at hi
  have hxi := hlt i
  have HE : Hid (Gf.bas l i x l.length = Gf.shareOf l i x) := Gf.bas_share l hlt hn i x hi hx
  have HI : Hid (∀ k, k < l.length → k ≠ i → Gf.nth l i ^^^ Gf.nth l k ≠ 0) := fun k hk e => Gf.xor_ne fun h' => e (Gf.nth_inj l hn hk hi h'.symm)
  clear hn
  go_enter Tryd.func34, Tryd.ntmps34
  go_wp2
  go_loopw [7, 8] (fun s j wr => (∃ n, wr = w.drewN n) ∧ ∃ k : Nat, k ≤ l.length ∧ j = .int .i64 k ∧ s = .int .u8 (Gf.bas l i x k : Nat)) (fun _ j _ => l.length - (intOf j).toNat)
  case atStart => exact ⟨⟨0, rfl⟩, 0, by omega, rfl, rfl⟩
  case round =>
    obtain ⟨hw0, k, hk, rfl, rfl⟩ := hrel
    have HW : Hid (∃ n, wr = w.drewN n) := hw0
    clear hw0
    have hpa := Gf.bas_lt l i x k
    by_cases hlt2 : k < l.length
    · have hc1 : wr.cell? ⟨b, o + k, none⟩ = some (.int .u8 ((Gf.nth l k : Nat) : Int)) := by
        obtain ⟨n, hn⟩ := HW.out
        rw [hn]
        exact hc k hlt2
      have hc2 : wr.cell? ⟨b, o + i, none⟩ = some (.int .u8 ((Gf.nth l i : Nat) : Int)) := by
        obtain ⟨n, hn⟩ := HW.out
        rw [hn]
        exact hc i hi
      have hkl := hlt k
      have HA : Hid (Gf.bas l i x (k + 1) = if k = i then Gf.bas l i x k else Gf.mul (Gf.bas l i x k) (Gf.mul (x ^^^ Gf.nth l k) (Gf.inv (Gf.nth l i ^^^ Gf.nth l k)))) := rfl
      clear hc
      by_cases hki : k = i
      · have HA' := HA.out
        rw [if_pos hki] at HA'
        have HA2 : Hid (Gf.bas l i x (k + 1) = Gf.bas l i x k) := HA'
        have ht : ((k : Int) != (i : Int)) = false := by simp; omega
        clear HA HA' hki
        go_wp2
        go_roundw
        case rel => exact ⟨HW.out, k + 1, by omega, by go_num, by rw [HA2.out]⟩
        case measure => simp [intOf]; omega
      · have HA' := HA.out
        rw [if_neg hki] at HA'
        have HA2 : Hid (Gf.bas l i x (k + 1) = Gf.mul (Gf.bas l i x k) (Gf.mul (x ^^^ Gf.nth l k) (Gf.inv (Gf.nth l i ^^^ Gf.nth l k)))) := HA'
        have HZ : Hid (Gf.nth l i ^^^ Gf.nth l k ≠ 0) := HI.out k hlt2 hki
        have ht : ((k : Int) != (i : Int)) = true := by simp; omega
        clear HA HA' hki HI
        generalize Gf.bas l i x k = pa at hpa HA2 ⊢
        generalize Gf.nth l k = c at hc1 hkl HA2 HZ
        generalize Gf.nth l i = d at hc2 hxi HA2 HZ
        have hxc := Gf.xlt hx hkl
        have hdc := Gf.xlt hxi hkl
        have hb1 := u8_xor_nat x c hx hkl
        have hb2 := u8_xor_nat d c hxi hkl
        have hin := Gf.inv_lt (d ^^^ c)
        have hm := Gf.mul_lt hxc (Gf.inv (d ^^^ c))
        go_wp2
        go_quiet ((first | (go_at_call 17; exact Calls.quiet_of_same (rinv_any (d ^^^ c) _ hdc HZ.out)) | (go_at_call_of 18 (Value.int IntKind.u8 ((x ^^^ c : Nat) : Int)); exact Calls.quiet_of_same (rmul_any (x ^^^ c) (Gf.inv (d ^^^ c)) _ hxc hin)) | (go_at_call_of 18 (Value.int IntKind.u8 ((pa : Nat) : Int)); exact Calls.quiet_of_same (rmul_any pa (Gf.mul (x ^^^ c) (Gf.inv (d ^^^ c))) _ hpa hm))))
        go_wp2
        go_roundw
        case rel =>
          obtain ⟨n, hn⟩ := HW.out
          exact ⟨⟨n + nq, by rw [hn, World.drewN_drewN]⟩, k + 1, by omega, by go_num, by rw [HA2.out]⟩
        case measure => simp [intOf]; omega
    · have hke : k = l.length := by omega
      subst hke
      go_wp2
      go_ret
      exact ⟨by simp [HE.out], HW.out⟩
theorem rbetween_shape (px py : Option Addr) (n m cx cy x : Nat) (w : World) (hne : n ≠ m) :
    Calls Tryd.prog 25 #[.slice px n cx, .slice py m cy, .int .u8 (x : Int)] w fun e w' => e = .returned (.tuple #[.int .u8 0, .int .i64 3]) ∧ w' = w := by
  have h1 : ((n : Int) != (m : Int)) = true := by simp; omega
  clear hne
  go_enter Tryd.func25, Tryd.ntmps25
  go_wp2
  go_ret2
  exact ⟨rfl, rfl⟩
set_option maxRecDepth 10000 in
set_option maxHeartbeats 2000000 in
theorem rbetween_twice (px py : Option Addr) (xs : List Nat) (cx cy x : Nat) (w : World) (hl : xs.length < 2 ^ 40) (hn : ¬ xs.Nodup) (hs : Seg w px xs) :
    Calls Tryd.prog 25 #[.slice px xs.length cx, .slice py xs.length cy, .int .u8 (x : Int)] w fun e w' => e = .returned (.tuple #[.int .u8 0, .int .i64 6]) ∧ ∃ n, w' = w.drewN n := by
  obtain ⟨hlt, hs⟩ := hs
  rcases hs with hs | ⟨b, o, rfl, hb, hc⟩
  · rw [hs] at hn; simp at hn
  have HN : Hid (¬ xs.Nodup) := hn
  clear hn
  go_enter Tryd.func25, Tryd.ntmps25
  go_wp2
  go_loopw [8] (fun j wr => (∃ n, wr = w.drewN n) ∧ ∃ i : Nat, i ≤ xs.length ∧ j = .int .i64 i ∧ (xs.take i).Nodup) (fun j _ => xs.length - (intOf j).toNat)
  case atStart => exact ⟨⟨0, rfl⟩, 0, by omega, rfl, by simp⟩
  case round =>
    obtain ⟨hw0, i, hi, rfl, hd⟩ := hrel
    have HW : Hid (∃ n, wr = w.drewN n) := hw0
    have HD : Hid (xs.take i).Nodup := hd
    clear hw0 hd
    by_cases hlt2 : i < xs.length
    · go_wp2
      go_loopw [9] (fun j wq => (∃ n, wq = w.drewN n) ∧ ∃ k : Nat, k ≤ i ∧ j = .int .i64 k ∧ Gf.nth xs i ∉ xs.take k) (fun j _ => xs.length - (intOf j).toNat)
      case atStart => exact ⟨HW.out, 0, by omega, rfl, by simp⟩
      case round =>
        obtain ⟨hq0, k, hk, rfl, hm⟩ := hrel
        have HQ : Hid (∃ n, wr = w.drewN n) := hq0
        have HM : Hid (Gf.nth xs i ∉ xs.take k) := hm
        clear hq0 hm HW
        by_cases hki : k < i
        · have hc1 : wr.cell? ⟨b, o + k, none⟩ = some (.int .u8 ((Gf.nth xs k : Nat) : Int)) := by
            obtain ⟨n, hn⟩ := HQ.out
            rw [hn]
            exact hc k (by omega)
          have hc2 : wr.cell? ⟨b, o + i, none⟩ = some (.int .u8 ((Gf.nth xs i : Nat) : Int)) := by
            obtain ⟨n, hn⟩ := HQ.out
            rw [hn]
            exact hc i hlt2
          clear hc
          by_cases he : Gf.nth xs k = Gf.nth xs i
          · have ht : (((Gf.nth xs k : Nat) : Int) == ((Gf.nth xs i : Nat) : Int)) = true := by simp; omega
            clear he
            go_wp2
            go_quiet (fail)
            go_wp2
            go_ret2
            obtain ⟨n, hn⟩ := HQ.out
            exact ⟨rfl, n + nq, by rw [hn, World.drewN_drewN]⟩
          · have ht : (((Gf.nth xs k : Nat) : Int) == ((Gf.nth xs i : Nat) : Int)) = false := by simp; omega
            have HM2 : Hid (Gf.nth xs i ∉ xs.take (k + 1)) := by
              show ¬ _
              rw [Gf.take_nth xs k (by omega), List.mem_append, List.mem_singleton]
              rintro (h | h)
              · exact HM.out h
              · exact he h.symm
            clear he
            go_wp2
            go_quiet (fail)
            go_wp2
            go_roundw
            case rel =>
              obtain ⟨n, hn⟩ := HQ.out
              exact ⟨⟨n + nq, by rw [hn, World.drewN_drewN]⟩, k + 1, by omega, by go_num, HM2.out⟩
            case measure => simp [intOf]; omega
        · have hke : k = i := by omega
          subst hke
          have HD2 : Hid (xs.take (k + 1)).Nodup := Gf.nodup_take xs k hlt2 HD.out HM.out
          go_wp2
          go_roundw
          case rel => exact ⟨HQ.out, k + 1, by omega, by go_num, HD2.out⟩
          case measure => simp [intOf]; omega
    · exact absurd (by have := HD.out; rw [List.take_of_length_le (by omega)] at this; exact this) HN.out
set_option maxRecDepth 10000 in
set_option maxHeartbeats 4000000 in
theorem rbetween_any (px py : Option Addr) (xs ys : List Nat) (cx cy x : Nat) (w : World) (hx : x < 256) (hl : xs.length < 2 ^ 40) (he : ys.length = xs.length) (hn : xs.Nodup) (hs : Seg w px xs) (ht : Seg w py ys) :
    Calls Tryd.prog 25 #[.slice px xs.length cx, .slice py ys.length cy, .int .u8 (x : Int)] w fun e w' => e = .returned (.tuple #[.int .u8 ((Gf.lagr xs ys x xs.length : Nat) : Int), .int .i64 0]) ∧ ∃ n, w' = w.drewN n := by
  have hne : ((xs.length : Int) != (ys.length : Int)) = false := by simp; omega
  have HN : Hid xs.Nodup := hn
  have HE : Hid (ys.length = xs.length) := he
  clear hn he
  go_enter Tryd.func25, Tryd.ntmps25
  go_wp2
  go_loopw [8] (fun j wr => (∃ n, wr = w.drewN n) ∧ ∃ i : Nat, i ≤ xs.length ∧ j = .int .i64 i) (fun j _ => xs.length - (intOf j).toNat)
  case atStart => exact ⟨⟨0, rfl⟩, 0, by omega, rfl⟩
  case round =>
    obtain ⟨hw0, i, hi, rfl⟩ := hrel
    have HW : Hid (∃ n, wr = w.drewN n) := hw0
    clear hw0
    by_cases hlt2 : i < xs.length
    · rcases hs.cells with hs' | ⟨b, o, rfl, hb, hc⟩
      · rw [hs'] at hlt2; simp at hlt2
      go_wp2
      go_loopw [9] (fun j wq => (∃ n, wq = w.drewN n) ∧ ∃ k : Nat, k ≤ i ∧ j = .int .i64 k) (fun j _ => xs.length - (intOf j).toNat)
      case atStart => exact ⟨HW.out, 0, by omega, rfl⟩
      case round =>
        obtain ⟨hq0, k, hk, rfl⟩ := hrel
        have HQ : Hid (∃ n, wr = w.drewN n) := hq0
        clear hq0 HW
        by_cases hki : k < i
        · have hc1 : wr.cell? ⟨b, o + k, none⟩ = some (.int .u8 ((Gf.nth xs k : Nat) : Int)) := by
            obtain ⟨n, hn⟩ := HQ.out
            rw [hn]
            exact hc k (by omega)
          have hc2 : wr.cell? ⟨b, o + i, none⟩ = some (.int .u8 ((Gf.nth xs i : Nat) : Int)) := by
            obtain ⟨n, hn⟩ := HQ.out
            rw [hn]
            exact hc i hlt2
          clear hc
          have ht : (((Gf.nth xs k : Nat) : Int) == ((Gf.nth xs i : Nat) : Int)) = false := by
            have : Gf.nth xs k ≠ Gf.nth xs i := fun h => absurd (Gf.nth_inj xs HN.out (by omega) hlt2 h) (by omega)
            simp; omega
          go_wp2
          go_quiet (fail)
          go_wp2
          go_roundw
          case rel =>
            obtain ⟨n, hn⟩ := HQ.out
            exact ⟨⟨n + nq, by rw [hn, World.drewN_drewN]⟩, k + 1, by omega, by go_num⟩
          case measure => simp [intOf]; omega
        · have hke : k = i := by omega
          subst hke
          go_wp2
          go_roundw
          case rel => exact ⟨HQ.out, k + 1, by omega, by go_num⟩
          case measure => simp [intOf]; omega
    · go_wp2
      go_loopw [10, 11] (fun s j wq => (∃ n, wq = w.drewN n) ∧ ∃ k : Nat, k ≤ xs.length ∧ j = .int .i64 k ∧ s = .int .u8 (Gf.lagr xs ys x k : Nat)) (fun _ j _ => xs.length - (intOf j).toNat)
      case atStart => exact ⟨HW.out, 0, by omega, rfl, rfl⟩
      case round =>
        obtain ⟨hq0, k, hk, rfl, rfl⟩ := hrel
        have HQ : Hid (∃ n, wr = w.drewN n) := hq0
        clear hq0 HW
        have hlg := Gf.lagr_lt xs ys x ht.lt k
        by_cases hlt3 : k < xs.length
        · have hsh := Gf.shareOf_lt xs k x
          have hyk := ht.lt k
          have HS : Hid (Seg wr px xs) := by obtain ⟨n, hn⟩ := HQ.out; rw [hn]; exact hs.drewN n
          have hm := Gf.mul_lt hyk (Gf.shareOf xs k x)
          have hbx := u8_xor_nat (Gf.lagr xs ys x k) (Gf.mul (Gf.nth ys k) (Gf.shareOf xs k x)) hlg hm
          rcases ht.cells with hs' | ⟨b, o, rfl, hb, hc⟩
          · exact absurd HE.out (by rw [hs']; simp; omega)
          have hc1 : wr.cell? ⟨b, o + k, none⟩ = some (.int .u8 ((Gf.nth ys k : Nat) : Int)) := by
            obtain ⟨n, hn⟩ := HQ.out
            rw [hn]
            exact hc k (by rw [HE.out]; exact hlt3)
          have hly : (k : Int) < (ys.length : Int) := by have := HE.out; omega
          clear hc
          go_wp2
          go_quiet ((first | (go_at_call 18; exact Calls.quiet_of_same (rmul_any (Gf.nth ys k) (Gf.shareOf xs k x) _ hyk hsh)) | (go_at_call 34; exact Calls.quiet_of (basis_any px xs cx k x _ hx hl hlt3 HN.out (HS.out.drewN _)))))
          go_wp2
          go_roundw
          case rel =>
            obtain ⟨n, hn⟩ := HQ.out
            exact ⟨⟨n + nq, by rw [hn, World.drewN_drewN]⟩, k + 1, by omega, by go_num, rfl⟩
          case measure => simp [intOf]; omega
        · have hke : k = xs.length := by omega
          subst hke
          go_wp2
          go_ret2
          exact ⟨rfl, HQ.out⟩
end Go.Proofs.YteloekfalmogjaaDoor
