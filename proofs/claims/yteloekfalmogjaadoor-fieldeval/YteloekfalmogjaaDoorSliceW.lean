/- The calls of package field over slices of bytes: Eval, share, anyTwice, Between: what the arithmetic gives; nothing that was there is written. -/
import Derived.Test.YteloekfalmogjaaDoorFieldW
import Derived.Test.YteloekfalmogjaaDoorGfPoly
import Derived.Deep.QuietTactic
import Derived.BigQuiet
import Derived.WalkSmall
namespace Go.Proofs.YteloekfalmogjaaDoor
open Go.RowKit
/-- In the world w the bytes l lie from p on. -/
structure Seg (w : World) (p : Option Addr) (l : List Nat) : Prop where
  lt : Gf.Bytes l
  cells : l = [] ∨ ∃ b o, p = some ⟨b, o, none⟩ ∧ b < w.heap.size ∧ ∀ i, i < l.length → w.cell? ⟨b, o + i, none⟩ = some (.int .u8 ((Gf.nth l i : Nat) : Int))
theorem Seg.drewN {w : World} {p : Option Addr} {l : List Nat} (h : Seg w p l) (n : Nat) : Seg (w.drewN n) p l := ⟨h.lt, h.cells⟩
theorem Seg.below {w w' : World} {p : Option Addr} {l : List Nat} (h : Seg w p l) (hb : Below w.heap.size w w') : Seg w' p l := by
  refine ⟨h.lt, ?_⟩
  rcases h.cells with h | ⟨b, o, hp, hlt, hc⟩
  · exact Or.inl h
  · exact Or.inr ⟨b, o, hp, Nat.lt_of_lt_of_le hlt hb.size, fun i hi => (hb.cell (p := ⟨b, o + i, none⟩) hlt).trans (hc i hi)⟩
set_option maxRecDepth 10000 in
set_option maxHeartbeats 1000000 in
theorem eval_any (p : Option Addr) (l : List Nat) (cap x : Nat) (w : World) (hx : x < 256) (hl : l.length < 2 ^ 40) (hs : Seg w p l) :
    Calls Tryd.prog 22 #[.slice p l.length cap, .int .u8 (x : Int)] w fun e w' => e = .returned (.int .u8 ((Gf.horner x l : Nat) : Int)) ∧ ∃ n, w' = w.drewN n := by
  obtain ⟨hlt, hs⟩ := hs
  go_enter Tryd.func22, Tryd.ntmps22
  go_wp2
  go_loopw [5, 9] (fun s i wr => (∃ n, wr = w.drewN n) ∧ ∃ k : Nat, k ≤ l.length ∧ i = .int .i64 k ∧ s = .int .u8 (Gf.horner x (l.drop (l.length - k)) : Nat)) (fun _ i _ => l.length - (intOf i).toNat)
  case atStart => exact ⟨⟨0, rfl⟩, 0, by omega, rfl, by simp [Gf.horner]⟩
  case round =>
    obtain ⟨hw0, k, hk, rfl, rfl⟩ := hrel
    have HW : Hid (∃ n, wr = w.drewN n) := hw0
    clear hw0
    have hh := Gf.horner_lt x _ (hlt.drop (l.length - k))
    by_cases hlt2 : k < l.length
    · rcases hs with hs | ⟨b, o, rfl, hb, hc⟩
      · rw [hs] at hlt2; simp at hlt2
      have hc1 : wr.cell? ⟨b, o + (l.length - 1 - k), none⟩ = some (.int .u8 ((Gf.nth l (l.length - 1 - k) : Nat) : Int)) := by
        obtain ⟨n, hn⟩ := HW.out
        rw [hn]
        exact hc (l.length - 1 - k) (by omega)
      have hcl := hlt (l.length - 1 - k)
      have HD : Hid (Gf.horner x (l.drop (l.length - (k + 1))) = Gf.mul (Gf.horner x (l.drop (l.length - k))) x ^^^ Gf.nth l (l.length - 1 - k)) := by show _ = _; rw [Gf.drop_pred l k hlt2]; rfl
      generalize Gf.nth l (l.length - 1 - k) = c at hc1 hcl HD
      generalize Gf.horner x (l.drop (l.length - k)) = s at hh HD ⊢
      clear hc
      have hml := Gf.mul_lt hh x
      go_wp2
      go_quiet ((first | (go_at_call 16; exact Calls.quiet_of_same (mul_any s x _ hh hx)) | (go_at_call 19; exact Calls.quiet_of_same (add_any (Gf.mul s x) c _ hml hcl))))
      go_wp2
      go_roundw
      case rel =>
        obtain ⟨n, hn⟩ := HW.out
        exact ⟨⟨n + nq, by rw [hn, World.drewN_drewN]⟩, k + 1, by omega, by go_num, by rw [HD.out]⟩
      case measure => simp [intOf]; omega
    · have hke : k = l.length := by omega
      subst hke
      go_wp2
      go_ret
      exact ⟨by simp, HW.out⟩
set_option maxRecDepth 10000 in
set_option maxHeartbeats 2000000 in
theorem share_any (p : Option Addr) (l : List Nat) (cap i x : Nat) (w : World) (hx : x < 256) (hl : l.length < 2 ^ 40) (hi : i < l.length) (hs : Seg w p l) :
    Calls Tryd.prog 33 #[.slice p l.length cap, .int .i64 (i : Int), .int .u8 (x : Int)] w fun e w' => e = .returned (.int .u8 ((Gf.shareOf l i x : Nat) : Int)) ∧ ∃ n, w' = w.drewN n := by
  obtain ⟨hlt, hs⟩ := hs
  rcases hs with hs | ⟨b, o, rfl, hb, hc⟩
  · rw [hs] at hi; simp at hi
  have hxi := hlt i
  go_enter Tryd.func33, Tryd.ntmps33
  go_wp2
  go_loopw [7, 8, 12] (fun s t j wr => (∃ n, wr = w.drewN n) ∧ ∃ k : Nat, k ≤ l.length ∧ j = .int .i64 k ∧ s = .int .u8 (Gf.prodAt l i x k : Nat) ∧ t = .int .u8 (Gf.prodAt l i (Gf.nth l i) k : Nat)) (fun _ _ j _ => l.length - (intOf j).toNat)
  case atStart => exact ⟨⟨0, rfl⟩, 0, by omega, rfl, rfl, rfl⟩
  case round =>
    obtain ⟨hw0, k, hk, rfl, rfl, rfl⟩ := hrel
    have HW : Hid (∃ n, wr = w.drewN n) := hw0
    clear hw0
    have hpa := Gf.prodAt_lt l i x k
    have hpb := Gf.prodAt_lt l i (Gf.nth l i) k
    by_cases hlt2 : k < l.length
    · have hc1 : wr.cell? ⟨b, o + k, none⟩ = some (.int .u8 ((Gf.nth l k : Nat) : Int)) := by
        obtain ⟨n, hn⟩ := HW.out
        rw [hn]
        exact hc k hlt2
      have hc2 : wr.cell? ⟨b, o + i, none⟩ = some (.int .u8 ((Gf.nth l i : Nat) : Int)) := by
        obtain ⟨n, hn⟩ := HW.out
        rw [hn]
        exact hc i hi
      have hkl := hlt k
      have HA : Hid (Gf.prodAt l i x (k + 1) = if k = i then Gf.prodAt l i x k else Gf.mul (Gf.prodAt l i x k) (x ^^^ Gf.nth l k)) := rfl
      have HB : Hid (Gf.prodAt l i (Gf.nth l i) (k + 1) = if k = i then Gf.prodAt l i (Gf.nth l i) k else Gf.mul (Gf.prodAt l i (Gf.nth l i) k) (Gf.nth l i ^^^ Gf.nth l k)) := rfl
      clear hc
      by_cases hki : k = i
      · have HA' := HA.out
        have HB' := HB.out
        rw [if_pos hki] at HA' HB'
        have HA2 : Hid (Gf.prodAt l i x (k + 1) = Gf.prodAt l i x k) := HA'
        have HB2 : Hid (Gf.prodAt l i (Gf.nth l i) (k + 1) = Gf.prodAt l i (Gf.nth l i) k) := HB'
        have ht : ((k : Int) != (i : Int)) = false := by simp; omega
        clear HA HB HA' HB' hki
        go_wp2
        go_roundw
        case rel => exact ⟨HW.out, k + 1, by omega, by go_num, by rw [HA2.out], by rw [HB2.out]⟩
        case measure => simp [intOf]; omega
      · have HA' := HA.out
        have HB' := HB.out
        rw [if_neg hki] at HA' HB'
        have HA2 : Hid (Gf.prodAt l i x (k + 1) = Gf.mul (Gf.prodAt l i x k) (x ^^^ Gf.nth l k)) := HA'
        have HB2 : Hid (Gf.prodAt l i (Gf.nth l i) (k + 1) = Gf.mul (Gf.prodAt l i (Gf.nth l i) k) (Gf.nth l i ^^^ Gf.nth l k)) := HB'
        have ht : ((k : Int) != (i : Int)) = true := by simp; omega
        clear HA HB HA' HB' hki
        generalize Gf.prodAt l i x k = pa at hpa HA2 ⊢
        generalize Gf.prodAt l i (Gf.nth l i) k = pb at hpb HB2 ⊢
        generalize Gf.nth l k = c at hc1 hkl HA2 HB2
        generalize Gf.nth l i = d at hc2 hxi HB2 ⊢
        have hxc := Gf.xlt hx hkl
        have hdc := Gf.xlt hxi hkl
        go_wp2_with (first | (go_at_call 19; refine (add_any x c _ hx hkl).mono ?_; rintro e w' ⟨rfl, rfl⟩) | (go_at_call 16; refine (mul_any pa (x ^^^ c) _ hpa hxc).mono ?_; rintro e w' ⟨rfl, rfl⟩))
        go_quiet ((first | (go_at_call 16; exact Calls.quiet_of_same (mul_any pb (d ^^^ c) _ hpb hdc)) | (go_at_call 19; exact Calls.quiet_of_same (add_any d c _ hxi hkl))))
        go_wp2
        go_roundw
        case rel =>
          obtain ⟨n, hn⟩ := HW.out
          exact ⟨⟨n + nq, by rw [hn, World.drewN_drewN]⟩, k + 1, by omega, by go_num, by rw [HA2.out], by rw [HB2.out]⟩
        case measure => simp [intOf]; omega
    · have hke : k = l.length := by omega
      subst hke
      have hin := Gf.inv_lt (Gf.prodAt l i (Gf.nth l i) l.length)
      go_wp2_with fail
      refine (inverse_any _ _ hpb).mono ?_
      rintro e w' ⟨rfl, rfl⟩
      go_wp2_with fail
      refine (mul_any _ _ _ hpa hin).mono ?_
      rintro e w' ⟨rfl, rfl⟩
      go_wp2
      go_ret
      exact ⟨rfl, HW.out⟩
/-- Behind k rounds: which bytes were seen stands in the call's own row. -/
structure Seen (w wr : World) (l : List Nat) (k : Nat) : Prop where
  below : Below w.heap.size w wr
  size : w.heap.size < wr.heap.size
  cell : ∀ v, v < 256 → wr.cell? ⟨w.heap.size, v, none⟩ = some (.bool (decide (v ∈ l.take k)))
  free : ∀ v, wr.frozen? ⟨w.heap.size, v, none⟩ = false
theorem Seen.start (w : World) (l : List Nat) (t : TypeId) : Seen w (w.alloc (.cells (Array.replicate 256 (.bool false)) t)) l 0 where
  below := (Below.refl _ _).alloc (Nat.le_refl _) _
  size := by simp
  cell := fun v hv => by rw [World.cell?_alloc_at _ _ _ _ rfl]; simp [hv]
  free := fun v => by simp
theorem Seen.next {w wr : World} {l : List Nat} {k : Nat} (h : Seen w wr l k) (hk : k < l.length) : Seen w (wr.setCell ⟨w.heap.size, Gf.nth l k, none⟩ (.bool true)) l (k + 1) where
  below := h.below.setCell (Nat.le_refl _) _
  size := by have := h.size; simpa [World.setCell] using this
  cell := fun v hv => by
    rw [Gf.take_nth l k hk]
    by_cases e : v = Gf.nth l k
    · subst e
      rw [World.cell?_setCell_same (h := h.cell _ hv)]
      simp
    · rw [World.cell?_setCell_other (h := fun e' => e (congrArg Addr.off e').symm), h.cell v hv]
      simp [e]
  free := fun v => by rw [World.frozen?_setCell]; exact h.free v
set_option maxRecDepth 10000 in
set_option maxHeartbeats 2000000 in
theorem twice_any (p : Option Addr) (l : List Nat) (cap : Nat) (w : World) (hl : l.length < 2 ^ 40) (hs : Seg w p l) :
    Calls Tryd.prog 32 #[.slice p l.length cap] w fun e w' => e = .returned (.bool (!decide l.Nodup)) ∧ Below w.heap.size w w' := by
  obtain ⟨hlt, hs⟩ := hs
  have hz : ∀ W : World, (zeroValue 77).run Tryd.prog W = .ok (.agg (Array.replicate 256 (.bool false))) W := fun W => by kernel_rfl
  go_enter Tryd.func32, Tryd.ntmps32
  go_wp2
  go_loopw [8] (fun j wr => ∃ k : Nat, k ≤ l.length ∧ j = .int .i64 k ∧ Seen w wr l k ∧ (l.take k).Nodup) (fun j _ => l.length - (intOf j).toNat)
  case atStart => exact ⟨0, by omega, rfl, Seen.start w l _, by simp⟩
  case round =>
    obtain ⟨k, hk, rfl, hS, hN⟩ := hrel
    have HN : Hid (l.take k).Nodup := hN
    clear hN hz
    by_cases hlt2 : k < l.length
    · rcases hs with hs | ⟨b, o, rfl, hb, hc⟩
      · rw [hs] at hlt2; simp at hlt2
      have hc1 : wr.cell? ⟨b, o + k, none⟩ = some (.int .u8 ((Gf.nth l k : Nat) : Int)) := (hS.below.cell (p := ⟨b, o + k, none⟩) hb).trans (hc k hlt2)
      have hkl := hlt k
      have hc2 := hS.cell _ hkl
      have hf2 := hS.free (Gf.nth l k)
      clear hc
      by_cases hm : Gf.nth l k ∈ l.take k
      · have HM : Hid (¬ l.Nodup) := Gf.not_nodup l k hlt2 hm
        rw [decide_eq_true hm] at hc2
        clear hm
        go_wp2
        go_ret
        exact ⟨by simp [HM.out], hS.below⟩
      · have HM : Hid (l.take (k + 1)).Nodup := Gf.nodup_take l k hlt2 HN.out hm
        have HS : Hid (Seen w (wr.setCell ⟨w.heap.size, Gf.nth l k, none⟩ (.bool true)) l (k + 1)) := hS.next hlt2
        rw [decide_eq_false hm] at hc2
        clear hm HN hS
        go_wp2
        go_roundw
        case rel => exact ⟨k + 1, by omega, by go_num, HS.out, HM.out⟩
        case measure => simp [intOf]; omega
    · have hke : k = l.length := by omega
      subst hke
      have HL : Hid l.Nodup := by have := HN.out; rw [List.take_length] at this; exact this
      go_wp2
      go_ret
      exact ⟨by simp [HL.out], hS.below⟩
set_option maxRecDepth 10000 in
set_option maxHeartbeats 2000000 in
/-- Between, where the numbers of points are the same and no place is there twice. -/
theorem between_any (px py : Option Addr) (xs ys : List Nat) (cx cy x : Nat) (w : World) (hx : x < 256) (hl : xs.length < 2 ^ 40) (he : ys.length = xs.length) (hn : xs.Nodup) (hs : Seg w px xs) (ht : Seg w py ys) :
    Calls Tryd.prog 24 #[.slice px xs.length cx, .slice py ys.length cy, .int .u8 (x : Int)] w fun e w' => e = .returned (.tuple #[.int .u8 ((Gf.lagr xs ys x xs.length : Nat) : Int), .nilIface]) ∧ Below w.heap.size w w' := by
  have hne : ((xs.length : Int) != (ys.length : Int)) = false := by simp; omega
  go_enter Tryd.func24, Tryd.ntmps24
  go_wp2_with fail
  refine (twice_any px xs cx _ hl hs).mono ?_
  rintro e w2 ⟨rfl, hb2⟩
  rw [decide_eq_true hn]
  have hs2 := hs.below hb2
  have ht2 := ht.below hb2
  clear hs ht
  go_wp2
  go_loopw [8, 21] (fun s j wr => Below w2.heap.size w2 wr ∧ ∃ k : Nat, k ≤ xs.length ∧ j = .int .i64 k ∧ s = .int .u8 (Gf.lagr xs ys x k : Nat)) (fun _ j _ => xs.length - (intOf j).toNat)
  case atStart => exact ⟨Below.refl _ _, 0, by omega, rfl, rfl⟩
  case round =>
    obtain ⟨hw0, k, hk, rfl, rfl⟩ := hrel
    have HW : Hid (Below w2.heap.size w2 wr) := hw0
    have hs3 := hs2.below hw0
    have ht3 := ht2.below hw0
    clear hw0
    have hlg := Gf.lagr_lt xs ys x ht2.lt k
    by_cases hlt2 : k < xs.length
    · have hsh := Gf.shareOf_lt xs k x
      have hyk := ht2.lt k
      have HS : Hid (Seg wr px xs) := hs3
      have hm := Gf.mul_lt hyk (Gf.shareOf xs k x)
      rcases ht3.cells with hs | ⟨b, o, rfl, hb, hc⟩
      · rw [hs] at he; simp at he; omega
      have hc1 := hc k (by omega)
      clear hc
      go_wp2
      go_quiet ((first | (go_at_call 16; exact Calls.quiet_of_same (mul_any (Gf.nth ys k) (Gf.shareOf xs k x) _ hyk hsh)) | (go_at_call 19; exact Calls.quiet_of_same (add_any _ _ _ hlg hm)) | (go_at_call 33; exact Calls.quiet_of (share_any px xs cx k x _ hx hl hlt2 (HS.out.drewN _)))))
      go_wp2
      go_roundw
      case rel => exact ⟨below_drewN HW.out _, k + 1, by omega, by go_num, rfl⟩
      case measure => simp [intOf]; omega
    · have hke : k = xs.length := by omega
      subst hke
      go_wp2
      go_ret2
      exact ⟨rfl, hb2.trans (HW.out.mono hb2.size)⟩
end Go.Proofs.YteloekfalmogjaaDoor
