/- Texts laid together. -/
import Derived.Test.YtmbpfbhpmafheaaGreatDoorHl8
import Derived.Deep.RegionHeld3
import Derived.Deep.CutRange
namespace Go.Proofs.YtmbpfbhpmafheaaGreatDoor
open Go.RowKit
/-- The seal's four bytes, of which the last i stand. -/
def sealL (n : Nat) : Nat → List Nat
  | 0 => List.replicate 4 0
  | i + 1 => (sealL n i).set (3 - i) (n / 2 ^ (8 * i) % 256)
theorem sealL_length (n : Nat) : ∀ i, (sealL n i).length = 4
  | 0 => rfl
  | i + 1 => by
    show ((sealL n i).set _ _).length = 4
    rw [List.length_set, sealL_length n i]
theorem sealL_four (n : Nat) : sealL n 4 = fourL n := by
  show [n / 2 ^ (8 * 3) % 256, n / 2 ^ (8 * 2) % 256, n / 2 ^ (8 * 1) % 256, n / 2 ^ (8 * 0) % 256] = [n / 16777216 % 256, n / 65536 % 256, n / 256 % 256, n % 256]
  simp
theorem sealU8 : (Tryz.prog.info? 5).map (fun i => (i.zero, i.size, i.bytes)) = some (some (.int .u8 0), 1, 1) := by kernel_rfl
theorem run_make_four (W : World) : Sem.run Tryz.prog (Instr.makeSlice 53 (.int .i64 4) (.int .i64 4)) W = .ok (.slice (some ⟨W.heap.size, 0, none⟩) 4 4) (W.alloc (.cells (madeCells #[.int .u8 0] 4) 5)) := by
  obtain ⟨i0, hi0, hz0, hz1, hzb⟩ := info_parts sealU8
  exact run_make_row (P := Tryz.prog) 53 5 i0 (.int .u8 0) Tryz.underlying53 hi0 hz0 hz1 rfl .i64 .i64 4 (by rw [hzb]; omega) (by omega) W
set_option maxRecDepth 10000 in
set_option maxHeartbeats 2000000 in
theorem sealOf_any (s : ByteArray) (w : World) (hs : s.size ≤ 1000000) :
    Calls Tryz.prog 23 #[.string s] w fun e w' => e = .returned (.string (fourT (crcOf s))) ∧ Below w.heap.size w w' := by
  have HR := crc_any s w hs
  have hlt := crcOf_lt s
  have hmk := run_make_four
  have HF : Hid (fourT (crcOf s) = strOf (sealL (crcOf s) 4)) := by show _ = _; rw [sealL_four]; rfl
  generalize crcOf s = n at *
  go_enter Tryz.func23, Tryz.ntmps23
  go_wp2_with fail
  refine HR.mono ?_
  rintro e w1 ⟨rfl, h1⟩
  rw [h1]
  clear h1 w1 HR
  go_wp2
  have hR := BRow.made w 4 5
  have hB : Below w.heap.size w (w.alloc (.cells (madeCells #[.int .u8 0] 4) 5)) := (Below.refl _ _).alloc (Nat.le_refl _) _
  generalize w.alloc (.cells (madeCells #[.int .u8 0] 4) 5) = w2 at hR hB ⊢
  have HR : Hid (BRow w2 w.heap.size (List.replicate 4 0)) := hR
  have HB : Hid (Below w.heap.size w w2) := hB
  clear hR hB hmk
  go_loopw [9] (fun x wq => ∃ i : Nat, i ≤ 4 ∧ x = .int .i64 i ∧ BRow wq w.heap.size (sealL n i) ∧ Below w.heap.size w wq) (fun x _ => 4 - (intOf x).toNat)
  case atStart => exact ⟨0, by omega, rfl, HR.out, HB.out⟩
  case round =>
    obtain ⟨i, hi, rfl, hRq, hBq⟩ := hrel
    obtain ⟨w3, rfl⟩ : ∃ w3, w3 = wr := ⟨_, rfl⟩
    have HRq : Hid (BRow w3 w.heap.size (sealL n i)) := hRq
    have HBq : Hid (Below w.heap.size w w3) := hBq
    clear hRq hBq HR HB
    by_cases hil : i < 4
    · have q1 := HRq.out.cell (j := 3 - i) (by rw [sealL_length]; omega)
      have q2 := HRq.out.free (j := 3 - i) (by rw [sealL_length]; omega)
      have HN : Hid (BRow (w3.setCell ⟨w.heap.size, 3 - i, none⟩ (.int .u8 ((n / 2 ^ (8 * i) % 256 : Nat) : Int))) w.heap.size (sealL n (i + 1))) := HRq.out.set (by rw [sealL_length]; omega) (Nat.mod_lt _ (by decide))
      have HN2 : Hid (Below w.heap.size w (w3.setCell ⟨w.heap.size, 3 - i, none⟩ (.int .u8 ((n / 2 ^ (8 * i) % 256 : Nat) : Int)))) := HBq.out.setCell (Nat.le_refl _) _
      generalize Gf.nth (sealL n i) (3 - i) = v at q1
      clear HRq HBq
      rcases (show i = 0 ∨ i = 1 ∨ i = 2 ∨ i = 3 by omega) with rfl | rfl | rfl | rfl
      · go_wp2
        go_roundw
        case rel =>
          have h1 := HN.out
          have h2 := HN2.out
          rw [show ((n / 2 ^ (8 * 0) % 256 : Nat) : Int) = (n : Int) % 256 by simp] at h1 h2
          exact ⟨1, by omega, by go_num, h1, h2⟩
        case measure => simp [intOf]
      · go_wp2
        go_roundw
        case rel =>
          exact ⟨2, by omega, by go_num, HN.out, HN2.out⟩
        case measure => simp [intOf]
      · go_wp2
        go_roundw
        case rel =>
          exact ⟨3, by omega, by go_num, HN.out, HN2.out⟩
        case measure => simp [intOf]
      · go_wp2
        go_roundw
        case rel =>
          have h1 := HN.out
          have h2 := HN2.out
          rw [show ((n / 2 ^ (8 * 3) % 256 : Nat) : Int) = (n : Int) / 16777216 by omega] at h1 h2
          exact ⟨4, by omega, by go_num, h1, h2⟩
        case measure => simp [intOf]
    · have hie : i = 4 := by omega
      subst hie
      have hcv : Sem.run Tryz.prog (convert 53 9 (.slice (some ⟨w.heap.size, 0, none⟩) 4 4)) w3 = .ok (.string (strOf (sealL n 4))) w3 := by
        have h := conv_seg HRq.out.seg 4
        rw [sealL_length] at h
        exact h
      rw [← HF.out] at hcv
      clear HRq
      go_wp2
      go_ret
      exact ⟨rfl, HBq.out⟩
set_option maxRecDepth 10000 in
theorem seal_any (s : ByteArray) (w : World) (hs : s.size ≤ 1000000) :
    Calls Tryz.prog 8 #[.string s] w fun e w' => e = .returned (.string (sealT s)) ∧ Below w.heap.size w w' := by
  have HR := sealOf_any s w hs
  have hz : (fourT (crcOf s)).size = 4 := fourT_size _
  have HE : Hid (sealT s = s ++ fourT (crcOf s)) := by show _ = _; rfl
  generalize fourT (crcOf s) = q at *
  go_enter Tryz.func8, Tryz.ntmps8
  go_wp2_with fail
  refine HR.mono ?_
  rintro e w1 ⟨rfl, hb1⟩
  clear HR
  go_wp2
  go_ret
  exact ⟨by rw [HE.out]; rfl, hb1⟩
theorem clone_any (s : ByteArray) (w : World) (hs : s.size ≤ 1000000) :
    Calls Tryz.prog 44 #[.string s] w fun e w' => e = .returned (.string s) ∧ Below w.heap.size w w' := by
  have HR := Tryz.stringslite_Clone s w (by omega)
  go_enter Tryz.func44, Tryz.ntmps44
  go_wp2_with fail
  refine HR.mono ?_
  rintro e w1 ⟨rfl, hb1⟩
  clear HR
  go_wp2
  go_ret
  exact ⟨rfl, hb1⟩
set_option maxRecDepth 10000 in
theorem open_short (s : ByteArray) (ad : Nat → Addr) (w : World) (hs : s.size < 4) (hS : Sent w ad) :
    Calls Tryz.prog 20 #[.string s] w fun e w' => e = .returned (.tuple #[.string ⟨#[]⟩, .iface 206 (.pointer (some (ad 0)))]) ∧ Below w.heap.size w w' := by
  have c0 := hS.c0
  clear hS
  go_enter Tryz.func20, Tryz.ntmps20
  go_wp2
  go_quiet (fail)
  go_wp2
  go_ret2
  exact ⟨rfl, below_drewN (Below.refl _ _) _⟩
set_option maxRecDepth 10000 in
set_option maxHeartbeats 2000000 in
theorem open_ok (s : ByteArray) (w : World) (hs : 4 ≤ s.size) (hl : s.size ≤ 1000000) (h : fourT (crcOf (cutT s)) = endT s) :
    Calls Tryz.prog 20 #[.string s] w fun e w' => e = .returned (.tuple #[.string (cutT s), .nilIface]) ∧ Below w.heap.size w w' := by
  have hc1 : ∀ W, Sem.run Tryz.prog (Instr.slice 9 (.string s) none (some (.int .i64 ((s.size : Int) - 4))) none) W = .ok (.string (cutT s)) W := fun W => by
    rw [run_slice_string_h W 9 s Tryz.underlying9 .i64 _ (by omega) (by omega)]
    unfold cutT
    rw [show ((s.size : Int) - 4).toNat = s.size - 4 by omega]
  have hc2 : ∀ W, Sem.run Tryz.prog (Instr.slice 9 (.string s) (some (.int .i64 ((s.size : Int) - 4))) none none) W = .ok (.string (endT s)) W := fun W => by
    rw [run_slice_string_l W 9 s Tryz.underlying9 .i64 _ (by omega) (by omega)]
    unfold endT
    rw [show ((s.size : Int) - 4).toNat = s.size - 4 by omega]
  have HF : Hid (∀ W, Calls Tryz.prog 23 #[.string (cutT s)] W fun e w' => e = .returned (.string (fourT (crcOf (cutT s)))) ∧ Below W.heap.size W w') := fun W => sealOf_any _ W (by rw [cutT_size]; omega)
  have HC : Hid (∀ W, Calls Tryz.prog 44 #[.string (cutT s)] W fun e w' => e = .returned (.string (cutT s)) ∧ Below W.heap.size W w') := fun W => clone_any _ W (by rw [cutT_size]; omega)
  rw [h] at HF
  clear h
  generalize cutT s = t at *
  generalize endT s = u at *
  have l0 : (0 : Int) ≤ (s.size : Int) - 4 := by omega
  have l1 : (s.size : Int) - 4 ≤ (s.size : Int) := by omega
  have l2 : (4 : Int) ≤ (s.size : Int) := by omega
  have l3 : IntKind.i64.wrap ((s.size : Int) - 4) = (s.size : Int) - 4 := by rw [IntKind.wrap_i64]; omega
  have l4 : wrap64 ((s.size : Int) - 4) = (s.size : Int) - 4 := by unfold wrap64; omega
  go_enter Tryz.func20, Tryz.ntmps20
  go_wp2
  go_region_held3 (fun _ => True) (trivial)
    (first | (go_at_call 23; refine (HF.out _).mono ?_; rintro e w1 ⟨rfl, hb1⟩))
  have HB1 : Hid (Below w.heap.size w w1) := ((Below.refl w.heap.size w).drew).trans hb1
  clear hb1
  go_wp2_with fail
  refine (HC.out _).mono ?_
  rintro e w2 ⟨rfl, hb2⟩
  go_wp2
  go_ret2
  exact ⟨rfl, HB1.out.trans (hb2.mono HB1.out.size)⟩
set_option maxRecDepth 10000 in
set_option maxHeartbeats 2000000 in
theorem open_bad (s : ByteArray) (ad : Nat → Addr) (w : World) (hs : 4 ≤ s.size) (hl : s.size ≤ 1000000) (h : fourT (crcOf (cutT s)) ≠ endT s) (hS : Sent w ad) :
    Calls Tryz.prog 20 #[.string s] w fun e w' => e = .returned (.tuple #[.string ⟨#[]⟩, .iface 206 (.pointer (some (ad 8)))]) ∧ Below w.heap.size w w' := by
  have hc1 : ∀ W, Sem.run Tryz.prog (Instr.slice 9 (.string s) none (some (.int .i64 ((s.size : Int) - 4))) none) W = .ok (.string (cutT s)) W := fun W => by
    rw [run_slice_string_h W 9 s Tryz.underlying9 .i64 _ (by omega) (by omega)]
    unfold cutT
    rw [show ((s.size : Int) - 4).toNat = s.size - 4 by omega]
  have hc2 : ∀ W, Sem.run Tryz.prog (Instr.slice 9 (.string s) (some (.int .i64 ((s.size : Int) - 4))) none none) W = .ok (.string (endT s)) W := fun W => by
    rw [run_slice_string_l W 9 s Tryz.underlying9 .i64 _ (by omega) (by omega)]
    unfold endT
    rw [show ((s.size : Int) - 4).toNat = s.size - 4 by omega]
  have HF : Hid (∀ W, Calls Tryz.prog 23 #[.string (cutT s)] W fun e w' => e = .returned (.string (fourT (crcOf (cutT s)))) ∧ Below W.heap.size W w') := fun W => sealOf_any _ W (by rw [cutT_size]; omega)
  have HS : Hid (Sent w ad) := hS
  have h1 : ¬ (endT s).toList = (fourT (crcOf (cutT s))).toList := fun e => h (toListInj e.symm)
  have h2 : ((endT s).toList == (fourT (crcOf (cutT s))).toList) = false := by simpa using h1
  have h3 : (endT s == fourT (crcOf (cutT s))) = false := by rw [beq_toListBytes]; exact h2
  clear h hS
  generalize fourT (crcOf (cutT s)) = v at *
  generalize cutT s = t at *
  generalize endT s = u at *
  have l0 : (0 : Int) ≤ (s.size : Int) - 4 := by omega
  have l1 : (s.size : Int) - 4 ≤ (s.size : Int) := by omega
  have l2 : (4 : Int) ≤ (s.size : Int) := by omega
  have l3 : IntKind.i64.wrap ((s.size : Int) - 4) = (s.size : Int) - 4 := by rw [IntKind.wrap_i64]; omega
  have l4 : wrap64 ((s.size : Int) - 4) = (s.size : Int) - 4 := by unfold wrap64; omega
  go_enter Tryz.func20, Tryz.ntmps20
  go_wp2
  go_region_held3 (fun _ => True) (trivial)
    (first | (go_at_call 23; refine (HF.out _).mono ?_; rintro e w1 ⟨rfl, hb1⟩))
  have hB1 : Below w.heap.size w w1 := ((Below.refl w.heap.size w).drew).trans hb1
  have c8 := (HS.out.below hB1).c8
  have HB1 : Hid (Below w.heap.size w w1) := hB1
  clear hb1 hB1
  go_wp2
  go_quiet (fail)
  go_wp2
  go_ret2
  exact ⟨rfl, below_drewN HB1.out _⟩
set_option maxRecDepth 10000 in
theorem rless_any (a b : Int × Int) (w : World) :
    Calls Tryz.prog 57 #[.agg #[.int .i64 a.1, .int .i64 a.2], .agg #[.int .i64 b.1, .int .i64 b.2]] w fun e w' => e = .returned (.bool (lessB a b)) ∧ Below w.heap.size w w' := by
  obtain ⟨a1, a2⟩ := a
  obtain ⟨b1, b2⟩ := b
  have HB : Hid (Below w.heap.size w ((w.alloc (.cells #[.int .i64 a1, .int .i64 a2] 45)).alloc (.cells #[.int .i64 b1, .int .i64 b2] 45))) := ((Below.refl _ _).alloc (Nat.le_refl _) _).alloc (by simp) _
  by_cases h1 : a1 < b1
  · have HE : Hid (lessB (a1, a2) (b1, b2) = true) := by show _ = _; unfold lessB; simp [h1]
    rw [HE.out]
    go_enter Tryz.func57, Tryz.ntmps57
    go_wp2
    go_ret
    exact ⟨rfl, HB.out⟩
  have d1 : decide (a1 < b1) = false := decide_eq_false h1
  by_cases h2 : a1 = b1
  · subst h2
    have HE : Hid (lessB (a1, a2) (a1, b2) = decide (a2 < b2)) := by show _ = _; unfold lessB; simp
    rw [HE.out]
    go_enter Tryz.func57, Tryz.ntmps57
    go_wp2
    go_ret
    exact ⟨rfl, HB.out⟩
  · have HE : Hid (lessB (a1, a2) (b1, b2) = false) := by show _ = _; unfold lessB; simp [h1, h2]
    rw [HE.out]
    have d2 : (a1 == b1) = false := by
      rw [beq_eq_false_iff_ne]
      exact h2
    go_enter Tryz.func57, Tryz.ntmps57
    go_wp2
    go_ret
    exact ⟨rfl, HB.out⟩
set_option maxRecDepth 10000 in
set_option maxHeartbeats 4000000 in
theorem rget_any (h : Nat) (L : List Kep) (s : Bool) (key : ByteArray) (w : World) (hl : L.length ≤ 1000000) (hm : MHold w h L s) :
    Calls Tryz.prog 31 #[.pointer (some ⟨h, 0, none⟩), .string key] w fun e w' => (∃ v, e = .returned v ∧ OwnR verE 49 w' w.heap.size v (getL L key)) ∧ Below w.heap.size w w' := by
  obtain ⟨p, c, q0, hrec, hc, hn, hne⟩ := hm.row
  have HREC : Hid (Rec kepE w p L) := hrec
  have hlt := lt_of_cellH q0
  have HQ0 : Hid (w.cell? ⟨h, 0, none⟩ = some (.slice p L.length c)) := q0
  clear hrec hm q0 hne hn
  go_enter Tryz.func31, Tryz.ntmps31
  go_wp2
  go_loopw [5, 6] (fun v x wq => ∃ i : Nat, i ≤ L.length ∧ x = .int .i64 i ∧ OwnR verE 49 wq w.heap.size v (getL (L.take i) key) ∧ Below w.heap.size w wq) (fun _ x _ => L.length - (intOf x).toNat)
  case atStart => exact ⟨0, Nat.zero_le _, rfl, OwnR.nil _ _ _, Below.refl _ _⟩
  case round =>
    obtain ⟨i, hi, rfl, hO, hB⟩ := hrel
    obtain ⟨w1, rfl⟩ : ∃ w1, w1 = wr := ⟨_, rfl⟩
    obtain ⟨v, rfl⟩ : ∃ v, v = u5 := ⟨_, rfl⟩
    have HO : Hid (OwnR verE 49 w1 w.heap.size v (getL (L.take i) key)) := hO
    have HB : Hid (Below w.heap.size w w1) := hB
    have q0 : w1.cell? ⟨h, 0, none⟩ = some (.slice p L.length c) := (hB.cell (p := ⟨h, 0, none⟩) hlt).trans HQ0.out
    have hz1 : w.heap.size ≤ w1.heap.size := hB.size
    clear hO hB
    by_cases hil : i < L.length
    · obtain ⟨b, o, hpp, hblt, c0, c1, c2, c3, c4, c5⟩ := kep_cells (HREC.out.below HB.out) hil
      subst hpp
      by_cases he : (kepAt L i).1 = key
      · have HNX : Hid (getL (L.take (i + 1)) key = getL (L.take i) key ++ [(kepAt L i).2]) := getL_succ_yes hil he
        have hgl : (getL (L.take i) key).length ≤ 1000000 := Nat.le_trans (getL_le _ _) (by rw [List.length_take]; omega)
        rw [he] at c0
        clear he
        generalize (kepAt L i).2 = x at *
        obtain ⟨xn, xw, xs, xa, xt⟩ := x
        generalize getL (L.take i) key = gs at *
        have HO2 : Hid (OwnR verE 49 (w1.alloc (.cells #[.int .i64 xn, .int .i64 xw, .int .i64 xs, .int .i64 xa, .string xt] 49)) w.heap.size v gs) := HO.out.kept ((Below.refl _ _).alloc (Nat.le_refl _) _)
        have HNW : Hid (∀ j u, (verE.enc ⟨xn, xw, xs, xa, xt⟩)[j]? = some u → (w1.alloc (.cells #[.int .i64 xn, .int .i64 xw, .int .i64 xs, .int .i64 xa, .string xt] 49)).cell? ⟨w1.heap.size, 0 + j, none⟩ = some u) := fun j u hj => by
          rw [Nat.zero_add, World.cell?_alloc_at _ _ _ _ rfl]
          match j, hj with
          | 0, hj => exact hj
          | 1, hj => exact hj
          | 2, hj => exact hj
          | 3, hj => exact hj
          | 4, hj => exact hj
        have HB2 : Hid (Below w.heap.size w (w1.alloc (.cells #[.int .i64 xn, .int .i64 xw, .int .i64 xs, .int .i64 xa, .string xt] 49))) := HB.out.alloc hz1 _
        go_wp2_with (first | (at_builtin; refine wpList_append_rec rfl (.tmp 26) (.tmp 35) 57 49 rfl (.agg #[.int .i64 0, .int .i64 0, .int .i64 0, .int .i64 0, .string ⟨#[]⟩]) 48 Tryz.underlying57 verinfo rfl w.heap.size v gs rfl HO2.out w1.heap.size 0 1 ⟨xn, xw, xs, xa, xt⟩ rfl HNW.out (by unfold maxLen; omega) (by omega) HB2.out.size (by simp) ?_; intro v3 w3 hO3 hb3))
        have HO3 : Hid (OwnR verE 49 w3 w.heap.size v3 (gs ++ [⟨xn, xw, xs, xa, xt⟩])) := hO3
        have HB3 : Hid (Below w.heap.size w w3) := HB2.out.trans hb3
        clear hO3 hb3
        go_wp2
        go_roundw
        case rel => exact ⟨i + 1, by omega, by go_num, by rw [HNX.out]; exact HO3.out, HB3.out⟩
        case measure => simp [intOf]; omega
      · have HNX : Hid (getL (L.take (i + 1)) key = getL (L.take i) key) := getL_succ_no hil he
        have d1 := toList_ne he
        have d2 := toList_beq he
        have d3 := bytes_beq he
        clear he
        generalize kepAt L i = x at *
        obtain ⟨xk, xv⟩ := x
        go_wp2
        go_roundw
        case rel => exact ⟨i + 1, by omega, by go_num, by rw [HNX.out]; exact HO.out, HB.out⟩
        case measure => simp [intOf]; omega
    · have hie : i = L.length := by omega
      subst hie
      have HE : Hid (L.take L.length = L) := List.take_length
      go_wp2
      go_ret
      exact ⟨⟨_, rfl, by have := HO.out; rw [HE.out] at this; exact this⟩, HB.out⟩
/-- From w to w' nothing that was there is written but block h. -/
structure Turn (h : Nat) (w w' : World) : Prop where
  os : w'.os = w.os
  tape : w'.tape = w.tape
  output : w'.output = w.output
  size : w.heap.size ≤ w'.heap.size
  block : ∀ k, k < w.heap.size → k ≠ h → w'.heap[k]? = w.heap[k]?
  row : w'.cell? ⟨h, 0, none⟩ = w.cell? ⟨h, 0, none⟩ ∨ ∀ b o n c, w'.cell? ⟨h, 0, none⟩ = some (.slice (some ⟨b, o, none⟩) n c) → w.heap.size ≤ b
theorem Turn.of_below {h : Nat} {w w' : World} (hlt : h < w.heap.size) (hb : Below w.heap.size w w') : Turn h w w' := ⟨hb.os, hb.tape, hb.output, hb.size, fun k hk _ => hb.block k hk, Or.inl (hb.cell (p := ⟨h, 0, none⟩) hlt)⟩
theorem Turn.trans {h : Nat} {w w' w'' : World} (h1 : Turn h w w') (h2 : Turn h w' w'') : Turn h w w'' := ⟨h2.os.trans h1.os, h2.tape.trans h1.tape, h2.output.trans h1.output, Nat.le_trans h1.size h2.size, fun k hk hne => (h2.block k (Nat.lt_of_lt_of_le hk h1.size) hne).trans (h1.block k hk hne), by
  rcases h2.row with h3 | h3
  · rcases h1.row with h4 | h4
    · exact Or.inl (h3.trans h4)
    · exact Or.inr fun b o n c e => h4 b o n c (by rw [← h3]; exact e)
  · exact Or.inr fun b o n c e => Nat.le_trans h1.size (h3 b o n c e)⟩
theorem Turn.cell {h : Nat} {w w' : World} (h1 : Turn h w w') {p : Addr} (hp : p.block < w.heap.size) (hne : p.block ≠ h) : w'.cell? p = w.cell? p := by
  have := h1.block p.block hp hne
  unfold World.cell?
  rw [this]
theorem kepinfo : (Tryz.prog.info? 51).map (fun i => (i.zero, i.size, i.bytes)) = some (some (.agg #[.string ⟨#[]⟩, .int .i64 0, .int .i64 0, .int .i64 0, .int .i64 0, .string ⟨#[]⟩]), 6, 64) := by kernel_rfl
theorem MHold.store {w w' : World} {h : Nat} {L M : List Kep} {s : Bool} (hm : MHold w h L s) (hb : Below w.heap.size w w') {v : Value} (hO : OwnR kepE 51 w' w.heap.size v M) : MHold (w'.setCell ⟨h, 0, none⟩ v) h M s ∧ Turn h w (w'.setCell ⟨h, 0, none⟩ v) := by
  have hm' := hm.below hb
  obtain ⟨p0, c0, q0, _, _, _, _⟩ := hm'.row
  have hlt0 : h < w.heap.size := by
    obtain ⟨p1, c1, q1, _⟩ := hm.row
    exact lt_of_cellH q1
  obtain ⟨p, c, rfl, hr, hc, hn, hblk⟩ := hO.form
  refine ⟨⟨⟨p, c, World.cell?_setCell_same _ _ _ q0, ?_, hc, hn, fun b o e => ?_⟩, ?_, by rw [World.frozen?_setCell]; exact hm'.free0, by rw [World.frozen?_setCell]; exact hm'.free1⟩, ⟨hb.os, hb.tape, hb.output, by simpa using hb.size, fun k hk hne => (Deep.blk_setCell_other _ _ _ _ hne).trans (hb.block k hk), Or.inr fun b o n c' e => ?_⟩⟩
  · rcases hr with hr | ⟨b, o, hp, hlt, hcell⟩
    · exact Or.inl hr
    · refine Or.inr ⟨b, o, hp, by simpa using hlt, fun i x hx j u hu => ?_⟩
      have hbb := (hblk b o hp).1
      rw [World.cell?_setCell_other _ _ _ _ (fun e => by have h2 : h = b := congrArg Addr.block e; omega)]
      exact hcell i x hx j u hu
  · have := (hblk b o e).1
    omega
  · rw [World.cell?_setCell_other _ _ _ _ (fun e => by have h2 : (0 : Nat) = 1 := congrArg Addr.off e; omega)]
    exact hm'.sealed_
  · rw [World.cell?_setCell_same _ _ _ q0] at e
    obtain ⟨h1, _, _⟩ := Value.slice.inj (Option.some.inj e)
    exact (hblk b o h1).1
set_option maxRecDepth 10000 in
theorem isTag_any (n who : Int) (w : World) :
    Calls Tryz.prog 85 #[.agg #[.int .i64 n, .int .i64 who]] w fun e w' => e = .returned (.bool (tagB n who)) ∧ Below w.heap.size w w' := by
  have HB : Hid (Below w.heap.size w (w.alloc (.cells #[.int .i64 n, .int .i64 who] 45))) := (Below.refl _ _).alloc (Nat.le_refl _) _
  have walk : (decide (0 ≤ n) = false) ∨ (0 ≤ n) ∧ ((decide (n ≤ 1099511627776) = false) ∨ n ≤ 1099511627776 ∧ ((decide (0 ≤ who) = false) ∨ 0 ≤ who ∧ ((decide (who ≤ 1099511627776) = false) ∨ who ≤ 1099511627776))) := by
    by_cases h1 : 0 ≤ n
    · by_cases h2 : n ≤ 1099511627776
      · by_cases h3 : 0 ≤ who
        · by_cases h4 : who ≤ 1099511627776
          · exact Or.inr ⟨h1, Or.inr ⟨h2, Or.inr ⟨h3, Or.inr h4⟩⟩⟩
          · exact Or.inr ⟨h1, Or.inr ⟨h2, Or.inr ⟨h3, Or.inl (decide_eq_false h4)⟩⟩⟩
        · exact Or.inr ⟨h1, Or.inr ⟨h2, Or.inl (decide_eq_false h3)⟩⟩
      · exact Or.inr ⟨h1, Or.inl (decide_eq_false h2)⟩
    · exact Or.inl (decide_eq_false h1)
  have HR : Hid (tagB n who = (decide (0 ≤ n) && decide (n ≤ 1099511627776) && decide (0 ≤ who) && decide (who ≤ 1099511627776))) := by show _ = _; rfl
  generalize tagB n who = r at *
  rcases walk with g | ⟨g1, g | ⟨g2, g | ⟨g3, g | g4⟩⟩⟩
  all_goals
    go_enter Tryz.func85, Tryz.ntmps85
    go_wp2
    go_ret
    exact ⟨by rw [HR.out]; simp [*], HB.out⟩
set_option maxRecDepth 10000 in
set_option maxHeartbeats 4000000 in
theorem isNameBig_any (s : ByteArray) (w : World) :
    Calls Tryz.prog 84 #[.string s] w fun e w' => e = .returned (.bool (isN s)) ∧ w' = w := by
  by_cases h1 : s.size < 1
  · have HE : Hid (isN s = false) := isN_len (by omega)
    rw [HE.out]
    go_enter Tryz.func84, Tryz.ntmps84
    go_wp2
    go_ret
    exact ⟨rfl, rfl⟩
  by_cases h2 : 16 < s.size
  · have HE : Hid (isN s = false) := isN_len (by omega)
    rw [HE.out]
    go_enter Tryz.func84, Tryz.ntmps84
    go_wp2
    go_ret
    exact ⟨rfl, rfl⟩
  have g1 : decide ((s.size : Int) < 1) = false := decide_eq_false (by omega)
  have g2 : decide (16 < (s.size : Int)) = false := decide_eq_false (by omega)
  have HF : Hid (∀ j, j < s.size → letterB (Gf.nth (bytesOf s) j) = false → isN s = false) := fun j hj h => isN_one hj h
  have HT : Hid ((∀ j, j < s.size → letterB (Gf.nth (bytesOf s) j) = true) → isN s = true) := fun h => isN_all (by omega) (by omega) h
  generalize isN s = r at *
  go_enter Tryz.func84, Tryz.ntmps84
  go_wp2
  go_loop [3] (fun x => ∃ i : Nat, i ≤ s.size ∧ x = .int .i64 i ∧ ∀ j, j < i → letterB (Gf.nth (bytesOf s) j) = true) (fun x => s.size - (intOf x).toNat)
  case atStart => exact ⟨0, Nat.zero_le _, rfl, fun j hj => absurd hj (Nat.not_lt_zero _)⟩
  case round =>
    obtain ⟨i, hi, rfl, hall⟩ := hrel
    have HALL : Hid (∀ j, j < i → letterB (Gf.nth (bytesOf s) j) = true) := hall
    clear hall
    by_cases hil : i < s.size
    · have hix := run_idx s i hil
      have hy := bytesOf_lt s i
      have HB : Hid (letterB (Gf.nth (bytesOf s) i) = false → r = false) := fun h => HF.out i hil h
      have HN : Hid (letterB (Gf.nth (bytesOf s) i) = true → ∀ j, j < i + 1 → letterB (Gf.nth (bytesOf s) j) = true) := fun h j hj => by
        rcases Nat.lt_or_ge j i with h' | h'
        · exact HALL.out j h'
        · obtain rfl : j = i := by omega
          exact h
      clear HF HALL
      generalize Gf.nth (bytesOf s) i = y at *
      rcases (show (97 ≤ y ∧ y ≤ 122) ∨ (48 ≤ y ∧ y ≤ 57) ∨ y = 45 ∨ 122 < y ∨ (57 < y ∧ y < 97) ∨ (y < 48 ∧ y ≠ 45) by omega) with hc | hc | hc | hc | hc | hc
      · have HL : Hid (letterB y = true) := by show _ = _; simp [letterB, hc]
        obtain ⟨hc1, hc2⟩ := hc
        go_wp2
        go_round
        case rel => exact ⟨i + 1, by omega, by go_num, HN.out HL.out⟩
        case measure => simp [intOf]; omega
      · have HL : Hid (letterB y = true) := by show _ = _; simp [letterB, hc]
        obtain ⟨hc1, hc2⟩ := hc
        go_wp2
        go_round
        case rel => exact ⟨i + 1, by omega, by go_num, HN.out HL.out⟩
        case measure => simp [intOf]; omega
      · have HL : Hid (letterB y = true) := by show _ = _; simp [letterB, hc]
        subst hc
        go_wp2
        go_round
        case rel => exact ⟨i + 1, by omega, by go_num, HN.out HL.out⟩
        case measure => simp [intOf]; omega
      · have HL : Hid (r = false) := HB.out (by
          unfold letterB
          rw [decide_eq_false (by omega), decide_eq_false (by omega), decide_eq_false (by omega)]
          rfl)
        have d1 : decide ((y : Int) ≤ 122) = false := decide_eq_false (by omega)
        have d2 : decide ((y : Int) ≤ 57) = false := decide_eq_false (by omega)
        have hc3 : ((y : Int) == 45) = false := by
          rw [beq_eq_false_iff_ne]
          omega
        go_wp2
        go_ret
        exact ⟨by rw [HL.out]; rfl, rfl⟩
      · have HL : Hid (r = false) := HB.out (by
          unfold letterB
          rw [decide_eq_false (by omega), decide_eq_false (by omega), decide_eq_false (by omega)]
          rfl)
        obtain ⟨hc1, hc2⟩ := hc
        have d2 : decide ((y : Int) ≤ 57) = false := decide_eq_false (by omega)
        have hc3 : ((y : Int) == 45) = false := by
          rw [beq_eq_false_iff_ne]
          omega
        go_wp2
        go_ret
        exact ⟨by rw [HL.out]; rfl, rfl⟩
      · have HL : Hid (r = false) := HB.out (by
          unfold letterB
          rw [decide_eq_false (by omega), decide_eq_false (by omega), decide_eq_false (by omega)]
          rfl)
        obtain ⟨hc1, hc2⟩ := hc
        have hc3 : ((y : Int) == 45) = false := by
          rw [beq_eq_false_iff_ne]
          omega
        go_wp2
        go_ret
        exact ⟨by rw [HL.out]; rfl, rfl⟩
    · have hie : i = s.size := by omega
      subst hie
      have HR : Hid (r = true) := HT.out HALL.out
      go_wp2
      go_ret
      exact ⟨by rw [HR.out]; rfl, rfl⟩
set_option maxRecDepth 10000 in
set_option maxHeartbeats 8000000 in
theorem putScan_walk (h : Nat) (L : List Kep) (key : ByteArray) (v : Ver) (w : World) (hl : L.length ≤ 1000000) (hm : MHold w h L false) (hN : isN key = true) (hV : verOk v = true) :
    Calls Tryz.prog 56 #[.pointer (some ⟨h, 0, none⟩), .string key, .agg #[.int .i64 v.n, .int .i64 v.who, .int .i64 v.size, .int .i64 v.at_, .string v.text]] w fun e w' => e = .returned (.int .i64 (putScan L key v 0 L.length)) ∧ Below w.heap.size w w' := by
  obtain ⟨p, c, q0, hrec, hc, hn, hne⟩ := hm.row
  have qs := hm.sealed_
  have hlt := lt_of_cellH q0
  have hksz := (isN_size hN).2
  have HNM : Hid (∀ W, Calls Tryz.prog 84 #[.string key] W fun e w' => e = .returned (.bool (isN key)) ∧ w' = W) := fun W => isNameBig_any key W
  rw [hN] at HNM
  unfold verOk at hV
  rw [Bool.and_eq_true] at hV
  obtain ⟨hT, hV⟩ := hV
  have HTG : Hid (∀ W, Calls Tryz.prog 85 #[.agg #[.int .i64 v.n, .int .i64 v.who]] W fun e w' => e = .returned (.bool (tagB v.n v.who)) ∧ Below W.heap.size W w') := fun W => isTag_any v.n v.who W
  rw [hT] at HTG
  obtain ⟨v1, v2, v3, v4, v5⟩ := of_decide_eq_true hV
  clear hT hV hN
  obtain ⟨R, hR⟩ : ∃ R, R = putScan L key v 0 L.length := ⟨_, rfl⟩
  rw [← hR]
  have HR : Hid (R = putScan L key v 0 L.length) := hR
  clear hR
  have HREC : Hid (Rec kepE w p L) := hrec
  obtain ⟨w0, hw0⟩ : ∃ w0, w0 = w.alloc (.cells #[.int .i64 v.n, .int .i64 v.who, .int .i64 v.size, .int .i64 v.at_, .string v.text] 49) := ⟨_, rfl⟩
  have hb0 : Below w.heap.size w w0 := by rw [hw0]; exact (Below.refl _ _).alloc (Nat.le_refl _) _
  have b0 : w0.cell? ⟨w.heap.size, 0, none⟩ = some (.int .i64 v.n) := by rw [hw0, World.cell?_alloc_at _ _ _ _ rfl]; rfl
  have b1 : w0.cell? ⟨w.heap.size, 1, none⟩ = some (.int .i64 v.who) := by rw [hw0, World.cell?_alloc_at _ _ _ _ rfl]; rfl
  have b2 : w0.cell? ⟨w.heap.size, 2, none⟩ = some (.int .i64 v.size) := by rw [hw0, World.cell?_alloc_at _ _ _ _ rfl]; rfl
  have b3 : w0.cell? ⟨w.heap.size, 3, none⟩ = some (.int .i64 v.at_) := by rw [hw0, World.cell?_alloc_at _ _ _ _ rfl]; rfl
  have b4 : w0.cell? ⟨w.heap.size, 4, none⟩ = some (.string v.text) := by rw [hw0, World.cell?_alloc_at _ _ _ _ rfl]; rfl
  have qs0 : w0.cell? ⟨h, 1, none⟩ = some (.bool false) := (hb0.cell (p := ⟨h, 1, none⟩) hlt).trans qs
  have HALL : Hid (∀ W, Below w0.heap.size w0 W → (W.cell? ⟨h, 0, none⟩ = some (.slice p L.length c) ∧ W.cell? ⟨w.heap.size, 0, none⟩ = some (.int .i64 v.n) ∧ W.cell? ⟨w.heap.size, 1, none⟩ = some (.int .i64 v.who) ∧ W.cell? ⟨w.heap.size, 2, none⟩ = some (.int .i64 v.size) ∧ W.cell? ⟨w.heap.size, 3, none⟩ = some (.int .i64 v.at_) ∧ W.cell? ⟨w.heap.size, 4, none⟩ = some (.string v.text)) ∧ Rec kepE W p L ∧ Below w.heap.size w W) := fun W hW => by
    have hx : w.heap.size < w0.heap.size := lt_of_cellH b0
    have hy : h < w0.heap.size := Nat.lt_of_lt_of_le hlt hb0.size
    exact ⟨⟨(hW.cell (p := ⟨h, 0, none⟩) hy).trans ((hb0.cell (p := ⟨h, 0, none⟩) hlt).trans q0), (hW.cell (p := ⟨w.heap.size, 0, none⟩) hx).trans b0, (hW.cell (p := ⟨w.heap.size, 1, none⟩) hx).trans b1, (hW.cell (p := ⟨w.heap.size, 2, none⟩) hx).trans b2, (hW.cell (p := ⟨w.heap.size, 3, none⟩) hx).trans b3, (hW.cell (p := ⟨w.heap.size, 4, none⟩) hx).trans b4⟩, (HREC.out.below hb0).below hW, hb0.trans (hW.mono hb0.size)⟩
  have HW0 : Hid (w0 = w.alloc (.cells #[.int .i64 v.n, .int .i64 v.who, .int .i64 v.size, .int .i64 v.at_, .string v.text] 49)) := hw0
  have HV : Hid (∀ x : Ver, x = v ↔ (x.n = v.n ∧ x.who = v.who ∧ x.size = v.size ∧ x.at_ = v.at_ ∧ x.text = v.text)) := fun x => by
    obtain ⟨a1, a2, a3, a4, a5⟩ := x
    obtain ⟨b1, b2, b3, b4, b5⟩ := v
    simp
  have HSCAN : Hid (∀ i, i < L.length → putScan L key v i (L.length - i) = if sameTag (kepAt L i) key v then (if (kepAt L i).2 = v then -1 else 6) else putScan L key v (i + 1) (L.length - (i + 1))) := fun i hi => putScan_at hi
  have HLAST : Hid (putScan L key v L.length 0 = if 60 ≤ L.length then 7 else 0) := by show _ = _; rfl
  have HST : Hid (∀ x : Kep, sameTag x key v = (decide (x.1 = key) && decide (x.2.n = v.n) && decide (x.2.who = v.who))) := fun x => rfl
  clear hrec hm q0 qs hne hn b0 b1 b2 b3 b4 hw0 hb0
  have g1 : decide (v.size < 0) = false := decide_eq_false (by omega)
  have g2 : decide (1000 < v.size) = false := decide_eq_false (by omega)
  have g3 : decide (v.at_ < 0) = false := decide_eq_false (by omega)
  have g4 : decide (12 ≤ v.at_) = false := decide_eq_false (by omega)
  have g5 : decide (1000 < (v.text.size : Int)) = false := decide_eq_false (by omega)
  go_enter Tryz.func56, Tryz.ntmps56
  go_wp2_with (rw [← HW0.out])
  refine (HNM.out _).mono ?_
  rintro e w1 ⟨rfl, hw1⟩
  rw [hw1]
  clear hw1 w1 HNM
  obtain ⟨⟨k0, k1, k2, k3, k4, k5⟩, _, _⟩ := HALL.out w0 (Below.refl _ _)
  go_wp2_with fail
  refine (HTG.out _).mono ?_
  rintro e w1 ⟨rfl, hb1⟩
  obtain ⟨⟨m0, m1, m2, m3, m4, m5⟩, _, _⟩ := HALL.out w1 hb1
  have HB1 : Hid (Below w0.heap.size w0 w1) := hb1
  clear HTG hb1 k0 k1 k2 k3 k4 k5 qs0
  go_wp2
  clear m0 m1 m2 m3 m4 m5
  go_loopw [9] (fun x wq => ∃ i : Nat, i ≤ L.length ∧ x = .int .i64 i ∧ putScan L key v i (L.length - i) = R ∧ Below w0.heap.size w0 wq) (fun x _ => L.length - (intOf x).toNat)
  case atStart => exact ⟨0, Nat.zero_le _, rfl, HR.out.symm, HB1.out⟩
  case round =>
    obtain ⟨i, hi, rfl, hsc, hb2⟩ := hrel
    obtain ⟨w2, rfl⟩ : ∃ w2, w2 = wr := ⟨_, rfl⟩
    have HB2 : Hid (Below w0.heap.size w0 w2) := hb2
    have HSC : Hid (putScan L key v i (L.length - i) = R) := hsc
    obtain ⟨⟨k0, k1, k2, k3, k4, k5⟩, hrc, hbw⟩ := HALL.out w2 hb2
    have HBW : Hid (Below w.heap.size w w2) := hbw
    have HRC : Hid (Rec kepE w2 p L) := hrc
    clear hsc hb2 hrc hbw
    by_cases hil : i < L.length
    · obtain ⟨b, o, hpp, hblt, c0, c1, c2, c3, c4, c5⟩ := kep_cells HRC.out hil
      subst hpp
      have hs := HSCAN.out i hil
      rw [HSC.out] at hs
      have hst := HST.out (kepAt L i)
      have hvv := HV.out (kepAt L i).2
      generalize kepAt L i = x at *
      obtain ⟨xk, xv⟩ := x
      by_cases hk : xk = key
      · by_cases hn : xv.n = v.n
        · by_cases hwho : xv.who = v.who
          · have hst' : sameTag (xk, xv) key v = true := by rw [hst]; simp [hk, hn, hwho]
            rw [if_pos hst'] at hs
            by_cases hveq : xv = v
            · have HE : Hid (R = -1) := by show _ = _; rw [hs]; exact if_pos hveq
              subst hveq hk
              clear hs hst hvv hst' hn hwho HSCAN HV HST
              go_wp2
              go_quiet (fail)
              go_wp2
              go_quiet (fail)
              go_wp2
              go_ret
              exact ⟨by rw [HE.out]; rfl, below_drewN (below_drewN HBW.out _) _⟩
            · have HE : Hid (R = 6) := by show _ = _; rw [hs]; exact if_neg hveq
              have hne3 : ((xv.size == v.size) = false) ∨ xv.size = v.size ∧ (((xv.at_ == v.at_) = false) ∨ xv.at_ = v.at_ ∧ xv.text ≠ v.text) := by
                by_cases e3 : xv.size = v.size
                · by_cases e4 : xv.at_ = v.at_
                  · exact Or.inr ⟨e3, Or.inr ⟨e4, fun e5 => hveq (hvv.2 ⟨hn, hwho, e3, e4, e5⟩)⟩⟩
                  · exact Or.inr ⟨e3, Or.inl (beq_eq_false_iff_ne.2 e4)⟩
                · exact Or.inl (beq_eq_false_iff_ne.2 e3)
              subst hk
              have c1' : w2.cell? ⟨b, o + i * 6 + 1, none⟩ = some (.int .i64 v.n) := c1.trans (by rw [hn])
              have c2' : w2.cell? ⟨b, o + i * 6 + 2, none⟩ = some (.int .i64 v.who) := c2.trans (by rw [hwho])
              clear hs hst hvv hst' hn hwho hveq c1 c2 HSCAN HV HST
              rcases hne3 with g | ⟨ge, g | ⟨gf, g⟩⟩
              · go_wp2
                go_quiet (fail)
                go_wp2
                go_quiet (fail)
                go_wp2
                go_ret
                exact ⟨by rw [HE.out]; rfl, below_drewN (below_drewN HBW.out _) _⟩
              · have c3' : w2.cell? ⟨b, o + i * 6 + 3, none⟩ = some (.int .i64 v.size) := c3.trans (by rw [← ge])
                clear c3 ge
                go_wp2
                go_quiet (fail)
                go_wp2
                go_quiet (fail)
                go_wp2
                go_ret
                exact ⟨by rw [HE.out]; rfl, below_drewN (below_drewN HBW.out _) _⟩
              · have c3' : w2.cell? ⟨b, o + i * 6 + 3, none⟩ = some (.int .i64 v.size) := c3.trans (by rw [← ge])
                have c4' : w2.cell? ⟨b, o + i * 6 + 4, none⟩ = some (.int .i64 v.at_) := c4.trans (by rw [← gf])
                have d1 := toList_ne g
                have d2 := toList_beq g
                have d3 := bytes_beq g
                clear c3 ge c4 gf g
                go_wp2
                go_quiet (fail)
                go_wp2
                go_quiet (fail)
                go_wp2
                go_ret
                exact ⟨by rw [HE.out]; rfl, below_drewN (below_drewN HBW.out _) _⟩
          · have hst' : sameTag (xk, xv) key v = false := by rw [hst]; simp [hwho]
            have HE : Hid (putScan L key v (i + 1) (L.length - (i + 1)) = R) := by show _ = _; rw [hs, if_neg (by rw [hst']; decide)]
            have c1' : w2.cell? ⟨b, o + i * 6 + 1, none⟩ = some (.int .i64 v.n) := c1.trans (by rw [hn])
            have gw : (xv.who == v.who) = false := beq_eq_false_iff_ne.2 hwho
            subst hk
            clear hs hst hvv hst' hn hwho c1 HSCAN HV HST
            go_wp2
            go_quiet (fail)
            go_wp2
            go_roundw
            case rel => exact ⟨i + 1, by omega, by go_num, HE.out, below_drewN HB2.out _⟩
            case measure => simp [intOf]; omega
        · have hst' : sameTag (xk, xv) key v = false := by rw [hst]; simp [hn]
          have HE : Hid (putScan L key v (i + 1) (L.length - (i + 1)) = R) := by show _ = _; rw [hs, if_neg (by rw [hst']; decide)]
          have gw : (xv.n == v.n) = false := beq_eq_false_iff_ne.2 hn
          subst hk
          clear hs hst hvv hst' hn HSCAN HV HST
          go_wp2
          go_quiet (fail)
          go_wp2
          go_roundw
          case rel => exact ⟨i + 1, by omega, by go_num, HE.out, below_drewN HB2.out _⟩
          case measure => simp [intOf]; omega
      · have hst' : sameTag (xk, xv) key v = false := by rw [hst]; simp [hk]
        have HE : Hid (putScan L key v (i + 1) (L.length - (i + 1)) = R) := by show _ = _; rw [hs, if_neg (by rw [hst']; decide)]
        have d1 := toList_ne hk
        have d2 := toList_beq hk
        have d3 := bytes_beq hk
        clear hs hst hvv hst' hk HSCAN HV HST
        go_wp2
        go_quiet (fail)
        go_wp2
        go_roundw
        case rel => exact ⟨i + 1, by omega, by go_num, HE.out, below_drewN HB2.out _⟩
        case measure => simp [intOf]; omega
    · have hie : i = L.length := by omega
      subst hie
      have hlast := HSC.out
      rw [Nat.sub_self, HLAST.out] at hlast
      by_cases h60 : 60 ≤ L.length
      · have HE : Hid (R = 7) := by show _ = _; rw [← hlast]; exact if_pos h60
        clear hlast
        go_wp2
        go_ret
        exact ⟨by rw [HE.out]; rfl, HBW.out⟩
      · have HE : Hid (R = 0) := by show _ = _; rw [← hlast]; exact if_neg h60
        clear hlast
        go_wp2
        go_ret
        exact ⟨by rw [HE.out]; rfl, HBW.out⟩
set_option maxRecDepth 10000 in
set_option maxHeartbeats 8000000 in
theorem putErr_any (h : Nat) (L : List Kep) (s : Bool) (key : ByteArray) (v : Ver) (w : World) (hl : L.length ≤ 1000000) (htx : v.text.size ≤ maxLen) (hm : MHold w h L s) :
    Calls Tryz.prog 56 #[.pointer (some ⟨h, 0, none⟩), .string key, .agg #[.int .i64 v.n, .int .i64 v.who, .int .i64 v.size, .int .i64 v.at_, .string v.text]] w fun e w' => e = .returned (.int .i64 (putErr L s key v)) ∧ Below w.heap.size w w' := by
  obtain ⟨p, c, q0, hrec, hc, hn, hne⟩ := hm.row
  have qs := hm.sealed_
  have hlt := lt_of_cellH q0
  obtain ⟨w0, hw0⟩ : ∃ w0, w0 = w.alloc (.cells #[.int .i64 v.n, .int .i64 v.who, .int .i64 v.size, .int .i64 v.at_, .string v.text] 49) := ⟨_, rfl⟩
  have hb0 : Below w.heap.size w w0 := by rw [hw0]; exact (Below.refl _ _).alloc (Nat.le_refl _) _
  have qs0 : w0.cell? ⟨h, 1, none⟩ = some (.bool s) := (hb0.cell (p := ⟨h, 1, none⟩) hlt).trans qs
  have HB0 : Hid (Below w.heap.size w w0) := hb0
  have HW0 : Hid (w0 = w.alloc (.cells #[.int .i64 v.n, .int .i64 v.who, .int .i64 v.size, .int .i64 v.at_, .string v.text] 49)) := hw0
  cases s with
  | true =>
    have HE : Hid (putErr L true key v = 10) := by show _ = _; rfl
    rw [HE.out]
    clear hm q0 hrec hn hne hw0 hb0 qs
    go_enter Tryz.func56, Tryz.ntmps56
    go_wp2_with (rw [← HW0.out])
    go_ret
    exact ⟨rfl, HB0.out⟩
  | false =>
    have HNM : Hid (∀ W, Calls Tryz.prog 84 #[.string key] W fun e w' => e = .returned (.bool (isN key)) ∧ w' = W) := fun W => isNameBig_any key W
    by_cases hN : isN key = true
    · by_cases hV : verOk v = true
      · have HE : putErr L false key v = putScan L key v 0 L.length := by unfold putErr; rw [if_neg (by decide), if_pos hN, if_pos hV]
        rw [HE]
        exact putScan_walk h L key v w hl hm hN hV
      · have HE : Hid (putErr L false key v = 2) := by show _ = _; unfold putErr; rw [if_neg (by decide), if_pos hN, if_neg hV]
        rw [HE.out]
        rw [hN] at HNM
        have HTG : Hid (∀ W, Calls Tryz.prog 85 #[.agg #[.int .i64 v.n, .int .i64 v.who]] W fun e w' => e = .returned (.bool (tagB v.n v.who)) ∧ Below W.heap.size W w') := fun W => isTag_any v.n v.who W
        have b0 : w0.cell? ⟨w.heap.size, 0, none⟩ = some (.int .i64 v.n) := by rw [hw0, World.cell?_alloc_at _ _ _ _ rfl]; rfl
        have b1 : w0.cell? ⟨w.heap.size, 1, none⟩ = some (.int .i64 v.who) := by rw [hw0, World.cell?_alloc_at _ _ _ _ rfl]; rfl
        have b2 : w0.cell? ⟨w.heap.size, 2, none⟩ = some (.int .i64 v.size) := by rw [hw0, World.cell?_alloc_at _ _ _ _ rfl]; rfl
        have b3 : w0.cell? ⟨w.heap.size, 3, none⟩ = some (.int .i64 v.at_) := by rw [hw0, World.cell?_alloc_at _ _ _ _ rfl]; rfl
        have b4 : w0.cell? ⟨w.heap.size, 4, none⟩ = some (.string v.text) := by rw [hw0, World.cell?_alloc_at _ _ _ _ rfl]; rfl
        have HALL : Hid (∀ W, Below w0.heap.size w0 W → W.cell? ⟨w.heap.size, 2, none⟩ = some (.int .i64 v.size) ∧ W.cell? ⟨w.heap.size, 3, none⟩ = some (.int .i64 v.at_) ∧ W.cell? ⟨w.heap.size, 4, none⟩ = some (.string v.text)) := fun W hW => by
          have hx : w.heap.size < w0.heap.size := lt_of_cellH b0
          exact ⟨(hW.cell (p := ⟨w.heap.size, 2, none⟩) hx).trans b2, (hW.cell (p := ⟨w.heap.size, 3, none⟩) hx).trans b3, (hW.cell (p := ⟨w.heap.size, 4, none⟩) hx).trans b4⟩
        unfold maxLen at htx
        have HW : Hid (tagB v.n v.who = false ∨ tagB v.n v.who = true ∧ (v.size < 0 ∨ ¬ v.size < 0 ∧ (1000 < v.size ∨ ¬ 1000 < v.size ∧ (v.at_ < 0 ∨ ¬ v.at_ < 0 ∧ (12 ≤ v.at_ ∨ ¬ 12 ≤ v.at_ ∧ 1000 < v.text.size))))) := by
          show _ ∨ _
          cases hT : tagB v.n v.who with
          | false => exact Or.inl rfl
          | true =>
            refine Or.inr ⟨rfl, ?_⟩
            have h2 : ¬ (0 ≤ v.size ∧ v.size ≤ 1000 ∧ 0 ≤ v.at_ ∧ v.at_ < 12 ∧ v.text.size ≤ 1000) := fun h3 => hV (by unfold verOk; rw [hT, decide_eq_true h3]; rfl)
            omega
        clear hm q0 hrec hn hne hw0 hb0 qs hN hV b2 b3 b4
        generalize tagB v.n v.who = tb at *
        rcases HW.out with rfl | ⟨rfl, g | ⟨g1, g | ⟨g2, g | ⟨g3, g | ⟨g4, g⟩⟩⟩⟩⟩
        all_goals
          go_enter Tryz.func56, Tryz.ntmps56
          go_wp2_with (rw [← HW0.out])
          refine (HNM.out _).mono ?_
          rintro e w1 ⟨rfl, hw1⟩
          rw [hw1]
          clear hw1 w1 HNM
          go_wp2_with fail
          refine (HTG.out _).mono ?_
          rintro e w1 ⟨rfl, hb1⟩
          obtain ⟨m3, m4, m5⟩ := HALL.out w1 hb1
          have HB1 : Hid (Below w.heap.size w w1) := HB0.out.trans (hb1.mono HB0.out.size)
          clear HTG hb1 b0 b1 qs0
          go_wp2
          go_ret
          exact ⟨rfl, HB1.out⟩
    · have HE : Hid (putErr L false key v = 4) := by show _ = _; unfold putErr; rw [if_neg (by decide), if_neg hN]
      rw [HE.out]
      rw [Bool.eq_false_iff.2 hN] at HNM
      clear hm q0 hrec hn hne hw0 hb0 qs hN
      go_enter Tryz.func56, Tryz.ntmps56
      go_wp2_with (rw [← HW0.out])
      refine (HNM.out _).mono ?_
      rintro e w1 ⟨rfl, hw1⟩
      rw [hw1]
      clear hw1 w1 HNM
      go_wp2
      go_ret
      exact ⟨rfl, HB0.out⟩
theorem run_keps_from (p : Option Addr) (l : List Kep) (c k : Nat) (hk : k ≤ l.length) (W : World) : Sem.run Tryz.prog (Instr.slice 41 (.slice p l.length c) (some (.int .i64 (k : Int))) none none) W = .ok (.slice (if c = k then p else p.map (·.add (k * 6))) (l.drop k).length (c - k)) W := by
  have hsz : (sizeOf (Tryz.prog.elem 41)).run Tryz.prog W = .ok 6 W := by kernel_rfl
  have hel : Tryz.prog.elem 41 = 51 := by kernel_rfl
  have hun : Tryz.prog.underlying 41 = some (.slice (Tryz.prog.elem 41)) := by rw [hel]; exact Tryz.underlying41
  rw [run_slice_l W 41 p l.length c hun .i64 (k : Int) (by omega) (by omega), hsz]
  simp [Result.andThen, sliced]
theorem run_keps_to (p : Option Addr) (l : List Kep) (c k : Nat) (hk : k ≤ l.length) (hc : l.length ≤ c) (W : World) : Sem.run Tryz.prog (Instr.slice 41 (.slice p l.length c) none (some (.int .i64 (k : Int))) none) W = .ok (.slice p (l.take k).length c) W := by
  have hsz : (sizeOf (Tryz.prog.elem 41)).run Tryz.prog W = .ok 6 W := by kernel_rfl
  have hel : Tryz.prog.elem 41 = 51 := by kernel_rfl
  have hun : Tryz.prog.underlying 41 = some (.slice (Tryz.prog.elem 41)) := by rw [hel]; exact Tryz.underlying41
  have hl : (l.take k).length = k := by rw [List.length_take]; omega
  rw [run_slice_h W 41 p l.length c hun .i64 (k : Int) (by omega) (by omega), hsz, hl]
  simp [Result.andThen, sliced, Addr.add]
theorem kep_new (key : ByteArray) (v : Ver) (z1 : World) : ∀ j u, (kepE.enc (key, v))[j]? = some u → (z1.alloc (.cells #[.string key, .int .i64 v.n, .int .i64 v.who, .int .i64 v.size, .int .i64 v.at_, .string v.text] 51)).cell? ⟨z1.heap.size, 0 + j, none⟩ = some u := fun j u hj => by
  rw [Nat.zero_add, World.cell?_alloc_at _ _ _ _ rfl]
  match j, hj with
  | 0, hj => exact hj
  | 1, hj => exact hj
  | 2, hj => exact hj
  | 3, hj => exact hj
  | 4, hj => exact hj
  | 5, hj => exact hj
section
open Go.Sort
set_option maxRecDepth 10000 in
theorem rless_grow (a b : Int × Int) (w : World) :
    Calls Tryz.prog 57 #[.agg #[.int .i64 a.1, .int .i64 a.2], .agg #[.int .i64 b.1, .int .i64 b.2]] w fun e w' => e = .returned (.bool (lessB a b)) ∧ ∃ q os, w' = grow (w.drewN q) os := by
  obtain ⟨a1, a2⟩ := a
  obtain ⟨b1, b2⟩ := b
  by_cases h1 : a1 < b1
  · have HE : Hid (lessB (a1, a2) (b1, b2) = true) := by show _ = _; unfold lessB; simp [h1]
    rw [HE.out]
    go_enter Tryz.func57, Tryz.ntmps57
    go_wp2
    go_ret
    exact ⟨rfl, 0, _, by rw [alloc_eq_grow, alloc_eq_grow, grow_grow]; rfl⟩
  have d1 : decide (a1 < b1) = false := decide_eq_false h1
  by_cases h2 : a1 = b1
  · subst h2
    have HE : Hid (lessB (a1, a2) (a1, b2) = decide (a2 < b2)) := by show _ = _; unfold lessB; simp
    rw [HE.out]
    go_enter Tryz.func57, Tryz.ntmps57
    go_wp2
    go_ret
    exact ⟨rfl, 0, _, by rw [alloc_eq_grow, alloc_eq_grow, grow_grow]; rfl⟩
  · have HE : Hid (lessB (a1, a2) (b1, b2) = false) := by show _ = _; unfold lessB; simp [h1, h2]
    rw [HE.out]
    have d2 : (a1 == b1) = false := by
      rw [beq_eq_false_iff_ne]
      exact h2
    go_enter Tryz.func57, Tryz.ntmps57
    go_wp2
    go_ret
    exact ⟨rfl, 0, _, by rw [alloc_eq_grow, alloc_eq_grow, grow_grow]; rfl⟩
end
section
open Go.Sort
set_option maxRecDepth 10000 in
set_option maxHeartbeats 8000000 in
/-- Where nothing is wrong it goes in at its place. -/
theorem rput_in (h : Nat) (L : List Kep) (s : Bool) (key : ByteArray) (v : Ver) (w : World) (hl : L.length ≤ 900000) (htx : v.text.size ≤ maxLen) (hm : MHold w h L s) (h0 : putErr L s key v = 0) :
    Calls Tryz.prog 26 #[.pointer (some ⟨h, 0, none⟩), .string key, .agg #[.int .i64 v.n, .int .i64 v.who, .int .i64 v.size, .int .i64 v.at_, .string v.text]] w fun e w' => e = .returned (.int .i64 0) ∧ MHold w' h (putL L key v) s ∧ Turn h w w' := by
  have HM : Hid (MHold w h L s) := hm
  obtain ⟨p, c, q0, hrec, hc, hn, hne⟩ := hm.row
  have hlt := lt_of_cellH q0
  have HREC : Hid (Rec kepE w p L) := hrec
  have HN : Hid (p = none → L = [] ∧ c = 0) := hn
  obtain ⟨w0, hw0⟩ : ∃ w0, w0 = w.alloc (.cells #[.int .i64 v.n, .int .i64 v.who, .int .i64 v.size, .int .i64 v.at_, .string v.text] 49) := ⟨_, rfl⟩
  have hb0 : RowKit.Below w.heap.size w w0 := by rw [hw0]; exact (RowKit.Below.refl _ _).alloc (Nat.le_refl _) _
  have b0 : w0.cell? ⟨w.heap.size, 0, none⟩ = some (.int .i64 v.n) := by rw [hw0, World.cell?_alloc_at _ _ _ _ rfl]; rfl
  have b1 : w0.cell? ⟨w.heap.size, 1, none⟩ = some (.int .i64 v.who) := by rw [hw0, World.cell?_alloc_at _ _ _ _ rfl]; rfl
  have b2 : w0.cell? ⟨w.heap.size, 2, none⟩ = some (.int .i64 v.size) := by rw [hw0, World.cell?_alloc_at _ _ _ _ rfl]; rfl
  have b3 : w0.cell? ⟨w.heap.size, 3, none⟩ = some (.int .i64 v.at_) := by rw [hw0, World.cell?_alloc_at _ _ _ _ rfl]; rfl
  have b4 : w0.cell? ⟨w.heap.size, 4, none⟩ = some (.string v.text) := by rw [hw0, World.cell?_alloc_at _ _ _ _ rfl]; rfl
  have HPE := putErr_any h L s key v w0 (by omega) htx (hm.below hb0)
  rw [h0] at HPE
  have HALL : Hid (∀ W, RowKit.Below w0.heap.size w0 W → (W.cell? ⟨h, 0, none⟩ = some (.slice p L.length c) ∧ W.cell? ⟨w.heap.size, 0, none⟩ = some (.int .i64 v.n) ∧ W.cell? ⟨w.heap.size, 1, none⟩ = some (.int .i64 v.who) ∧ W.cell? ⟨w.heap.size, 2, none⟩ = some (.int .i64 v.size) ∧ W.cell? ⟨w.heap.size, 3, none⟩ = some (.int .i64 v.at_) ∧ W.cell? ⟨w.heap.size, 4, none⟩ = some (.string v.text)) ∧ Rec kepE W p L ∧ RowKit.Below w.heap.size w W) := fun W hW => by
    have hx : w.heap.size < w0.heap.size := lt_of_cellH b0
    have hy : h < w0.heap.size := Nat.lt_of_lt_of_le hlt hb0.size
    exact ⟨⟨(hW.cell (p := ⟨h, 0, none⟩) hy).trans ((hb0.cell (p := ⟨h, 0, none⟩) hlt).trans q0), (hW.cell (p := ⟨w.heap.size, 0, none⟩) hx).trans b0, (hW.cell (p := ⟨w.heap.size, 1, none⟩) hx).trans b1, (hW.cell (p := ⟨w.heap.size, 2, none⟩) hx).trans b2, (hW.cell (p := ⟨w.heap.size, 3, none⟩) hx).trans b3, (hW.cell (p := ⟨w.heap.size, 4, none⟩) hx).trans b4⟩, (HREC.out.below hb0).below hW, hb0.trans (hW.mono hb0.size)⟩
  have HW0 : Hid (w0 = w.alloc (.cells #[.int .i64 v.n, .int .i64 v.who, .int .i64 v.size, .int .i64 v.at_, .string v.text] 49)) := hw0
  obtain ⟨K, hK⟩ : ∃ K, K = placeN L key v := ⟨_, rfl⟩
  have HKL : Hid (K ≤ L.length) := by show _ ≤ _; rw [hK]; exact placeN_le L key v
  have HPL : Hid (L.take K ++ [(key, v)] ++ L.drop K = putL L key v) := by show _ = _; rw [hK]; rfl
  have HBEF : Hid (∀ x : Kep, beforeB x key v = (Op.bytesLess x.1.toList key.toList || (decide (x.1 = key) && lessB (x.2.n, x.2.who) (v.n, v.who)))) := fun _ => rfl
  have HLO : Hid (∀ j, j < K → beforeB (kepAt L j) key v = true) := fun j hj => placeN_before (by rw [← hK]; exact hj)
  have HHI : Hid (K < L.length → beforeB (kepAt L K) key v = false) := fun hj => by rw [hK] at hj ⊢; exact placeN_here hj
  generalize putL L key v = PL at *
  clear hrec hm q0 hne hn b0 b1 b2 b3 b4 hw0 hb0 h0 hK
  go_enter Tryz.func26, Tryz.ntmps26
  obtain ⟨⟨k0, k1, k2, k3, k4, k5⟩, _, _⟩ := HALL.out w0 (RowKit.Below.refl _ _)
  go_wp2_with (rw [← HW0.out])
  refine HPE.mono ?_
  rintro e w1 ⟨rfl, hb1⟩
  have HB1 : Hid (RowKit.Below w0.heap.size w0 w1) := hb1
  clear HPE hb1 k0 k1 k2 k3 k4 k5
  go_wp2
  go_loopw [8] (fun x wq => ∃ k : Nat, k ≤ K ∧ x = .int .i64 k ∧ RowKit.Below w0.heap.size w0 wq) (fun x _ => K - (intOf x).toNat)
  case atStart => exact ⟨0, Nat.zero_le _, rfl, HB1.out⟩
  case round =>
    obtain ⟨k, hk, rfl, hb2⟩ := hrel
    obtain ⟨w2, rfl⟩ : ∃ w2, w2 = wr := ⟨_, rfl⟩
    have HB2 : Hid (RowKit.Below w0.heap.size w0 w2) := hb2
    obtain ⟨⟨k0, k1, k2, k3, k4, k5⟩, hrc, hbw⟩ := HALL.out w2 hb2
    have HRC : Hid (Rec kepE w2 p L) := hrc
    have hkL := HKL.out
    clear hb2 hrc hbw
    go_upto_region 7 with fail
    go_cut [63] from 19 to 65 (fun b wc => b = .bool (decide (k < K)) ∧ RowKit.Below w0.heap.size w0 wc)
    case first =>
      by_cases hkl : k < L.length
      · obtain ⟨b, o, hpp, hblt, c0, c1, c2, c3, c4, c5⟩ := kep_cells HRC.out hkl
        have HC : Hid (decide (k < K) = beforeB (kepAt L k) key v) := by
          show _ = _
          by_cases hkK : k < K
          · rw [HLO.out k hkK, decide_eq_true hkK]
          · obtain rfl : k = K := by omega
            rw [HHI.out hkl, decide_eq_false hkK]
        have hbf := HBEF.out (kepAt L k)
        rw [hbf] at HC
        subst hpp
        clear hbf
        generalize kepAt L k = y at *
        obtain ⟨yk, y⟩ := y
        cases hbl : Op.bytesLess yk.toList key.toList with
        | true =>
          have HC' : Hid (decide (k < K) = true) := by show _ = _; rw [HC.out, hbl]; rfl
          clear HC
          go_wp2
          go_quiet (fail)
          go_wp2
          go_meet
          exact ⟨by rw [HC'.out], below_drewN HB2.out _⟩
        | false =>
          by_cases hye : yk = key
          · subst hye
            have HC' : Hid (decide (k < K) = lessB (y.n, y.who) (v.n, v.who)) := by show _ = _; rw [HC.out, hbl]; simp
            have HLS : Hid (∀ W, Calls Tryz.prog 57 #[.agg #[.int .i64 y.n, .int .i64 y.who], .agg #[.int .i64 v.n, .int .i64 v.who]] W fun e w' => e = .returned (.bool (lessB (y.n, y.who) (v.n, v.who))) ∧ ∃ q os, w' = grow (W.drewN q) os) := fun W => rless_grow (y.n, y.who) (v.n, v.who) W
            have mixed : Tryz.prog.follows .mixedOrders = true := by kernel_rfl
            have j0 := cell_grown (lt_of_cellH k0) k0
            have j1 := cell_grown (lt_of_cellH k1) k1
            have j2 := cell_grown (lt_of_cellH k2) k2
            have i0 := cell_grown (lt_of_cellH c0) c0
            have i1 := cell_grown (lt_of_cellH c1) c1
            have i2 := cell_grown (lt_of_cellH c2) c2
            generalize lessB (y.n, y.who) (v.n, v.who) = r at *
            clear HC
            go_wp2
            go_quiet_grown ((go_at_call 57; exact Calls.grown_of (HLS.out _)))
            go_wp2
            go_meet
            exact ⟨by rw [HC'.out], HB2.out.trans ((below_grow w2 _ _).mono HB2.out.size)⟩
          · have HC' : Hid (decide (k < K) = false) := by show _ = _; rw [HC.out, hbl]; simp [hye]
            have d1 := toList_ne hye
            have d2 := toList_beq hye
            have d3 := bytes_beq hye
            clear HC hye
            go_wp2
            go_quiet (fail)
            go_wp2
            go_meet
            exact ⟨by rw [HC'.out], below_drewN HB2.out _⟩
      · have HC' : Hid (decide (k < K) = false) := by show _ = _; exact decide_eq_false (by omega)
        go_wp2
        go_quiet (fail)
        go_wp2
        go_meet
        exact ⟨by rw [HC'.out], below_drewN HB2.out _⟩
    case rest =>
      obtain ⟨rfl, hbc⟩ := hcut
      have HBC : Hid (RowKit.Below w0.heap.size w0 wc) := hbc
      obtain ⟨⟨x0, x1, x2, x3, x4, x5⟩, hrx, hbx⟩ := HALL.out wc hbc
      have HRX : Hid (Rec kepE wc p L) := hrx
      have HBX : Hid (RowKit.Below w.heap.size w wc) := hbx
      clear hbc hrx hbx k0 k1 k2 k3 k4 k5 HRC
      by_cases hkK : k < K
      · rw [decide_eq_true hkK]
        clear x0 x1 x2 x3 x4 x5
        go_wp2
        go_roundw
        case rel => exact ⟨k + 1, by omega, by go_num, HBC.out⟩
        case measure => simp [intOf]; omega
      · rw [decide_eq_false hkK]
        have hke : k = K := by omega
        subst hke
        have HTL : Hid ((L.take k).length = k) := by show _ = _; rw [List.length_take]; omega
        have HDL : Hid ((L.drop k).length = L.length - k) := List.length_drop
        have HTK : Hid (p = none → L.take k = [] ∧ c = 0) := fun e => ⟨by rw [(HN.out e).1, List.take_nil], (HN.out e).2⟩
        have HTR : Hid (Rec kepE wc p (L.take k)) := HRX.out.take k
        have HDR : Hid (Rec kepE wc (if c = k then p else p.map (·.add (k * 6))) (L.drop k) ∧ ((if c = k then p else p.map (·.add (k * 6))) = none → L.drop k = [] ∧ c - k = 0)) := HRX.out.drop (c := c) hkL hc HN.out
        have hlt1 : (L.take k).length ≤ 900000 := by rw [List.length_take]; omega
        have hld1 : (L.drop k).length ≤ 900000 := by rw [List.length_drop]; omega
        clear hkK HRX HLO HHI HBEF
        have HQQ : Hid (∀ W, RowKit.Below wc.heap.size wc W → W.cell? ⟨h, 0, none⟩ = some (.slice p L.length c) ∧ W.cell? ⟨w.heap.size, 0, none⟩ = some (.int .i64 v.n) ∧ W.cell? ⟨w.heap.size, 1, none⟩ = some (.int .i64 v.who) ∧ W.cell? ⟨w.heap.size, 2, none⟩ = some (.int .i64 v.size) ∧ W.cell? ⟨w.heap.size, 3, none⟩ = some (.int .i64 v.at_) ∧ W.cell? ⟨w.heap.size, 4, none⟩ = some (.string v.text)) := fun W hW => (HALL.out W (HBC.out.trans (hW.mono HBC.out.size))).1
        have HDR1 : Hid (∀ W, RowKit.Below wc.heap.size wc W → Rec kepE W (if c = k then p else p.map (·.add (k * 6))) (L.drop k)) := fun W hW => HDR.out.1.below hW
        have HKN : Hid (∀ z1 : World, ∀ j u, (kepE.enc (key, v))[j]? = some u → (z1.alloc (.cells #[.string key, .int .i64 v.n, .int .i64 v.who, .int .i64 v.size, .int .i64 v.at_, .string v.text] 51)).cell? ⟨z1.heap.size, 0 + j, none⟩ = some u) := fun z1 => kep_new key v z1
        go_wp2_with (first | (at_builtin; refine wpList_append_recs (E := kepE) rfl (.tmp 66) (.tmp 72) 41 51 rfl (.agg #[.string ⟨#[]⟩, .int .i64 0, .int .i64 0, .int .i64 0, .int .i64 0, .string ⟨#[]⟩]) 64 Tryz.underlying41 kepinfo rfl wc.heap.size (.slice none 0 0) [] rfl (OwnR.nil _ _ _) p (L.take k) c (by rw [HTL.out]; rfl) HTR.out HTK.out (by show 0 + (L.take k).length ≤ maxLen; unfold maxLen; omega) (by show (0 + (L.take k).length) * 64 ≤ _; omega) (Nat.le_refl _) ?_; intro y1 z1 hy1 hd1; rw [List.nil_append] at hy1; obtain ⟨n0, n1, n2, n3, n4, n5⟩ := HQQ.out z1 hd1; have HZ1 : Hid (RowKit.Below wc.heap.size wc z1) := hd1; have HY1 : Hid (OwnR kepE 51 (z1.alloc (.cells #[.string key, .int .i64 v.n, .int .i64 v.who, .int .i64 v.size, .int .i64 v.at_, .string v.text] 51)) wc.heap.size y1 (L.take k)) := hy1.kept ((RowKit.Below.refl _ _).alloc (Nat.le_refl _) _); have HZA : Hid (RowKit.Below wc.heap.size wc (z1.alloc (.cells #[.string key, .int .i64 v.n, .int .i64 v.who, .int .i64 v.size, .int .i64 v.at_, .string v.text] 51))) := hd1.alloc hd1.size _; clear hy1 hd1 x0 x1 x2 x3 x4 x5) | (at_builtin; refine wpList_append_rec (E := kepE) rfl (.tmp 74) (.tmp 78) 41 51 rfl (.agg #[.string ⟨#[]⟩, .int .i64 0, .int .i64 0, .int .i64 0, .int .i64 0, .string ⟨#[]⟩]) 64 Tryz.underlying41 kepinfo rfl wc.heap.size y1 (L.take k) rfl HY1.out z1.heap.size 0 1 (key, v) rfl (HKN.out z1) (by unfold maxLen; omega) (by omega) HZA.out.size (by simp) ?_; intro y2 z2 hy2 hd2; have HZ2 : Hid (RowKit.Below wc.heap.size wc z2) := HZA.out.trans hd2; obtain ⟨m0, m1, m2, m3, m4, m5⟩ := HQQ.out z2 HZ2.out; have HY2 : Hid (OwnR kepE 51 z2 wc.heap.size y2 (L.take k ++ [(key, v)])) := hy2; clear hy2 hd2 n0 n1 n2 n3 n4 n5) | (at_builtin; refine wpList_append_recs (E := kepE) rfl (.tmp 81) (.tmp 87) 41 51 rfl (.agg #[.string ⟨#[]⟩, .int .i64 0, .int .i64 0, .int .i64 0, .int .i64 0, .string ⟨#[]⟩]) 64 Tryz.underlying41 kepinfo rfl wc.heap.size y2 (L.take k ++ [(key, v)]) rfl HY2.out (if c = k then p else p.map (·.add (k * 6))) (L.drop k) (c - k) (by rw [HDL.out]; rfl) (HDR1.out z2 HZ2.out) HDR.out.2 (by rw [List.length_append]; show (L.take k).length + 1 + (L.drop k).length ≤ maxLen; unfold maxLen; omega) (by rw [List.length_append]; show ((L.take k).length + 1 + (L.drop k).length) * 64 ≤ _; omega) HZ2.out.size ?_; intro y3 z3 hy3 hd3; obtain ⟨l0, l1, l2, l3, l4, l5⟩ := HQQ.out z3 (HZ2.out.trans hd3); have hb3 : RowKit.Below w.heap.size w z3 := HBX.out.trans ((HZ2.out.trans hd3).mono HBX.out.size); have hfr : z3.frozen? ⟨h, 0, none⟩ = false := (HM.out.below hb3).free0; have HST : Hid (MHold (z3.setCell ⟨h, 0, none⟩ y3) h PL s ∧ Turn h w (z3.setCell ⟨h, 0, none⟩ y3)) := HM.out.store hb3 (by have h9 := hy3.base HBX.out.size; rw [HPL.out] at h9; exact h9); obtain ⟨p3, c3, hy3v, _⟩ := hy3.form; obtain ⟨m3, hm3⟩ : ∃ m3, m3 = (L.take k ++ [(key, v)] ++ L.drop k).length := ⟨_, rfl⟩; rw [← hm3] at hy3v; subst hy3v; clear hm3 hy3 hd3 hb3))
        all_goals (go_ret; exact ⟨rfl, HST.out⟩)
set_option maxRecDepth 10000 in
set_option maxHeartbeats 2000000 in
theorem rput_not (h : Nat) (L : List Kep) (s : Bool) (key : ByteArray) (v : Ver) (w : World) (hl : L.length ≤ 900000) (htx : v.text.size ≤ maxLen) (hm : MHold w h L s) (h0 : putErr L s key v ≠ 0) :
    Calls Tryz.prog 26 #[.pointer (some ⟨h, 0, none⟩), .string key, .agg #[.int .i64 v.n, .int .i64 v.who, .int .i64 v.size, .int .i64 v.at_, .string v.text]] w fun e w' => e = .returned (.int .i64 (putR L s key v).1) ∧ RowKit.Below w.heap.size w w' := by
  obtain ⟨w0, hw0⟩ : ∃ w0, w0 = w.alloc (.cells #[.int .i64 v.n, .int .i64 v.who, .int .i64 v.size, .int .i64 v.at_, .string v.text] 49) := ⟨_, rfl⟩
  have hb0 : RowKit.Below w.heap.size w w0 := by rw [hw0]; exact (RowKit.Below.refl _ _).alloc (Nat.le_refl _) _
  have b0 : w0.cell? ⟨w.heap.size, 0, none⟩ = some (.int .i64 v.n) := by rw [hw0, World.cell?_alloc_at _ _ _ _ rfl]; rfl
  have b1 : w0.cell? ⟨w.heap.size, 1, none⟩ = some (.int .i64 v.who) := by rw [hw0, World.cell?_alloc_at _ _ _ _ rfl]; rfl
  have b2 : w0.cell? ⟨w.heap.size, 2, none⟩ = some (.int .i64 v.size) := by rw [hw0, World.cell?_alloc_at _ _ _ _ rfl]; rfl
  have b3 : w0.cell? ⟨w.heap.size, 3, none⟩ = some (.int .i64 v.at_) := by rw [hw0, World.cell?_alloc_at _ _ _ _ rfl]; rfl
  have b4 : w0.cell? ⟨w.heap.size, 4, none⟩ = some (.string v.text) := by rw [hw0, World.cell?_alloc_at _ _ _ _ rfl]; rfl
  have HPE := putErr_any h L s key v w0 (by omega) htx (hm.below hb0)
  have HW0 : Hid (w0 = w.alloc (.cells #[.int .i64 v.n, .int .i64 v.who, .int .i64 v.size, .int .i64 v.at_, .string v.text] 49)) := hw0
  have HB0 : Hid (RowKit.Below w.heap.size w w0) := hb0
  by_cases hneg : putErr L s key v < 0
  · have HR : Hid ((putR L s key v).1 = 0) := by show _ = _; unfold putR; rw [if_neg h0, if_pos hneg]
    rw [HR.out]
    generalize putErr L s key v = e0 at *
    have d1 : decide (e0 < 0) = true := decide_eq_true hneg
    clear hm hw0 hb0
    go_enter Tryz.func26, Tryz.ntmps26
    go_wp2_with (rw [← HW0.out])
    refine HPE.mono ?_
    rintro e w1 ⟨rfl, hb1⟩
    clear HPE
    go_wp2
    go_ret
    exact ⟨rfl, HB0.out.trans (hb1.mono HB0.out.size)⟩
  · have HR : Hid ((putR L s key v).1 = putErr L s key v) := by show _ = _; unfold putR; rw [if_neg h0, if_neg hneg]
    rw [HR.out]
    clear HR
    generalize putErr L s key v = e0 at *
    have d1 : decide (e0 < 0) = false := decide_eq_false hneg
    have d2 : decide (0 < e0) = true := decide_eq_true (by omega)
    clear hm hw0 hb0
    go_enter Tryz.func26, Tryz.ntmps26
    go_wp2_with (rw [← HW0.out])
    refine HPE.mono ?_
    rintro e w1 ⟨rfl, hb1⟩
    clear HPE
    go_wp2
    go_ret
    exact ⟨rfl, HB0.out.trans (hb1.mono HB0.out.size)⟩
theorem rput_any (h : Nat) (L : List Kep) (s : Bool) (key : ByteArray) (v : Ver) (w : World) (hl : L.length ≤ 900000) (htx : v.text.size ≤ maxLen) (hm : MHold w h L s) :
    Calls Tryz.prog 26 #[.pointer (some ⟨h, 0, none⟩), .string key, .agg #[.int .i64 v.n, .int .i64 v.who, .int .i64 v.size, .int .i64 v.at_, .string v.text]] w fun e w' => e = .returned (.int .i64 (putR L s key v).1) ∧ MHold w' h (putR L s key v).2 s ∧ Turn h w w' := by
  by_cases h0 : putErr L s key v = 0
  · have e1 : putR L s key v = (0, putL L key v) := if_pos h0
    rw [e1]
    exact rput_in h L s key v w hl htx hm h0
  · refine (rput_not h L s key v w hl htx hm h0).mono ?_
    rintro e w' ⟨rfl, hb⟩
    have e2 : (putR L s key v).2 = L := by unfold putR; rw [if_neg h0]; split <;> rfl
    rw [e2]
    obtain ⟨p, c, q0, _⟩ := hm.row
    exact ⟨rfl, hm.below hb, Turn.of_below (lt_of_cellH q0) hb⟩
end
set_option maxRecDepth 10000 in
set_option maxHeartbeats 8000000 in
theorem rkeys_any (h : Nat) (L : List Kep) (s : Bool) (w : World) (hl : L.length ≤ 900000) (hm : MHold w h L s) :
    Calls Tryz.prog 35 #[.pointer (some ⟨h, 0, none⟩)] w fun e w' => (∃ v, e = .returned v ∧ OwnT w' w.heap.size v (keysTo L L.length)) ∧ Below w.heap.size w w' := by
  obtain ⟨p, c, q0, hrec, hc, hn, hne⟩ := hm.row
  have HREC : Hid (Rec kepE w p L) := hrec
  have hlt := lt_of_cellH q0
  have HQ0 : Hid (w.cell? ⟨h, 0, none⟩ = some (.slice p L.length c)) := q0
  clear hrec hm q0 hne hn
  go_enter Tryz.func35, Tryz.ntmps35
  go_wp2
  go_loopw [3, 4] (fun v x wq => ∃ i : Nat, i ≤ L.length ∧ x = .int .i64 i ∧ OwnT wq w.heap.size v (keysTo L i) ∧ Below w.heap.size w wq) (fun _ x _ => L.length - (intOf x).toNat)
  case atStart => exact ⟨0, Nat.zero_le _, rfl, OwnT.nil _ _, Below.refl _ _⟩
  case round =>
    obtain ⟨i, hi, rfl, hO, hB⟩ := hrel
    obtain ⟨w1, rfl⟩ : ∃ w1, w1 = wr := ⟨_, rfl⟩
    obtain ⟨po, co, hvf, hSo, _, _, _⟩ := hO.form
    subst hvf
    have HO : Hid (OwnT w1 w.heap.size (.slice po (keysTo L i).length co) (keysTo L i)) := hO
    have HB : Hid (Below w.heap.size w w1) := hB
    have q0 : w1.cell? ⟨h, 0, none⟩ = some (.slice p L.length c) := (hB.cell (p := ⟨h, 0, none⟩) hlt).trans HQ0.out
    have hz1 : w.heap.size ≤ w1.heap.size := hB.size
    have hkl := keysTo_le L i
    clear hO hB
    by_cases hil : i < L.length
    · obtain ⟨b, o, hpp, hblt, c0, c1, c2, c3, c4, c5⟩ := kep_cells (HREC.out.below HB.out) hil
      subst hpp
      clear c1 c2 c3 c4 c5
      have HNEW := @keysTo_new L i
      have HOLD := @keysTo_old L i
      by_cases h0 : (keysTo L i).length = 0
      · have HNX : Hid (keysTo L (i + 1) = keysTo L i ++ [(kepAt L i).1]) := HNEW (Or.inl h0)
        have hks : keysTo L i = [] := List.length_eq_zero_iff.1 h0
        have HKS : Hid (keysTo L i = []) := hks
        rw [h0] at *
        clear HNEW HOLD hks hSo
        generalize (kepAt L i).1 = t at *
        go_wp2
        go_quiet (fail)
        have HB2 : Hid (Below w.heap.size w (w1.drewN nq)) := below_drewN HB.out nq
        have HO2 : Hid (OwnT (w1.drewN nq) w.heap.size (.slice po 0 co) []) := by
          have := HO.out
          rw [HKS.out] at this
          exact this.kept (below_drewN (Below.refl _ _) nq)
        have q0' : (w1.drewN nq).cell? ⟨h, 0, none⟩ = some (.slice (some ⟨b, o, none⟩) L.length c) := q0
        have c0' : (w1.drewN nq).cell? ⟨b, o + i * 6, none⟩ = some (.string t) := c0
        have hz2 : w.heap.size ≤ (w1.drewN nq).heap.size := hz1
        clear q0 c0 HO HB hz1
        generalize w1.drewN nq = w2 at HB2 HO2 q0' c0' hz2 ⊢
        go_wp2_with (first | (at_builtin; refine wpList_append_str rfl (.tmp 34) (.tmp 43) rfl w.heap.size (.slice po 0 co) [] rfl (HO2.out.kept ((Below.refl _ _).alloc (Nat.le_refl _) _)) ⟨w2.heap.size, 0, none⟩ t 1 rfl (by rw [World.cell?_alloc_at _ _ _ _ rfl]; rfl) (by decide) (by simp; omega) ?_; intro v3 w3 hO3 hb3))
        have HO3 : Hid (OwnT w3 w.heap.size v3 ([] ++ [t])) := hO3
        have HB3 : Hid (Below w.heap.size w w3) := (HB2.out.alloc hz2 _).trans hb3
        clear hO3 hb3
        go_wp2
        go_roundw
        case rel => exact ⟨i + 1, by omega, by go_num, by rw [HNX.out, HKS.out]; exact HO3.out, HB3.out⟩
        case measure => simp [intOf]; omega
      · by_cases he : txt (keysTo L i) ((keysTo L i).length - 1) = (kepAt L i).1
        · have HNX : Hid (keysTo L (i + 1) = keysTo L i) := HOLD (by
            rintro (h1 | h1)
            · exact h0 h1
            · exact h1 he)
          rcases hSo with hz | ⟨bo, oo, hpo, holt, hoc⟩
          · rw [hz] at h0; exact absurd rfl h0
          subst hpo
          have q1 := hoc ((keysTo L i).length - 1) (by omega)
          rw [he] at q1
          clear hoc HNEW HOLD he
          generalize (kepAt L i).1 = t at *
          generalize keysTo L i = ks at *
          have f1 : decide (ks.length = 0) = false := decide_eq_false h0
          have f2 : ((ks.length : Int) == 0) = false := by
            rw [beq_eq_false_iff_ne]
            omega
          have l3 : IntKind.i64.wrap ((ks.length : Int) - 1) = ((ks.length - 1 : Nat) : Int) := by rw [IntKind.wrap_i64]; omega
          have l5 : (ks.length : Int) - 1 < (ks.length : Int) := by omega
          have l6 : (0 : Int) ≤ (ks.length : Int) - 1 := by omega
          have l7 : ((ks.length : Int) - 1).toNat = ks.length - 1 := by omega
          go_wp2
          go_quiet (fail)
          go_wp2
          go_roundw
          case rel => exact ⟨i + 1, by omega, by go_num, by rw [HNX.out]; exact HO.out.kept (below_drewN (Below.refl _ _) _), below_drewN HB.out _⟩
          case measure => simp [intOf]; omega
        · have HNX : Hid (keysTo L (i + 1) = keysTo L i ++ [(kepAt L i).1]) := HNEW (Or.inr he)
          rcases hSo with hz | ⟨bo, oo, hpo, holt, hoc⟩
          · rw [hz] at h0; exact absurd rfl h0
          subst hpo
          have q1 := hoc ((keysTo L i).length - 1) (by omega)
          have d1 := toList_ne he
          have d2 := toList_beq he
          have d3 := bytes_beq he
          clear hoc HNEW HOLD he
          generalize txt (keysTo L i) ((keysTo L i).length - 1) = u at *
          generalize (kepAt L i).1 = t at *
          generalize keysTo L i = ks at *
          have f2 : ((ks.length : Int) == 0) = false := by
            rw [beq_eq_false_iff_ne]
            omega
          have l3 : IntKind.i64.wrap ((ks.length : Int) - 1) = ((ks.length - 1 : Nat) : Int) := by rw [IntKind.wrap_i64]; omega
          have l5 : (ks.length : Int) - 1 < (ks.length : Int) := by omega
          have l6 : (0 : Int) ≤ (ks.length : Int) - 1 := by omega
          have l7 : ((ks.length : Int) - 1).toNat = ks.length - 1 := by omega
          go_wp2
          go_quiet (fail)
          have HB2 : Hid (Below w.heap.size w (w1.drewN nq)) := below_drewN HB.out nq
          have HO2 : Hid (OwnT (w1.drewN nq) w.heap.size (.slice (some ⟨bo, oo, none⟩) ks.length co) ks) := HO.out.kept (below_drewN (Below.refl _ _) nq)
          have q0' : (w1.drewN nq).cell? ⟨h, 0, none⟩ = some (.slice (some ⟨b, o, none⟩) L.length c) := q0
          have c0' : (w1.drewN nq).cell? ⟨b, o + i * 6, none⟩ = some (.string t) := c0
          have hz2 : w.heap.size ≤ (w1.drewN nq).heap.size := hz1
          clear q0 c0 HO HB hz1 q1 d1 d2 d3
          generalize w1.drewN nq = w2 at HB2 HO2 q0' c0' hz2 ⊢
          go_wp2_with (first | (at_builtin; refine wpList_append_str rfl (.tmp 34) (.tmp 43) rfl w.heap.size (.slice (some ⟨bo, oo, none⟩) ks.length co) ks rfl (HO2.out.kept ((Below.refl _ _).alloc (Nat.le_refl _) _)) ⟨w2.heap.size, 0, none⟩ t 1 rfl (by rw [World.cell?_alloc_at _ _ _ _ rfl]; rfl) (by omega) (by simp; omega) ?_; intro v3 w3 hO3 hb3))
          have HO3 : Hid (OwnT w3 w.heap.size v3 (ks ++ [t])) := hO3
          have HB3 : Hid (Below w.heap.size w w3) := (HB2.out.alloc hz2 _).trans hb3
          clear hO3 hb3
          go_wp2
          go_roundw
          case rel => exact ⟨i + 1, by omega, by go_num, by rw [HNX.out]; exact HO3.out, HB3.out⟩
          case measure => simp [intOf]; omega
    · have hie : i = L.length := by omega
      subst hie
      go_wp2
      go_ret
      exact ⟨⟨_, rfl, HO.out⟩, HB.out⟩
set_option maxRecDepth 10000 in
set_option maxHeartbeats 2000000 in
theorem sameVers_any (pa pb : Option Addr) (l m : List Ver) (ca cb : Nat) (w : World) (hl : l.length ≤ 1000000) (ha : Rec verE w pa l) (hb : Rec verE w pb m) :
    Calls Tryz.prog 32 #[.slice pa l.length ca, .slice pb m.length cb] w fun e w' => e = .returned (.bool (decide (l = m))) ∧ Below w.heap.size w w' := by
  by_cases hlen : l.length = m.length
  · have HT : Hid ((∀ i, i < l.length → verAt l i = verAt m i) → decide (l = m) = true) := fun h => decide_eq_true (ver_ext hlen h)
    have HF : Hid (∀ i, i < l.length → verAt l i ≠ verAt m i → decide (l = m) = false) := fun i _ h => decide_eq_false (fun e => h (by rw [e]))
    generalize decide (l = m) = r at *
    have HM : Hid (m.length = l.length) := hlen.symm
    rw [← hlen]
    clear hlen
    go_enter Tryz.func32, Tryz.ntmps32
    go_wp2
    go_loopw [5] (fun x wq => ∃ i : Nat, i ≤ l.length ∧ x = .int .i64 i ∧ (∀ j, j < i → verAt l j = verAt m j) ∧ ∃ n, wq = w.drewN n) (fun x _ => l.length - (intOf x).toNat)
    case atStart => exact ⟨0, Nat.zero_le _, rfl, fun j hj => absurd hj (Nat.not_lt_zero _), 0, rfl⟩
    case round =>
      obtain ⟨i, hi, rfl, hall, n, hw⟩ := hrel
      obtain ⟨w1, rfl⟩ : ∃ w1, w1 = wr := ⟨_, rfl⟩
      have HALL : Hid (∀ j, j < i → verAt l j = verAt m j) := hall
      have HW : Hid (∃ n, w1 = w.drewN n) := ⟨n, hw⟩
      have HA : Hid (Rec verE w1 pa l) := by show Rec verE w1 pa l; rw [hw]; exact ha.drewN n
      have HB : Hid (Rec verE w1 pb m) := by show Rec verE w1 pb m; rw [hw]; exact hb.drewN n
      clear hw hall
      by_cases hil : i < l.length
      · obtain ⟨b1, o1, hp1, _, a0, a1, a2, a3, a4⟩ := ver_cells HA.out hil
        obtain ⟨b2, o2, hp2, _, e0, e1, e2, e3, e4⟩ := ver_cells HB.out (show i < m.length by have := HM.out; omega)
        subst hp1 hp2
        by_cases he : verAt l i = verAt m i
        · have HNX : Hid (∀ j, j < i + 1 → verAt l j = verAt m j) := fun j hj => by
            rcases Nat.lt_or_ge j i with h | h
            · exact HALL.out j h
            · obtain rfl : j = i := by omega
              exact he
          rw [← he] at e0 e1 e2 e3 e4
          clear he HALL
          generalize verAt l i = x at *
          obtain ⟨xn, xw, xs, xa, xt⟩ := x
          go_wp2
          go_quiet (fail)
          go_wp2
          go_roundw
          case rel => exact ⟨i + 1, by omega, by go_num, HNX.out, by obtain ⟨n, hn⟩ := HW.out; exact ⟨_, by rw [hn, World.drewN_drewN]⟩⟩
          case measure => simp [intOf]; omega
        · have HR : Hid (r = false) := HF.out i hil he
          have HNE : Hid (verAt l i ≠ verAt m i) := he
          clear he HF HT HALL
          generalize verAt l i = x at *
          generalize verAt m i = y at *
          obtain ⟨xn, xw, xs, xa, xt⟩ := x
          obtain ⟨yn, yw, ys, ya, yt⟩ := y
          have walk : ((xn == yn) = false) ∨ xn = yn ∧ (((xw == yw) = false) ∨ xw = yw ∧ (((xs == ys) = false) ∨ xs = ys ∧ (((xa == ya) = false) ∨ xa = ya ∧ xt ≠ yt))) := by
            by_cases h1 : xn = yn
            · refine Or.inr ⟨h1, ?_⟩
              by_cases h2 : xw = yw
              · refine Or.inr ⟨h2, ?_⟩
                by_cases h3 : xs = ys
                · refine Or.inr ⟨h3, ?_⟩
                  by_cases h4 : xa = ya
                  · refine Or.inr ⟨h4, fun h5 => HNE.out (by rw [h1, h2, h3, h4, h5])⟩
                  · exact Or.inl (beq_eq_false_iff_ne.2 h4)
                · exact Or.inl (beq_eq_false_iff_ne.2 h3)
              · exact Or.inl (beq_eq_false_iff_ne.2 h2)
            · exact Or.inl (beq_eq_false_iff_ne.2 h1)
          clear HNE
          rcases walk with g | ⟨rfl, g | ⟨rfl, g | ⟨rfl, g | ⟨rfl, g⟩⟩⟩⟩
          rotate_right
          · have d1 := toList_ne g
            have d2 := toList_beq g
            have d3 := bytes_beq g
            clear g
            go_wp2
            go_quiet (fail)
            go_wp2
            go_ret
            exact ⟨by rw [HR.out]; rfl, by obtain ⟨n, hn⟩ := HW.out; rw [hn]; exact below_drewN (below_drewN (Below.refl _ _) n) _⟩
          all_goals
            go_wp2
            go_quiet (fail)
            go_wp2
            go_ret
            exact ⟨by rw [HR.out]; rfl, by obtain ⟨n, hn⟩ := HW.out; rw [hn]; exact below_drewN (below_drewN (Below.refl _ _) n) _⟩
      · have HR : Hid (r = true) := HT.out (fun j hj => HALL.out j (by omega))
        go_wp2
        go_ret
        exact ⟨by rw [HR.out]; rfl, by obtain ⟨n, hn⟩ := HW.out; rw [hn]; exact below_drewN (Below.refl _ _) n⟩
  · have HR : Hid (decide (l = m) = false) := decide_eq_false (fun e => hlen (by rw [e]))
    rw [HR.out]
    have h6 : ((l.length : Int) != (m.length : Int)) = true := by rw [bne_iff_ne]; omega
    clear hlen
    go_enter Tryz.func32, Tryz.ntmps32
    go_wp2
    go_ret
    exact ⟨rfl, Below.refl _ _⟩
section
open Go.Extern.Stop Go.Stop Go.Extern
theorem coded2_nil (w : World) : Calls Tryz.prog 9 #[.nilIface, .int .i64 0] w fun e w' => e = .returned (.bool true) ∧ w' = w := by
  go_enter Tryz.func9, Tryz.ntmps9
  go_wp2_with (go_at_call 24; refine (code_nil _).mono ?_; rintro e w' ⟨rfl, rfl⟩)
  go_ret
  exact ⟨rfl, rfl⟩
/-- 'coded' of a sentinel and its own number. -/
theorem coded2_sent (ad : Nat → Addr) (i : Nat) (hi : i < 12) (w : World) (hS : Sent w ad) :
    Calls Tryz.prog 9 #[.iface 206 (.pointer (some (ad i))), .int .i64 ((i + 1 : Nat) : Int)] w fun e w' => e = .returned (.bool true) ∧ Below w.heap.size w w' := by
  go_enter Tryz.func9, Tryz.ntmps9
  go_wp2_with fail
  refine (code_sent ad i hi _ hS).mono ?_
  rintro e w2 ⟨rfl, hb2⟩
  go_wp2
  go_ret
  exact ⟨rfl, hb2⟩
theorem coded2_any {ad : Nat → Addr} {ev : Value} {c : Int} (h : BareIs ad ev c) (w : World) (hS : Sent w ad) :
    Calls Tryz.prog 9 #[ev, .int .i64 c] w fun e w' => e = .returned (.bool true) ∧ Below w.heap.size w w' := by
  rcases h with ⟨rfl, rfl⟩ | ⟨i, hi, rfl, rfl⟩
  · exact (coded2_nil w).mono fun e w' ⟨h1, h2⟩ => ⟨h1, by rw [h2]; exact Below.refl _ _⟩
  · exact coded2_sent ad i hi w hS
end
/-- Package hold answers as it is asked to (what a first look needs); Hd: in the world w the hold at block h, in the blocks of S, holds L, and is sealed or not; X: what is asked of the world where something is put. -/
structure HoldOk0 (ad : Nat → Addr) (X : World → Prop) (Hd : World → Nat → (Nat → Prop) → List Kep → Bool → Prop) : Prop where
  lt : ∀ {w h S L s}, Hd w h S L s → ∀ k, S k → k < w.heap.size
  keep : ∀ {w w' h S L s}, Hd w h S L s → w.heap.size ≤ w'.heap.size → (∀ k, S k → w'.heap[k]? = w.heap[k]?) → Hd w' h S L s
  zero : ∀ w : World, Hd (w.alloc (.cells #[.map none, .bool false] 39)) w.heap.size (fun k => k = w.heap.size) [] false
  less : ∀ (a b : Int × Int) (w : World), Calls Tryz.prog 19 #[.agg #[.int .i64 a.1, .int .i64 a.2], .agg #[.int .i64 b.1, .int .i64 b.2]] w fun e w' => e = .returned (.bool (lessB a b)) ∧ ∃ q os, w' = Sort.grow (w.drewN q) os
  count : ∀ {w h S L s}, Hd w h S L s → Calls Tryz.prog 11 #[.pointer (some ⟨h, 0, none⟩)] w fun e w' => e = .returned (.int .i64 (L.length : Int)) ∧ Below w.heap.size w w'
  get : ∀ {w h S L s} (key : ByteArray), key.size ≤ maxLen → Hd w h S L s → Calls Tryz.prog 17 #[.pointer (some ⟨h, 0, none⟩), .string key] w fun e w' => (∃ p c, e = .returned (.slice p (getL L key).length c) ∧ Rec verE w' p (getL L key)) ∧ Below w.heap.size w w'
  last : ∀ {w h S L s} (key : ByteArray), key.size ≤ maxLen → Hd w h S L s → Calls Tryz.prog 18 #[.pointer (some ⟨h, 0, none⟩), .string key] w fun e w' => e = .returned (.tuple #[.agg #[.int .i64 (lastT (getL L key)).1, .int .i64 (lastT (getL L key)).2], .bool (decide (0 < (getL L key).length))]) ∧ Below w.heap.size w w'
  put : ∀ {w h S L s} (key : ByteArray) (v : Ver), key.size ≤ maxLen → v.text.size ≤ maxLen → Hd w h S L s → X w → Calls Tryz.prog 16 #[.pointer (some ⟨h, 0, none⟩), .string key, verA v] w fun e w' => (∃ ev, e = .returned ev ∧ BareIs ad ev (putR L s key v).1) ∧ ∃ S', Hd w' h S' (putR L s key v).2 s ∧ Upd S S' w w'
theorem flip_ne {l : List Nat} {p : Nat} (hp : p / 8 < l.length) : flip1 l p ≠ l := fun e => by
  have h := lbit_flip1 hp p
  rw [e, if_pos rfl] at h
  have := lbit_lt l p
  omega
theorem flip_open (x : ByteArray) (p : Nat) (hp : p < 8 * (x.size + 4)) :
    fourT (crcOf (cutT (strOf (flip1 (bytesOf (sealT x)) p)))) ≠ endT (strOf (flip1 (bytesOf (sealT x)) p)) := by
  have hll : (bytesOf (sealT x)).length = x.size + 4 := by rw [bytesOf_length, sealT_size]
  have hk : p / 8 < (bytesOf (sealT x)).length := by omega
  have hB := flip1_bytes (bytesOf_lt (sealT x)) hk
  have hne : strOf (flip1 (bytesOf (sealT x)) p) ≠ sealT x := fun e => by
    have h := congrArg bytesOf e
    rw [bytesOf_strOf hB] at h
    exact flip_ne hk h
  by_cases hin : p < 8 * x.size
  · have h1 : flip1 (bytesOf (sealT x)) p = flipTo (bytesOf (sealT x)) (8 * x.size) p 1 1 := by
      show _ = (if 1 / 2 ^ 0 % 2 = 1 ∧ p + 0 < 8 * x.size then flip1 (bytesOf (sealT x)) (p + 0) else bytesOf (sealT x))
      rw [if_pos ⟨by decide, by omega⟩]
      rfl
    rw [h1] at hne ⊢
    exact burst_open x p 1 1 (by decide) hne
  · have hL : (flip1 (bytesOf (sealT x)) p).length = x.size + 4 := by rw [flip1_length, hll]
    have hts : (strOf (flip1 (bytesOf (sealT x)) p)).size = x.size + 4 := by rw [strOf_size, hL]
    have hcut : cutT (strOf (flip1 (bytesOf (sealT x)) p)) = x := by
      refine bytesOf_inj ?_
      rw [bytesOf_cut, bytesOf_strOf hB, hts, Nat.add_sub_cancel]
      unfold flip1
      rw [List.take_set_of_le (by omega)]
      unfold sealT
      rw [bytesOf_append, List.take_append_of_le_length (by rw [bytesOf_length]; omega), List.take_of_length_le (by rw [bytesOf_length]; omega)]
    intro e
    rw [hcut] at e
    refine hne (bytesOf_inj ?_)
    have h2 := congrArg bytesOf e
    have h3 := congrArg bytesOf hcut
    rw [bytesOf_end, hts, Nat.add_sub_cancel] at h2
    rw [bytesOf_cut, hts, Nat.add_sub_cancel] at h3
    rw [← List.take_append_drop x.size (bytesOf (strOf (flip1 (bytesOf (sealT x)) p))), h3, ← h2]
    unfold sealT
    rw [bytesOf_append]
end Go.Proofs.YtmbpfbhpmafheaaGreatDoor
