/- Bytes as a text: what string(b) gives. -/
import Derived.Test.YtoapbjifkjehhaaGreatDoorG2
import Derived.Test.YtoapbjifkjehhaaGreatDoorG1
import Derived.Laws.BytesArg
import Derived.Below
import Derived.Deep.OwnRows
import Derived.Lib.ConvBytes
import Derived.Test.YtoapbjifkjehhaaGreatDoorG7
import Derived.Test.YtoapbjifkjehhaaGreatDoorRgShW
import Derived.BigQuiet
import Derived.Test.YtoapbjifkjehhaaGreatDoorSentW
import Derived.Deep.RegionHeld3
namespace Go.Proofs.YtoapbjifkjehhaaGreatDoor
open Go.RowKit
theorem conv_seg {w : World} {q : Option Addr} {l : List Nat} (h : Seg w q l) (c : Nat) : (convert 53 9 (.slice q l.length c)).run Tryz.prog w = .ok (.string (strOf l)) w := by
  rcases h.cells with hl | ⟨b, o, rfl, hb, hc⟩
  · subst hl
    cases q with
    | none => exact run_convert_bytes_nil w 53 5 Tryz.underlying53 Tryz.underlying5 0 c 9 Tryz.underlying9
    | some ad =>
      have hl : (loadCells ad 0).run Tryz.prog w = .ok (([] : List Int).map (Value.int .u8)).toArray w := by simp [loadCells, loadCellsFrom]
      rw [List.length_nil, run_convert_bytes_string w 53 9 5 _ 0 c Tryz.underlying53 Tryz.underlying5 Tryz.underlying9, run_bytesToString w ad 0 c [] hl]
      rfl
  · refine run_convert_bytes_arg w 53 5 Tryz.underlying53 Tryz.underlying5 b o l.length c (l.map Int.ofNat) (by simp) (fun i hi => ?_) 9 Tryz.underlying9
    rw [hc i hi, Gf.nth_getElem l i hi, List.getD_eq_getElem?_getD, List.getElem?_map, List.getElem?_eq_getElem hi]
    rfl
end Go.Proofs.YtoapbjifkjehhaaGreatDoor
/- A row of bytes that a call made for itself, and writes. -/
namespace Go.Proofs.YtoapbjifkjehhaaGreatDoor
open Go.RowKit
/-- In block g lie the bytes l, none frozen. -/
def BRow (w : World) (g : Nat) (l : List Nat) : Prop := g < w.heap.size ∧ Gf.Bytes l ∧ ∀ j, j < l.length → w.cell? ⟨g, j, none⟩ = some (.int .u8 ((Gf.nth l j : Nat) : Int)) ∧ w.frozen? ⟨g, j, none⟩ = false
theorem BRow.cell {w : World} {g : Nat} {l : List Nat} (h : BRow w g l) {j : Nat} (hj : j < l.length) : w.cell? ⟨g, j, none⟩ = some (.int .u8 ((Gf.nth l j : Nat) : Int)) := (h.2.2 j hj).1
theorem BRow.free {w : World} {g : Nat} {l : List Nat} (h : BRow w g l) {j : Nat} (hj : j < l.length) : w.frozen? ⟨g, j, none⟩ = false := (h.2.2 j hj).2
theorem brow_nth_set {l : List Nat} {i j v : Nat} (hi : i < l.length) : Gf.nth (l.set i v) j = if j = i then v else Gf.nth l j := by
  show (l.set i v).getD j 0 = if j = i then v else l.getD j 0
  rw [List.getD_eq_getElem?_getD, List.getElem?_set]
  by_cases e : i = j
  · rw [if_pos e, if_pos hi, if_pos e.symm]; rfl
  · rw [if_neg e, if_neg (fun h => e h.symm), List.getD_eq_getElem?_getD]
theorem BRow.set {w : World} {g : Nat} {l : List Nat} (h : BRow w g l) {i : Nat} (hi : i < l.length) {v : Nat} (hv : v < 256) : BRow (w.setCell ⟨g, i, none⟩ (.int .u8 (v : Int))) g (l.set i v) := by
  refine ⟨by simpa using h.1, fun j => ?_, fun j hj => ?_⟩
  · rw [brow_nth_set hi]
    split
    · exact hv
    · exact h.2.1 j
  · rw [List.length_set] at hj
    rw [brow_nth_set hi, World.frozen?_setCell]
    refine ⟨?_, h.free hj⟩
    by_cases e : j = i
    · subst e
      rw [if_pos rfl]
      exact World.cell?_setCell_same _ _ _ (h.cell hj)
    · rw [if_neg e, World.cell?_setCell_other _ _ _ _ (fun h2 => e (by have h3 := congrArg Addr.off h2; exact h3.symm))]
      exact h.cell hj
theorem BRow.seg {w : World} {g : Nat} {l : List Nat} (h : BRow w g l) : Seg w (some ⟨g, 0, none⟩) l := ⟨h.2.1, Or.inr ⟨g, 0, rfl, h.1, fun i hi => by rw [Nat.zero_add]; exact h.cell hi⟩⟩
theorem BRow.drewN {w : World} {g : Nat} {l : List Nat} (h : BRow w g l) (n : Nat) : BRow (w.drewN n) g l := h
theorem BRow.made (w : World) (n : Nat) (t : TypeId) : BRow (w.alloc (.cells (madeCells #[.int .u8 0] n) t)) w.heap.size (List.replicate n 0) := by
  have h := World.rowIs_made w (.int .u8 0) n t
  have hn : ∀ j, Gf.nth (List.replicate n 0) j = 0 := fun j => by
    show (List.replicate n 0).getD j 0 = 0
    rw [List.getD_eq_getElem?_getD, List.getElem?_replicate]
    split <;> rfl
  refine ⟨World.rowIs.lt h, fun j => by rw [hn]; decide, fun j hj => ?_⟩
  rw [List.length_replicate] at hj
  rw [hn]
  exact ⟨World.rowIs.cell h hj, World.rowIs.frozen h j⟩
theorem brow_bytesWorld (w : World) (e : TypeId) (s : ByteArray) : BRow (Lib.bytesWorld w e s) w.heap.size (bytesOf s) := by
  refine ⟨by rw [Lib.bytesWorld_size]; omega, bytesOf_lt s, fun j hj => ?_⟩
  rw [bytesOf_length] at hj
  constructor
  · rw [Lib.bytesWorld_cell w e s j hj, bytesOf_nth s j hj, List.getD_eq_getElem?_getD, List.getElem?_eq_getElem (by simpa using hj)]
    rfl
  · have hs : s.size ≤ (Lib.bytesCells w e s).size := by
      unfold Lib.bytesCells
      rw [Array.size_append, Array.size_map]
      show s.size ≤ s.size + _
      omega
    simp [World.frozen?, Lib.bytesWorld_at_new]
    omega
theorem below_bytesWorld (w : World) (e : TypeId) (s : ByteArray) : Below w.heap.size w (Lib.bytesWorld w e s) :=
  ⟨rfl, rfl, rfl, by rw [Lib.bytesWorld_size]; omega, fun k hk => Lib.bytesWorld_at_old w e s k hk⟩
end Go.Proofs.YtoapbjifkjehhaaGreatDoor
/- Package sums: Seal and Open, and what they call. -/
namespace Go.Proofs.YtoapbjifkjehhaaGreatDoor
open Go.RowKit
/-- The seal's four bytes, of which the last i stand. -/
def sealL (n : Nat) : Nat → List Nat
  | 0 => List.replicate 4 0
  | i + 1 => (sealL n i).set (3 - i) (n / 2 ^ (8 * i) % 256)
theorem sealL_length (n : Nat) : ∀ i, (sealL n i).length = 4
  | 0 => rfl
  | i + 1 => by
    show ((sealL n i).set _ _).length = 4
    rw [List.length_set, sealL_length n i]
theorem sealL_four (n : Nat) : sealL n 4 = fourL n := by
  show [n / 2 ^ (8 * 3) % 256, n / 2 ^ (8 * 2) % 256, n / 2 ^ (8 * 1) % 256, n / 2 ^ (8 * 0) % 256] = [n / 16777216 % 256, n / 65536 % 256, n / 256 % 256, n % 256]
  simp
theorem sealU8 : (Tryz.prog.info? 5).map (fun i => (i.zero, i.size, i.bytes)) = some (some (.int .u8 0), 1, 1) := by kernel_rfl
theorem run_make_four (W : World) : Sem.run Tryz.prog (Instr.makeSlice 53 (.int .i64 4) (.int .i64 4)) W = .ok (.slice (some ⟨W.heap.size, 0, none⟩) 4 4) (W.alloc (.cells (madeCells #[.int .u8 0] 4) 5)) := by
  obtain ⟨i0, hi0, hz0, hz1, hzb⟩ := info_parts sealU8
  exact run_make_row (P := Tryz.prog) 53 5 i0 (.int .u8 0) Tryz.underlying53 hi0 hz0 hz1 rfl .i64 .i64 4 (by rw [hzb]; omega) (by omega) W
set_option maxRecDepth 10000 in
set_option maxHeartbeats 2000000 in
theorem sealOf_any (s : ByteArray) (w : World) (hs : s.size ≤ 1000000) :
    Calls Tryz.prog 23 #[.string s] w fun e w' => e = .returned (.string (fourT (crcOf s))) ∧ Below w.heap.size w w' := by
  have HR := crc_any s w hs
  have hlt := crcOf_lt s
  have hmk := run_make_four
  have HF : Hid (fourT (crcOf s) = strOf (sealL (crcOf s) 4)) := by show _ = _; rw [sealL_four]; rfl
  generalize crcOf s = n at *
  go_enter Tryz.func23, Tryz.ntmps23
  go_wp2_with fail
  refine HR.mono ?_
  rintro e w1 ⟨rfl, h1⟩
  rw [h1]
  clear h1 w1 HR
  go_wp2
  have hR := BRow.made w 4 5
  have hB : Below w.heap.size w (w.alloc (.cells (madeCells #[.int .u8 0] 4) 5)) := (Below.refl _ _).alloc (Nat.le_refl _) _
  generalize w.alloc (.cells (madeCells #[.int .u8 0] 4) 5) = w2 at hR hB ⊢
  have HR : Hid (BRow w2 w.heap.size (List.replicate 4 0)) := hR
  have HB : Hid (Below w.heap.size w w2) := hB
  clear hR hB hmk
  go_loopw [9] (fun x wq => ∃ i : Nat, i ≤ 4 ∧ x = .int .i64 i ∧ BRow wq w.heap.size (sealL n i) ∧ Below w.heap.size w wq) (fun x _ => 4 - (intOf x).toNat)
  case atStart => exact ⟨0, by omega, rfl, HR.out, HB.out⟩
  case round =>
    obtain ⟨i, hi, rfl, hRq, hBq⟩ := hrel
    obtain ⟨w3, rfl⟩ : ∃ w3, w3 = wr := ⟨_, rfl⟩
    have HRq : Hid (BRow w3 w.heap.size (sealL n i)) := hRq
    have HBq : Hid (Below w.heap.size w w3) := hBq
    clear hRq hBq HR HB
    by_cases hil : i < 4
    · have q1 := HRq.out.cell (j := 3 - i) (by rw [sealL_length]; omega)
      have q2 := HRq.out.free (j := 3 - i) (by rw [sealL_length]; omega)
      have HN : Hid (BRow (w3.setCell ⟨w.heap.size, 3 - i, none⟩ (.int .u8 ((n / 2 ^ (8 * i) % 256 : Nat) : Int))) w.heap.size (sealL n (i + 1))) := HRq.out.set (by rw [sealL_length]; omega) (Nat.mod_lt _ (by decide))
      have HN2 : Hid (Below w.heap.size w (w3.setCell ⟨w.heap.size, 3 - i, none⟩ (.int .u8 ((n / 2 ^ (8 * i) % 256 : Nat) : Int)))) := HBq.out.setCell (Nat.le_refl _) _
      generalize Gf.nth (sealL n i) (3 - i) = v at q1
      clear HRq HBq
      rcases (show i = 0 ∨ i = 1 ∨ i = 2 ∨ i = 3 by omega) with rfl | rfl | rfl | rfl
      · go_wp2
        go_roundw
        case rel =>
          have h1 := HN.out
          have h2 := HN2.out
          rw [show ((n / 2 ^ (8 * 0) % 256 : Nat) : Int) = (n : Int) % 256 by simp] at h1 h2
          exact ⟨1, by omega, by go_num, h1, h2⟩
        case measure => simp [intOf]
      · go_wp2
        go_roundw
        case rel =>
          exact ⟨2, by omega, by go_num, HN.out, HN2.out⟩
        case measure => simp [intOf]
      · go_wp2
        go_roundw
        case rel =>
          exact ⟨3, by omega, by go_num, HN.out, HN2.out⟩
        case measure => simp [intOf]
      · go_wp2
        go_roundw
        case rel =>
          have h1 := HN.out
          have h2 := HN2.out
          rw [show ((n / 2 ^ (8 * 3) % 256 : Nat) : Int) = (n : Int) / 16777216 by omega] at h1 h2
          exact ⟨4, by omega, by go_num, h1, h2⟩
        case measure => simp [intOf]
    · have hie : i = 4 := by omega
      subst hie
      have hcv : Sem.run Tryz.prog (convert 53 9 (.slice (some ⟨w.heap.size, 0, none⟩) 4 4)) w3 = .ok (.string (strOf (sealL n 4))) w3 := by
        have h := conv_seg HRq.out.seg 4
        rw [sealL_length] at h
        exact h
      rw [← HF.out] at hcv
      clear HRq
      go_wp2
      go_ret
      exact ⟨rfl, HBq.out⟩
set_option maxRecDepth 10000 in
theorem seal_any (s : ByteArray) (w : World) (hs : s.size ≤ 1000000) :
    Calls Tryz.prog 8 #[.string s] w fun e w' => e = .returned (.string (sealT s)) ∧ Below w.heap.size w w' := by
  have HR := sealOf_any s w hs
  have hz : (fourT (crcOf s)).size = 4 := fourT_size _
  have HE : Hid (sealT s = s ++ fourT (crcOf s)) := by show _ = _; rfl
  generalize fourT (crcOf s) = q at *
  go_enter Tryz.func8, Tryz.ntmps8
  go_wp2_with fail
  refine HR.mono ?_
  rintro e w1 ⟨rfl, hb1⟩
  clear HR
  go_wp2
  go_ret
  exact ⟨by rw [HE.out]; rfl, hb1⟩
theorem clone_any (s : ByteArray) (w : World) (hs : s.size ≤ 1000000) :
    Calls Tryz.prog 44 #[.string s] w fun e w' => e = .returned (.string s) ∧ Below w.heap.size w w' := by
  have HR := Tryz.stringslite_Clone s w (by omega)
  go_enter Tryz.func44, Tryz.ntmps44
  go_wp2_with fail
  refine HR.mono ?_
  rintro e w1 ⟨rfl, hb1⟩
  clear HR
  go_wp2
  go_ret
  exact ⟨rfl, hb1⟩
end Go.Proofs.YtoapbjifkjehhaaGreatDoor
/- Package sums: Open. -/
namespace Go.Proofs.YtoapbjifkjehhaaGreatDoor
open Go.RowKit
set_option maxRecDepth 10000 in
theorem open_short (s : ByteArray) (ad : Nat → Addr) (w : World) (hs : s.size < 4) (hS : Sent w ad) :
    Calls Tryz.prog 20 #[.string s] w fun e w' => e = .returned (.tuple #[.string ⟨#[]⟩, .iface 209 (.pointer (some (ad 0)))]) ∧ Below w.heap.size w w' := by
  have c0 := hS.c0
  clear hS
  go_enter Tryz.func20, Tryz.ntmps20
  go_wp2
  go_quiet (fail)
  go_wp2
  go_ret2
  exact ⟨rfl, below_drewN (Below.refl _ _) _⟩
set_option maxRecDepth 10000 in
set_option maxHeartbeats 2000000 in
theorem open_ok (s : ByteArray) (w : World) (hs : 4 ≤ s.size) (hl : s.size ≤ 1000000) (h : fourT (crcOf (cutT s)) = endT s) :
    Calls Tryz.prog 20 #[.string s] w fun e w' => e = .returned (.tuple #[.string (cutT s), .nilIface]) ∧ Below w.heap.size w w' := by
  have hc1 : ∀ W, Sem.run Tryz.prog (Instr.slice 9 (.string s) none (some (.int .i64 ((s.size : Int) - 4))) none) W = .ok (.string (cutT s)) W := fun W => by
    rw [run_slice_string_h W 9 s Tryz.underlying9 .i64 _ (by omega) (by omega)]
    unfold cutT
    rw [show ((s.size : Int) - 4).toNat = s.size - 4 by omega]
  have hc2 : ∀ W, Sem.run Tryz.prog (Instr.slice 9 (.string s) (some (.int .i64 ((s.size : Int) - 4))) none none) W = .ok (.string (endT s)) W := fun W => by
    rw [run_slice_string_l W 9 s Tryz.underlying9 .i64 _ (by omega) (by omega)]
    unfold endT
    rw [show ((s.size : Int) - 4).toNat = s.size - 4 by omega]
  have HF : Hid (∀ W, Calls Tryz.prog 23 #[.string (cutT s)] W fun e w' => e = .returned (.string (fourT (crcOf (cutT s)))) ∧ Below W.heap.size W w') := fun W => sealOf_any _ W (by rw [cutT_size]; omega)
  have HC : Hid (∀ W, Calls Tryz.prog 44 #[.string (cutT s)] W fun e w' => e = .returned (.string (cutT s)) ∧ Below W.heap.size W w') := fun W => clone_any _ W (by rw [cutT_size]; omega)
  rw [h] at HF
  clear h
  generalize cutT s = t at *
  generalize endT s = u at *
  have l0 : (0 : Int) ≤ (s.size : Int) - 4 := by omega
  have l1 : (s.size : Int) - 4 ≤ (s.size : Int) := by omega
  have l2 : (4 : Int) ≤ (s.size : Int) := by omega
  have l3 : IntKind.i64.wrap ((s.size : Int) - 4) = (s.size : Int) - 4 := by rw [IntKind.wrap_i64]; omega
  have l4 : wrap64 ((s.size : Int) - 4) = (s.size : Int) - 4 := by unfold wrap64; omega
  go_enter Tryz.func20, Tryz.ntmps20
  go_wp2
  go_region_held3 (fun _ => True) (trivial)
    (first | (go_at_call 23; refine (HF.out _).mono ?_; rintro e w1 ⟨rfl, hb1⟩))
  have HB1 : Hid (Below w.heap.size w w1) := ((Below.refl w.heap.size w).drew).trans hb1
  clear hb1
  go_wp2_with fail
  refine (HC.out _).mono ?_
  rintro e w2 ⟨rfl, hb2⟩
  go_wp2
  go_ret2
  exact ⟨rfl, HB1.out.trans (hb2.mono HB1.out.size)⟩
set_option maxRecDepth 10000 in
set_option maxHeartbeats 2000000 in
theorem open_bad (s : ByteArray) (ad : Nat → Addr) (w : World) (hs : 4 ≤ s.size) (hl : s.size ≤ 1000000) (h : fourT (crcOf (cutT s)) ≠ endT s) (hS : Sent w ad) :
    Calls Tryz.prog 20 #[.string s] w fun e w' => e = .returned (.tuple #[.string ⟨#[]⟩, .iface 209 (.pointer (some (ad 8)))]) ∧ Below w.heap.size w w' := by
  have hc1 : ∀ W, Sem.run Tryz.prog (Instr.slice 9 (.string s) none (some (.int .i64 ((s.size : Int) - 4))) none) W = .ok (.string (cutT s)) W := fun W => by
    rw [run_slice_string_h W 9 s Tryz.underlying9 .i64 _ (by omega) (by omega)]
    unfold cutT
    rw [show ((s.size : Int) - 4).toNat = s.size - 4 by omega]
  have hc2 : ∀ W, Sem.run Tryz.prog (Instr.slice 9 (.string s) (some (.int .i64 ((s.size : Int) - 4))) none none) W = .ok (.string (endT s)) W := fun W => by
    rw [run_slice_string_l W 9 s Tryz.underlying9 .i64 _ (by omega) (by omega)]
    unfold endT
    rw [show ((s.size : Int) - 4).toNat = s.size - 4 by omega]
  have HF : Hid (∀ W, Calls Tryz.prog 23 #[.string (cutT s)] W fun e w' => e = .returned (.string (fourT (crcOf (cutT s)))) ∧ Below W.heap.size W w') := fun W => sealOf_any _ W (by rw [cutT_size]; omega)
  have HS : Hid (Sent w ad) := hS
  have h1 : ¬ (endT s).toList = (fourT (crcOf (cutT s))).toList := fun e => h (toListInj e.symm)
  have h2 : ((endT s).toList == (fourT (crcOf (cutT s))).toList) = false := by simpa using h1
  have h3 : (endT s == fourT (crcOf (cutT s))) = false := by rw [beq_toListBytes]; exact h2
  clear h hS
  generalize fourT (crcOf (cutT s)) = v at *
  generalize cutT s = t at *
  generalize endT s = u at *
  have l0 : (0 : Int) ≤ (s.size : Int) - 4 := by omega
  have l1 : (s.size : Int) - 4 ≤ (s.size : Int) := by omega
  have l2 : (4 : Int) ≤ (s.size : Int) := by omega
  have l3 : IntKind.i64.wrap ((s.size : Int) - 4) = (s.size : Int) - 4 := by rw [IntKind.wrap_i64]; omega
  have l4 : wrap64 ((s.size : Int) - 4) = (s.size : Int) - 4 := by unfold wrap64; omega
  go_enter Tryz.func20, Tryz.ntmps20
  go_wp2
  go_region_held3 (fun _ => True) (trivial)
    (first | (go_at_call 23; refine (HF.out _).mono ?_; rintro e w1 ⟨rfl, hb1⟩))
  have hB1 : Below w.heap.size w w1 := ((Below.refl w.heap.size w).drew).trans hb1
  have c8 := (HS.out.below hB1).c8
  have HB1 : Hid (Below w.heap.size w w1) := hB1
  clear hb1 hB1
  go_wp2
  go_quiet (fail)
  go_wp2
  go_ret2
  exact ⟨rfl, below_drewN HB1.out _⟩
end Go.Proofs.YtoapbjifkjehhaaGreatDoor
