import Derived.Test.YtobmckfcipeanaaGreatDoorYC
import Derived.Test.YtobmckfcipeanaaGreatDoorYJ
import Derived.Deep.QuietTactic
import Derived.BigQuiet
namespace Go.Proofs.YtobmckfcipeanaaGreatDoor
open Go.RowKit
set_option maxRecDepth 10000 in
theorem encode1_any (pw ps wd j c : Nat) (s : ByteArray) (w : World) (hj : j <= 1000) (hc : c <= 100000) (hwd : wd <= 100000) (hw : w.cell? ⟨pw, 0, none⟩ = some (.int .i64 (wd : Int))) (hs : w.cell? ⟨ps, 0, none⟩ = some (.string s)) :
 Calls Tryz.prog 133 (#[.int .i64 (j : Int), .int .i64 (c : Int)] ++ #[.pointer (some ⟨pw, 0, none⟩), .pointer (some ⟨ps, 0, none⟩)]) w fun e w2 => e = .returned (.int .u8 ((objN s wd j c : Nat) : Int)) /\ w2 = w := by
 have hb : j * wd <= 1000 * 100000 := Nat.mul_le_mul hj hwd
 have hp0 : (0 : Int) <= (j : Int) * (wd : Int) := by rw [<- Int.natCast_mul]; omega
 have hp1 : (j : Int) * (wd : Int) <= 100000000 := by rw [<- Int.natCast_mul]; omega
 have hw1 : IntKind.i64.wrap ((j : Int) * (wd : Int)) = (j : Int) * (wd : Int) := by rw [IntKind.wrap_i64]; omega
 have hw2 : IntKind.i64.wrap ((j : Int) * (wd : Int) + (c : Int)) = (j : Int) * (wd : Int) + (c : Int) := by rw [IntKind.wrap_i64]; omega
 by_cases hin : j * wd + c < s.size
 ·have h2 : (j : Int) * (wd : Int) + (c : Int) < (s.size : Int) := by rw [<- Int.natCast_mul]; omega
  have h0 : (0 : Int) <= (j : Int) * (wd : Int) + (c : Int) := by omega
  have hidx : ∀ W, Sem.run Tryz.prog (Instr.index 9 (.string s) (.int .i64 ((j : Int) * (wd : Int) + (c : Int)))) W = .ok (.int .u8 ((objN s wd j c : Nat) : Int)) W := fun W => by
   rw [run_index_string W 9 s .i64 _ Tryz.underlying9, dif_pos ⟨h0, h2⟩]
   unfold objN
   rw [bytesOf_nth s (j * wd + c) hin]
   congr 3
  clear hin hb
  generalize objN s wd j c = y at hidx ⊢
  go_enter Tryz.func133, Tryz.ntmps133
  go_wp2
  go_ret
  exact ⟨rfl, rfl⟩
 ·have h2 : ¬ (j : Int) * (wd : Int) + (c : Int) < (s.size : Int) := by rw [<- Int.natCast_mul]; omega
  rw [objN_past hin]
  clear hin hb
  go_enter Tryz.func133, Tryz.ntmps133
  go_wp2
  go_ret
  exact ⟨rfl, rfl⟩
set_option maxRecDepth 10000 in
set_option maxHeartbeats 2000000 in
theorem encode_ok (n k : Nat) (s : ByteArray) (z : Addr) (w : World) (hk1 : 1 <= k) (hkn : k <= n) (hn : n <= 12) (hs : s.size <= 1000) (hz : w.cell? ⟨11, 0, none⟩ = some (.iface 234 (.pointer (some z)))) :
 Calls Tryz.prog 105 #[.int .i64 (n : Int), .int .i64 (k : Int), .string s] w fun e w' => (∃ g, w.heap.size <= g /\ e = .returned (.tuple #[.slice (some ⟨g, 0, none⟩) n n, .nilIface]) /\ ShRow w' g n (encS k s)) /\ Below w.heap.size w w' := by
 have hwd := wideN_le (size := s.size) hk1
 obtain ⟨w1, hw1⟩ : ∃ w1, w1 = w.alloc (.cells #[.string s] 9) := ⟨_, rfl⟩
 have hb1 : Below w.heap.size w w1 := by rw [hw1]; exact (Below.refl _ _).alloc (Nat.le_refl _) _
 have hs1 : w1.heap.size = w.heap.size + 1 := by rw [hw1]; simp
 have hp1 : w1.cell? ⟨w.heap.size, 0, none⟩ = some (.string s) := by rw [hw1, World.cell?_alloc_at _ _ _ _ rfl]; rfl
 have HS := spreadOf_ok n k s.size z w1 hk1 hkn hn hs ((hb1.cell (p := ⟨11, 0, none⟩) (lt_of_cell hz)).trans hz)
 have HW1 : Hid (w1 = w.alloc (.cells #[.string s] 9)) := hw1
 have HB1 : Hid (Below w.heap.size w w1) := hb1
 have hmk := run_make_shards n (by omega)
 clear hw1 hb1 hz
 go_enter Tryz.func105, Tryz.ntmps105
 go_wp2_with fail
 rw [<- HW1.out]
 refine HS.mono ?_
 rintro e w2 ⟨⟨gm, rfl, hm2⟩, hb2⟩
 have hs2 : w1.heap.size <= w2.heap.size := hb2.size
 have hp2 : w2.cell? ⟨w.heap.size, 0, none⟩ = some (.string s) := (hb2.cell (p := ⟨w.heap.size, 0, none⟩) (by show w.heap.size < _; omega)).trans hp1
 have HM2 : Hid (Mat w2 (some ⟨gm, 0, none⟩) (spreadM k n)) := hm2
 have HB2 : Hid (Below w.heap.size w w2) := HB1.out.trans (hb2.mono (by omega))
 clear HS hm2 hb2 HB1 HW1 hp1
 have HWD := fun W => width_any s.size k W hk1 (by omega) (by omega)
 have HES : Hid (∀ i, encS k s i = ((i : Int), strOf (rowT (fun i j => Gf.shareOf (upToL k) j i) (objN s (wideN k s.size)) k (wideN k s.size) i))) := fun i => rfl
 generalize wideN k s.size = wd at *
 go_wp2_with fail
 refine (HWD _).mono ?_
 rintro e w2' ⟨rfl, hww⟩
 rw [hww]
 clear hww w2' HWD
 obtain ⟨w3, hw3⟩ : ∃ w3, w3 = w2.alloc (.cells #[.int .i64 (wd : Int)] 3) := ⟨_, rfl⟩
 have hb3 : Below w2.heap.size w2 w3 := by rw [hw3]; exact (Below.refl _ _).alloc (Nat.le_refl _) _
 have hs3 : w3.heap.size = w2.heap.size + 1 := by rw [hw3]; simp
 have hp3 : w3.cell? ⟨w.heap.size, 0, none⟩ = some (.string s) := (hb3.cell (p := ⟨w.heap.size, 0, none⟩) (by show w.heap.size < _; omega)).trans hp2
 have hv3 : w3.cell? ⟨w2.heap.size, 0, none⟩ = some (.int .i64 (wd : Int)) := by rw [hw3, World.cell?_alloc_at _ _ _ _ rfl]; rfl
 have HB3 : Hid (Below w.heap.size w w3) := HB2.out.trans (hb3.mono (by omega))
 have HT : Tells w3 133 #[.pointer (some ⟨w2.heap.size, 0, none⟩), .pointer (some ⟨w.heap.size, 0, none⟩)] (objN s wd) k wd := fun j c hj hc w4 h4 =>
  encode1_any w2.heap.size w.heap.size wd j c s w4 (by omega) (by omega) (by omega) ((h4.cell (p := ⟨w2.heap.size, 0, none⟩) (by show w2.heap.size < _; omega)).trans hv3) ((h4.cell (p := ⟨w.heap.size, 0, none⟩) (by show w.heap.size < _; omega)).trans hp3)
 have HR := rows_any (some ⟨gm, 0, none⟩) n k wd n (fun i j => Gf.shareOf (upToL k) j i) (objN s wd) 133 #[.pointer (some ⟨w2.heap.size, 0, none⟩), .pointer (some ⟨w.heap.size, 0, none⟩)] w3 (by omega) (by omega) hk1 (by omega) (by omega) (fun i j => Gf.shareOf_lt _ _ _) (fun j c => objN_lt s wd j c) (HM2.out.below hb3) (enters_of Tryz.func133 (by kernel_rfl) rfl) HT
 have HW3 : Hid (w3 = w2.alloc (.cells #[.int .i64 (wd : Int)] 3)) := hw3
 have hs3' : w2.heap.size < w3.heap.size := by omega
 have hs1' : w.heap.size < w1.heap.size := by omega
 clear hw3 hb3 HT HM2 HB2 hp2 hs3 hs1
 go_wp2_with fail
 rw [<- HW3.out]
 refine HR.mono ?_
 rintro e w4 ⟨rfl, hr4, hb4⟩
 have HR4 : Hid (w4.rowIs w3.heap.size 9 n (fun i => .string (strOf (rowT (fun i j => Gf.shareOf (upToL k) j i) (objN s wd) k wd i)))) := hr4
 have HB4 : Hid (Below w.heap.size w w4) := HB3.out.trans (hb4.mono (by omega))
 have hz4 : w3.heap.size < w4.heap.size := hr4.lt
 clear HR hr4 hb4 HB3 HW3 hp3 hv3
 go_wp2
 have hS0 := ShRow.made w4 n
 have hB0 : Below w4.heap.size w4 (w4.alloc (.cells (madeCells #[.int .i64 0, .string ⟨#[]⟩] (n * 2)) 67)) := (Below.refl _ _).alloc (Nat.le_refl _) _
 generalize w4.alloc (.cells (madeCells #[.int .i64 0, .string ⟨#[]⟩] (n * 2)) 67) = w5 at hS0 hB0 ⊢
 have HS0 : Hid (ShRow w5 w4.heap.size n (fun _ => (0, ⟨#[]⟩))) := hS0
 have HB0 : Hid (Below w4.heap.size w4 w5) := hB0
 clear hS0 hB0 hmk
 go_loopw [38] (fun x wr => ∃ i : Nat, i <= n /\ x = .int .i64 i /\ ShRow wr w4.heap.size n (fun q => if q < i then encS k s q else (0, ⟨#[]⟩)) /\ Below w4.heap.size w4 wr) (fun x _ => n - (intOf x).toNat)
 case atStart => exact ⟨0, by omega, rfl, HS0.out.congr (fun q _ => by simp), HB0.out⟩
 case round =>
  obtain ⟨i, hi, rfl, hS, hB⟩ := hrel
  obtain ⟨w6, rfl⟩ : ∃ w6, w6 = wr := ⟨_, rfl⟩
  have HSR : Hid (ShRow w6 w4.heap.size n (fun q => if q < i then encS k s q else (0, ⟨#[]⟩))) := hS
  have HB : Hid (Below w4.heap.size w4 w6) := hB
  have hgt : w4.heap.size < w6.heap.size := World.rowIs.lt hS
  clear hS hB HS0 HB0
  by_cases hil : i < n
  ·have q0 : w6.cell? ⟨w3.heap.size, i, none⟩ = some (.string (encT k s i)) := by
    rw [HB.out.cell (p := ⟨w3.heap.size, i, none⟩) hz4, HR4.out.cell hil]
    exact congrArg (fun x : Int × ByteArray => some (Value.string x.2)) (HES.out i).symm
   have q1 : w6.cell? ⟨w4.heap.size, i * 2, none⟩ = some (.int .i64 0) := by rw [HSR.out.at_ hil, if_neg (Nat.lt_irrefl _)]
   have q2 : w6.cell? ⟨w4.heap.size, i * 2 + 1, none⟩ = some (.string ⟨#[]⟩) := by rw [HSR.out.text hil, if_neg (Nat.lt_irrefl _)]
   have f1 : w6.frozen? ⟨w4.heap.size, i * 2, none⟩ = false := World.rowIs.frozen HSR.out _
   have f2 : w6.frozen? ⟨w4.heap.size, i * 2 + 1, none⟩ = false := World.rowIs.frozen HSR.out _
   go_wp2
   go_roundw
   case rel =>
    refine ⟨i + 1, by omega, by go_num, ?_, ?_⟩
    ·refine (HSR.out.set i (i : Int) (encT k s i)).congr (fun q _ => ?_)
     by_cases e : q = i
     ·rw [if_pos e, if_pos (by omega), e]
      rfl
     ·rw [if_neg e]
      by_cases e' : q < i
      ·rw [if_pos e', if_pos (by omega)]
      ·rw [if_neg e', if_neg (by omega)]
    ·exact (HB.out.setCell (Nat.le_refl _) _).setCell (Nat.le_refl _) _
   case measure => simp [intOf]; omega
  ·have hie : i = n := by omega
   subst hie
   go_wp2
   go_ret2
   exact ⟨⟨w4.heap.size, by have := HB4.out.size; omega, rfl, HSR.out.congr (fun q hq => by rw [if_pos hq])⟩, HB4.out.trans (HB.out.mono (HB4.out.size))⟩
end Go.Proofs.YtobmckfcipeanaaGreatDoor
