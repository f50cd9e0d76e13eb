/- Texts laid together. -/
import Derived.Test.YtppcijpgalaohaaDoorDe7
namespace Go.Proofs.YtppcijpgalaohaaDoor
open Go.RowKit
set_option maxRecDepth 10000 in
theorem encode1_any (pw ps wd j c : Nat) (s : ByteArray) (w : World) (hj : j ≤ 1000) (hc : c ≤ 100000) (hwd : wd ≤ 100000) (hw : w.cell? ⟨pw, 0, none⟩ = some (.int .i64 (wd : Int))) (hs : w.cell? ⟨ps, 0, none⟩ = some (.string s)) :
    Calls Tryd.prog 40 (#[.int .i64 (j : Int), .int .i64 (c : Int)] ++ #[.pointer (some ⟨pw, 0, none⟩), .pointer (some ⟨ps, 0, none⟩)]) w fun e w2 => e = .returned (.int .u8 ((objN s wd j c : Nat) : Int)) ∧ w2 = w := by
  have hb : j * wd ≤ 1000 * 100000 := Nat.mul_le_mul hj hwd
  have hp0 : (0 : Int) ≤ (j : Int) * (wd : Int) := by rw [← Int.natCast_mul]; omega
  have hp1 : (j : Int) * (wd : Int) ≤ 100000000 := by rw [← Int.natCast_mul]; omega
  have hw1 : IntKind.i64.wrap ((j : Int) * (wd : Int)) = (j : Int) * (wd : Int) := by rw [IntKind.wrap_i64]; omega
  have hw2 : IntKind.i64.wrap ((j : Int) * (wd : Int) + (c : Int)) = (j : Int) * (wd : Int) + (c : Int) := by rw [IntKind.wrap_i64]; omega
  by_cases hin : j * wd + c < s.size
  · have h2 : (j : Int) * (wd : Int) + (c : Int) < (s.size : Int) := by rw [← Int.natCast_mul]; omega
    have h0 : (0 : Int) ≤ (j : Int) * (wd : Int) + (c : Int) := by omega
    have hidx : ∀ W, Sem.run Tryd.prog (Instr.index 9 (.string s) (.int .i64 ((j : Int) * (wd : Int) + (c : Int)))) W = .ok (.int .u8 ((objN s wd j c : Nat) : Int)) W := fun W => by
      rw [run_index_string W 9 s .i64 _ Tryd.underlying9, dif_pos ⟨h0, h2⟩]
      unfold objN
      rw [bytesOf_nth s (j * wd + c) hin]
      congr 3
    clear hin hb
    generalize objN s wd j c = y at hidx ⊢
    go_enter Tryd.func40, Tryd.ntmps40
    go_wp2
    go_ret
    exact ⟨rfl, rfl⟩
  · have h2 : ¬ (j : Int) * (wd : Int) + (c : Int) < (s.size : Int) := by rw [← Int.natCast_mul]; omega
    rw [objN_past hin]
    clear hin hb
    go_enter Tryd.func40, Tryd.ntmps40
    go_wp2
    go_ret
    exact ⟨rfl, rfl⟩
set_option maxRecDepth 10000 in
set_option maxHeartbeats 2000000 in
theorem encode_ok (n k : Nat) (s : ByteArray) (z : Addr) (w : World) (hk1 : 1 ≤ k) (hkn : k ≤ n) (hn : n ≤ 12) (hs : s.size ≤ 1000) (hz : w.cell? ⟨3, 0, none⟩ = some (.iface 200 (.pointer (some z)))) :
    Calls Tryd.prog 20 #[.int .i64 (n : Int), .int .i64 (k : Int), .string s] w fun e w' => (∃ g, w.heap.size ≤ g ∧ e = .returned (.tuple #[.slice (some ⟨g, 0, none⟩) n n, .nilIface]) ∧ ShRow w' g n (encS k s)) ∧ Below w.heap.size w w' := by
  have hwd := wideN_le (size := s.size) hk1
  obtain ⟨w1, hw1⟩ : ∃ w1, w1 = w.alloc (.cells #[.string s] 9) := ⟨_, rfl⟩
  have hb1 : Below w.heap.size w w1 := by rw [hw1]; exact (Below.refl _ _).alloc (Nat.le_refl _) _
  have hs1 : w1.heap.size = w.heap.size + 1 := by rw [hw1]; simp
  have hp1 : w1.cell? ⟨w.heap.size, 0, none⟩ = some (.string s) := by rw [hw1, World.cell?_alloc_at _ _ _ _ rfl]; rfl
  have HS := spreadOf_ok n k s.size z w1 hk1 hkn hn hs ((hb1.cell (p := ⟨3, 0, none⟩) (lt_of_cell hz)).trans hz)
  have HW1 : Hid (w1 = w.alloc (.cells #[.string s] 9)) := hw1
  have HB1 : Hid (Below w.heap.size w w1) := hb1
  have hmk := run_make_shards n (by omega)
  clear hw1 hb1 hz
  go_enter Tryd.func20, Tryd.ntmps20
  go_wp2_with fail
  rw [← HW1.out]
  refine HS.mono ?_
  rintro e w2 ⟨⟨gm, rfl, hm2⟩, hb2⟩
  have hs2 : w1.heap.size ≤ w2.heap.size := hb2.size
  have hp2 : w2.cell? ⟨w.heap.size, 0, none⟩ = some (.string s) := (hb2.cell (p := ⟨w.heap.size, 0, none⟩) (by show w.heap.size < _; omega)).trans hp1
  have HM2 : Hid (Mat w2 (some ⟨gm, 0, none⟩) (spreadM k n)) := hm2
  have HB2 : Hid (Below w.heap.size w w2) := HB1.out.trans (hb2.mono (by omega))
  clear HS hm2 hb2 HB1 HW1 hp1
  have HWD := fun W => width_any s.size k W hk1 (by omega) (by omega)
  have HES : Hid (∀ i, encS k s i = ((i : Int), strOf (rowT (fun i j => Gf.shareOf (upToL k) j i) (objN s (wideN k s.size)) k (wideN k s.size) i))) := fun i => rfl
  generalize wideN k s.size = wd at *
  go_wp2_with fail
  refine (HWD _).mono ?_
  rintro e w2' ⟨rfl, hww⟩
  rw [hww]
  clear hww w2' HWD
  obtain ⟨w3, hw3⟩ : ∃ w3, w3 = w2.alloc (.cells #[.int .i64 (wd : Int)] 3) := ⟨_, rfl⟩
  have hb3 : Below w2.heap.size w2 w3 := by rw [hw3]; exact (Below.refl _ _).alloc (Nat.le_refl _) _
  have hs3 : w3.heap.size = w2.heap.size + 1 := by rw [hw3]; simp
  have hp3 : w3.cell? ⟨w.heap.size, 0, none⟩ = some (.string s) := (hb3.cell (p := ⟨w.heap.size, 0, none⟩) (by show w.heap.size < _; omega)).trans hp2
  have hv3 : w3.cell? ⟨w2.heap.size, 0, none⟩ = some (.int .i64 (wd : Int)) := by rw [hw3, World.cell?_alloc_at _ _ _ _ rfl]; rfl
  have HB3 : Hid (Below w.heap.size w w3) := HB2.out.trans (hb3.mono (by omega))
  have HT : Tells w3 40 #[.pointer (some ⟨w2.heap.size, 0, none⟩), .pointer (some ⟨w.heap.size, 0, none⟩)] (objN s wd) k wd := fun j c hj hc w4 h4 =>
    encode1_any w2.heap.size w.heap.size wd j c s w4 (by omega) (by omega) (by omega) ((h4.cell (p := ⟨w2.heap.size, 0, none⟩) (by show w2.heap.size < _; omega)).trans hv3) ((h4.cell (p := ⟨w.heap.size, 0, none⟩) (by show w.heap.size < _; omega)).trans hp3)
  have HR := rows_any (some ⟨gm, 0, none⟩) n k wd n (fun i j => Gf.shareOf (upToL k) j i) (objN s wd) 40 #[.pointer (some ⟨w2.heap.size, 0, none⟩), .pointer (some ⟨w.heap.size, 0, none⟩)] w3 (by omega) (by omega) hk1 (by omega) (by omega) (fun i j => Gf.shareOf_lt _ _ _) (fun j c => objN_lt s wd j c) (HM2.out.below hb3) (enters_of Tryd.func40 (by kernel_rfl) rfl) HT
  have HW3 : Hid (w3 = w2.alloc (.cells #[.int .i64 (wd : Int)] 3)) := hw3
  have hs3' : w2.heap.size < w3.heap.size := by omega
  have hs1' : w.heap.size < w1.heap.size := by omega
  clear hw3 hb3 HT HM2 HB2 hp2 hs3 hs1
  go_wp2_with fail
  rw [← HW3.out]
  refine HR.mono ?_
  rintro e w4 ⟨rfl, hr4, hb4⟩
  have HR4 : Hid (w4.rowIs w3.heap.size 9 n (fun i => .string (strOf (rowT (fun i j => Gf.shareOf (upToL k) j i) (objN s wd) k wd i)))) := hr4
  have HB4 : Hid (Below w.heap.size w w4) := HB3.out.trans (hb4.mono (by omega))
  have hz4 : w3.heap.size < w4.heap.size := hr4.lt
  clear HR hr4 hb4 HB3 HW3 hp3 hv3
  go_wp2
  have hS0 := ShRow.made w4 n
  have hB0 : Below w4.heap.size w4 (w4.alloc (.cells (madeCells #[.int .i64 0, .string ⟨#[]⟩] (n * 2)) 25)) := (Below.refl _ _).alloc (Nat.le_refl _) _
  generalize w4.alloc (.cells (madeCells #[.int .i64 0, .string ⟨#[]⟩] (n * 2)) 25) = w5 at hS0 hB0 ⊢
  have HS0 : Hid (ShRow w5 w4.heap.size n (fun _ => (0, ⟨#[]⟩))) := hS0
  have HB0 : Hid (Below w4.heap.size w4 w5) := hB0
  clear hS0 hB0 hmk
  go_loopw [38] (fun x wr => ∃ i : Nat, i ≤ n ∧ x = .int .i64 i ∧ ShRow wr w4.heap.size n (fun q => if q < i then encS k s q else (0, ⟨#[]⟩)) ∧ Below w4.heap.size w4 wr) (fun x _ => n - (intOf x).toNat)
  case atStart => exact ⟨0, by omega, rfl, HS0.out.congr (fun q _ => by simp), HB0.out⟩
  case round =>
    obtain ⟨i, hi, rfl, hS, hB⟩ := hrel
    obtain ⟨w6, rfl⟩ : ∃ w6, w6 = wr := ⟨_, rfl⟩
    have HSR : Hid (ShRow w6 w4.heap.size n (fun q => if q < i then encS k s q else (0, ⟨#[]⟩))) := hS
    have HB : Hid (Below w4.heap.size w4 w6) := hB
    have hgt : w4.heap.size < w6.heap.size := World.rowIs.lt hS
    clear hS hB HS0 HB0
    by_cases hil : i < n
    · have q0 : w6.cell? ⟨w3.heap.size, i, none⟩ = some (.string (encT k s i)) := by
        rw [HB.out.cell (p := ⟨w3.heap.size, i, none⟩) hz4, HR4.out.cell hil]
        exact congrArg (fun x : Int × ByteArray => some (Value.string x.2)) (HES.out i).symm
      have q1 : w6.cell? ⟨w4.heap.size, i * 2, none⟩ = some (.int .i64 0) := by rw [HSR.out.at_ hil, if_neg (Nat.lt_irrefl _)]
      have q2 : w6.cell? ⟨w4.heap.size, i * 2 + 1, none⟩ = some (.string ⟨#[]⟩) := by rw [HSR.out.text hil, if_neg (Nat.lt_irrefl _)]
      have f1 : w6.frozen? ⟨w4.heap.size, i * 2, none⟩ = false := World.rowIs.frozen HSR.out _
      have f2 : w6.frozen? ⟨w4.heap.size, i * 2 + 1, none⟩ = false := World.rowIs.frozen HSR.out _
      go_wp2
      go_roundw
      case rel =>
        refine ⟨i + 1, by omega, by go_num, ?_, ?_⟩
        · refine (HSR.out.set i (i : Int) (encT k s i)).congr (fun q _ => ?_)
          by_cases e : q = i
          · rw [if_pos e, if_pos (by omega), e]
            rfl
          · rw [if_neg e]
            by_cases e' : q < i
            · rw [if_pos e', if_pos (by omega)]
            · rw [if_neg e', if_neg (by omega)]
        · exact (HB.out.setCell (Nat.le_refl _) _).setCell (Nat.le_refl _) _
      case measure => simp [intOf]; omega
    · have hie : i = n := by omega
      subst hie
      go_wp2
      go_ret2
      exact ⟨⟨w4.heap.size, by have := HB4.out.size; omega, rfl, HSR.out.congr (fun q hq => by rw [if_pos hq])⟩, HB4.out.trans (HB.out.mono (HB4.out.size))⟩
set_option maxRecDepth 10000 in
theorem encode_bad (n k : Int) (s : ByteArray) (z : Addr) (w : World) (hsz : s.size ≤ 1000000) (h : ¬ (1 ≤ k ∧ k ≤ n ∧ n ≤ 12 ∧ s.size ≤ 1000)) (hz : w.cell? ⟨2, 0, none⟩ = some (.iface 200 (.pointer (some z)))) :
    Calls Tryd.prog 20 #[.int .i64 n, .int .i64 k, .string s] w fun e w' => e = .returned (.tuple #[.slice none 0 0, .iface 200 (.pointer (some z))]) ∧ Below w.heap.size w w' := by
  obtain ⟨w1, hw1⟩ : ∃ w1, w1 = w.alloc (.cells #[.string s] 9) := ⟨_, rfl⟩
  have hb1 : Below w.heap.size w w1 := by rw [hw1]; exact (Below.refl _ _).alloc (Nat.le_refl _) _
  have HS := spreadOf_bad n k (s.size : Int) z w1 (by omega) ((hb1.cell (p := ⟨2, 0, none⟩) (lt_of_cell hz)).trans hz)
  have HW1 : Hid (w1 = w.alloc (.cells #[.string s] 9)) := hw1
  have HB1 : Hid (Below w.heap.size w w1) := hb1
  clear hw1 hb1 hz h
  go_enter Tryd.func20, Tryd.ntmps20
  go_wp2_with fail
  rw [← HW1.out]
  refine HS.mono ?_
  rintro e w2 ⟨rfl, hb2⟩
  clear HS
  go_wp2
  go_ret2
  exact ⟨rfl, HB1.out.trans (hb2.mono HB1.out.size)⟩
theorem boxI_made (w : World) (n k size : Int) (t : TypeId) : (fun W : World => W.cell? ⟨w.heap.size, 0, none⟩ = some (.int .i64 n) ∧ W.cell? ⟨w.heap.size + 1, 0, none⟩ = some (.int .i64 k) ∧ W.cell? ⟨w.heap.size + 1 + 1, 0, none⟩ = some (.int .i64 size)) (((w.alloc (.cells #[.int .i64 n] t)).alloc (.cells #[.int .i64 k] t)).alloc (.cells #[.int .i64 size] t)) := by
  have e1 : (w.alloc (.cells #[.int .i64 n] t)).heap.size = w.heap.size + 1 := by simp
  have e2 : ((w.alloc (.cells #[.int .i64 n] t)).alloc (.cells #[.int .i64 k] t)).heap.size = w.heap.size + 1 + 1 := by simp
  have b1 : Below (w.alloc (.cells #[.int .i64 n] t)).heap.size (w.alloc (.cells #[.int .i64 n] t)) ((w.alloc (.cells #[.int .i64 n] t)).alloc (.cells #[.int .i64 k] t)) := (Below.refl _ _).alloc (Nat.le_refl _) _
  have b2 : Below ((w.alloc (.cells #[.int .i64 n] t)).alloc (.cells #[.int .i64 k] t)).heap.size ((w.alloc (.cells #[.int .i64 n] t)).alloc (.cells #[.int .i64 k] t)) (((w.alloc (.cells #[.int .i64 n] t)).alloc (.cells #[.int .i64 k] t)).alloc (.cells #[.int .i64 size] t)) := (Below.refl _ _).alloc (Nat.le_refl _) _
  refine ⟨?_, ?_, ?_⟩
  · rw [b2.cell (p := ⟨w.heap.size, 0, none⟩) (by show w.heap.size < _; omega), b1.cell (p := ⟨w.heap.size, 0, none⟩) (by show w.heap.size < _; omega), World.cell?_alloc_at _ _ _ _ rfl]; rfl
  · rw [b2.cell (p := ⟨w.heap.size + 1, 0, none⟩) (by show w.heap.size + 1 < _; omega), World.cell?_alloc_at _ _ _ _ e1.symm]; rfl
  · rw [World.cell?_alloc_at _ _ _ _ e2.symm]; rfl
set_option maxRecDepth 10000 in
theorem decode_bound (n k size : Int) (v : Value) (z : Addr) (w : World) (h : ¬ (1 ≤ k ∧ k ≤ n ∧ n ≤ 12 ∧ 0 ≤ size ∧ size ≤ 1000)) (hz : w.cell? ⟨2, 0, none⟩ = some (.iface 200 (.pointer (some z)))) :
    Calls Tryd.prog 7 #[.int .i64 n, .int .i64 k, .int .i64 size, v] w fun e w' => e = .returned (.tuple #[.string ⟨#[]⟩, .iface 200 (.pointer (some z))]) ∧ Below w.heap.size w w' := by
  obtain ⟨w1, hw1⟩ : ∃ w1, w1 = (((w.alloc (.cells #[.int .i64 n] 3)).alloc (.cells #[.int .i64 k] 3)).alloc (.cells #[.int .i64 size] 3)) := ⟨_, rfl⟩
  have hb1 : Below w.heap.size w w1 := by rw [hw1]; exact (((Below.refl _ _).alloc (Nat.le_refl _) _).alloc (by simp) _).alloc (by simp; omega) _
  obtain ⟨p0, p1, p2⟩ : w1.cell? ⟨w.heap.size, 0, none⟩ = some (.int .i64 n) ∧ w1.cell? ⟨w.heap.size + 1, 0, none⟩ = some (.int .i64 k) ∧ w1.cell? ⟨w.heap.size + 1 + 1, 0, none⟩ = some (.int .i64 size) := by rw [hw1]; exact boxI_made w n k size _
  have HS := spreadOf_bad n k size z w1 h ((hb1.cell (p := ⟨2, 0, none⟩) (lt_of_cell hz)).trans hz)
  have HW1 : Hid (w1 = (((w.alloc (.cells #[.int .i64 n] 3)).alloc (.cells #[.int .i64 k] 3)).alloc (.cells #[.int .i64 size] 3))) := hw1
  have HB1 : Hid (Below w.heap.size w w1) := hb1
  clear hw1 hb1 hz h
  go_enter Tryd.func7, Tryd.ntmps7
  go_wp2_with (rw [← HW1.out])
  refine HS.mono ?_
  rintro e w2 ⟨rfl, hb2⟩
  clear HS
  go_wp2
  go_ret2
  exact ⟨rfl, HB1.out.trans (hb2.mono HB1.out.size)⟩
set_option maxRecDepth 10000 in
set_option maxHeartbeats 4000000 in
theorem decode_bad (n k size : Nat) (p : Option Addr) (l : List (Int × ByteArray)) (cap : Nat) (z zs zf ze : Addr) (w : World) (hk1 : 1 ≤ k) (hkn : k ≤ n) (hn : n ≤ 12) (hsz : size ≤ 1000) (hl : l.length ≤ 1000) (hs : Shs w p l)
    (hz : w.cell? ⟨3, 0, none⟩ = some (.iface 200 (.pointer (some z)))) (hzs : w.cell? ⟨0, 0, none⟩ = some (.iface 200 (.pointer (some zs)))) (hzf : w.cell? ⟨1, 0, none⟩ = some (.iface 200 (.pointer (some zf))))
    (h : l.any (badB (n : Int) (wideN k size)) = true ∧ ze = zs ∨ l.any (badB (n : Int) (wideN k size)) = false ∧ (pickN k l l.length).length < k ∧ ze = zf) :
    Calls Tryd.prog 7 #[.int .i64 (n : Int), .int .i64 (k : Int), .int .i64 (size : Int), .slice p l.length cap] w fun e w' => e = .returned (.tuple #[.string ⟨#[]⟩, .iface 200 (.pointer (some ze))]) ∧ Below w.heap.size w w' := by
  have hwd := wideN_le (size := size) hk1
  have HFI : Hid (∀ W, Shs W p l → Calls Tryd.prog 25 #[.int .i64 (k : Int), .slice p l.length cap] W fun e w' => (∃ p' c', e = .returned (.slice p' (pickN k l l.length).length c') ∧ Shs w' p' (pickN k l l.length)) ∧ Below W.heap.size W w') := fun W hW => first_any k p l cap W (by omega) hl hW
  have HD1 : Hid (∀ y t W, W.cell? ⟨w.heap.size, 0, none⟩ = some (.int .i64 (n : Int)) → W.cell? ⟨w.heap.size + 1, 0, none⟩ = some (.int .i64 (k : Int)) → W.cell? ⟨w.heap.size + 1 + 1, 0, none⟩ = some (.int .i64 (size : Int)) → Calls Tryd.prog 23 (#[.agg #[.int .i64 y, .string t]] ++ #[.pointer (some ⟨w.heap.size, 0, none⟩), .pointer (some ⟨w.heap.size + 1, 0, none⟩), .pointer (some ⟨w.heap.size + 1 + 1, 0, none⟩)]) W fun e w2 => e = .returned (.bool (badB (n : Int) (wideN k size) (y, t))) ∧ Below W.heap.size W w2) := fun y t W h0 h1 h2 => decode1_any w.heap.size (w.heap.size + 1) (w.heap.size + 1 + 1) n k size y t W hk1 hkn hn hsz h0 h1 h2
  have HCASE : Hid (l.any (badB (n : Int) (wideN k size)) = true ∧ ze = zs ∨ l.any (badB (n : Int) (wideN k size)) = false ∧ (pickN k l l.length).length < k ∧ ze = zf) := h
  clear h
  generalize wideN k size = wd at *
  generalize pickN k l l.length = so at *
  obtain ⟨w1, hw1⟩ : ∃ w1, w1 = (((w.alloc (.cells #[.int .i64 (n : Int)] 3)).alloc (.cells #[.int .i64 (k : Int)] 3)).alloc (.cells #[.int .i64 (size : Int)] 3)) := ⟨_, rfl⟩
  have hb1 : Below w.heap.size w w1 := by rw [hw1]; exact (((Below.refl _ _).alloc (Nat.le_refl _) _).alloc (by simp) _).alloc (by simp; omega) _
  have hp1 : Box3 w1 w.heap.size n k size := by rw [hw1]; exact box3_made w n k size _
  have p0 := hp1.c0
  have p1 := hp1.c1
  have p2 := hp1.c2
  have HP1 : Hid (Box3 w1 w.heap.size n k size) := hp1
  have HS := spreadOf_ok n k size z w1 hk1 hkn hn hsz ((hb1.cell (p := ⟨3, 0, none⟩) (lt_of_cell hz)).trans hz)
  have HW1 : Hid (w1 = (((w.alloc (.cells #[.int .i64 (n : Int)] 3)).alloc (.cells #[.int .i64 (k : Int)] 3)).alloc (.cells #[.int .i64 (size : Int)] 3))) := hw1
  have HB1 : Hid (Below w.heap.size w w1) := hb1
  have HL1 : Hid (Shs w1 p l) := hs.below hb1
  have HE : Hid (∀ W, Below w.heap.size w W → W.cell? ⟨0, 0, none⟩ = some (.iface 200 (.pointer (some zs))) ∧ W.cell? ⟨1, 0, none⟩ = some (.iface 200 (.pointer (some zf)))) := fun W hW => ⟨(hW.cell (p := ⟨0, 0, none⟩) (lt_of_cell hzs)).trans hzs, (hW.cell (p := ⟨1, 0, none⟩) (lt_of_cell hzf)).trans hzf⟩
  clear hw1 hb1 hz hzs hzf hs hp1
  go_enter Tryd.func7, Tryd.ntmps7
  go_wp2_with (rw [← HW1.out])
  refine HS.mono ?_
  rintro e w2 ⟨⟨gm, rfl, hm2⟩, hb2⟩
  have hp2 := HP1.out.below hb2
  have HP2 : Hid (Box3 w2 w.heap.size n k size) := hp2
  have q0 := hp2.c0
  have q1 := hp2.c1
  have q2 := hp2.c2
  have HB2 : Hid (Below w.heap.size w w2) := HB1.out.trans (hb2.mono HB1.out.size)
  have HL2 : Hid (Shs w2 p l) := HL1.out.below hb2
  have HA : Asks w2 23 #[.pointer (some ⟨w.heap.size, 0, none⟩), .pointer (some ⟨w.heap.size + 1, 0, none⟩), .pointer (some ⟨w.heap.size + 1 + 1, 0, none⟩)] l (badB (n : Int) wd) := fun i hi w4 h4 => by
    have hx := HD1.out (shAt l i).1 (shAt l i).2 w4 ((hp2.below h4).c0) ((hp2.below h4).c1) ((hp2.below h4).c2)
    exact hx
  have HC := contains_any p l cap 23 #[.pointer (some ⟨w.heap.size, 0, none⟩), .pointer (some ⟨w.heap.size + 1, 0, none⟩), .pointer (some ⟨w.heap.size + 1 + 1, 0, none⟩)] (badB (n : Int) wd) w2 (by omega) HL2.out (enters_of Tryd.func23 (by kernel_rfl) rfl) HA
  clear HS hm2 hb2 HB1 HW1 HP1 p0 p1 p2 HL1 hp2 HA HD1
  rcases HCASE.out with ⟨hbad, hze⟩ | ⟨hgood, hfew, hze⟩
  · rw [hbad] at HC
    subst hze
    clear hbad HCASE HFI
    go_wp2_with fail
    refine HC.mono ?_
    rintro e w4 ⟨rfl, hb4⟩
    have HB4 : Hid (Below w.heap.size w w4) := HB2.out.trans (hb4.mono HB2.out.size)
    obtain ⟨q3, _⟩ := HE.out w4 HB4.out
    clear HC hb4 HE
    go_wp2
    go_quiet (fail)
    go_wp2
    go_ret2
    exact ⟨rfl, below_drewN HB4.out _⟩
  · rw [hgood] at HC
    subst hze
    clear hgood HCASE
    go_wp2_with fail
    refine HC.mono ?_
    rintro e w4 ⟨rfl, hb4⟩
    have HB4 : Hid (Below w.heap.size w w4) := HB2.out.trans (hb4.mono HB2.out.size)
    have HF4 := HFI.out w4 (HL2.out.below hb4)
    have HP4 : Hid (Box3 w4 w.heap.size n k size) := HP2.out.below hb4
    clear q0 q1 q2
    have q1 := HP4.out.c1
    clear HC hb4 HFI
    go_wp2_with fail
    refine HF4.mono ?_
    rintro e w5 ⟨⟨p5, c5, rfl, _⟩, hb5⟩
    have HB6 : Hid (Below w.heap.size w (w5.alloc (.cells #[.slice p5 so.length c5] 22))) := (HB4.out.trans (hb5.mono HB4.out.size)).alloc (by have := HB4.out.size; have := hb5.size; omega) _
    obtain ⟨_, q3⟩ := HE.out _ HB6.out
    have q4 := (HP4.out.below (hb5.trans (((Below.refl _ w5).alloc (Nat.le_refl _) (.cells #[.slice p5 so.length c5] 22)).mono hb5.size))).c1
    clear HF4 hb5 HE q1
    go_wp2
    go_quiet (fail)
    go_wp2
    go_ret2
    exact ⟨rfl, below_drewN HB6.out _⟩
theorem toList_inj {a b : ByteArray} (h : a.toList = b.toList) : a = b := by
  rw [ByteArray.toList_eq, ByteArray.toList_eq] at h
  exact ByteArray.ext (Array.toList_inj.1 h)
/-- allOf where Decode has an error. -/
theorem allOf_bad (a0 a1 a2 v : Value) (z : Addr) (w : World)
    (HD : Calls Tryd.prog 7 #[a0, a1, a2, v] w fun e w' => e = .returned (.tuple #[.string ⟨#[]⟩, .iface 200 (.pointer (some z))]) ∧ Below w.heap.size w w') :
    Calls Tryd.prog 36 #[a0, a1, a2, v] w fun e w' => e = .returned (.tuple #[.slice none 0 0, .iface 200 (.pointer (some z))]) ∧ Below w.heap.size w w' := by
  go_enter Tryd.func36, Tryd.ntmps36
  go_wp2_with fail
  refine HD.mono ?_
  rintro e w1 ⟨rfl, hb1⟩
  clear HD
  go_wp2
  go_ret2
  exact ⟨rfl, hb1⟩
set_option maxRecDepth 10000 in
theorem allOf_ok (n k size : Nat) (p : Option Addr) (l : List (Int × ByteArray)) (cap : Nat) (z : Addr) (w : World) (hk1 : 1 ≤ k) (hkn : k ≤ n) (hn : n ≤ 12) (hsz : size ≤ 1000) (hl : l.length ≤ 1000) (hf : Fits n k size l) (hs : Shs w p l)
    (hz : w.cell? ⟨3, 0, none⟩ = some (.iface 200 (.pointer (some z)))) :
    Calls Tryd.prog 36 #[.int .i64 (n : Int), .int .i64 (k : Int), .int .i64 (size : Int), .slice p l.length cap] w fun e w' => (∃ g, w.heap.size ≤ g ∧ e = .returned (.tuple #[.slice (some ⟨g, 0, none⟩) n n, .nilIface]) ∧ ShRow w' g n (encS k (decT k size (pickN k l l.length)))) ∧ Below w.heap.size w w' := by
  have HD := decode_ok n k size p l cap z w hk1 hkn hn hsz hl hf hs hz
  have hds := decT_size k size (pickN k l l.length)
  have HE : Hid (∀ W, W.cell? ⟨3, 0, none⟩ = some (.iface 200 (.pointer (some z))) → Calls Tryd.prog 20 #[.int .i64 (n : Int), .int .i64 (k : Int), .string (decT k size (pickN k l l.length))] W fun e w' => (∃ g, W.heap.size ≤ g ∧ e = .returned (.tuple #[.slice (some ⟨g, 0, none⟩) n n, .nilIface]) ∧ ShRow w' g n (encS k (decT k size (pickN k l l.length)))) ∧ Below W.heap.size W w') := fun W hW => encode_ok n k _ z W hk1 hkn hn (by omega) hW
  have HZ : Hid (w.cell? ⟨3, 0, none⟩ = some (.iface 200 (.pointer (some z)))) := hz
  clear hds hf hs hz
  generalize decT k size (pickN k l l.length) = dt at HD HE ⊢
  go_enter Tryd.func36, Tryd.ntmps36
  go_wp2_with fail
  refine HD.mono ?_
  rintro e w1 ⟨rfl, hb1⟩
  have HB1 : Hid (Below w.heap.size w w1) := hb1
  have HE1 := HE.out w1 ((hb1.cell (p := ⟨3, 0, none⟩) (lt_of_cell HZ.out)).trans HZ.out)
  clear HD hb1 HZ HE
  go_wp2_with fail
  refine HE1.mono ?_
  rintro e w2 ⟨⟨g, hg, rfl, hr⟩, hb2⟩
  clear HE1
  go_wp2
  go_ret2
  exact ⟨⟨g, Nat.le_trans HB1.out.size hg, rfl, hr⟩, HB1.out.trans (hb2.mono HB1.out.size)⟩
set_option maxRecDepth 10000 in
set_option maxHeartbeats 1000000 in
theorem agree1_any (pa g n a : Nat) (f : Nat → Int × ByteArray) (t : ByteArray) (w : World) (ha : a < n) (hfa : (f a).1 = (a : Int)) (hp : w.cell? ⟨pa, 0, none⟩ = some (.slice (some ⟨g, 0, none⟩) n n)) (hr : ShRow w g n f) :
    Calls Tryd.prog 37 (#[.agg #[.int .i64 (a : Int), .string t]] ++ #[.pointer (some ⟨pa, 0, none⟩)]) w fun e w2 => e = .returned (.bool (!decide (t = (f a).2))) ∧ Below w.heap.size w w2 := by
  have hlp := lt_of_cell hp
  have hlg : g < w.heap.size := World.rowIs.lt hr
  have q1 := hr.at_ ha
  have q2 := hr.text ha
  rw [hfa] at q1
  generalize (f a).2 = u at q2 ⊢
  clear hr hfa
  by_cases he : t = u
  · subst he
    rw [decide_eq_true rfl]
    go_enter Tryd.func37, Tryd.ntmps37
    go_wp2
    go_quiet (fail)
    go_wp2
    go_ret
    exact ⟨rfl, below_drewN ((Below.refl _ _).alloc (Nat.le_refl _) _) _⟩
  · rw [decide_eq_false he]
    have hl : ¬ t.toList = u.toList := fun e => he (toList_inj e)
    have hl' : (t.toList == u.toList) = false := by simpa using hl
    clear he
    go_enter Tryd.func37, Tryd.ntmps37
    go_wp2
    go_quiet (fail)
    go_wp2
    go_ret
    exact ⟨rfl, below_drewN ((Below.refl _ _).alloc (Nat.le_refl _) _) _⟩
/-- Agree where Decode has an error. -/
theorem agree_bad (a0 a1 a2 v : Value) (z : Addr) (w : World)
    (HD : Calls Tryd.prog 7 #[a0, a1, a2, v] w fun e w' => e = .returned (.tuple #[.string ⟨#[]⟩, .iface 200 (.pointer (some z))]) ∧ Below w.heap.size w w') :
    Calls Tryd.prog 11 #[a0, a1, a2, v] w fun e w' => e = .returned (.tuple #[.bool false, .iface 200 (.pointer (some z))]) ∧ Below w.heap.size w w' := by
  have HA := allOf_bad a0 a1 a2 v z w HD
  clear HD
  go_enter Tryd.func11, Tryd.ntmps11
  go_wp2_with fail
  refine HA.mono ?_
  rintro e w1 ⟨rfl, hb1⟩
  clear HA
  go_wp2
  go_ret2
  exact ⟨rfl, hb1.alloc hb1.size _⟩
/-- Is a shard another one than that of the object s? -/
def neB (k : Nat) (s : ByteArray) (x : Int × ByteArray) : Bool := !decide (x.2 = encT k s x.1.toNat)
set_option maxRecDepth 10000 in
theorem agree_ok (n k size : Nat) (p : Option Addr) (l : List (Int × ByteArray)) (cap : Nat) (z : Addr) (w : World) (hk1 : 1 ≤ k) (hkn : k ≤ n) (hn : n ≤ 12) (hsz : size ≤ 1000) (hl : l.length ≤ 1000) (hf : Fits n k size l) (hs : Shs w p l)
    (hz : w.cell? ⟨3, 0, none⟩ = some (.iface 200 (.pointer (some z)))) :
    Calls Tryd.prog 11 #[.int .i64 (n : Int), .int .i64 (k : Int), .int .i64 (size : Int), .slice p l.length cap] w fun e w' => e = .returned (.tuple #[.bool (!l.any (neB k (decT k size (pickN k l l.length)))), .nilIface]) ∧ Below w.heap.size w w' := by
  have HA := allOf_ok n k size p l cap z w hk1 hkn hn hsz hl hf hs hz
  have HF : Hid (∀ x ∈ l, 0 ≤ x.1 ∧ x.1 < n ∧ x.2.size = wideN k size) := fun x hx => hf.at_ hx
  have HS : Hid (Shs w p l) := hs
  clear hf hs hz
  generalize decT k size (pickN k l l.length) = dt at HA ⊢
  generalize hbb : l.any (neB k dt) = bb
  have HBB : Hid (l.any (neB k dt) = bb) := hbb
  clear hbb
  go_enter Tryd.func11, Tryd.ntmps11
  go_wp2_with fail
  refine HA.mono ?_
  rintro e w1 ⟨⟨g, hg, rfl, hr⟩, hb1⟩
  obtain ⟨w2, hw2⟩ : ∃ w2, w2 = w1.alloc (.cells #[.slice (some ⟨g, 0, none⟩) n n] 22) := ⟨_, rfl⟩
  have hb2 : Below w1.heap.size w1 w2 := by rw [hw2]; exact (Below.refl _ _).alloc (Nat.le_refl _) _
  have hs2 : w1.heap.size < w2.heap.size := by rw [hw2]; simp
  have hp2 : w2.cell? ⟨w1.heap.size, 0, none⟩ = some (.slice (some ⟨g, 0, none⟩) n n) := by rw [hw2, World.cell?_alloc_at _ _ _ _ rfl]; rfl
  have HR2 : Hid (ShRow w2 g n (encS k dt)) := hr.below hb2
  have HASK : Asks w2 37 #[.pointer (some ⟨w1.heap.size, 0, none⟩)] l (neB k dt) := fun i hi w3 h3 => by
    have hx := HF.out _ (shAt_mem hi)
    have h := agree1_any w1.heap.size g n (shAt l i).1.toNat (encS k dt) (shAt l i).2 w3 (by omega) rfl ((h3.cell (p := ⟨w1.heap.size, 0, none⟩) hs2).trans hp2) (HR2.out.below h3)
    rw [show (((shAt l i).1.toNat : Nat) : Int) = (shAt l i).1 by omega] at h
    exact h
  have HC := contains_any p l cap 37 #[.pointer (some ⟨w1.heap.size, 0, none⟩)] (neB k dt) w2 (by omega) ((HS.out.below hb1).below hb2) (enters_of Tryd.func37 (by kernel_rfl) rfl) HASK
  have HW2 : Hid (w2 = w1.alloc (.cells #[.slice (some ⟨g, 0, none⟩) n n] 22)) := hw2
  have HB2 : Hid (Below w.heap.size w w2) := hb1.trans (hb2.mono hb1.size)
  clear HA hr hb1 hw2 hb2 hp2 HASK HR2 HS HF
  rw [HBB.out] at HC
  go_wp2_with fail
  rw [← HW2.out]
  refine HC.mono ?_
  rintro e w3 ⟨rfl, hb3⟩
  clear HC
  go_wp2
  go_ret2
  exact ⟨rfl, HB2.out.trans (hb3.mono HB2.out.size)⟩
set_option maxRecDepth 10000 in
theorem rebuild_bound (n k size at_ : Int) (v : Value) (z : Addr) (w : World) (h : at_ < 0 ∨ n ≤ at_) (hz : w.cell? ⟨2, 0, none⟩ = some (.iface 200 (.pointer (some z)))) :
    Calls Tryd.prog 12 #[.int .i64 n, .int .i64 k, .int .i64 size, .int .i64 at_, v] w fun e w' => e = .returned (.tuple #[.agg #[.int .i64 0, .string ⟨#[]⟩], .iface 200 (.pointer (some z))]) ∧ Below w.heap.size w w' := by
  have hlz := lt_of_cell hz
  by_cases h1 : at_ < 0
  · clear h
    go_enter Tryd.func12, Tryd.ntmps12
    go_wp2
    go_region
    go_wp2
    refine bodyPost_ret (v := .tuple #[.agg #[.int .i64 0, .string ⟨#[]⟩], .iface 200 (.pointer (some z))]) (by simp [results, Tryd.results12, go_sem]) rfl ⟨rfl, ?_⟩
    exact ((Below.refl _ _).alloc (Nat.le_refl _) _).drew
  · have h2 : n ≤ at_ := by omega
    clear h
    go_enter Tryd.func12, Tryd.ntmps12
    go_wp2
    go_region
    go_wp2
    refine bodyPost_ret (v := .tuple #[.agg #[.int .i64 0, .string ⟨#[]⟩], .iface 200 (.pointer (some z))]) (by simp [results, Tryd.results12, go_sem]) rfl ⟨rfl, ?_⟩
    exact ((Below.refl _ _).alloc (Nat.le_refl _) _).drew
/-- The world behind the result's own place. -/
def resW (w : World) : World := w.alloc (.cells #[.int .i64 0, .string ⟨#[]⟩] 25)
theorem resW_below (w : World) : Below w.heap.size w (resW w) := (Below.refl _ _).alloc (Nat.le_refl _) _
theorem resW_size (w : World) : w.heap.size < (resW w).heap.size := by unfold resW; simp
theorem resW_cell (w : World) : (resW w).heap[w.heap.size]? = some (.cells #[.int .i64 0, .string ⟨#[]⟩] 25 (0, 0)) := by unfold resW World.alloc; simp
/-- Rebuild where Decode has an error. -/
theorem rebuild_bad (n : Int) (a1 a2 v : Value) (at_ : Int) (z : Addr) (w : World) (h0 : 0 ≤ at_) (h1 : at_ < n)
    (HD : Calls Tryd.prog 7 #[.int .i64 n, a1, a2, v] (resW w) fun e w' => e = .returned (.tuple #[.string ⟨#[]⟩, .iface 200 (.pointer (some z))]) ∧ Below (resW w).heap.size (resW w) w') :
    Calls Tryd.prog 12 #[.int .i64 n, a1, a2, .int .i64 at_, v] w fun e w' => e = .returned (.tuple #[.agg #[.int .i64 0, .string ⟨#[]⟩], .iface 200 (.pointer (some z))]) ∧ Below w.heap.size w w' := by
  have HA := allOf_bad (.int .i64 n) a1 a2 v z (resW w) HD
  have HW : Hid (resW w = w.alloc (.cells #[.int .i64 0, .string ⟨#[]⟩] 25)) := by show _ = _; rfl
  clear HD
  go_enter Tryd.func12, Tryd.ntmps12
  go_wp2_with fail
  rw [← HW.out]
  refine HA.mono ?_
  rintro e w1 ⟨rfl, hb1⟩
  have hs1 := resW_size w
  have hbk : w1.heap[w.heap.size]? = some (.cells #[.int .i64 0, .string ⟨#[]⟩] 25 (0, 0)) := (hb1.block _ hs1).trans (resW_cell w)
  have q1 : w1.cell? ⟨w.heap.size, 0, none⟩ = some (.int .i64 0) := by simp [World.cell?, hbk]
  have q2 : w1.cell? ⟨w.heap.size, 1, none⟩ = some (.string ⟨#[]⟩) := by simp [World.cell?, hbk]
  have f1 : w1.frozen? ⟨w.heap.size, 0, none⟩ = false := by simp [World.frozen?, hbk]
  have f2 : w1.frozen? ⟨w.heap.size, 1, none⟩ = false := by simp [World.frozen?, hbk]
  have HB1 : Hid (Below w.heap.size w w1) := (resW_below w).trans (hb1.mono (by omega))
  have HRI : Hid (w1.rowIs w.heap.size 25 2 (shF fun _ => (0, ⟨#[]⟩))) := ⟨_, hbk, rfl, fun i hi => by
    match i, hi with
    | 0, _ => rfl
    | 1, _ => rfl⟩
  clear HA hb1 hbk hs1
  go_wp2
  have hr := (HRI.out.set 0 (.int .i64 0)).set 1 (.string ⟨#[]⟩)
  have hbf : Below w.heap.size w ((w1.setCell ⟨w.heap.size, 0, none⟩ (.int .i64 0)).setCell ⟨w.heap.size, 1, none⟩ (.string ⟨#[]⟩)) := (HB1.out.setCell (Nat.le_refl _) _).setCell (Nat.le_refl _) _
  generalize (w1.setCell ⟨w.heap.size, 0, none⟩ (.int .i64 0)).setCell ⟨w.heap.size, 1, none⟩ (.string ⟨#[]⟩) = wf at hr hbf ⊢
  have c1 : wf.cell? ⟨w.heap.size, 0, none⟩ = some (.int .i64 0) := hr.cell (i := 0) (by decide)
  have c2 : wf.cell? ⟨w.heap.size, 1, none⟩ = some (.string ⟨#[]⟩) := hr.cell (i := 1) (by decide)
  exact bodyPost_ret (v := .tuple #[.agg #[.int .i64 0, .string ⟨#[]⟩], .iface 200 (.pointer (some z))]) (by simp [results, Tryd.results12, go_sem, c1, c2]) rfl ⟨rfl, hbf⟩
set_option maxRecDepth 10000 in
theorem rebuild_ok (n k size at_ : Nat) (p : Option Addr) (l : List (Int × ByteArray)) (cap : Nat) (z : Addr) (w : World) (hk1 : 1 ≤ k) (hkn : k ≤ n) (hn : n ≤ 12) (hsz : size ≤ 1000) (hl : l.length ≤ 1000) (hat : at_ < n) (hf : Fits n k size l) (hs : Shs w p l)
    (hz : w.cell? ⟨3, 0, none⟩ = some (.iface 200 (.pointer (some z)))) :
    Calls Tryd.prog 12 #[.int .i64 (n : Int), .int .i64 (k : Int), .int .i64 (size : Int), .int .i64 (at_ : Int), .slice p l.length cap] w fun e w' => e = .returned (.tuple #[.agg #[.int .i64 (at_ : Int), .string (encT k (decT k size (pickN k l l.length)) at_)], .nilIface]) ∧ Below w.heap.size w w' := by
  have hwb := resW_below w
  have HA := allOf_ok n k size p l cap z (resW w) hk1 hkn hn hsz hl hf (hs.below hwb) ((hwb.cell (p := ⟨3, 0, none⟩) (lt_of_cell hz)).trans hz)
  have HW : Hid (resW w = w.alloc (.cells #[.int .i64 0, .string ⟨#[]⟩] 25)) := by show _ = _; rfl
  clear hf hs hz hwb
  generalize decT k size (pickN k l l.length) = dt at HA ⊢
  go_enter Tryd.func12, Tryd.ntmps12
  go_wp2_with fail
  rw [← HW.out]
  refine HA.mono ?_
  rintro e w1 ⟨⟨g, hg, rfl, hrow⟩, hb1⟩
  have hs1 := resW_size w
  have hbk : w1.heap[w.heap.size]? = some (.cells #[.int .i64 0, .string ⟨#[]⟩] 25 (0, 0)) := (hb1.block _ hs1).trans (resW_cell w)
  have q1 : w1.cell? ⟨w.heap.size, 0, none⟩ = some (.int .i64 0) := by simp [World.cell?, hbk]
  have q2 : w1.cell? ⟨w.heap.size, 1, none⟩ = some (.string ⟨#[]⟩) := by simp [World.cell?, hbk]
  have f1 : w1.frozen? ⟨w.heap.size, 0, none⟩ = false := by simp [World.frozen?, hbk]
  have f2 : w1.frozen? ⟨w.heap.size, 1, none⟩ = false := by simp [World.frozen?, hbk]
  have r1 : w1.cell? ⟨g, at_ * 2, none⟩ = some (.int .i64 (at_ : Int)) := hrow.at_ hat
  have r2 : w1.cell? ⟨g, at_ * 2 + 1, none⟩ = some (.string (encT k dt at_)) := hrow.text hat
  have HB1 : Hid (Below w.heap.size w w1) := (resW_below w).trans (hb1.mono (by omega))
  have HRI : Hid (w1.rowIs w.heap.size 25 2 (shF fun _ => (0, ⟨#[]⟩))) := ⟨_, hbk, rfl, fun i hi => by
    match i, hi with
    | 0, _ => rfl
    | 1, _ => rfl⟩
  clear HA hb1 hbk hs1 hrow hg
  go_wp2
  have hr := (HRI.out.set 0 (.int .i64 (at_ : Int))).set 1 (.string (encT k dt at_))
  have hbf : Below w.heap.size w ((w1.setCell ⟨w.heap.size, 0, none⟩ (.int .i64 (at_ : Int))).setCell ⟨w.heap.size, 1, none⟩ (.string (encT k dt at_))) := (HB1.out.setCell (Nat.le_refl _) _).setCell (Nat.le_refl _) _
  generalize (w1.setCell ⟨w.heap.size, 0, none⟩ (.int .i64 (at_ : Int))).setCell ⟨w.heap.size, 1, none⟩ (.string (encT k dt at_)) = wf at hr hbf ⊢
  have c1 : wf.cell? ⟨w.heap.size, 0, none⟩ = some (.int .i64 (at_ : Int)) := hr.cell (i := 0) (by decide)
  have c2 : wf.cell? ⟨w.heap.size, 1, none⟩ = some (.string (encT k dt at_)) := hr.cell (i := 1) (by decide)
  exact bodyPost_ret (v := .tuple #[.agg #[.int .i64 (at_ : Int), .string (encT k dt at_)], .nilIface]) (by simp [results, Tryd.results12, go_sem, c1, c2]) rfl ⟨rfl, hbf⟩
theorem encT_single : encT 1 ⟨#[97, 98]⟩ 0 = ⟨#[97, 98]⟩ := by decide +kernel
set_option maxRecDepth 10000 in
set_option maxHeartbeats 1000000 in
theorem single_any (z : Addr) (w : World) (hz : w.cell? ⟨3, 0, none⟩ = some (.iface 200 (.pointer (some z)))) :
    Calls Tryd.prog 6 #[] w fun e w' => e = .returned (.bool true) ∧ Below w.heap.size w w' := by
  have HC := encode_ok 1 1 ⟨#[97, 98]⟩ z w (by decide) (by decide) (by decide) (by decide) hz
  clear hz
  go_enter Tryd.func6, Tryd.ntmps6
  go_wp2_with fail
  refine HC.mono ?_
  rintro e w1 ⟨⟨g, hg, rfl, hs⟩, hb⟩
  have q1 : w1.cell? ⟨g, 0, none⟩ = some (.int .i64 0) := hs.at_ (i := 0) (by decide)
  have q2 : w1.cell? ⟨g, 1, none⟩ = some (.string ⟨#[97, 98]⟩) := by
    have := hs.text (i := 0) (by decide)
    rw [show (encS 1 ⟨#[97, 98]⟩ 0).2 = ⟨#[97, 98]⟩ from encT_single] at this
    exact this
  have HB : Hid (Below w.heap.size w w1) := hb
  clear hs hb HC
  go_wp2
  go_ret
  exact ⟨rfl, HB.out⟩
section
open Go.Extern.Stop Go.Stop Go.Extern
theorem coded_nil (w : World) : Calls Tryd.prog 10 #[.nilIface, .int .i64 0] w fun e w' => e = .returned (.bool true) ∧ w' = w := by
  go_enter Tryd.func10, Tryd.ntmps10
  go_wp2_with (go_at_call 35; refine (code_nil _).mono ?_; rintro e w' ⟨rfl, rfl⟩)
  go_ret
  exact ⟨rfl, rfl⟩
/-- 'coded' of a sentinel and its own number. -/
theorem coded_sent (ad : Nat → Addr) (i : Nat) (hi : i < 12) (w : World) (hS : Sent w ad) :
    Calls Tryd.prog 10 #[.iface 200 (.pointer (some (ad i))), .int .i64 ((i + 1 : Nat) : Int)] w fun e w' => e = .returned (.bool true) ∧ Below w.heap.size w w' := by
  go_enter Tryd.func10, Tryd.ntmps10
  go_wp2_with fail
  refine (code_sent ad i hi _ hS).mono ?_
  rintro e w2 ⟨rfl, hb2⟩
  go_wp2
  go_ret
  exact ⟨rfl, hb2⟩
end
structure StillS (w0 w : World) (ad : Nat → Addr) : Prop where
  sent : Sent w ad
  below : Below w0.heap.size w0 w
theorem StillS.next {w0 w w' : World} {ad : Nat → Addr} (h : StillS w0 w ad) (hb : Below w.heap.size w w') : StillS w0 w' ad := ⟨h.sent.below hb, h.below.trans (hb.mono h.below.size)⟩
theorem coded_shape (ad : Nat → Addr) (w : World) (hS : Sent w ad) :
    Calls Tryd.prog 10 #[.iface 200 (.pointer (some (ad 2))), .int .i64 3] w fun e w' => e = .returned (.bool true) ∧ Below w.heap.size w w' := coded_sent ad 2 (by decide) w hS
theorem coded_zero (ad : Nat → Addr) (w : World) (hS : Sent w ad) :
    Calls Tryd.prog 10 #[.iface 200 (.pointer (some (ad 11))), .int .i64 12] w fun e w' => e = .returned (.bool true) ∧ Below w.heap.size w w' := coded_sent ad 11 (by decide) w hS
theorem coded_bound (ad : Nat → Addr) (w : World) (hS : Sent w ad) :
    Calls Tryd.prog 10 #[.iface 200 (.pointer (some (ad 1))), .int .i64 2] w fun e w' => e = .returned (.bool true) ∧ Below w.heap.size w w' := coded_sent ad 1 (by decide) w hS
theorem encN_rsum (s : ByteArray) (k wd i c : Nat) : ∀ j, encN (bytesOf s) k wd i c j = rsumN (fun i j => Gf.shareOf (upToL k) j i) (objN s wd) i c j
  | 0 => rfl
  | j + 1 => by
    show (if j * wd + c < (bytesOf s).length then encN (bytesOf s) k wd i c j ^^^ _ else encN (bytesOf s) k wd i c j) = rsumN _ _ i c j ^^^ Gf.mul _ (objN s wd j c)
    rw [encN_rsum s k wd i c j]
    have hl : (bytesOf s).length = s.size := by simp [bytesOf]
    by_cases h : j * wd + c < s.size
    · rw [if_pos (by omega)]
      rfl
    · rw [if_neg (by omega), objN_past h, Gf.mul_zero, Nat.xor_zero]
theorem encT_eq (k : Nat) (s : ByteArray) (i : Nat) : strOf (encRow (bytesOf s) k (wideN k s.size) i) = encT k s i := by
  unfold encT encRow rowT
  rw [rowFn_congr _ _ _ (fun c _ => encN_rsum s k (wideN k s.size) i c k)]
theorem shCells_vals (l : List (Nat × List Nat)) : shCells l = shVals (l.map fun x => ((x.1 : Int), strOf x.2)) := by
  unfold shCells shVals
  rw [List.flatMap_map]
theorem encL_length (n k : Nat) (s : ByteArray) : (encL n k s).length = n := by simp [encL]
/-- The document's own shards are these. -/
theorem rencode_shs (n k : Nat) (s : ByteArray) (w : World) (hk1 : 1 ≤ k) (hkn : k ≤ n) (hn : n ≤ 12) (hs : s.size ≤ 3000) :
    Calls Tryd.prog 14 #[.int .i64 (n : Int), .int .i64 (k : Int), .string s] w fun e w' => (∃ p c, e = .returned (.slice p n c) ∧ Shs w' p (encL n k s)) ∧ Below w.heap.size w w' := by
  refine (rencode_any n k s w hk1 hkn hn hs).mono ?_
  rintro e w' ⟨⟨v, rfl, hv⟩, hb⟩
  refine ⟨?_, hb⟩
  unfold OwnSh at hv
  rw [shCells_vals, List.map_map, List.length_map, List.length_range] at hv
  have hl : (List.range n).map ((fun x : Nat × List Nat => ((x.1 : Int), strOf x.2)) ∘ fun i => (i, encRow (bytesOf s) k (wideN k s.size) i)) = encL n k s := by
    unfold encL
    refine List.map_congr_left fun i _ => ?_
    show ((i : Int), strOf (encRow (bytesOf s) k (wideN k s.size) i)) = encS k s i
    rw [encT_eq]
    rfl
  rw [hl] at hv
  have hv' : w'.ownsRow w.heap.size 25 2 v (encL n k s).length (shVals (encL n k s)) := by rw [encL_length]; exact hv
  obtain ⟨p, c, rfl, h⟩ := shs_of_own hv'
  exact ⟨p, c, by rw [encL_length], h⟩
end Go.Proofs.YtppcijpgalaohaaDoor
