/- Texts laid together. -/
import Derived.Test.YtaaahibncffcmaaDoorHa4
namespace Go.Proofs.YtaaahibncffcmaaDoor
open Go.RowKit
set_option maxRecDepth 10000 in
theorem width_any (size k : Nat) (w : World) (hk1 : 1 ≤ k) (hk : k ≤ 1000) (hs : size ≤ 100000) :
    Calls Tryd.prog 42 #[.int .i64 (size : Int), .int .i64 (k : Int)] w fun e w' => e = .returned (.int .i64 ((wideN k size : Nat) : Int)) ∧ w' = w := by
  have h1 : (1 : Int) ≤ (k : Int) := by omega
  have HE : Hid (((size : Int) + (k : Int) - 1) / (k : Int) = ((wideN k size : Nat) : Int)) := by
    show _ = _
    unfold wideN
    rw [Int.natCast_ediv]
    congr 1
    omega
  go_enter Tryd.func42, Tryd.ntmps42
  go_wp2
  go_ret
  exact ⟨ret_int HE.out, rfl⟩
set_option maxRecDepth 10000 in
theorem szfits_any (size : Int) (w : World) : Calls Tryd.prog 68 #[.int .i64 size] w fun e w' => e = .returned (.bool (decide (0 ≤ size ∧ size ≤ 1000))) ∧ w' = w := by
  by_cases h1 : 0 ≤ size
  · by_cases h2 : size ≤ 1000
    · have HE : Hid (decide (0 ≤ size ∧ size ≤ 1000) = true) := decide_eq_true ⟨h1, h2⟩
      rw [HE.out]
      go_enter Tryd.func68, Tryd.ntmps68
      go_wp2
      go_ret
      exact ⟨rfl, rfl⟩
    · have HE : Hid (decide (0 ≤ size ∧ size ≤ 1000) = false) := decide_eq_false fun h => h2 h.2
      rw [HE.out]
      go_enter Tryd.func68, Tryd.ntmps68
      go_wp2
      go_ret
      exact ⟨rfl, rfl⟩
  · have HE : Hid (decide (0 ≤ size ∧ size ≤ 1000) = false) := decide_eq_false fun h => h1 h.1
    rw [HE.out]
    go_enter Tryd.func68, Tryd.ntmps68
    go_wp2
    go_ret
    exact ⟨rfl, rfl⟩
theorem szfits_yes (size : Int) (w : World) (h : 0 ≤ size ∧ size ≤ 1000) : Calls Tryd.prog 68 #[.int .i64 size] w fun e w' => e = .returned (.bool true) ∧ w' = w := by
  have h1 := szfits_any size w
  rw [decide_eq_true h] at h1
  exact h1
theorem szfits_no (size : Int) (w : World) (h : ¬ (0 ≤ size ∧ size ≤ 1000)) : Calls Tryd.prog 68 #[.int .i64 size] w fun e w' => e = .returned (.bool false) ∧ w' = w := by
  have h1 := szfits_any size w
  rw [decide_eq_false h] at h1
  exact h1
set_option maxRecDepth 10000 in
theorem spreadOf_ok (n k size : Nat) (z : Addr) (w : World) (hk1 : 1 ≤ k) (hkn : k ≤ n) (hn : n ≤ 12) (hs : size ≤ 1000) (hz : w.cell? ⟨2, 0, none⟩ = some (.iface 136 (.pointer (some z)))) :
    Calls Tryd.prog 41 #[.int .i64 (n : Int), .int .i64 (k : Int), .int .i64 (size : Int)] w fun e w' => (∃ gm, e = .returned (.tuple #[.slice (some ⟨gm, 0, none⟩) n n, .nilIface]) ∧ Mat w' (some ⟨gm, 0, none⟩) (spreadM k n)) ∧ Below w.heap.size w w' := by
  have HS := spread_ok n k z w hk1 hkn hn hz
  have HF : Hid (Calls Tryd.prog 68 #[.int .i64 (size : Int)] w fun e w' => e = .returned (.bool true) ∧ w' = w) := szfits_yes _ w (by omega)
  clear hz
  go_enter Tryd.func41, Tryd.ntmps41
  go_wp2_with fail
  refine HF.out.mono ?_
  rintro e w0 ⟨rfl, hw0⟩
  rw [hw0]
  clear hw0 w0 HF
  go_wp2_with fail
  refine HS.mono ?_
  rintro e w1 ⟨⟨gm, rfl, hm⟩, hb⟩
  clear HS
  go_wp2
  go_ret2
  exact ⟨⟨gm, rfl, hm⟩, hb⟩
set_option maxRecDepth 10000 in
theorem spreadOf_bad (n k size : Int) (z : Addr) (w : World) (h : ¬ (1 ≤ k ∧ k ≤ n ∧ n ≤ 12 ∧ 0 ≤ size ∧ size ≤ 1000)) (hz : w.cell? ⟨0, 0, none⟩ = some (.iface 136 (.pointer (some z)))) :
    Calls Tryd.prog 41 #[.int .i64 n, .int .i64 k, .int .i64 size] w fun e w' => e = .returned (.tuple #[.slice none 0 0, .iface 136 (.pointer (some z))]) ∧ Below w.heap.size w w' := by
  by_cases h1 : 0 ≤ size ∧ size ≤ 1000
  · have HS := spread_bad n k z w (by omega) hz
    have HF : Hid (Calls Tryd.prog 68 #[.int .i64 size] w fun e w' => e = .returned (.bool true) ∧ w' = w) := szfits_yes _ w h1
    clear hz h h1
    go_enter Tryd.func41, Tryd.ntmps41
    go_wp2_with fail
    refine HF.out.mono ?_
    rintro e w0 ⟨rfl, hw0⟩
    rw [hw0]
    clear hw0 w0 HF
    go_wp2_with fail
    refine HS.mono ?_
    rintro e w1 ⟨rfl, hb⟩
    clear HS
    go_wp2
    go_ret2
    exact ⟨rfl, hb⟩
  · have HF : Hid (Calls Tryd.prog 68 #[.int .i64 size] w fun e w' => e = .returned (.bool false) ∧ w' = w) := szfits_no _ w h1
    clear h h1
    go_enter Tryd.func41, Tryd.ntmps41
    go_wp2_with fail
    refine HF.out.mono ?_
    rintro e w0 ⟨rfl, hw0⟩
    rw [hw0]
    clear hw0 w0 HF
    go_wp2
    go_quiet (fail)
    go_wp2
    go_ret2
    exact ⟨rfl, below_drewN (Below.refl _ _) _⟩
/-- Byte c of row j of an object. -/
def objN (s : ByteArray) (wd : Nat) : Nat → Nat → Nat := fun j c => Gf.nth (bytesOf s) (j * wd + c)
theorem objN_lt (s : ByteArray) (wd j c : Nat) : objN s wd j c < 256 := bytesOf_lt s _
theorem objN_past {s : ByteArray} {wd j c : Nat} (h : ¬ j * wd + c < s.size) : objN s wd j c = 0 := by
  show (bytesOf s).getD _ 0 = 0
  rw [List.getD_eq_getElem?_getD, List.getElem?_eq_none (by simp [bytesOf]; omega)]
  rfl
/-- The text of shard i. -/
def encT (k : Nat) (s : ByteArray) (i : Nat) : ByteArray := strOf (rowT (fun i j => Gf.shareOf (upToL k) j i) (objN s (wideN k s.size)) k (wideN k s.size) i)
/-- Shard i. -/
def encS (k : Nat) (s : ByteArray) (i : Nat) : Int × ByteArray := ((i : Int), encT k s i)
def encL (n k : Nat) (s : ByteArray) : List (Int × ByteArray) := (List.range n).map (encS k s)
/-- A row of shards by the index: two cells each. -/
def shF (f : Nat → Int × ByteArray) : Nat → Value := fun q => if q % 2 = 0 then .int .i64 (f (q / 2)).1 else .string (f (q / 2)).2
def ShRow (w : World) (g n : Nat) (f : Nat → Int × ByteArray) : Prop := w.rowIs g 48 (n * 2) (shF f)
theorem shF_even (f : Nat → Int × ByteArray) (i : Nat) : shF f (i * 2) = .int .i64 (f i).1 := by unfold shF; rw [if_pos (by omega), Nat.mul_div_cancel _ (by decide)]
theorem shF_odd (f : Nat → Int × ByteArray) (i : Nat) : shF f (i * 2 + 1) = .string (f i).2 := by unfold shF; rw [if_neg (by omega), show (i * 2 + 1) / 2 = i by omega]
theorem ShRow.at_ {w : World} {g n : Nat} {f : Nat → Int × ByteArray} (h : ShRow w g n f) {i : Nat} (hi : i < n) : w.cell? ⟨g, i * 2, none⟩ = some (.int .i64 (f i).1) := by rw [World.rowIs.cell h (by omega), shF_even]
theorem ShRow.text {w : World} {g n : Nat} {f : Nat → Int × ByteArray} (h : ShRow w g n f) {i : Nat} (hi : i < n) : w.cell? ⟨g, i * 2 + 1, none⟩ = some (.string (f i).2) := by rw [World.rowIs.cell h (by omega), shF_odd]
theorem ShRow.below {w w' : World} {g n : Nat} {f : Nat → Int × ByteArray} (h : ShRow w g n f) (hb : Below w.heap.size w w') : ShRow w' g n f := rowIs_below h hb
theorem ShRow.congr {w : World} {g n : Nat} {f f' : Nat → Int × ByteArray} (h : ShRow w g n f) (he : ∀ i, i < n → f i = f' i) : ShRow w g n f' := World.rowIs.congr h (fun q hq => by unfold shF; rw [he (q / 2) (by omega)])
theorem ShRow.set {w : World} {g n : Nat} {f : Nat → Int × ByteArray} (h : ShRow w g n f) (i : Nat) (x : Int) (t : ByteArray) : ShRow ((w.setCell ⟨g, i * 2, none⟩ (.int .i64 x)).setCell ⟨g, i * 2 + 1, none⟩ (.string t)) g n (fun j => if j = i then (x, t) else f j) := by
  refine World.rowIs.congr ((World.rowIs.set h (i * 2) (.int .i64 x)).set (i * 2 + 1) (.string t)) (fun q _ => ?_)
  rcases Nat.mod_two_eq_zero_or_one q with e | e
  · rw [if_neg (by omega)]
    by_cases e2 : q = i * 2
    · rw [if_pos e2]
      unfold shF
      dsimp only
      rw [if_pos e, if_pos (show q / 2 = i by omega)]
    · rw [if_neg e2]
      unfold shF
      dsimp only
      rw [if_pos e, if_pos e, if_neg (show ¬ q / 2 = i by omega)]
  · by_cases e2 : q = i * 2 + 1
    · rw [if_pos e2]
      unfold shF
      dsimp only
      rw [if_neg (show ¬ q % 2 = 0 by omega), if_pos (show q / 2 = i by omega)]
    · rw [if_neg e2, if_neg (by omega)]
      unfold shF
      dsimp only
      rw [if_neg (show ¬ q % 2 = 0 by omega), if_neg (show ¬ q % 2 = 0 by omega), if_neg (show ¬ q / 2 = i by omega)]
theorem ShRow.shs {w : World} {g n : Nat} {f : Nat → Int × ByteArray} (h : ShRow w g n f) : Shs w (some ⟨g, 0, none⟩) ((List.range n).map f) := by
  refine Or.inr ⟨g, 0, rfl, World.rowIs.lt h, fun i hi => ?_⟩
  have hi' : i < n := by simpa using hi
  have e : shAt ((List.range n).map f) i = f i := by
    unfold shAt
    rw [List.getD_eq_getElem?_getD, List.getElem?_map, List.getElem?_range hi']
    rfl
  rw [e, Nat.zero_add]
  exact ⟨h.at_ hi', h.text hi'⟩
theorem ShRow.made (w : World) (n : Nat) : ShRow (w.alloc (.cells (madeCells #[.int .i64 0, .string ⟨#[]⟩] (n * 2)) 48)) w.heap.size n (fun _ => (0, ⟨#[]⟩)) := by
  have := World.rowIs_alloc w (madeCells #[.int .i64 0, .string ⟨#[]⟩] (n * 2)) 48 (shF fun _ => (0, ⟨#[]⟩)) (fun i hi => by
    rw [size_madeCells] at hi
    simp only [madeCells]
    rw [Array.getElem?_map, Array.getElem?_eq_getElem (by simpa using hi)]
    simp only [Array.getElem_range, Option.map_some]
    unfold shF
    rcases Nat.mod_two_eq_zero_or_one i with e | e
    · rw [if_pos e]; simp [e]
    · rw [if_neg (by omega)]; simp [e])
  rw [size_madeCells] at this
  exact this
theorem run_make_shards (n : Nat) (hn : n ≤ 1000000) (W : World) : Sem.run Tryd.prog (Instr.makeSlice 41 (.int .i64 (n : Int)) (.int .i64 (n : Int))) W = .ok (.slice (some ⟨W.heap.size, 0, none⟩) n n) (W.alloc (.cells (madeCells #[.int .i64 0, .string ⟨#[]⟩] (n * 2)) 48)) := by
  obtain ⟨i1, hi1, hy0, hy1, hy2⟩ := info_parts shinfo
  have hr := run_make (P := Tryd.prog) W 41 48 i1 _ Tryd.underlying41 hi1 hy0 .i64 .i64 n n (by omega) (Int.le_refl _) (by rw [hy2]; omega) (by omega)
  simp only [Int.toNat_natCast, hy1] at hr
  exact hr
set_option maxRecDepth 10000 in
theorem encode1_any (pw ps wd j c : Nat) (s : ByteArray) (w : World) (hj : j ≤ 1000) (hc : c ≤ 100000) (hwd : wd ≤ 100000) (hw : w.cell? ⟨pw, 0, none⟩ = some (.int .i64 (wd : Int))) (hs : w.cell? ⟨ps, 0, none⟩ = some (.string s)) :
    Calls Tryd.prog 44 (#[.int .i64 (j : Int), .int .i64 (c : Int)] ++ #[.pointer (some ⟨pw, 0, none⟩), .pointer (some ⟨ps, 0, none⟩)]) w fun e w2 => e = .returned (.int .u8 ((objN s wd j c : Nat) : Int)) ∧ w2 = w := by
  have hb : j * wd ≤ 1000 * 100000 := Nat.mul_le_mul hj hwd
  have hp0 : (0 : Int) ≤ (j : Int) * (wd : Int) := by rw [← Int.natCast_mul]; omega
  have hp1 : (j : Int) * (wd : Int) ≤ 100000000 := by rw [← Int.natCast_mul]; omega
  have hw1 : IntKind.i64.wrap ((j : Int) * (wd : Int)) = (j : Int) * (wd : Int) := by rw [IntKind.wrap_i64]; omega
  have hw2 : IntKind.i64.wrap ((j : Int) * (wd : Int) + (c : Int)) = (j : Int) * (wd : Int) + (c : Int) := by rw [IntKind.wrap_i64]; omega
  by_cases hin : j * wd + c < s.size
  · have h2 : (j : Int) * (wd : Int) + (c : Int) < (s.size : Int) := by rw [← Int.natCast_mul]; omega
    have h0 : (0 : Int) ≤ (j : Int) * (wd : Int) + (c : Int) := by omega
    have hidx : ∀ W, Sem.run Tryd.prog (Instr.index 9 (.string s) (.int .i64 ((j : Int) * (wd : Int) + (c : Int)))) W = .ok (.int .u8 ((objN s wd j c : Nat) : Int)) W := fun W => by
      rw [run_index_string W 9 s .i64 _ Tryd.underlying9, dif_pos ⟨h0, h2⟩]
      unfold objN
      rw [bytesOf_nth s (j * wd + c) hin]
      congr 3
    clear hin hb
    generalize objN s wd j c = y at hidx ⊢
    go_enter Tryd.func44, Tryd.ntmps44
    go_wp2
    go_ret
    exact ⟨rfl, rfl⟩
  · have h2 : ¬ (j : Int) * (wd : Int) + (c : Int) < (s.size : Int) := by rw [← Int.natCast_mul]; omega
    rw [objN_past hin]
    clear hin hb
    go_enter Tryd.func44, Tryd.ntmps44
    go_wp2
    go_ret
    exact ⟨rfl, rfl⟩
set_option maxRecDepth 10000 in
set_option maxHeartbeats 2000000 in
theorem encode_ok (n k : Nat) (s : ByteArray) (z : Addr) (w : World) (hk1 : 1 ≤ k) (hkn : k ≤ n) (hn : n ≤ 12) (hs : s.size ≤ 1000) (hz : w.cell? ⟨2, 0, none⟩ = some (.iface 136 (.pointer (some z)))) :
    Calls Tryd.prog 20 #[.int .i64 (n : Int), .int .i64 (k : Int), .string s] w fun e w' => (∃ g, w.heap.size ≤ g ∧ e = .returned (.tuple #[.slice (some ⟨g, 0, none⟩) n n, .nilIface]) ∧ ShRow w' g n (encS k s)) ∧ Below w.heap.size w w' := by
  have hwd := wideN_le (size := s.size) hk1
  obtain ⟨w1, hw1⟩ : ∃ w1, w1 = w.alloc (.cells #[.string s] 9) := ⟨_, rfl⟩
  have hb1 : Below w.heap.size w w1 := by rw [hw1]; exact (Below.refl _ _).alloc (Nat.le_refl _) _
  have hs1 : w1.heap.size = w.heap.size + 1 := by rw [hw1]; simp
  have hp1 : w1.cell? ⟨w.heap.size, 0, none⟩ = some (.string s) := by rw [hw1, World.cell?_alloc_at _ _ _ _ rfl]; rfl
  have HS := spreadOf_ok n k s.size z w1 hk1 hkn hn hs ((hb1.cell (p := ⟨2, 0, none⟩) (lt_of_cell hz)).trans hz)
  have HW1 : Hid (w1 = w.alloc (.cells #[.string s] 9)) := hw1
  have HB1 : Hid (Below w.heap.size w w1) := hb1
  have hmk := run_make_shards n (by omega)
  clear hw1 hb1 hz
  go_enter Tryd.func20, Tryd.ntmps20
  go_wp2_with fail
  rw [← HW1.out]
  refine HS.mono ?_
  rintro e w2 ⟨⟨gm, rfl, hm2⟩, hb2⟩
  have hs2 : w1.heap.size ≤ w2.heap.size := hb2.size
  have hp2 : w2.cell? ⟨w.heap.size, 0, none⟩ = some (.string s) := (hb2.cell (p := ⟨w.heap.size, 0, none⟩) (by show w.heap.size < _; omega)).trans hp1
  have HM2 : Hid (Mat w2 (some ⟨gm, 0, none⟩) (spreadM k n)) := hm2
  have HB2 : Hid (Below w.heap.size w w2) := HB1.out.trans (hb2.mono (by omega))
  clear HS hm2 hb2 HB1 HW1 hp1
  have HWD := fun W => width_any s.size k W hk1 (by omega) (by omega)
  have HES : Hid (∀ i, encS k s i = ((i : Int), strOf (rowT (fun i j => Gf.shareOf (upToL k) j i) (objN s (wideN k s.size)) k (wideN k s.size) i))) := fun i => rfl
  generalize wideN k s.size = wd at *
  go_wp2_with fail
  refine (HWD _).mono ?_
  rintro e w2' ⟨rfl, hww⟩
  rw [hww]
  clear hww w2' HWD
  obtain ⟨w3, hw3⟩ : ∃ w3, w3 = w2.alloc (.cells #[.int .i64 (wd : Int)] 3) := ⟨_, rfl⟩
  have hb3 : Below w2.heap.size w2 w3 := by rw [hw3]; exact (Below.refl _ _).alloc (Nat.le_refl _) _
  have hs3 : w3.heap.size = w2.heap.size + 1 := by rw [hw3]; simp
  have hp3 : w3.cell? ⟨w.heap.size, 0, none⟩ = some (.string s) := (hb3.cell (p := ⟨w.heap.size, 0, none⟩) (by show w.heap.size < _; omega)).trans hp2
  have hv3 : w3.cell? ⟨w2.heap.size, 0, none⟩ = some (.int .i64 (wd : Int)) := by rw [hw3, World.cell?_alloc_at _ _ _ _ rfl]; rfl
  have HB3 : Hid (Below w.heap.size w w3) := HB2.out.trans (hb3.mono (by omega))
  have HT : Tells w3 44 #[.pointer (some ⟨w2.heap.size, 0, none⟩), .pointer (some ⟨w.heap.size, 0, none⟩)] (objN s wd) k wd := fun j c hj hc w4 h4 =>
    encode1_any w2.heap.size w.heap.size wd j c s w4 (by omega) (by omega) (by omega) ((h4.cell (p := ⟨w2.heap.size, 0, none⟩) (by show w2.heap.size < _; omega)).trans hv3) ((h4.cell (p := ⟨w.heap.size, 0, none⟩) (by show w.heap.size < _; omega)).trans hp3)
  have HR := rows_any (some ⟨gm, 0, none⟩) n k wd n (fun i j => Gf.shareOf (upToL k) j i) (objN s wd) 44 #[.pointer (some ⟨w2.heap.size, 0, none⟩), .pointer (some ⟨w.heap.size, 0, none⟩)] w3 (by omega) (by omega) hk1 (by omega) (by omega) (fun i j => Gf.shareOf_lt _ _ _) (fun j c => objN_lt s wd j c) (HM2.out.below hb3) (enters_of Tryd.func44 (by kernel_rfl) rfl) HT
  have HW3 : Hid (w3 = w2.alloc (.cells #[.int .i64 (wd : Int)] 3)) := hw3
  have hs3' : w2.heap.size < w3.heap.size := by omega
  have hs1' : w.heap.size < w1.heap.size := by omega
  clear hw3 hb3 HT HM2 HB2 hp2 hs3 hs1
  go_wp2_with fail
  rw [← HW3.out]
  refine HR.mono ?_
  rintro e w4 ⟨rfl, hr4, hb4⟩
  have HR4 : Hid (w4.rowIs w3.heap.size 9 n (fun i => .string (strOf (rowT (fun i j => Gf.shareOf (upToL k) j i) (objN s wd) k wd i)))) := hr4
  have HB4 : Hid (Below w.heap.size w w4) := HB3.out.trans (hb4.mono (by omega))
  have hz4 : w3.heap.size < w4.heap.size := hr4.lt
  clear HR hr4 hb4 HB3 HW3 hp3 hv3
  go_wp2
  have hS0 := ShRow.made w4 n
  have hB0 : Below w4.heap.size w4 (w4.alloc (.cells (madeCells #[.int .i64 0, .string ⟨#[]⟩] (n * 2)) 48)) := (Below.refl _ _).alloc (Nat.le_refl _) _
  generalize w4.alloc (.cells (madeCells #[.int .i64 0, .string ⟨#[]⟩] (n * 2)) 48) = w5 at hS0 hB0 ⊢
  have HS0 : Hid (ShRow w5 w4.heap.size n (fun _ => (0, ⟨#[]⟩))) := hS0
  have HB0 : Hid (Below w4.heap.size w4 w5) := hB0
  clear hS0 hB0 hmk
  go_loopw [38] (fun x wr => ∃ i : Nat, i ≤ n ∧ x = .int .i64 i ∧ ShRow wr w4.heap.size n (fun q => if q < i then encS k s q else (0, ⟨#[]⟩)) ∧ Below w4.heap.size w4 wr) (fun x _ => n - (intOf x).toNat)
  case atStart => exact ⟨0, by omega, rfl, HS0.out.congr (fun q _ => by simp), HB0.out⟩
  case round =>
    obtain ⟨i, hi, rfl, hS, hB⟩ := hrel
    obtain ⟨w6, rfl⟩ : ∃ w6, w6 = wr := ⟨_, rfl⟩
    have HSR : Hid (ShRow w6 w4.heap.size n (fun q => if q < i then encS k s q else (0, ⟨#[]⟩))) := hS
    have HB : Hid (Below w4.heap.size w4 w6) := hB
    have hgt : w4.heap.size < w6.heap.size := World.rowIs.lt hS
    clear hS hB HS0 HB0
    by_cases hil : i < n
    · have q0 : w6.cell? ⟨w3.heap.size, i, none⟩ = some (.string (encT k s i)) := by
        rw [HB.out.cell (p := ⟨w3.heap.size, i, none⟩) hz4, HR4.out.cell hil]
        exact congrArg (fun x : Int × ByteArray => some (Value.string x.2)) (HES.out i).symm
      have q1 : w6.cell? ⟨w4.heap.size, i * 2, none⟩ = some (.int .i64 0) := by rw [HSR.out.at_ hil, if_neg (Nat.lt_irrefl _)]
      have q2 : w6.cell? ⟨w4.heap.size, i * 2 + 1, none⟩ = some (.string ⟨#[]⟩) := by rw [HSR.out.text hil, if_neg (Nat.lt_irrefl _)]
      have f1 : w6.frozen? ⟨w4.heap.size, i * 2, none⟩ = false := World.rowIs.frozen HSR.out _
      have f2 : w6.frozen? ⟨w4.heap.size, i * 2 + 1, none⟩ = false := World.rowIs.frozen HSR.out _
      go_wp2
      go_roundw
      case rel =>
        refine ⟨i + 1, by omega, by go_num, ?_, ?_⟩
        · refine (HSR.out.set i (i : Int) (encT k s i)).congr (fun q _ => ?_)
          by_cases e : q = i
          · rw [if_pos e, if_pos (by omega), e]
            rfl
          · rw [if_neg e]
            by_cases e' : q < i
            · rw [if_pos e', if_pos (by omega)]
            · rw [if_neg e', if_neg (by omega)]
        · exact (HB.out.setCell (Nat.le_refl _) _).setCell (Nat.le_refl _) _
      case measure => simp [intOf]; omega
    · have hie : i = n := by omega
      subst hie
      go_wp2
      go_ret2
      exact ⟨⟨w4.heap.size, by have := HB4.out.size; omega, rfl, HSR.out.congr (fun q hq => by rw [if_pos hq])⟩, HB4.out.trans (HB.out.mono (HB4.out.size))⟩
set_option maxRecDepth 10000 in
theorem encode_bad (n k : Int) (s : ByteArray) (z : Addr) (w : World) (hsz : s.size ≤ 1000000) (h : ¬ (1 ≤ k ∧ k ≤ n ∧ n ≤ 12 ∧ s.size ≤ 1000)) (hz : w.cell? ⟨0, 0, none⟩ = some (.iface 136 (.pointer (some z)))) :
    Calls Tryd.prog 20 #[.int .i64 n, .int .i64 k, .string s] w fun e w' => e = .returned (.tuple #[.slice none 0 0, .iface 136 (.pointer (some z))]) ∧ Below w.heap.size w w' := by
  obtain ⟨w1, hw1⟩ : ∃ w1, w1 = w.alloc (.cells #[.string s] 9) := ⟨_, rfl⟩
  have hb1 : Below w.heap.size w w1 := by rw [hw1]; exact (Below.refl _ _).alloc (Nat.le_refl _) _
  have HS := spreadOf_bad n k (s.size : Int) z w1 (by omega) ((hb1.cell (p := ⟨0, 0, none⟩) (lt_of_cell hz)).trans hz)
  have HW1 : Hid (w1 = w.alloc (.cells #[.string s] 9)) := hw1
  have HB1 : Hid (Below w.heap.size w w1) := hb1
  clear hw1 hb1 hz h
  go_enter Tryd.func20, Tryd.ntmps20
  go_wp2_with fail
  rw [← HW1.out]
  refine HS.mono ?_
  rintro e w2 ⟨rfl, hb2⟩
  clear HS
  go_wp2
  go_ret2
  exact ⟨rfl, HB1.out.trans (hb2.mono HB1.out.size)⟩
theorem encT_single : encT 1 ⟨#[97, 98]⟩ 0 = ⟨#[97, 98]⟩ := by decide +kernel
set_option maxRecDepth 10000 in
set_option maxHeartbeats 1000000 in
theorem single_any (z : Addr) (w : World) (hz : w.cell? ⟨2, 0, none⟩ = some (.iface 136 (.pointer (some z)))) :
    Calls Tryd.prog 19 #[] w fun e w' => e = .returned (.bool true) ∧ Below w.heap.size w w' := by
  have HC := encode_ok 1 1 ⟨#[97, 98]⟩ z w (by decide) (by decide) (by decide) (by decide) hz
  clear hz
  go_enter Tryd.func19, Tryd.ntmps19
  go_wp2_with fail
  refine HC.mono ?_
  rintro e w1 ⟨⟨g, hg, rfl, hs⟩, hb⟩
  have q1 : w1.cell? ⟨g, 0, none⟩ = some (.int .i64 0) := hs.at_ (i := 0) (by decide)
  have q2 : w1.cell? ⟨g, 1, none⟩ = some (.string ⟨#[97, 98]⟩) := by
    have := hs.text (i := 0) (by decide)
    rw [show (encS 1 ⟨#[97, 98]⟩ 0).2 = ⟨#[97, 98]⟩ from encT_single] at this
    exact this
  have HB : Hid (Below w.heap.size w w1) := hb
  clear hs hb HC
  go_wp2
  go_ret
  exact ⟨rfl, HB.out⟩
theorem isSpread_yes (n k : Int) (w : World) (h1 : 1 ≤ k) (h2 : k ≤ n) (h3 : n ≤ 12) : Calls Tryd.prog 12 #[.int .i64 n, .int .i64 k] w fun e w' => e = .returned (.bool true) ∧ w' = w := by
  go_enter Tryd.func12, Tryd.ntmps12
  go_wp2
  go_ret
  exact ⟨ret_bool (by simp), rfl⟩
theorem isSpread_no (n k : Int) (w : World) (h : ¬ (1 ≤ k ∧ k ≤ n ∧ n ≤ 12)) : Calls Tryd.prog 12 #[.int .i64 n, .int .i64 k] w fun e w' => e = .returned (.bool false) ∧ w' = w := by
  by_cases h1 : 1 ≤ k
  · by_cases h2 : k ≤ n
    · have h3 : ¬ n ≤ 12 := fun h3 => h ⟨h1, h2, h3⟩
      clear h
      go_enter Tryd.func12, Tryd.ntmps12
      go_wp2
      go_ret
      exact ⟨ret_bool (by simp), rfl⟩
    · clear h
      go_enter Tryd.func12, Tryd.ntmps12
      go_wp2
      go_ret
      exact ⟨rfl, rfl⟩
  · clear h
    go_enter Tryd.func12, Tryd.ntmps12
    go_wp2
    go_ret
    exact ⟨rfl, rfl⟩
section
open Go.Extern.Stop Go.Stop Go.Extern
theorem coded_nil (w : World) : Calls Tryd.prog 13 #[.nilIface, .int .i64 0] w fun e w' => e = .returned (.bool true) ∧ w' = w := by
  go_enter Tryd.func13, Tryd.ntmps13
  go_wp2_with (go_at_call 31; refine (code_nil _).mono ?_; rintro e w' ⟨rfl, rfl⟩)
  go_ret
  exact ⟨rfl, rfl⟩
/-- 'coded' of a sentinel and its own number. -/
theorem coded_sent (ad : Nat → Addr) (i : Nat) (hi : i < 12) (w : World) (hS : Sent w ad) :
    Calls Tryd.prog 13 #[.iface 136 (.pointer (some (ad i))), .int .i64 ((i + 1 : Nat) : Int)] w fun e w' => e = .returned (.bool true) ∧ Below w.heap.size w w' := by
  go_enter Tryd.func13, Tryd.ntmps13
  go_wp2_with fail
  refine (code_sent ad i hi _ hS).mono ?_
  rintro e w2 ⟨rfl, hb2⟩
  go_wp2
  go_ret
  exact ⟨rfl, hb2⟩
end
structure StillS (w0 w : World) (ad : Nat → Addr) : Prop where
  sent : Sent w ad
  below : Below w0.heap.size w0 w
theorem StillS.next {w0 w w' : World} {ad : Nat → Addr} (h : StillS w0 w ad) (hb : Below w.heap.size w w') : StillS w0 w' ad := ⟨h.sent.below hb, h.below.trans (hb.mono h.below.size)⟩
theorem coded_shape (ad : Nat → Addr) (w : World) (hS : Sent w ad) :
    Calls Tryd.prog 13 #[.iface 136 (.pointer (some (ad 2))), .int .i64 3] w fun e w' => e = .returned (.bool true) ∧ Below w.heap.size w w' := coded_sent ad 2 (by decide) w hS
theorem coded_zero (ad : Nat → Addr) (w : World) (hS : Sent w ad) :
    Calls Tryd.prog 13 #[.iface 136 (.pointer (some (ad 11))), .int .i64 12] w fun e w' => e = .returned (.bool true) ∧ Below w.heap.size w w' := coded_sent ad 11 (by decide) w hS
theorem coded_bound (ad : Nat → Addr) (w : World) (hS : Sent w ad) :
    Calls Tryd.prog 13 #[.iface 136 (.pointer (some (ad 1))), .int .i64 2] w fun e w' => e = .returned (.bool true) ∧ Below w.heap.size w w' := coded_sent ad 1 (by decide) w hS
set_option maxRecDepth 10000 in
set_option maxHeartbeats 1000000 in
theorem sameShards_any (pa pb : Option Addr) (l : List (Int × ByteArray)) (ca cb : Nat) (w : World) (hl : l.length ≤ 1000) (ha : Shs w pa l) (hb : Shs w pb l) :
    Calls Tryd.prog 21 #[.slice pa l.length ca, .slice pb l.length cb] w fun e w' => e = .returned (.bool true) ∧ Below w.heap.size w w' := by
  go_enter Tryd.func21, Tryd.ntmps21
  go_wp2
  go_loopw [5] (fun x wr => ∃ i : Nat, i ≤ l.length ∧ x = .int .i64 i ∧ Below w.heap.size w wr) (fun x _ => l.length - (intOf x).toNat)
  case atStart => exact ⟨0, by omega, rfl, Below.refl _ _⟩
  case round =>
    obtain ⟨i, hi, rfl, hB⟩ := hrel
    have HB : Hid (Below w.heap.size w wr) := hB
    have HA' : Hid (Shs wr pa l) := ha.below hB
    have HB' : Hid (Shs wr pb l) := hb.below hB
    clear hB
    by_cases hil : i < l.length
    · rcases HA'.out with h0 | ⟨b1, o1, rfl, _, hc1⟩
      · rw [h0] at hil; simp at hil
      rcases HB'.out with h0 | ⟨b2, o2, rfl, _, hc2⟩
      · rw [h0] at hil; simp at hil
      obtain ⟨q1, q2⟩ := hc1 i hil
      obtain ⟨q3, q4⟩ := hc2 i hil
      clear hc1 hc2
      generalize (shAt l i).1 = x at *
      generalize (shAt l i).2 = t at *
      go_wp2
      go_quiet (fail)
      go_wp2
      go_roundw
      case rel => exact ⟨i + 1, by omega, by go_num, below_drewN HB.out _⟩
      case measure => simp [intOf]; omega
    · go_wp2
      go_ret
      exact ⟨rfl, HB.out⟩
theorem encN_rsum (s : ByteArray) (k wd i c : Nat) : ∀ j, encN (bytesOf s) k wd i c j = rsumN (fun i j => Gf.shareOf (upToL k) j i) (objN s wd) i c j
  | 0 => rfl
  | j + 1 => by
    show (if j * wd + c < (bytesOf s).length then encN (bytesOf s) k wd i c j ^^^ _ else encN (bytesOf s) k wd i c j) = rsumN _ _ i c j ^^^ Gf.mul _ (objN s wd j c)
    rw [encN_rsum s k wd i c j]
    have hl : (bytesOf s).length = s.size := by simp [bytesOf]
    by_cases h : j * wd + c < s.size
    · rw [if_pos (by omega)]
      rfl
    · rw [if_neg (by omega), objN_past h, Gf.mul_zero, Nat.xor_zero]
theorem encT_eq (k : Nat) (s : ByteArray) (i : Nat) : strOf (encRow (bytesOf s) k (wideN k s.size) i) = encT k s i := by
  unfold encT encRow rowT
  rw [rowFn_congr _ _ _ (fun c _ => encN_rsum s k (wideN k s.size) i c k)]
theorem shCells_vals (l : List (Nat × List Nat)) : shCells l = shVals (l.map fun x => ((x.1 : Int), strOf x.2)) := by
  unfold shCells shVals
  rw [List.flatMap_map]
theorem encL_length (n k : Nat) (s : ByteArray) : (encL n k s).length = n := by simp [encL]
/-- The document's own shards are these. -/
theorem rencode_shs (n k : Nat) (s : ByteArray) (w : World) (hk1 : 1 ≤ k) (hkn : k ≤ n) (hn : n ≤ 12) (hs : s.size ≤ 3000) :
    Calls Tryd.prog 22 #[.int .i64 (n : Int), .int .i64 (k : Int), .string s] w fun e w' => (∃ p c, e = .returned (.slice p n c) ∧ Shs w' p (encL n k s)) ∧ Below w.heap.size w w' := by
  refine (rencode_any n k s w hk1 hkn hn hs).mono ?_
  rintro e w' ⟨⟨v, rfl, hv⟩, hb⟩
  refine ⟨?_, hb⟩
  unfold OwnSh at hv
  rw [shCells_vals, List.map_map, List.length_map, List.length_range] at hv
  have hl : (List.range n).map ((fun x : Nat × List Nat => ((x.1 : Int), strOf x.2)) ∘ fun i => (i, encRow (bytesOf s) k (wideN k s.size) i)) = encL n k s := by
    unfold encL
    refine List.map_congr_left fun i _ => ?_
    show ((i : Int), strOf (encRow (bytesOf s) k (wideN k s.size) i)) = encS k s i
    rw [encT_eq]
    rfl
  rw [hl] at hv
  have hv' : w'.ownsRow w.heap.size 48 2 v (encL n k s).length (shVals (encL n k s)) := by rw [encL_length]; exact hv
  obtain ⟨p, c, rfl, h⟩ := shs_of_own hv'
  exact ⟨p, c, by rw [encL_length], h⟩
set_option maxRecDepth 10000 in
set_option maxHeartbeats 2000000 in
theorem encLaw_pass (n k : Int) (s : ByteArray) (ad : Nat → Addr) (w : World) (hsz : s.size ≤ maxLen) (h : 100 < s.size ∧ s.size ≤ 1000 ∨ 3000 < s.size) (hS : Sent w ad) :
    Calls Tryd.prog 5 #[.int .i64 n, .int .i64 k, .string s] w fun e w' => e = .returned (.bool true) ∧ Below w.heap.size w w' := by
  unfold maxLen at hsz
  have HU := single_any (ad 11) w hS.c11
  clear hS
  rcases h with ⟨h1, h2⟩ | h1
  · go_enter Tryd.func5, Tryd.ntmps5
    go_wp2_with fail
    refine HU.mono ?_
    rintro e w1 ⟨rfl, hb1⟩
    clear HU
    go_wp2
    go_ret
    exact ⟨rfl, hb1⟩
  · have h2 : 100 < s.size := by omega
    have h3 : ¬ s.size ≤ 1000 := by omega
    go_enter Tryd.func5, Tryd.ntmps5
    go_wp2_with fail
    refine HU.mono ?_
    rintro e w1 ⟨rfl, hb1⟩
    clear HU
    go_wp2
    go_ret
    exact ⟨rfl, hb1⟩
set_option maxRecDepth 10000 in
set_option maxHeartbeats 2000000 in
theorem encLaw_bad (n k : Int) (s : ByteArray) (ad : Nat → Addr) (w : World) (hp : s.size ≤ 100 ∨ 1000 < s.size) (hsz : s.size ≤ 3000) (h : ¬ (1 ≤ k ∧ k ≤ n ∧ n ≤ 12 ∧ s.size ≤ 1000)) (hS : Sent w ad) :
    Calls Tryd.prog 5 #[.int .i64 n, .int .i64 k, .string s] w fun e w' => e = .returned (.bool true) ∧ Below w.heap.size w w' := by
  have HU := single_any (ad 11) w hS.c11
  have H0 : Hid (StillS w w ad) := ⟨hS, Below.refl _ _⟩
  have HH : Hid (¬ (1 ≤ k ∧ k ≤ n ∧ n ≤ 12 ∧ s.size ≤ 1000)) := h
  clear h hS
  rcases hp with hp | hp
  · have hno : ¬ (1 ≤ k ∧ k ≤ n ∧ n ≤ 12) := fun hh => HH.out ⟨hh.1, hh.2.1, hh.2.2, by omega⟩
    have HNO : Hid (¬ (1 ≤ k ∧ k ≤ n ∧ n ≤ 12)) := hno
    clear hno
    go_enter Tryd.func5, Tryd.ntmps5
    go_wp2_with fail
    refine HU.mono ?_
    rintro e w1 ⟨rfl, hb1⟩
    have H1 : Hid (StillS w w1 ad) := H0.out.next hb1
    clear hb1 HU
    go_wp2_with fail
    refine (encode_bad n k s (ad 1) _ (by omega) HH.out H1.out.sent.c1).mono ?_
    rintro e w2 ⟨rfl, hb2⟩
    have H2 : Hid (StillS w w2 ad) := H1.out.next hb2
    clear hb2 H1
    go_wp2_with fail
    refine (isSpread_no n k _ HNO.out).mono ?_
    rintro e w' ⟨rfl, hww⟩
    rw [hww]
    clear hww w'
    go_wp2_with fail
    refine (coded_bound ad _ H2.out.sent).mono ?_
    rintro e w4 ⟨rfl, hb4⟩
    have H4 : Hid (StillS w w4 ad) := H2.out.next hb4
    clear hb4 H2
    go_wp2
    go_ret
    exact ⟨rfl, H4.out.below⟩
  · have hp2 : 100 < s.size := by omega
    have hp3 : ¬ s.size ≤ 1000 := by omega
    go_enter Tryd.func5, Tryd.ntmps5
    go_wp2_with fail
    refine HU.mono ?_
    rintro e w1 ⟨rfl, hb1⟩
    have H1 : Hid (StillS w w1 ad) := H0.out.next hb1
    clear hb1 HU
    go_wp2_with fail
    refine (encode_bad n k s (ad 1) _ (by omega) HH.out H1.out.sent.c1).mono ?_
    rintro e w2 ⟨rfl, hb2⟩
    have H2 : Hid (StillS w w2 ad) := H1.out.next hb2
    clear hb2 H1
    by_cases hno : 1 ≤ k ∧ k ≤ n ∧ n ≤ 12
    · obtain ⟨k1, k2, k3⟩ := hno
      go_wp2_with fail
      refine (isSpread_yes n k _ k1 k2 k3).mono ?_
      rintro e w' ⟨rfl, hww⟩
      rw [hww]
      clear hww w'
      go_wp2_with fail
      refine (coded_bound ad _ H2.out.sent).mono ?_
      rintro e w4 ⟨rfl, hb4⟩
      have H4 : Hid (StillS w w4 ad) := H2.out.next hb4
      clear hb4 H2
      go_wp2
      go_ret
      exact ⟨rfl, H4.out.below⟩
    · have HNO : Hid (¬ (1 ≤ k ∧ k ≤ n ∧ n ≤ 12)) := hno
      clear hno
      go_wp2_with fail
      refine (isSpread_no n k _ HNO.out).mono ?_
      rintro e w' ⟨rfl, hww⟩
      rw [hww]
      clear hww w'
      go_wp2_with fail
      refine (coded_bound ad _ H2.out.sent).mono ?_
      rintro e w4 ⟨rfl, hb4⟩
      have H4 : Hid (StillS w w4 ad) := H2.out.next hb4
      clear hb4 H2
      go_wp2
      go_ret
      exact ⟨rfl, H4.out.below⟩
set_option maxRecDepth 10000 in
set_option maxHeartbeats 2000000 in
theorem encLaw_in (n k : Nat) (s : ByteArray) (ad : Nat → Addr) (w : World) (hk1 : 1 ≤ k) (hkn : k ≤ n) (hn : n ≤ 12) (hp : s.size ≤ 100) (hS : Sent w ad) :
    Calls Tryd.prog 5 #[.int .i64 (n : Int), .int .i64 (k : Int), .string s] w fun e w' => e = .returned (.bool true) ∧ Below w.heap.size w w' := by
  have HU := single_any (ad 11) w hS.c11
  have H0 : Hid (StillS w w ad) := ⟨hS, Below.refl _ _⟩
  clear hS
  go_enter Tryd.func5, Tryd.ntmps5
  go_wp2_with fail
  refine HU.mono ?_
  rintro e w1 ⟨rfl, hb1⟩
  have H1 : Hid (StillS w w1 ad) := H0.out.next hb1
  clear hb1 HU
  go_wp2_with fail
  refine (encode_ok n k s (ad 11) _ hk1 hkn hn (by omega) H1.out.sent.c11).mono ?_
  rintro e w2 ⟨⟨g, hg, rfl, hr⟩, hb2⟩
  have H2 : Hid (StillS w w2 ad) := H1.out.next hb2
  have HR2 : Hid (Shs w2 (some ⟨g, 0, none⟩) (encL n k s)) := hr.shs
  clear hb2 H1 hr
  go_wp2_with fail
  refine (isSpread_yes n k _ (by omega) (by omega) (by omega)).mono ?_
  rintro e w' ⟨rfl, hww⟩
  rw [hww]
  clear hww w'
  go_wp2_with fail
  refine (rencode_shs n k s _ hk1 hkn hn (by omega)).mono ?_
  rintro e w3 ⟨⟨p3, c3, rfl, hs3⟩, hb3⟩
  have H3 : Hid (StillS w w3 ad) := H2.out.next hb3
  have HSS := sameShards_any (some ⟨g, 0, none⟩) p3 (encL n k s) n c3 w3 (by rw [encL_length]; omega) (HR2.out.below hb3) hs3
  rw [encL_length] at HSS
  clear hb3 H2 hs3 HR2
  go_wp2_with fail
  refine HSS.mono ?_
  rintro e w4 ⟨rfl, hb4⟩
  have H4 : Hid (StillS w w4 ad) := H3.out.next hb4
  clear hb4 H3 HSS
  go_wp2
  go_ret
  exact ⟨rfl, H4.out.below⟩
theorem encLaw_any (n k : Int) (s : ByteArray) (ad : Nat → Addr) (w : World) (hsz : s.size ≤ maxLen) (hS : Sent w ad) :
    Calls Tryd.prog 5 #[.int .i64 n, .int .i64 k, .string s] w fun e w' => e = .returned (.bool true) ∧ Below w.heap.size w w' := by
  by_cases h : 100 < s.size ∧ s.size ≤ 1000 ∨ 3000 < s.size
  · exact encLaw_pass n k s ad w hsz h hS
  · by_cases h2 : 1 ≤ k ∧ k ≤ n ∧ n ≤ 12 ∧ s.size ≤ 1000
    · obtain ⟨k', rfl⟩ := Int.eq_ofNat_of_zero_le (show 0 ≤ k by omega)
      obtain ⟨n', rfl⟩ := Int.eq_ofNat_of_zero_le (show 0 ≤ n by omega)
      exact encLaw_in n' k' s ad w (by omega) (by omega) (by omega) (by omega) hS
    · exact encLaw_bad n k s ad w (by omega) (by omega) h2 hS
end Go.Proofs.YtaaahibncffcmaaDoor
