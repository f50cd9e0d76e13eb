/- Package coder: what Encode makes; widthOf, spreadOf; rows of shards. -/
import Derived.Test.YtgjehnahkbddgaaGreatDoorZF
import Derived.Test.YtgjehnahkbddgaaGreatDoorZH
import Derived.Deep.QuietTactic
import Derived.BigQuiet
namespace Go.Proofs.YtgjehnahkbddgaaGreatDoor
open Go.RowKit
set_option maxRecDepth 10000 in
theorem width_any (size k : Nat) (w : World) (hk1 : 1 ≤ k) (hk : k ≤ 1000) (hs : size ≤ 100000) :
    Calls Tryz.prog 37 #[.int .i64 (size : Int), .int .i64 (k : Int)] w fun e w' => e = .returned (.int .i64 ((wideN k size : Nat) : Int)) ∧ w' = w := by
  have h1 : (1 : Int) ≤ (k : Int) := by omega
  have HE : Hid (((size : Int) + (k : Int) - 1) / (k : Int) = ((wideN k size : Nat) : Int)) := by
    show _ = _
    unfold wideN
    rw [Int.natCast_ediv]
    congr 1
    omega
  go_enter Tryz.func37, Tryz.ntmps37
  go_wp2
  go_ret
  exact ⟨ret_int HE.out, rfl⟩
set_option maxRecDepth 10000 in
theorem szfits_any (size : Int) (w : World) : Calls Tryz.prog 53 #[.int .i64 size] w fun e w' => e = .returned (.bool (decide (0 ≤ size ∧ size ≤ 1000))) ∧ w' = w := by
  by_cases h1 : 0 ≤ size
  · by_cases h2 : size ≤ 1000
    · have HE : Hid (decide (0 ≤ size ∧ size ≤ 1000) = true) := decide_eq_true ⟨h1, h2⟩
      rw [HE.out]
      go_enter Tryz.func53, Tryz.ntmps53
      go_wp2
      go_ret
      exact ⟨rfl, rfl⟩
    · have HE : Hid (decide (0 ≤ size ∧ size ≤ 1000) = false) := decide_eq_false fun h => h2 h.2
      rw [HE.out]
      go_enter Tryz.func53, Tryz.ntmps53
      go_wp2
      go_ret
      exact ⟨rfl, rfl⟩
  · have HE : Hid (decide (0 ≤ size ∧ size ≤ 1000) = false) := decide_eq_false fun h => h1 h.1
    rw [HE.out]
    go_enter Tryz.func53, Tryz.ntmps53
    go_wp2
    go_ret
    exact ⟨rfl, rfl⟩
theorem szfits_yes (size : Int) (w : World) (h : 0 ≤ size ∧ size ≤ 1000) : Calls Tryz.prog 53 #[.int .i64 size] w fun e w' => e = .returned (.bool true) ∧ w' = w := by
  have h1 := szfits_any size w
  rw [decide_eq_true h] at h1
  exact h1
theorem szfits_no (size : Int) (w : World) (h : ¬ (0 ≤ size ∧ size ≤ 1000)) : Calls Tryz.prog 53 #[.int .i64 size] w fun e w' => e = .returned (.bool false) ∧ w' = w := by
  have h1 := szfits_any size w
  rw [decide_eq_false h] at h1
  exact h1
set_option maxRecDepth 10000 in
theorem spreadOf_ok (n k size : Nat) (z : Addr) (w : World) (hk1 : 1 ≤ k) (hkn : k ≤ n) (hn : n ≤ 12) (hs : size ≤ 1000) (hz : w.cell? ⟨11, 0, none⟩ = some (.iface 165 (.pointer (some z)))) :
    Calls Tryz.prog 31 #[.int .i64 (n : Int), .int .i64 (k : Int), .int .i64 (size : Int)] w fun e w' => (∃ gm, e = .returned (.tuple #[.slice (some ⟨gm, 0, none⟩) n n, .nilIface]) ∧ Mat w' (some ⟨gm, 0, none⟩) (spreadM k n)) ∧ Below w.heap.size w w' := by
  have HS := spread_ok n k z w hk1 hkn hn hz
  have HF : Hid (Calls Tryz.prog 53 #[.int .i64 (size : Int)] w fun e w' => e = .returned (.bool true) ∧ w' = w) := szfits_yes _ w (by omega)
  clear hz
  go_enter Tryz.func31, Tryz.ntmps31
  go_wp2_with fail
  refine HF.out.mono ?_
  rintro e w0 ⟨rfl, hw0⟩
  rw [hw0]
  clear hw0 w0 HF
  go_wp2_with fail
  refine HS.mono ?_
  rintro e w1 ⟨⟨gm, rfl, hm⟩, hb⟩
  clear HS
  go_wp2
  go_ret2
  exact ⟨⟨gm, rfl, hm⟩, hb⟩
set_option maxRecDepth 10000 in
theorem spreadOf_bad (n k size : Int) (z : Addr) (w : World) (h : ¬ (1 ≤ k ∧ k ≤ n ∧ n ≤ 12 ∧ 0 ≤ size ∧ size ≤ 1000)) (hz : w.cell? ⟨1, 0, none⟩ = some (.iface 165 (.pointer (some z)))) :
    Calls Tryz.prog 31 #[.int .i64 n, .int .i64 k, .int .i64 size] w fun e w' => e = .returned (.tuple #[.slice none 0 0, .iface 165 (.pointer (some z))]) ∧ Below w.heap.size w w' := by
  by_cases h1 : 0 ≤ size ∧ size ≤ 1000
  · have HS := spread_bad n k z w (by omega) hz
    have HF : Hid (Calls Tryz.prog 53 #[.int .i64 size] w fun e w' => e = .returned (.bool true) ∧ w' = w) := szfits_yes _ w h1
    clear hz h h1
    go_enter Tryz.func31, Tryz.ntmps31
    go_wp2_with fail
    refine HF.out.mono ?_
    rintro e w0 ⟨rfl, hw0⟩
    rw [hw0]
    clear hw0 w0 HF
    go_wp2_with fail
    refine HS.mono ?_
    rintro e w1 ⟨rfl, hb⟩
    clear HS
    go_wp2
    go_ret2
    exact ⟨rfl, hb⟩
  · have HF : Hid (Calls Tryz.prog 53 #[.int .i64 size] w fun e w' => e = .returned (.bool false) ∧ w' = w) := szfits_no _ w h1
    clear h h1
    go_enter Tryz.func31, Tryz.ntmps31
    go_wp2_with fail
    refine HF.out.mono ?_
    rintro e w0 ⟨rfl, hw0⟩
    rw [hw0]
    clear hw0 w0 HF
    go_wp2
    go_quiet (fail)
    go_wp2
    go_ret2
    exact ⟨rfl, below_drewN (Below.refl _ _) _⟩
/-- Byte c of row j of an object. -/
def objN (s : ByteArray) (wd : Nat) : Nat → Nat → Nat := fun j c => Gf.nth (bytesOf s) (j * wd + c)
theorem objN_lt (s : ByteArray) (wd j c : Nat) : objN s wd j c < 256 := bytesOf_lt s _
theorem objN_past {s : ByteArray} {wd j c : Nat} (h : ¬ j * wd + c < s.size) : objN s wd j c = 0 := by
  show (bytesOf s).getD _ 0 = 0
  rw [List.getD_eq_getElem?_getD, List.getElem?_eq_none (by simp [bytesOf]; omega)]
  rfl
/-- The text of shard i. -/
def encT (k : Nat) (s : ByteArray) (i : Nat) : ByteArray := strOf (rowT (fun i j => Gf.shareOf (upToL k) j i) (objN s (wideN k s.size)) k (wideN k s.size) i)
/-- Shard i. -/
def encS (k : Nat) (s : ByteArray) (i : Nat) : Int × ByteArray := ((i : Int), encT k s i)
def encL (n k : Nat) (s : ByteArray) : List (Int × ByteArray) := (List.range n).map (encS k s)
/-- A row of shards by the index: two cells each. -/
def shF (f : Nat → Int × ByteArray) : Nat → Value := fun q => if q % 2 = 0 then .int .i64 (f (q / 2)).1 else .string (f (q / 2)).2
def ShRow (w : World) (g n : Nat) (f : Nat → Int × ByteArray) : Prop := w.rowIs g 49 (n * 2) (shF f)
theorem shF_even (f : Nat → Int × ByteArray) (i : Nat) : shF f (i * 2) = .int .i64 (f i).1 := by unfold shF; rw [if_pos (by omega), Nat.mul_div_cancel _ (by decide)]
theorem shF_odd (f : Nat → Int × ByteArray) (i : Nat) : shF f (i * 2 + 1) = .string (f i).2 := by unfold shF; rw [if_neg (by omega), show (i * 2 + 1) / 2 = i by omega]
theorem ShRow.at_ {w : World} {g n : Nat} {f : Nat → Int × ByteArray} (h : ShRow w g n f) {i : Nat} (hi : i < n) : w.cell? ⟨g, i * 2, none⟩ = some (.int .i64 (f i).1) := by rw [World.rowIs.cell h (by omega), shF_even]
theorem ShRow.text {w : World} {g n : Nat} {f : Nat → Int × ByteArray} (h : ShRow w g n f) {i : Nat} (hi : i < n) : w.cell? ⟨g, i * 2 + 1, none⟩ = some (.string (f i).2) := by rw [World.rowIs.cell h (by omega), shF_odd]
theorem ShRow.below {w w' : World} {g n : Nat} {f : Nat → Int × ByteArray} (h : ShRow w g n f) (hb : Below w.heap.size w w') : ShRow w' g n f := rowIs_below h hb
theorem ShRow.congr {w : World} {g n : Nat} {f f' : Nat → Int × ByteArray} (h : ShRow w g n f) (he : ∀ i, i < n → f i = f' i) : ShRow w g n f' := World.rowIs.congr h (fun q hq => by unfold shF; rw [he (q / 2) (by omega)])
theorem ShRow.set {w : World} {g n : Nat} {f : Nat → Int × ByteArray} (h : ShRow w g n f) (i : Nat) (x : Int) (t : ByteArray) : ShRow ((w.setCell ⟨g, i * 2, none⟩ (.int .i64 x)).setCell ⟨g, i * 2 + 1, none⟩ (.string t)) g n (fun j => if j = i then (x, t) else f j) := by
  refine World.rowIs.congr ((World.rowIs.set h (i * 2) (.int .i64 x)).set (i * 2 + 1) (.string t)) (fun q _ => ?_)
  rcases Nat.mod_two_eq_zero_or_one q with e | e
  · rw [if_neg (by omega)]
    by_cases e2 : q = i * 2
    · rw [if_pos e2]
      unfold shF
      dsimp only
      rw [if_pos e, if_pos (show q / 2 = i by omega)]
    · rw [if_neg e2]
      unfold shF
      dsimp only
      rw [if_pos e, if_pos e, if_neg (show ¬ q / 2 = i by omega)]
  · by_cases e2 : q = i * 2 + 1
    · rw [if_pos e2]
      unfold shF
      dsimp only
      rw [if_neg (show ¬ q % 2 = 0 by omega), if_pos (show q / 2 = i by omega)]
    · rw [if_neg e2, if_neg (by omega)]
      unfold shF
      dsimp only
      rw [if_neg (show ¬ q % 2 = 0 by omega), if_neg (show ¬ q % 2 = 0 by omega), if_neg (show ¬ q / 2 = i by omega)]
theorem ShRow.shs {w : World} {g n : Nat} {f : Nat → Int × ByteArray} (h : ShRow w g n f) : Shs w (some ⟨g, 0, none⟩) ((List.range n).map f) := by
  refine Or.inr ⟨g, 0, rfl, World.rowIs.lt h, fun i hi => ?_⟩
  have hi' : i < n := by simpa using hi
  have e : shAt ((List.range n).map f) i = f i := by
    unfold shAt
    rw [List.getD_eq_getElem?_getD, List.getElem?_map, List.getElem?_range hi']
    rfl
  rw [e, Nat.zero_add]
  exact ⟨h.at_ hi', h.text hi'⟩
theorem ShRow.made (w : World) (n : Nat) : ShRow (w.alloc (.cells (madeCells #[.int .i64 0, .string ⟨#[]⟩] (n * 2)) 49)) w.heap.size n (fun _ => (0, ⟨#[]⟩)) := by
  have := World.rowIs_alloc w (madeCells #[.int .i64 0, .string ⟨#[]⟩] (n * 2)) 49 (shF fun _ => (0, ⟨#[]⟩)) (fun i hi => by
    rw [size_madeCells] at hi
    simp only [madeCells]
    rw [Array.getElem?_map, Array.getElem?_eq_getElem (by simpa using hi)]
    simp only [Array.getElem_range, Option.map_some]
    unfold shF
    rcases Nat.mod_two_eq_zero_or_one i with e | e
    · rw [if_pos e]; simp [e]
    · rw [if_neg (by omega)]; simp [e])
  rw [size_madeCells] at this
  exact this
theorem run_make_shards (n : Nat) (hn : n ≤ 1000000) (W : World) : Sem.run Tryz.prog (Instr.makeSlice 55 (.int .i64 (n : Int)) (.int .i64 (n : Int))) W = .ok (.slice (some ⟨W.heap.size, 0, none⟩) n n) (W.alloc (.cells (madeCells #[.int .i64 0, .string ⟨#[]⟩] (n * 2)) 49)) := by
  obtain ⟨i1, hi1, hy0, hy1, hy2⟩ := info_parts shinfo
  have hr := run_make (P := Tryz.prog) W 55 49 i1 _ Tryz.underlying55 hi1 hy0 .i64 .i64 n n (by omega) (Int.le_refl _) (by rw [hy2]; omega) (by omega)
  simp only [Int.toNat_natCast, hy1] at hr
  exact hr
end Go.Proofs.YtgjehnahkbddgaaGreatDoor
