/- The walk of the law CoderWrong: whatever the numbers, the text and the byte, the call returns true; nothing that was there is written. -/
import Derived.Test.YthokfjkgmopeoaaDoorPickM
import Derived.Test.YthokfjkgmopeoaaDoorSingleW
import Derived.Lib.ConvBytes
namespace Go.Proofs.YthokfjkgmopeoaaDoor
open Go.RowKit
theorem ShRow.setText {w : World} {g n : Nat} {f : Nat → Int × ByteArray} (h : ShRow w g n f) (i : Nat) (t : ByteArray) : ShRow (w.setCell ⟨g, i * 2 + 1, none⟩ (.string t)) g n (fun j => if j = i then ((f i).1, t) else f j) := by
  refine World.rowIs.congr (World.rowIs.set h (i * 2 + 1) (.string t)) (fun q _ => ?_)
  rcases Nat.mod_two_eq_zero_or_one q with e | e
  · rw [if_neg (by omega)]
    unfold shF
    dsimp only
    rw [if_pos e, if_pos e]
    by_cases e2 : q / 2 = i
    · rw [if_pos e2, e2]
    · rw [if_neg e2]
  · by_cases e2 : q = i * 2 + 1
    · rw [if_pos e2]
      unfold shF
      dsimp only
      rw [if_neg (show ¬ q % 2 = 0 by omega), if_pos (show q / 2 = i by omega)]
    · rw [if_neg e2]
      unfold shF
      dsimp only
      rw [if_neg (show ¬ q % 2 = 0 by omega), if_neg (show ¬ q % 2 = 0 by omega), if_neg (show ¬ q / 2 = i by omega)]
/-- A text with one byte turned. -/
def turnT (t : ByteArray) (b x : Nat) : List Nat := rowFn t.size fun c => if c = b then Gf.nth (bytesOf t) b ^^^ x else Gf.nth (bytesOf t) c
theorem turnT_bytes (t : ByteArray) (b x : Nat) (hx : x < 256) : Gf.Bytes (turnT t b x) := rowFn_bytes _ _ fun c => by
  by_cases e : c = b
  · rw [if_pos e]; exact Gf.xlt (bytesOf_lt t b) hx
  · rw [if_neg e]; exact bytesOf_lt t c
theorem turnT_size (t : ByteArray) (b x : Nat) : (strOf (turnT t b x)).size = t.size := by rw [strOf_size]; exact rowFn_length _ _
theorem turnT_ne (t : ByteArray) (b x : Nat) (hx : x < 256) (h0 : x ≠ 0) (hb : b < t.size) : strOf (turnT t b x) ≠ t := fun e => by
  have h1 : Gf.nth (bytesOf (strOf (turnT t b x))) b = Gf.nth (bytesOf t) b := by rw [e]
  rw [bytesOf_strOf (turnT_bytes t b x hx)] at h1
  unfold turnT at h1
  rw [nth_rowFn _ _ b hb, if_pos rfl] at h1
  have h2 : Gf.nth (bytesOf t) b ^^^ (Gf.nth (bytesOf t) b ^^^ x) = Gf.nth (bytesOf t) b ^^^ Gf.nth (bytesOf t) b := by rw [h1]
  rw [← Nat.xor_assoc, Nat.xor_self, Nat.zero_xor] at h2
  exact h0 h2
theorem bytesWorld_below (w : World) (e : TypeId) (s : ByteArray) : Below w.heap.size w (Lib.bytesWorld w e s) :=
  ⟨rfl, rfl, rfl, by rw [Lib.bytesWorld_size]; omega, fun k hk => Lib.bytesWorld_at_old w e s k hk⟩
theorem bytesWorld_free (w : World) (e : TypeId) (s : ByteArray) (j : Nat) (hj : j < s.size) : (Lib.bytesWorld w e s).frozen? ⟨w.heap.size, j, none⟩ = false := by
  have hs : s.size ≤ (Lib.bytesCells w e s).size := by
    unfold Lib.bytesCells
    rw [Array.size_append, Array.size_map]
    show s.size ≤ s.size + _
    omega
  simp [World.frozen?, Lib.bytesWorld_at_new]
  omega
theorem bytesWorld_byte (w : World) (e : TypeId) (s : ByteArray) (j : Nat) (hj : j < s.size) : (Lib.bytesWorld w e s).cell? ⟨w.heap.size, j, none⟩ = some (.int .u8 ((Gf.nth (bytesOf s) j : Nat) : Int)) := by
  rw [Lib.bytesWorld_cell w e s j hj, bytesOf_nth s j hj, List.getD_eq_getElem?_getD, List.getElem?_eq_getElem (by simpa using hj)]
  rfl
set_option maxRecDepth 10000 in
set_option maxHeartbeats 4000000 in
theorem wrgLaw_pass (n k : Int) (s : ByteArray) (at_ bt : Int) (by_ : Nat) (z : Addr) (w : World) (hs : s.size ≤ maxLen) (hby : by_ < 256) (h : ¬ (1 ≤ k ∧ k < n ∧ n ≤ 12 ∧ 1 ≤ s.size ∧ s.size ≤ 100 ∧ 0 ≤ at_ ∧ at_ < n ∧ by_ ≠ 0)) (hz : w.cell? ⟨11, 0, none⟩ = some (.iface 136 (.pointer (some z)))) :
    Calls Tryd.prog 6 #[.int .i64 n, .int .i64 k, .string s, .int .i64 at_, .int .i64 bt, .int .u8 (by_ : Int)] w fun e w' => e = .returned (.bool true) ∧ Below w.heap.size w w' := by
  unfold maxLen at hs
  have HU := single_any z w hz
  clear hz
  have HH : Hid (¬ (1 ≤ k ∧ k < n ∧ n ≤ 12 ∧ 1 ≤ s.size ∧ s.size ≤ 100 ∧ 0 ≤ at_ ∧ at_ < n ∧ by_ ≠ 0)) := h
  clear h
  by_cases h1 : k < 1
  · go_enter Tryd.func6, Tryd.ntmps6
    go_wp2_with fail
    refine HU.mono ?_
    rintro e w1 ⟨rfl, hb1⟩
    clear HU
    go_wp2
    go_ret
    exact ⟨rfl, hb1⟩
  by_cases h2 : n ≤ k
  · go_enter Tryd.func6, Tryd.ntmps6
    go_wp2_with fail
    refine HU.mono ?_
    rintro e w1 ⟨rfl, hb1⟩
    clear HU
    go_wp2
    go_ret
    exact ⟨rfl, hb1⟩
  by_cases h3 : n > 12
  · go_enter Tryd.func6, Tryd.ntmps6
    go_wp2_with fail
    refine HU.mono ?_
    rintro e w1 ⟨rfl, hb1⟩
    clear HU
    go_wp2
    go_ret
    exact ⟨rfl, hb1⟩
  by_cases h4 : s.size < 1
  · go_enter Tryd.func6, Tryd.ntmps6
    go_wp2_with fail
    refine HU.mono ?_
    rintro e w1 ⟨rfl, hb1⟩
    clear HU
    go_wp2
    go_ret
    exact ⟨rfl, hb1⟩
  have h4' : ¬ (s.size : Int) < 1 := by omega
  by_cases h5 : 100 < s.size
  · go_enter Tryd.func6, Tryd.ntmps6
    go_wp2_with fail
    refine HU.mono ?_
    rintro e w1 ⟨rfl, hb1⟩
    clear HU
    go_wp2
    go_ret
    exact ⟨rfl, hb1⟩
  by_cases h6 : at_ < 0
  · go_enter Tryd.func6, Tryd.ntmps6
    go_wp2_with fail
    refine HU.mono ?_
    rintro e w1 ⟨rfl, hb1⟩
    clear HU
    go_wp2
    go_ret
    exact ⟨rfl, hb1⟩
  by_cases h7 : n ≤ at_
  · go_enter Tryd.func6, Tryd.ntmps6
    go_wp2_with fail
    refine HU.mono ?_
    rintro e w1 ⟨rfl, hb1⟩
    clear HU
    go_wp2
    go_ret
    exact ⟨rfl, hb1⟩
  have h8 : by_ = 0 := Classical.byContradiction fun h8 => HH.out ⟨by omega, by omega, by omega, by omega, by omega, by omega, by omega, h8⟩
  subst h8
  go_enter Tryd.func6, Tryd.ntmps6
  go_wp2_with fail
  refine HU.mono ?_
  rintro e w1 ⟨rfl, hb1⟩
  clear HU
  go_wp2
  go_ret
  exact ⟨rfl, hb1⟩
set_option maxRecDepth 10000 in
set_option maxHeartbeats 4000000 in
theorem wrgLaw_in (n k : Nat) (s : ByteArray) (a : Nat) (bt : Int) (by_ : Nat) (z : Addr) (w : World) (hby : by_ < 256) (hk1 : 1 ≤ k) (hkn : k < n) (hn : n ≤ 12) (hs1 : 1 ≤ s.size) (hs2 : s.size ≤ 100) (han : a < n) (hb0 : by_ ≠ 0) (hz : w.cell? ⟨11, 0, none⟩ = some (.iface 136 (.pointer (some z)))) :
    Calls Tryd.prog 6 #[.int .i64 (n : Int), .int .i64 (k : Int), .string s, .int .i64 (a : Int), .int .i64 bt, .int .u8 (by_ : Int)] w fun e w' => e = .returned (.bool true) ∧ Below w.heap.size w w' := by
  have HU := single_any z w hz
  have HZ : Hid (w.cell? ⟨11, 0, none⟩ = some (.iface 136 (.pointer (some z)))) := hz
  have g1 : decide ((k : Int) < 1) = false := decide_eq_false (by omega)
  have g2 : decide (n ≤ k) = false := decide_eq_false (by omega)
  have g3 : decide (12 < (n : Int)) = false := decide_eq_false (by omega)
  have g4 : decide ((s.size : Int) < 1) = false := decide_eq_false (by omega)
  have g5 : decide (100 < (s.size : Int)) = false := decide_eq_false (by omega)
  have g6 : decide (n ≤ a) = false := decide_eq_false (by omega)
  have g7 : ((by_ : Int) == 0) = false := by
    rw [beq_eq_false_iff_ne]
    omega
  have g8 : ¬ by_ = 0 := hb0
  have HB0 : Hid (by_ ≠ 0) := hb0
  clear hz hb0
  go_enter Tryd.func6, Tryd.ntmps6
  go_wp2_with fail
  refine HU.mono ?_
  rintro e w1 ⟨rfl, hb1⟩
  have HB1 : Hid (Below w.heap.size w w1) := hb1
  have HE := encode_ok n k s z w1 hk1 (by omega) hn (by omega) ((hb1.cell (p := ⟨11, 0, none⟩) (lt_of_cell HZ.out)).trans HZ.out)
  clear HU hb1
  go_wp2_with fail
  refine HE.mono ?_
  rintro e w2 ⟨⟨g, hg, rfl, hr⟩, hb2⟩
  have HR2 : Hid (ShRow w2 g n (encS k s)) := hr
  have HB2 : Hid (Below w.heap.size w w2) := HB1.out.trans (hb2.mono HB1.out.size)
  have hgl : g < w2.heap.size := World.rowIs.lt hr
  have hgw : w.heap.size ≤ g := Nat.le_trans HB1.out.size hg
  have q1 : w2.cell? ⟨g, a * 2 + 1, none⟩ = some (.string (encT k s a)) := hr.text han
  have hsz : (encT k s a).size = wideN k s.size := encT_size k s a
  have hwd := wideN_le (size := s.size) hk1
  have hcv : Sem.run Tryd.prog (convert 9 48 (.string (encT k s a))) w2 = .ok (.slice (some ⟨w2.heap.size, 0, none⟩) (encT k s a).size (grownCap w2 (encT k s a).size 0 5)) (Lib.bytesWorld w2 5 (encT k s a)) := Lib.run_convert_string_bytes w2 9 48 5 (encT k s a) Tryd.underlying9 Tryd.underlying48 Tryd.underlying5
  have hb3 := bytesWorld_below w2 5 (encT k s a)
  have HBY : Hid (∀ j, j < (encT k s a).size → (Lib.bytesWorld w2 5 (encT k s a)).cell? ⟨w2.heap.size, j, none⟩ = some (.int .u8 ((Gf.nth (bytesOf (encT k s a)) j : Nat) : Int)) ∧ (Lib.bytesWorld w2 5 (encT k s a)).frozen? ⟨w2.heap.size, j, none⟩ = false) := fun j hj => ⟨bytesWorld_byte w2 _ _ j hj, bytesWorld_free w2 _ _ j hj⟩
  have HSZ3 : Hid (w2.heap.size < (Lib.bytesWorld w2 5 (encT k s a)).heap.size) := by show _ < _; rw [Lib.bytesWorld_size]; omega
  have HB3 : Hid (Below w2.heap.size w2 (Lib.bytesWorld w2 5 (encT k s a))) := hb3
  generalize Lib.bytesWorld w2 5 (encT k s a) = w3 at hcv hb3 HBY HSZ3 HB3
  generalize grownCap w2 (encT k s a).size 0 5 = cp at hcv
  have HSIZE : Hid ((encT k s a).size = wideN k s.size) := hsz
  clear HE hr hb2 hb3 hg hsz
  by_cases hlo : bt < 0
  · generalize encT k s a = ta at *
    go_wp2
    go_ret
    exact ⟨rfl, HB2.out.trans (HB3.out.mono HB2.out.size)⟩
  by_cases hhi : ((encT k s a).size : Int) ≤ bt
  · generalize encT k s a = ta at *
    go_wp2
    go_ret
    exact ⟨rfl, HB2.out.trans (HB3.out.mono HB2.out.size)⟩
  obtain ⟨b, rfl⟩ := Int.eq_ofNat_of_zero_le (show 0 ≤ bt by omega)
  have hbl : b < (encT k s a).size := by omega
  have q2 := (HBY.out b hbl).1
  have f2 := (HBY.out b hbl).2
  have lx := bytesOf_lt (encT k s a) b
  have HX : Hid (bits .xor .u8 ((Gf.nth (bytesOf (encT k s a)) b : Nat) : Int) (by_ : Int) = ((Gf.nth (bytesOf (encT k s a)) b ^^^ by_ : Nat) : Int)) := by
    show _ = _
    exact u8_xor_nat _ _ lx hby
  have hx := HX.out
  have f3 : w3.frozen? ⟨g, a * 2 + 1, none⟩ = false := by
    rw [HB3.out.frozen (p := ⟨g, a * 2 + 1, none⟩) hgl]
    exact World.rowIs.frozen HR2.out _
  have q3 : w3.cell? ⟨g, a * 2 + 1, none⟩ = some (.string (encT k s a)) := (HB3.out.cell (p := ⟨g, a * 2 + 1, none⟩) hgl).trans q1
  have hne : w2.heap.size ≠ g := by omega
  -- the world behind the two stores
  obtain ⟨w4, hw4⟩ : ∃ w4, w4 = w3.setCell ⟨w2.heap.size, b, none⟩ (.int .u8 ((Gf.nth (bytesOf (encT k s a)) b ^^^ by_ : Nat) : Int)) := ⟨_, rfl⟩
  have hg4 : w3.grownBy w4 (some w2.heap.size) := by rw [hw4]; exact grown_set w3 _ _ _
  have hcv2 : Sem.run Tryd.prog (convert 48 9 (.slice (some ⟨w2.heap.size, 0, none⟩) (encT k s a).size cp)) w4 = .ok (.string (strOf (turnT (encT k s a) b by_))) w4 := by
    have hl : (turnT (encT k s a) b by_).length = (encT k s a).size := rowFn_length _ _
    have hsg : Seg w4 (some ⟨w2.heap.size, 0, none⟩) (turnT (encT k s a) b by_) := ⟨turnT_bytes _ _ _ hby, Or.inr ⟨w2.heap.size, 0, rfl, Nat.lt_of_lt_of_le HSZ3.out hg4.size, fun c hc => by
      rw [hl] at hc
      rw [Nat.zero_add]
      unfold turnT
      rw [nth_rowFn _ _ c hc, hw4]
      by_cases e : c = b
      · subst e
        rw [if_pos rfl]
        exact World.cell?_setCell_same _ _ _ q2
      · rw [if_neg e, World.cell?_setCell_other _ _ _ _ (fun h => e (by have h2 := congrArg Addr.off h; exact h2.symm))]
        exact (HBY.out c hc).1⟩⟩
    have := conv_seg hsg cp
    rw [hl] at this
    exact this
  have hrow4 : ShRow w4 g n (encS k s) := by
    rw [hw4]
    exact World.rowIs.setOther (HR2.out.below HB3.out) (fun e => hne e.symm) _
  have hB4 : Below w.heap.size w w4 := by
    rw [hw4]
    exact (HB2.out.trans (HB3.out.mono HB2.out.size)).setCell HB2.out.size _
  have hrow5 := hrow4.setText a (strOf (turnT (encT k s a) b by_))
  have hB5 : Below w.heap.size w (w4.setCell ⟨g, a * 2 + 1, none⟩ (.string (strOf (turnT (encT k s a) b by_)))) := hB4.setCell hgw _
  have hL5 : Shs (w4.setCell ⟨g, a * 2 + 1, none⟩ (.string (strOf (turnT (encT k s a) b by_)))) (some ⟨g, 0, none⟩) (rangeL n fun i => if i = a then strOf (turnT (encT k s a) b by_) else encT k s i) := by
    have h := hrow5.shs
    have he : (List.range n).map (fun j => if j = a then ((encS k s a).1, strOf (turnT (encT k s a) b by_)) else encS k s j) = rangeL n fun i => if i = a then strOf (turnT (encT k s a) b by_) else encT k s i := by
      unfold rangeL
      refine List.map_congr_left fun j _ => ?_
      dsimp only
      by_cases e : j = a
      · rw [if_pos e, if_pos e, e]; rfl
      · rw [if_neg e, if_neg e]; rfl
    rw [he] at h
    exact h
  have hfit : Fits n k s.size (rangeL n fun i => if i = a then strOf (turnT (encT k s a) b by_) else encT k s i) := rangeL_fits (by omega) (fun i _ => by
    by_cases e : i = a
    · rw [if_pos e, turnT_size]; exact HSIZE.out
    · rw [if_neg e]; exact encT_size k s i)
  have HAG := agree_ok n k s.size (some ⟨g, 0, none⟩) (rangeL n fun i => if i = a then strOf (turnT (encT k s a) b by_) else encT k s i) n z _ hk1 (by omega) hn (by omega) (by rw [rangeL_length]; omega) hfit hL5 ((hB5.cell (p := ⟨11, 0, none⟩) (lt_of_cell HZ.out)).trans HZ.out)
  rw [wrong_seen (by omega) hkn han (by rw [decT_size]) (turnT_ne _ _ _ hby HB0.out hbl), rangeL_length] at HAG
  have HB5 : Hid (Below w.heap.size w (w4.setCell ⟨g, a * 2 + 1, none⟩ (.string (strOf (turnT (encT k s a) b by_))))) := hB5
  clear hrow4 hB4 hrow5 hB5 hL5 hfit HBY HX HR2 hg4
  generalize strOf (turnT (encT k s a) b by_) = u at *
  subst hw4
  generalize Gf.nth (bytesOf (encT k s a)) b ^^^ by_ = y at *
  generalize Gf.nth (bytesOf (encT k s a)) b = x at *
  generalize encT k s a = ta at *
  go_wp2_with fail
  refine HAG.mono ?_
  rintro e w6 ⟨rfl, hb6⟩
  clear HAG
  go_wp2
  go_ret
  exact ⟨rfl, HB5.out.trans (hb6.mono HB5.out.size)⟩
theorem wrgLaw_any (n k : Int) (s : ByteArray) (at_ bt : Int) (by_ : Nat) (z : Addr) (w : World) (hs : s.size ≤ maxLen) (hby : by_ < 256) (hz : w.cell? ⟨11, 0, none⟩ = some (.iface 136 (.pointer (some z)))) :
    Calls Tryd.prog 6 #[.int .i64 n, .int .i64 k, .string s, .int .i64 at_, .int .i64 bt, .int .u8 (by_ : Int)] w fun e w' => e = .returned (.bool true) ∧ Below w.heap.size w w' := by
  by_cases h : 1 ≤ k ∧ k < n ∧ n ≤ 12 ∧ 1 ≤ s.size ∧ s.size ≤ 100 ∧ 0 ≤ at_ ∧ at_ < n ∧ by_ ≠ 0
  · obtain ⟨k', rfl⟩ := Int.eq_ofNat_of_zero_le (show 0 ≤ k by omega)
    obtain ⟨n', rfl⟩ := Int.eq_ofNat_of_zero_le (show 0 ≤ n by omega)
    obtain ⟨a', rfl⟩ := Int.eq_ofNat_of_zero_le (show 0 ≤ at_ by omega)
    exact wrgLaw_in n' k' s a' bt by_ z w hby (by omega) (by omega) (by omega) h.2.2.2.1 h.2.2.2.2.1 (by omega) h.2.2.2.2.2.2.2 hz
  · exact wrgLaw_pass n k s at_ bt by_ z w hs hby h hz
end Go.Proofs.YthokfjkgmopeoaaDoor
