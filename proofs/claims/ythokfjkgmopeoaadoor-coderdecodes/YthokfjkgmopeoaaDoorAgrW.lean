/- Package coder: Decode's errors; Rebuild and Agree, by way of the object. -/
import Derived.Test.YthokfjkgmopeoaaDoorDecW
namespace Go.Proofs.YthokfjkgmopeoaaDoor
open Go.RowKit
set_option maxRecDepth 10000 in
theorem decode_bound (n k size : Int) (v : Value) (z : Addr) (w : World) (h : ¬ (1 ≤ k ∧ k ≤ n ∧ n ≤ 12 ∧ 0 ≤ size ∧ size ≤ 1000)) (hz : w.cell? ⟨2, 0, none⟩ = some (.iface 136 (.pointer (some z)))) :
    Calls Tryd.prog 14 #[.int .i64 n, .int .i64 k, .int .i64 size, v] w fun e w' => e = .returned (.tuple #[.string ⟨#[]⟩, .iface 136 (.pointer (some z))]) ∧ Below w.heap.size w w' := by
  obtain ⟨w1, hw1⟩ : ∃ w1, w1 = w.alloc (.cells #[.int .i64 n] 3) := ⟨_, rfl⟩
  have hb1 : Below w.heap.size w w1 := by rw [hw1]; exact (Below.refl _ _).alloc (Nat.le_refl _) _
  have HS := spreadOf_bad n k size z w1 h ((hb1.cell (p := ⟨2, 0, none⟩) (lt_of_cell hz)).trans hz)
  have HW1 : Hid (w1 = w.alloc (.cells #[.int .i64 n] 3)) := hw1
  have HB1 : Hid (Below w.heap.size w w1) := hb1
  clear hw1 hb1 hz h
  go_enter Tryd.func14, Tryd.ntmps14
  go_wp2_with fail
  rw [← HW1.out]
  refine HS.mono ?_
  rintro e w2 ⟨rfl, hb2⟩
  clear HS
  go_wp2
  go_ret2
  exact ⟨rfl, HB1.out.trans (hb2.mono HB1.out.size)⟩
set_option maxRecDepth 10000 in
set_option maxHeartbeats 4000000 in
theorem decode_bad (n k size : Nat) (p : Option Addr) (l : List (Int × ByteArray)) (cap : Nat) (z zs zf ze : Addr) (w : World) (hk1 : 1 ≤ k) (hkn : k ≤ n) (hn : n ≤ 12) (hsz : size ≤ 1000) (hl : l.length ≤ 1000) (hs : Shs w p l)
    (hz : w.cell? ⟨11, 0, none⟩ = some (.iface 136 (.pointer (some z)))) (hzs : w.cell? ⟨0, 0, none⟩ = some (.iface 136 (.pointer (some zs)))) (hzf : w.cell? ⟨1, 0, none⟩ = some (.iface 136 (.pointer (some zf))))
    (h : l.any (badB (n : Int) (wideN k size)) = true ∧ ze = zs ∨ l.any (badB (n : Int) (wideN k size)) = false ∧ (pickN k l l.length).length < k ∧ ze = zf) :
    Calls Tryd.prog 14 #[.int .i64 (n : Int), .int .i64 (k : Int), .int .i64 (size : Int), .slice p l.length cap] w fun e w' => e = .returned (.tuple #[.string ⟨#[]⟩, .iface 136 (.pointer (some ze))]) ∧ Below w.heap.size w w' := by
  have hwd := wideN_le (size := size) hk1
  have HFI : Hid (∀ W, Shs W p l → Calls Tryd.prog 29 #[.int .i64 (k : Int), .slice p l.length cap] W fun e w' => (∃ p' c', e = .returned (.slice p' (pickN k l l.length).length c') ∧ Shs w' p' (pickN k l l.length)) ∧ Below W.heap.size W w') := fun W hW => first_any k p l cap W (by omega) hl hW
  have HWD : Hid (∀ W, Calls Tryd.prog 20 #[.int .i64 (size : Int), .int .i64 (k : Int)] W fun e w' => e = .returned (.int .i64 ((wideN k size : Nat) : Int)) ∧ w' = W) := fun W => width_any size k W hk1 (by omega) (by omega)
  have HCASE : Hid (l.any (badB (n : Int) (wideN k size)) = true ∧ ze = zs ∨ l.any (badB (n : Int) (wideN k size)) = false ∧ (pickN k l l.length).length < k ∧ ze = zf) := h
  clear h
  generalize wideN k size = wd at *
  generalize pickN k l l.length = so at *
  obtain ⟨w1, hw1⟩ : ∃ w1, w1 = w.alloc (.cells #[.int .i64 (n : Int)] 3) := ⟨_, rfl⟩
  have hb1 : Below w.heap.size w w1 := by rw [hw1]; exact (Below.refl _ _).alloc (Nat.le_refl _) _
  have hs1 : w.heap.size < w1.heap.size := by rw [hw1]; simp
  have hp1 : w1.cell? ⟨w.heap.size, 0, none⟩ = some (.int .i64 (n : Int)) := by rw [hw1, World.cell?_alloc_at _ _ _ _ rfl]; rfl
  have HS := spreadOf_ok n k size z w1 hk1 hkn hn hsz ((hb1.cell (p := ⟨11, 0, none⟩) (lt_of_cell hz)).trans hz)
  have HW1 : Hid (w1 = w.alloc (.cells #[.int .i64 (n : Int)] 3)) := hw1
  have HB1 : Hid (Below w.heap.size w w1) := hb1
  have HL1 : Hid (Shs w1 p l) := hs.below hb1
  have HE : Hid (∀ W, Below w.heap.size w W → W.cell? ⟨0, 0, none⟩ = some (.iface 136 (.pointer (some zs))) ∧ W.cell? ⟨1, 0, none⟩ = some (.iface 136 (.pointer (some zf)))) := fun W hW => ⟨(hW.cell (p := ⟨0, 0, none⟩) (lt_of_cell hzs)).trans hzs, (hW.cell (p := ⟨1, 0, none⟩) (lt_of_cell hzf)).trans hzf⟩
  clear hw1 hb1 hz hzs hzf hs
  go_enter Tryd.func14, Tryd.ntmps14
  go_wp2_with fail
  rw [← HW1.out]
  refine HS.mono ?_
  rintro e w2 ⟨⟨gm, rfl, hm2⟩, hb2⟩
  have hs2 : w1.heap.size ≤ w2.heap.size := hb2.size
  have hp2 : w2.cell? ⟨w.heap.size, 0, none⟩ = some (.int .i64 (n : Int)) := (hb2.cell (p := ⟨w.heap.size, 0, none⟩) hs1).trans hp1
  have HB2 : Hid (Below w.heap.size w w2) := HB1.out.trans (hb2.mono (by omega))
  have HL2 : Hid (Shs w2 p l) := HL1.out.below hb2
  clear HS hm2 hb2 HB1 HW1 hp1 HL1
  go_wp2_with fail
  refine (HWD.out _).mono ?_
  rintro e w2' ⟨rfl, hww⟩
  rw [hww]
  clear hww w2' HWD
  obtain ⟨w3, hw3⟩ : ∃ w3, w3 = w2.alloc (.cells #[.int .i64 (wd : Int)] 3) := ⟨_, rfl⟩
  have hb3 : Below w2.heap.size w2 w3 := by rw [hw3]; exact (Below.refl _ _).alloc (Nat.le_refl _) _
  have hs3 : w2.heap.size < w3.heap.size := by rw [hw3]; simp
  have hp3 : w3.cell? ⟨w.heap.size, 0, none⟩ = some (.int .i64 (n : Int)) := (hb3.cell (p := ⟨w.heap.size, 0, none⟩) (by show w.heap.size < _; omega)).trans hp2
  have hv3 : w3.cell? ⟨w2.heap.size, 0, none⟩ = some (.int .i64 (wd : Int)) := by rw [hw3, World.cell?_alloc_at _ _ _ _ rfl]; rfl
  have HB3 : Hid (Below w.heap.size w w3) := HB2.out.trans (hb3.mono (by omega))
  have HA : Asks w3 28 #[.pointer (some ⟨w.heap.size, 0, none⟩), .pointer (some ⟨w2.heap.size, 0, none⟩)] l (badB (n : Int) wd) := fun i hi w4 h4 =>
    decode1_any w.heap.size w2.heap.size n wd (shAt l i).1 (shAt l i).2 w4 ((h4.cell (p := ⟨w.heap.size, 0, none⟩) (by show w.heap.size < _; omega)).trans hp3) ((h4.cell (p := ⟨w2.heap.size, 0, none⟩) hs3).trans hv3)
  have HC := contains_any p l cap 28 #[.pointer (some ⟨w.heap.size, 0, none⟩), .pointer (some ⟨w2.heap.size, 0, none⟩)] (badB (n : Int) wd) w3 (by omega) (HL2.out.below hb3) (enters_of Tryd.func28 (by kernel_rfl) rfl) HA
  have HW3 : Hid (w3 = w2.alloc (.cells #[.int .i64 (wd : Int)] 3)) := hw3
  have HL3 : Hid (Shs w3 p l) := HL2.out.below hb3
  clear hw3 hb3 HA HB2 hp2 HL2
  rcases HCASE.out with ⟨hbad, hze⟩ | ⟨hgood, hfew, hze⟩
  · rw [hbad] at HC
    subst hze
    clear hbad HCASE HFI
    go_wp2_with fail
    rw [← HW3.out]
    refine HC.mono ?_
    rintro e w4 ⟨rfl, hb4⟩
    have HB4 : Hid (Below w.heap.size w w4) := HB3.out.trans (hb4.mono HB3.out.size)
    obtain ⟨q1, _⟩ := HE.out w4 HB4.out
    clear HC hb4 HE
    go_wp2
    go_quiet (fail)
    go_wp2
    go_ret2
    exact ⟨rfl, below_drewN HB4.out _⟩
  · rw [hgood] at HC
    subst hze
    clear hgood HCASE
    go_wp2_with fail
    rw [← HW3.out]
    refine HC.mono ?_
    rintro e w4 ⟨rfl, hb4⟩
    have HB4 : Hid (Below w.heap.size w w4) := HB3.out.trans (hb4.mono HB3.out.size)
    have HF4 := HFI.out w4 (HL3.out.below hb4)
    clear HC hb4 HFI
    go_wp2_with fail
    refine HF4.mono ?_
    rintro e w5 ⟨⟨p5, c5, rfl, _⟩, hb5⟩
    have HB6 : Hid (Below w.heap.size w (w5.alloc (.cells #[.slice p5 so.length c5] 23))) := (HB4.out.trans (hb5.mono HB4.out.size)).alloc (by have := HB4.out.size; have := hb5.size; omega) _
    obtain ⟨_, q1⟩ := HE.out _ HB6.out
    clear HF4 hb5 HE
    go_wp2
    go_quiet (fail)
    go_wp2
    go_ret2
    exact ⟨rfl, below_drewN HB6.out _⟩
theorem toList_inj {a b : ByteArray} (h : a.toList = b.toList) : a = b := by
  rw [ByteArray.toList_eq, ByteArray.toList_eq] at h
  exact ByteArray.ext (Array.toList_inj.1 h)
/-- allOf where Decode has an error. -/
theorem allOf_bad (a0 a1 a2 v : Value) (z : Addr) (w : World)
    (HD : Calls Tryd.prog 14 #[a0, a1, a2, v] w fun e w' => e = .returned (.tuple #[.string ⟨#[]⟩, .iface 136 (.pointer (some z))]) ∧ Below w.heap.size w w') :
    Calls Tryd.prog 35 #[a0, a1, a2, v] w fun e w' => e = .returned (.tuple #[.slice none 0 0, .iface 136 (.pointer (some z))]) ∧ Below w.heap.size w w' := by
  go_enter Tryd.func35, Tryd.ntmps35
  go_wp2_with fail
  refine HD.mono ?_
  rintro e w1 ⟨rfl, hb1⟩
  clear HD
  go_wp2
  go_ret2
  exact ⟨rfl, hb1⟩
set_option maxRecDepth 10000 in
theorem allOf_ok (n k size : Nat) (p : Option Addr) (l : List (Int × ByteArray)) (cap : Nat) (z : Addr) (w : World) (hk1 : 1 ≤ k) (hkn : k ≤ n) (hn : n ≤ 12) (hsz : size ≤ 1000) (hl : l.length ≤ 1000) (hf : Fits n k size l) (hs : Shs w p l)
    (hz : w.cell? ⟨11, 0, none⟩ = some (.iface 136 (.pointer (some z)))) :
    Calls Tryd.prog 35 #[.int .i64 (n : Int), .int .i64 (k : Int), .int .i64 (size : Int), .slice p l.length cap] w fun e w' => (∃ g, w.heap.size ≤ g ∧ e = .returned (.tuple #[.slice (some ⟨g, 0, none⟩) n n, .nilIface]) ∧ ShRow w' g n (encS k (decT k size (pickN k l l.length)))) ∧ Below w.heap.size w w' := by
  have HD := decode_ok n k size p l cap z w hk1 hkn hn hsz hl hf hs hz
  have hds := decT_size k size (pickN k l l.length)
  have HE : Hid (∀ W, W.cell? ⟨11, 0, none⟩ = some (.iface 136 (.pointer (some z))) → Calls Tryd.prog 9 #[.int .i64 (n : Int), .int .i64 (k : Int), .string (decT k size (pickN k l l.length))] W fun e w' => (∃ g, W.heap.size ≤ g ∧ e = .returned (.tuple #[.slice (some ⟨g, 0, none⟩) n n, .nilIface]) ∧ ShRow w' g n (encS k (decT k size (pickN k l l.length)))) ∧ Below W.heap.size W w') := fun W hW => encode_ok n k _ z W hk1 hkn hn (by omega) hW
  have HZ : Hid (w.cell? ⟨11, 0, none⟩ = some (.iface 136 (.pointer (some z)))) := hz
  clear hds hf hs hz
  generalize decT k size (pickN k l l.length) = dt at HD HE ⊢
  go_enter Tryd.func35, Tryd.ntmps35
  go_wp2_with fail
  refine HD.mono ?_
  rintro e w1 ⟨rfl, hb1⟩
  have HB1 : Hid (Below w.heap.size w w1) := hb1
  have HE1 := HE.out w1 ((hb1.cell (p := ⟨11, 0, none⟩) (lt_of_cell HZ.out)).trans HZ.out)
  clear HD hb1 HZ HE
  go_wp2_with fail
  refine HE1.mono ?_
  rintro e w2 ⟨⟨g, hg, rfl, hr⟩, hb2⟩
  clear HE1
  go_wp2
  go_ret2
  exact ⟨⟨g, Nat.le_trans HB1.out.size hg, rfl, hr⟩, HB1.out.trans (hb2.mono HB1.out.size)⟩
set_option maxRecDepth 10000 in
set_option maxHeartbeats 1000000 in
theorem agree1_any (pa g n a : Nat) (f : Nat → Int × ByteArray) (t : ByteArray) (w : World) (ha : a < n) (hfa : (f a).1 = (a : Int)) (hp : w.cell? ⟨pa, 0, none⟩ = some (.slice (some ⟨g, 0, none⟩) n n)) (hr : ShRow w g n f) :
    Calls Tryd.prog 36 (#[.agg #[.int .i64 (a : Int), .string t]] ++ #[.pointer (some ⟨pa, 0, none⟩)]) w fun e w2 => e = .returned (.bool (!decide (t = (f a).2))) ∧ Below w.heap.size w w2 := by
  have hlp := lt_of_cell hp
  have hlg : g < w.heap.size := World.rowIs.lt hr
  have q1 := hr.at_ ha
  have q2 := hr.text ha
  rw [hfa] at q1
  generalize (f a).2 = u at q2 ⊢
  clear hr hfa
  by_cases he : t = u
  · subst he
    rw [decide_eq_true rfl]
    go_enter Tryd.func36, Tryd.ntmps36
    go_wp2
    go_quiet (fail)
    go_wp2
    go_ret
    exact ⟨rfl, below_drewN ((Below.refl _ _).alloc (Nat.le_refl _) _) _⟩
  · rw [decide_eq_false he]
    have hl : ¬ t.toList = u.toList := fun e => he (toList_inj e)
    have hl' : (t.toList == u.toList) = false := by simpa using hl
    clear he
    go_enter Tryd.func36, Tryd.ntmps36
    go_wp2
    go_quiet (fail)
    go_wp2
    go_ret
    exact ⟨rfl, below_drewN ((Below.refl _ _).alloc (Nat.le_refl _) _) _⟩
/-- Agree where Decode has an error. -/
theorem agree_bad (a0 a1 a2 v : Value) (z : Addr) (w : World)
    (HD : Calls Tryd.prog 14 #[a0, a1, a2, v] w fun e w' => e = .returned (.tuple #[.string ⟨#[]⟩, .iface 136 (.pointer (some z))]) ∧ Below w.heap.size w w') :
    Calls Tryd.prog 17 #[a0, a1, a2, v] w fun e w' => e = .returned (.tuple #[.bool false, .iface 136 (.pointer (some z))]) ∧ Below w.heap.size w w' := by
  have HA := allOf_bad a0 a1 a2 v z w HD
  clear HD
  go_enter Tryd.func17, Tryd.ntmps17
  go_wp2_with fail
  refine HA.mono ?_
  rintro e w1 ⟨rfl, hb1⟩
  clear HA
  go_wp2
  go_ret2
  exact ⟨rfl, hb1.alloc hb1.size _⟩
/-- Is a shard another one than that of the object s? -/
def neB (k : Nat) (s : ByteArray) (x : Int × ByteArray) : Bool := !decide (x.2 = encT k s x.1.toNat)
set_option maxRecDepth 10000 in
theorem agree_ok (n k size : Nat) (p : Option Addr) (l : List (Int × ByteArray)) (cap : Nat) (z : Addr) (w : World) (hk1 : 1 ≤ k) (hkn : k ≤ n) (hn : n ≤ 12) (hsz : size ≤ 1000) (hl : l.length ≤ 1000) (hf : Fits n k size l) (hs : Shs w p l)
    (hz : w.cell? ⟨11, 0, none⟩ = some (.iface 136 (.pointer (some z)))) :
    Calls Tryd.prog 17 #[.int .i64 (n : Int), .int .i64 (k : Int), .int .i64 (size : Int), .slice p l.length cap] w fun e w' => e = .returned (.tuple #[.bool (!l.any (neB k (decT k size (pickN k l l.length)))), .nilIface]) ∧ Below w.heap.size w w' := by
  have HA := allOf_ok n k size p l cap z w hk1 hkn hn hsz hl hf hs hz
  have HF : Hid (∀ x ∈ l, 0 ≤ x.1 ∧ x.1 < n ∧ x.2.size = wideN k size) := fun x hx => hf.at_ hx
  have HS : Hid (Shs w p l) := hs
  clear hf hs hz
  generalize decT k size (pickN k l l.length) = dt at HA ⊢
  generalize hbb : l.any (neB k dt) = bb
  have HBB : Hid (l.any (neB k dt) = bb) := hbb
  clear hbb
  go_enter Tryd.func17, Tryd.ntmps17
  go_wp2_with fail
  refine HA.mono ?_
  rintro e w1 ⟨⟨g, hg, rfl, hr⟩, hb1⟩
  obtain ⟨w2, hw2⟩ : ∃ w2, w2 = w1.alloc (.cells #[.slice (some ⟨g, 0, none⟩) n n] 23) := ⟨_, rfl⟩
  have hb2 : Below w1.heap.size w1 w2 := by rw [hw2]; exact (Below.refl _ _).alloc (Nat.le_refl _) _
  have hs2 : w1.heap.size < w2.heap.size := by rw [hw2]; simp
  have hp2 : w2.cell? ⟨w1.heap.size, 0, none⟩ = some (.slice (some ⟨g, 0, none⟩) n n) := by rw [hw2, World.cell?_alloc_at _ _ _ _ rfl]; rfl
  have HR2 : Hid (ShRow w2 g n (encS k dt)) := hr.below hb2
  have HASK : Asks w2 36 #[.pointer (some ⟨w1.heap.size, 0, none⟩)] l (neB k dt) := fun i hi w3 h3 => by
    have hx := HF.out _ (shAt_mem hi)
    have h := agree1_any w1.heap.size g n (shAt l i).1.toNat (encS k dt) (shAt l i).2 w3 (by omega) rfl ((h3.cell (p := ⟨w1.heap.size, 0, none⟩) hs2).trans hp2) (HR2.out.below h3)
    rw [show (((shAt l i).1.toNat : Nat) : Int) = (shAt l i).1 by omega] at h
    exact h
  have HC := contains_any p l cap 36 #[.pointer (some ⟨w1.heap.size, 0, none⟩)] (neB k dt) w2 (by omega) ((HS.out.below hb1).below hb2) (enters_of Tryd.func36 (by kernel_rfl) rfl) HASK
  have HW2 : Hid (w2 = w1.alloc (.cells #[.slice (some ⟨g, 0, none⟩) n n] 23)) := hw2
  have HB2 : Hid (Below w.heap.size w w2) := hb1.trans (hb2.mono hb1.size)
  clear HA hr hb1 hw2 hb2 hp2 HASK HR2 HS HF
  rw [HBB.out] at HC
  go_wp2_with fail
  rw [← HW2.out]
  refine HC.mono ?_
  rintro e w3 ⟨rfl, hb3⟩
  clear HC
  go_wp2
  go_ret2
  exact ⟨rfl, HB2.out.trans (hb3.mono HB2.out.size)⟩
set_option maxRecDepth 10000 in
theorem rebuild_bound (n k size at_ : Int) (v : Value) (z : Addr) (w : World) (h : at_ < 0 ∨ n ≤ at_) (hz : w.cell? ⟨2, 0, none⟩ = some (.iface 136 (.pointer (some z)))) :
    Calls Tryd.prog 18 #[.int .i64 n, .int .i64 k, .int .i64 size, .int .i64 at_, v] w fun e w' => e = .returned (.tuple #[.agg #[.int .i64 0, .string ⟨#[]⟩], .iface 136 (.pointer (some z))]) ∧ Below w.heap.size w w' := by
  have hlz := lt_of_cell hz
  by_cases h1 : at_ < 0
  · clear h
    go_enter Tryd.func18, Tryd.ntmps18
    go_wp2
    go_region
    go_wp2
    refine bodyPost_ret (v := .tuple #[.agg #[.int .i64 0, .string ⟨#[]⟩], .iface 136 (.pointer (some z))]) (by simp [results, Tryd.results18, go_sem]) rfl ⟨rfl, ?_⟩
    exact ((Below.refl _ _).alloc (Nat.le_refl _) _).drew
  · have h2 : n ≤ at_ := by omega
    clear h
    go_enter Tryd.func18, Tryd.ntmps18
    go_wp2
    go_region
    go_wp2
    refine bodyPost_ret (v := .tuple #[.agg #[.int .i64 0, .string ⟨#[]⟩], .iface 136 (.pointer (some z))]) (by simp [results, Tryd.results18, go_sem]) rfl ⟨rfl, ?_⟩
    exact ((Below.refl _ _).alloc (Nat.le_refl _) _).drew
/-- The world behind the result's own place. -/
def resW (w : World) : World := w.alloc (.cells #[.int .i64 0, .string ⟨#[]⟩] 34)
theorem resW_below (w : World) : Below w.heap.size w (resW w) := (Below.refl _ _).alloc (Nat.le_refl _) _
theorem resW_size (w : World) : w.heap.size < (resW w).heap.size := by unfold resW; simp
theorem resW_cell (w : World) : (resW w).heap[w.heap.size]? = some (.cells #[.int .i64 0, .string ⟨#[]⟩] 34 (0, 0)) := by unfold resW World.alloc; simp
/-- Rebuild where Decode has an error. -/
theorem rebuild_bad (n : Int) (a1 a2 v : Value) (at_ : Int) (z : Addr) (w : World) (h0 : 0 ≤ at_) (h1 : at_ < n)
    (HD : Calls Tryd.prog 14 #[.int .i64 n, a1, a2, v] (resW w) fun e w' => e = .returned (.tuple #[.string ⟨#[]⟩, .iface 136 (.pointer (some z))]) ∧ Below (resW w).heap.size (resW w) w') :
    Calls Tryd.prog 18 #[.int .i64 n, a1, a2, .int .i64 at_, v] w fun e w' => e = .returned (.tuple #[.agg #[.int .i64 0, .string ⟨#[]⟩], .iface 136 (.pointer (some z))]) ∧ Below w.heap.size w w' := by
  have HA := allOf_bad (.int .i64 n) a1 a2 v z (resW w) HD
  have HW : Hid (resW w = w.alloc (.cells #[.int .i64 0, .string ⟨#[]⟩] 34)) := by show _ = _; rfl
  clear HD
  go_enter Tryd.func18, Tryd.ntmps18
  go_wp2_with fail
  rw [← HW.out]
  refine HA.mono ?_
  rintro e w1 ⟨rfl, hb1⟩
  have hs1 := resW_size w
  have hbk : w1.heap[w.heap.size]? = some (.cells #[.int .i64 0, .string ⟨#[]⟩] 34 (0, 0)) := (hb1.block _ hs1).trans (resW_cell w)
  have q1 : w1.cell? ⟨w.heap.size, 0, none⟩ = some (.int .i64 0) := by simp [World.cell?, hbk]
  have q2 : w1.cell? ⟨w.heap.size, 1, none⟩ = some (.string ⟨#[]⟩) := by simp [World.cell?, hbk]
  have f1 : w1.frozen? ⟨w.heap.size, 0, none⟩ = false := by simp [World.frozen?, hbk]
  have f2 : w1.frozen? ⟨w.heap.size, 1, none⟩ = false := by simp [World.frozen?, hbk]
  have HB1 : Hid (Below w.heap.size w w1) := (resW_below w).trans (hb1.mono (by omega))
  have HRI : Hid (w1.rowIs w.heap.size 34 2 (shF fun _ => (0, ⟨#[]⟩))) := ⟨_, hbk, rfl, fun i hi => by
    match i, hi with
    | 0, _ => rfl
    | 1, _ => rfl⟩
  clear HA hb1 hbk hs1
  go_wp2
  have hr := (HRI.out.set 0 (.int .i64 0)).set 1 (.string ⟨#[]⟩)
  have hbf : Below w.heap.size w ((w1.setCell ⟨w.heap.size, 0, none⟩ (.int .i64 0)).setCell ⟨w.heap.size, 1, none⟩ (.string ⟨#[]⟩)) := (HB1.out.setCell (Nat.le_refl _) _).setCell (Nat.le_refl _) _
  generalize (w1.setCell ⟨w.heap.size, 0, none⟩ (.int .i64 0)).setCell ⟨w.heap.size, 1, none⟩ (.string ⟨#[]⟩) = wf at hr hbf ⊢
  have c1 : wf.cell? ⟨w.heap.size, 0, none⟩ = some (.int .i64 0) := hr.cell (i := 0) (by decide)
  have c2 : wf.cell? ⟨w.heap.size, 1, none⟩ = some (.string ⟨#[]⟩) := hr.cell (i := 1) (by decide)
  exact bodyPost_ret (v := .tuple #[.agg #[.int .i64 0, .string ⟨#[]⟩], .iface 136 (.pointer (some z))]) (by simp [results, Tryd.results18, go_sem, c1, c2]) rfl ⟨rfl, hbf⟩
set_option maxRecDepth 10000 in
theorem rebuild_ok (n k size at_ : Nat) (p : Option Addr) (l : List (Int × ByteArray)) (cap : Nat) (z : Addr) (w : World) (hk1 : 1 ≤ k) (hkn : k ≤ n) (hn : n ≤ 12) (hsz : size ≤ 1000) (hl : l.length ≤ 1000) (hat : at_ < n) (hf : Fits n k size l) (hs : Shs w p l)
    (hz : w.cell? ⟨11, 0, none⟩ = some (.iface 136 (.pointer (some z)))) :
    Calls Tryd.prog 18 #[.int .i64 (n : Int), .int .i64 (k : Int), .int .i64 (size : Int), .int .i64 (at_ : Int), .slice p l.length cap] w fun e w' => e = .returned (.tuple #[.agg #[.int .i64 (at_ : Int), .string (encT k (decT k size (pickN k l l.length)) at_)], .nilIface]) ∧ Below w.heap.size w w' := by
  have hwb := resW_below w
  have HA := allOf_ok n k size p l cap z (resW w) hk1 hkn hn hsz hl hf (hs.below hwb) ((hwb.cell (p := ⟨11, 0, none⟩) (lt_of_cell hz)).trans hz)
  have HW : Hid (resW w = w.alloc (.cells #[.int .i64 0, .string ⟨#[]⟩] 34)) := by show _ = _; rfl
  clear hf hs hz hwb
  generalize decT k size (pickN k l l.length) = dt at HA ⊢
  go_enter Tryd.func18, Tryd.ntmps18
  go_wp2_with fail
  rw [← HW.out]
  refine HA.mono ?_
  rintro e w1 ⟨⟨g, hg, rfl, hrow⟩, hb1⟩
  have hs1 := resW_size w
  have hbk : w1.heap[w.heap.size]? = some (.cells #[.int .i64 0, .string ⟨#[]⟩] 34 (0, 0)) := (hb1.block _ hs1).trans (resW_cell w)
  have q1 : w1.cell? ⟨w.heap.size, 0, none⟩ = some (.int .i64 0) := by simp [World.cell?, hbk]
  have q2 : w1.cell? ⟨w.heap.size, 1, none⟩ = some (.string ⟨#[]⟩) := by simp [World.cell?, hbk]
  have f1 : w1.frozen? ⟨w.heap.size, 0, none⟩ = false := by simp [World.frozen?, hbk]
  have f2 : w1.frozen? ⟨w.heap.size, 1, none⟩ = false := by simp [World.frozen?, hbk]
  have r1 : w1.cell? ⟨g, at_ * 2, none⟩ = some (.int .i64 (at_ : Int)) := hrow.at_ hat
  have r2 : w1.cell? ⟨g, at_ * 2 + 1, none⟩ = some (.string (encT k dt at_)) := hrow.text hat
  have HB1 : Hid (Below w.heap.size w w1) := (resW_below w).trans (hb1.mono (by omega))
  have HRI : Hid (w1.rowIs w.heap.size 34 2 (shF fun _ => (0, ⟨#[]⟩))) := ⟨_, hbk, rfl, fun i hi => by
    match i, hi with
    | 0, _ => rfl
    | 1, _ => rfl⟩
  clear HA hb1 hbk hs1 hrow hg
  go_wp2
  have hr := (HRI.out.set 0 (.int .i64 (at_ : Int))).set 1 (.string (encT k dt at_))
  have hbf : Below w.heap.size w ((w1.setCell ⟨w.heap.size, 0, none⟩ (.int .i64 (at_ : Int))).setCell ⟨w.heap.size, 1, none⟩ (.string (encT k dt at_))) := (HB1.out.setCell (Nat.le_refl _) _).setCell (Nat.le_refl _) _
  generalize (w1.setCell ⟨w.heap.size, 0, none⟩ (.int .i64 (at_ : Int))).setCell ⟨w.heap.size, 1, none⟩ (.string (encT k dt at_)) = wf at hr hbf ⊢
  have c1 : wf.cell? ⟨w.heap.size, 0, none⟩ = some (.int .i64 (at_ : Int)) := hr.cell (i := 0) (by decide)
  have c2 : wf.cell? ⟨w.heap.size, 1, none⟩ = some (.string (encT k dt at_)) := hr.cell (i := 1) (by decide)
  exact bodyPost_ret (v := .tuple #[.agg #[.int .i64 (at_ : Int), .string (encT k dt at_)], .nilIface]) (by simp [results, Tryd.results18, go_sem, c1, c2]) rfl ⟨rfl, hbf⟩
end Go.Proofs.YthokfjkgmopeoaaDoor
