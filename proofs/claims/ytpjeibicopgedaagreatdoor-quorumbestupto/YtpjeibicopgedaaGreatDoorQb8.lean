/- Texts laid together. -/
import Derived.Test.YtpjeibicopgedaaGreatDoorQb7
namespace Go.Proofs.YtpjeibicopgedaaGreatDoor
open Go.RowKit
set_option maxRecDepth 10000 in
theorem decode2_any (ps j c : Nat) (q : Option Addr) (cq : Nat) (so : List (Int × ByteArray)) (w : World) (hj : j < so.length) (hc : c < (shAt so j).2.size) (hp : w.cell? ⟨ps, 0, none⟩ = some (.slice q so.length cq)) (hs : Shs w q so) :
    Calls Tryz.prog 38 (#[.int .i64 (j : Int), .int .i64 (c : Int)] ++ #[.pointer (some ⟨ps, 0, none⟩)]) w fun e w2 => e = .returned (.int .u8 ((txtN so j c : Nat) : Int)) ∧ w2 = w := by
  rcases hs with h0 | ⟨b, o, rfl, _, hcs⟩
  · rw [h0] at hj; simp at hj
  obtain ⟨_, q2⟩ := hcs j hj
  have hix := run_idx (shAt so j).2 c hc
  have HT : Hid (txtN so j c = Gf.nth (bytesOf (shAt so j).2) c) := by show _ = _; rfl
  rw [HT.out]
  clear hcs HT
  generalize (shAt so j).2 = t at q2 hix hc ⊢
  generalize Gf.nth (bytesOf t) c = y at hix ⊢
  go_enter Tryz.func38, Tryz.ntmps38
  go_wp2
  go_ret
  exact ⟨rfl, rfl⟩
theorem nth_ats {so : List (Int × ByteArray)} {i : Nat} (hi : i < so.length) : Gf.nth (atsN so) i = (shAt so i).1.toNat := by
  show (so.map _).getD i 0 = (so.getD i _).1.toNat
  rw [List.getD_eq_getElem?_getD, List.getD_eq_getElem?_getD, List.getElem?_map, List.getElem?_eq_getElem hi]
  rfl
theorem vec_picked {k : Nat} {X : List Nat} (hX : X.length = k) {i j : Nat} (hi : i < k) (hj : j < k) : vec (X.map (sprRow k)) i j = sprX k X i j := by
  have hr : rowOf (X.map (sprRow k)) i = sprRow k (Gf.nth X i) := by
    show (X.map _).getD i [] = _
    rw [List.getD_eq_getElem?_getD, List.getElem?_map, List.getElem?_eq_getElem (by omega), Gf.nth_getElem X i (by omega)]
    rfl
  show toF (Gf.nth (rowOf (X.map (sprRow k)) i) j) = _
  rw [hr]
  unfold sprRow
  rw [nth_rowFn _ _ j hj]
  rfl
/-- Rows of Spread that are picked lie as a matrix. -/
theorem picked_mat {w : World} {g k n : Nat} {X : List Nat} {rb ro rc : Nat → Nat} (hX : X.length = k) (hlt : ∀ x ∈ X, x < n) (h : w.rowIs g 80 k (fun i => .slice (some ⟨rb (Gf.nth X i), ro (Gf.nth X i), none⟩) k (rc (Gf.nth X i)))) (hs : ∀ x, x < n → Seg w (some ⟨rb x, ro x, none⟩) (sprRow k x)) : Mat w (some ⟨g, 0, none⟩) (X.map (sprRow k)) := by
  refine Or.inr ⟨g, 0, rfl, h.lt, fun i hi => ?_⟩
  have hi' : i < X.length := by simpa using hi
  have hr : rowOf (X.map (sprRow k)) i = sprRow k (Gf.nth X i) := by
    show (X.map _).getD i [] = _
    rw [List.getD_eq_getElem?_getD, List.getElem?_map, List.getElem?_eq_getElem hi', Gf.nth_getElem X i hi']
    rfl
  have hm : Gf.nth X i ∈ X := by rw [Gf.nth_getElem X i hi']; exact List.getElem_mem _
  rw [hr, Nat.zero_add]
  refine ⟨some ⟨rb (Gf.nth X i), ro (Gf.nth X i), none⟩, rc (Gf.nth X i), ?_, hs _ (hlt _ hm), fun e => by cases e⟩
  rw [h.cell (by omega)]
  unfold sprRow
  rw [rowFn_length]
/-- What is asked of shards that fit. -/
structure Fits (n k size : Nat) (l : List (Int × ByteArray)) : Prop where
  good : l.any (badB (n : Int) (wideN k size)) = false
  enough : (pickN k l l.length).length = k
theorem Fits.at_ {n k size : Nat} {l : List (Int × ByteArray)} (h : Fits n k size l) {x : Int × ByteArray} (hx : x ∈ l) : 0 ≤ x.1 ∧ x.1 < n ∧ x.2.size = wideN k size := by
  have := List.any_eq_false.1 h.good x hx
  unfold badB at this
  simp only [Bool.or_eq_true, decide_eq_true_eq, Bool.not_eq_true', decide_eq_false_iff_not] at this
  omega
theorem Fits.ats {n k size : Nat} {l : List (Int × ByteArray)} (h : Fits n k size l) : (∀ x ∈ atsN (pickN k l l.length), x < n) ∧ (atsN (pickN k l l.length)).Nodup ∧ (atsN (pickN k l l.length)).length = k := by
  refine ⟨fun x hx => ?_, ?_, by unfold atsN; rw [List.length_map]; exact h.enough⟩
  · obtain ⟨y, hy, rfl⟩ := List.mem_map.1 hx
    have := h.at_ (pickN_sub k l l.length (Nat.le_refl _) y hy)
    omega
  · have hn := pickN_nodup k l l.length
    have e : atsN (pickN k l l.length) = ((pickN k l l.length).map Prod.fst).map Int.toNat := by
      unfold atsN
      rw [List.map_map]
      rfl
    rw [e]
    refine List.Pairwise.map (R := fun a b : Int => a ≠ b ∧ 0 ≤ a ∧ 0 ≤ b) _ (fun a b hab e => hab.1 (by have := hab.2; omega)) (List.Pairwise.imp_of_mem (fun ha hb hab => ?_) hn)
    · obtain ⟨y, hy, rfl⟩ := List.mem_map.1 ha
      obtain ⟨y', hy', rfl⟩ := List.mem_map.1 hb
      exact ⟨hab, (h.at_ (pickN_sub k l l.length (Nat.le_refl _) y hy)).1, (h.at_ (pickN_sub k l l.length (Nat.le_refl _) y' hy')).1⟩
/-- Three numbers, each in a block of its own. -/
structure Box3 (w : World) (b n k size : Nat) : Prop where
  c0 : w.cell? ⟨b, 0, none⟩ = some (.int .i64 (n : Int))
  c1 : w.cell? ⟨b + 1, 0, none⟩ = some (.int .i64 (k : Int))
  c2 : w.cell? ⟨b + 1 + 1, 0, none⟩ = some (.int .i64 (size : Int))
theorem Box3.below {w w' : World} {b n k size : Nat} (h : Box3 w b n k size) (hb : Below w.heap.size w w') : Box3 w' b n k size :=
  ⟨(hb.cell (lt_of_cell h.c0)).trans h.c0, (hb.cell (lt_of_cell h.c1)).trans h.c1, (hb.cell (lt_of_cell h.c2)).trans h.c2⟩
theorem box3_made (w : World) (n k size : Nat) (t : TypeId) : Box3 (((w.alloc (.cells #[.int .i64 (n : Int)] t)).alloc (.cells #[.int .i64 (k : Int)] t)).alloc (.cells #[.int .i64 (size : Int)] t)) w.heap.size n k size := by
  have e1 : (w.alloc (.cells #[.int .i64 (n : Int)] t)).heap.size = w.heap.size + 1 := by simp
  have e2 : ((w.alloc (.cells #[.int .i64 (n : Int)] t)).alloc (.cells #[.int .i64 (k : Int)] t)).heap.size = w.heap.size + 1 + 1 := by simp
  have b1 : Below (w.alloc (.cells #[.int .i64 (n : Int)] t)).heap.size (w.alloc (.cells #[.int .i64 (n : Int)] t)) ((w.alloc (.cells #[.int .i64 (n : Int)] t)).alloc (.cells #[.int .i64 (k : Int)] t)) := (Below.refl _ _).alloc (Nat.le_refl _) _
  have b2 : Below ((w.alloc (.cells #[.int .i64 (n : Int)] t)).alloc (.cells #[.int .i64 (k : Int)] t)).heap.size ((w.alloc (.cells #[.int .i64 (n : Int)] t)).alloc (.cells #[.int .i64 (k : Int)] t)) (((w.alloc (.cells #[.int .i64 (n : Int)] t)).alloc (.cells #[.int .i64 (k : Int)] t)).alloc (.cells #[.int .i64 (size : Int)] t)) := (Below.refl _ _).alloc (Nat.le_refl _) _
  refine ⟨?_, ?_, ?_⟩
  · rw [b2.cell (p := ⟨w.heap.size, 0, none⟩) (by show w.heap.size < _; omega), b1.cell (p := ⟨w.heap.size, 0, none⟩) (by show w.heap.size < _; omega), World.cell?_alloc_at _ _ _ _ rfl]; rfl
  · rw [b2.cell (p := ⟨w.heap.size + 1, 0, none⟩) (by show w.heap.size + 1 < _; omega), World.cell?_alloc_at _ _ _ _ e1.symm]; rfl
  · rw [World.cell?_alloc_at _ _ _ _ e2.symm]; rfl
theorem rowsinfo : (Tryz.prog.info? 80).map (fun i => (i.zero, i.size, i.bytes)) = some (some (.slice none 0 0), 1, 24) := by kernel_rfl
set_option maxRecDepth 10000 in
set_option maxHeartbeats 8000000 in
theorem decode_ok (n k size : Nat) (p : Option Addr) (l : List (Int × ByteArray)) (cap : Nat) (z : Addr) (w : World) (hk1 : 1 ≤ k) (hkn : k ≤ n) (hn : n ≤ 12) (hsz : size ≤ 1000) (hl : l.length ≤ 1000) (hf : Fits n k size l) (hs : Shs w p l)
    (hz : w.cell? ⟨11, 0, none⟩ = some (.iface 165 (.pointer (some z)))) :
    Calls Tryz.prog 18 #[.int .i64 (n : Int), .int .i64 (k : Int), .int .i64 (size : Int), .slice p l.length cap] w fun e w' => e = .returned (.tuple #[.string (decT k size (pickN k l l.length)), .nilIface]) ∧ Below w.heap.size w w' := by
  have hwd := wideN_le (size := size) hk1
  have HSZ : Hid (∀ x ∈ pickN k l l.length, 0 ≤ x.1 ∧ x.1 < n ∧ x.2.size = wideN k size) := fun x hx => hf.at_ (pickN_sub k l l.length (Nat.le_refl _) x hx)
  have HGOOD : Hid (l.any (badB (n : Int) (wideN k size)) = false) := hf.good
  have HMUL : Hid (size ≤ k * wideN k size) := wide_mul hk1
  have HX : Hid ((∀ x ∈ atsN (pickN k l l.length), x < n) ∧ (atsN (pickN k l l.length)).Nodup ∧ (atsN (pickN k l l.length)).length = k) := hf.ats
  have HLEN : Hid ((pickN k l l.length).length = k) := hf.enough
  have HFI : Hid (∀ W, Shs W p l → Calls Tryz.prog 34 #[.int .i64 (k : Int), .slice p l.length cap] W fun e w' => (∃ p' c', e = .returned (.slice p' k c') ∧ Shs w' p' (pickN k l l.length)) ∧ Below W.heap.size W w') := fun W hW => by
    have h := first_any k p l cap W (by omega) hl hW
    rw [HLEN.out] at h
    exact h
  have HWD : Hid (∀ W, Calls Tryz.prog 37 #[.int .i64 (size : Int), .int .i64 (k : Int)] W fun e w' => e = .returned (.int .i64 ((wideN k size : Nat) : Int)) ∧ w' = W) := fun W => width_any size k W hk1 (by omega) (by omega)
  have HDT : Hid (decT k size (pickN k l l.length) = strOf (rowFn size fun p => rsumN (invN (atsN (pickN k l l.length))) (txtN (pickN k l l.length)) (p / wideN k size) (p % wideN k size) k)) := by show _ = _; rfl
  have HD1 : Hid (∀ y t W, W.cell? ⟨w.heap.size, 0, none⟩ = some (.int .i64 (n : Int)) → W.cell? ⟨w.heap.size + 1, 0, none⟩ = some (.int .i64 (k : Int)) → W.cell? ⟨w.heap.size + 1 + 1, 0, none⟩ = some (.int .i64 (size : Int)) → Calls Tryz.prog 33 (#[.agg #[.int .i64 y, .string t]] ++ #[.pointer (some ⟨w.heap.size, 0, none⟩), .pointer (some ⟨w.heap.size + 1, 0, none⟩), .pointer (some ⟨w.heap.size + 1 + 1, 0, none⟩)]) W fun e w2 => e = .returned (.bool (badB (n : Int) (wideN k size) (y, t))) ∧ Below W.heap.size W w2) := fun y t W h0 h1 h2 => decode1_any w.heap.size (w.heap.size + 1) (w.heap.size + 1 + 1) n k size y t W hk1 hkn hn hsz h0 h1 h2
  clear hf
  generalize decT k size (pickN k l l.length) = dt at HDT ⊢
  generalize wideN k size = wd at *
  generalize pickN k l l.length = so at *
  obtain ⟨w1, hw1⟩ : ∃ w1, w1 = (((w.alloc (.cells #[.int .i64 (n : Int)] 3)).alloc (.cells #[.int .i64 (k : Int)] 3)).alloc (.cells #[.int .i64 (size : Int)] 3)) := ⟨_, rfl⟩
  have hb1 : Below w.heap.size w w1 := by rw [hw1]; exact (((Below.refl _ _).alloc (Nat.le_refl _) _).alloc (by simp) _).alloc (by simp; omega) _
  have hp1 : Box3 w1 w.heap.size n k size := by rw [hw1]; exact box3_made w n k size _
  have p0 := hp1.c0
  have p1 := hp1.c1
  have p2 := hp1.c2
  have HP1 : Hid (Box3 w1 w.heap.size n k size) := hp1
  have hz1 : w1.cell? ⟨11, 0, none⟩ = some (.iface 165 (.pointer (some z))) := (hb1.cell (p := ⟨11, 0, none⟩) (lt_of_cell hz)).trans hz
  have HS := spreadOf_ok n k size z w1 hk1 hkn hn hsz hz1
  have HW1 : Hid (w1 = (((w.alloc (.cells #[.int .i64 (n : Int)] 3)).alloc (.cells #[.int .i64 (k : Int)] 3)).alloc (.cells #[.int .i64 (size : Int)] 3))) := hw1
  have HB1 : Hid (Below w.heap.size w w1) := hb1
  have HL1 : Hid (Shs w1 p l) := hs.below hb1
  have HZ1 : Hid (w1.cell? ⟨11, 0, none⟩ = some (.iface 165 (.pointer (some z)))) := hz1
  obtain ⟨i1, hi1, hy0, hy1, hyb⟩ := info_parts rowsinfo
  have hmk : ∀ W : World, Sem.run Tryz.prog (Instr.makeSlice 74 (.int .i64 (k : Int)) (.int .i64 (k : Int))) W = .ok (.slice (some ⟨W.heap.size, 0, none⟩) k k) (W.alloc (.cells (madeCells #[.slice none 0 0] k) 80)) := fun W => run_make_row (P := Tryz.prog) 74 80 i1 (.slice none 0 0) Tryz.underlying74 hi1 hy0 hy1 rfl .i64 .i64 k (by rw [hyb]; omega) (by omega) W
  clear hw1 hb1 hz hz1 hs hi1 hy0 hy1 hyb hp1
  go_enter Tryz.func18, Tryz.ntmps18
  go_wp2_with (rw [← HW1.out])
  refine HS.mono ?_
  rintro e w2 ⟨⟨gm, rfl, hm2⟩, hb2⟩
  have hs2 : w1.heap.size ≤ w2.heap.size := hb2.size
  have hp2 := HP1.out.below hb2
  have HP2 : Hid (Box3 w2 w.heap.size n k size) := hp2
  have q0 := hp2.c0
  have q1 := hp2.c1
  have q2 := hp2.c2
  have HM2 : Hid (Mat w2 (some ⟨gm, 0, none⟩) (spreadM k n)) := hm2
  have HB2 : Hid (Below w.heap.size w w2) := HB1.out.trans (hb2.mono HB1.out.size)
  have HL2 : Hid (Shs w2 p l) := HL1.out.below hb2
  have HZ2 : Hid (w2.cell? ⟨11, 0, none⟩ = some (.iface 165 (.pointer (some z)))) := (hb2.cell (p := ⟨11, 0, none⟩) (lt_of_cell HZ1.out)).trans HZ1.out
  have HA : Asks w2 33 #[.pointer (some ⟨w.heap.size, 0, none⟩), .pointer (some ⟨w.heap.size + 1, 0, none⟩), .pointer (some ⟨w.heap.size + 1 + 1, 0, none⟩)] l (badB (n : Int) wd) := fun i hi w4 h4 => by
    have hx := HD1.out (shAt l i).1 (shAt l i).2 w4 ((hp2.below h4).c0) ((hp2.below h4).c1) ((hp2.below h4).c2)
    exact hx
  have HC := contains_any p l cap 33 #[.pointer (some ⟨w.heap.size, 0, none⟩), .pointer (some ⟨w.heap.size + 1, 0, none⟩), .pointer (some ⟨w.heap.size + 1 + 1, 0, none⟩)] (badB (n : Int) wd) w2 (by omega) HL2.out (enters_of Tryz.func33 (by kernel_rfl) rfl) HA
  rw [HGOOD.out] at HC
  clear HS hm2 hb2 HB1 HW1 HP1 p0 p1 p2 HL1 HZ1 hp2 HA HGOOD HD1
  go_wp2_with fail
  refine HC.mono ?_
  rintro e w4 ⟨rfl, hb4⟩
  have hz4 : w2.heap.size ≤ w4.heap.size := hb4.size
  have HB4 : Hid (Below w.heap.size w w4) := HB2.out.trans (hb4.mono HB2.out.size)
  have HM4 : Hid (Mat w4 (some ⟨gm, 0, none⟩) (spreadM k n)) := HM2.out.below hb4
  have HZ4 : Hid (w4.cell? ⟨11, 0, none⟩ = some (.iface 165 (.pointer (some z)))) := (hb4.cell (p := ⟨11, 0, none⟩) (lt_of_cell HZ2.out)).trans HZ2.out
  have hp4 := HP2.out.below hb4
  have HP4 : Hid (Box3 w4 w.heap.size n k size) := hp4
  have HF4 := HFI.out w4 (HL2.out.below hb4)
  clear q0 q1 q2
  have q1 := hp4.c1
  clear HC hb4 HB2 HL2 HM2 HZ2 HP2 HFI hp4
  go_wp2_with fail
  refine HF4.mono ?_
  rintro e w5 ⟨⟨p5, c5, rfl, hs5⟩, hb5⟩
  have hz5 : w4.heap.size ≤ w5.heap.size := hb5.size
  obtain ⟨w6, hw6⟩ : ∃ w6, w6 = w5.alloc (.cells #[.slice p5 k c5] 55) := ⟨_, rfl⟩
  have hb6 : Below w5.heap.size w5 w6 := by rw [hw6]; exact (Below.refl _ _).alloc (Nat.le_refl _) _
  have hs6 : w5.heap.size < w6.heap.size := by rw [hw6]; simp
  have hb46 : Below w4.heap.size w4 w6 := hb5.trans (hb6.mono hz5)
  have HB6 : Hid (Below w.heap.size w w6) := HB4.out.trans (hb46.mono HB4.out.size)
  have HS6 : Hid (Shs w6 p5 so) := hs5.below hb6
  have hbx6 : w6.cell? ⟨w5.heap.size, 0, none⟩ = some (.slice p5 k c5) := by rw [hw6, World.cell?_alloc_at _ _ _ _ rfl]; rfl
  have hp6 := HP4.out.below hb46
  have r1 := hp6.c1
  have HZ6 : Hid (w6.cell? ⟨11, 0, none⟩ = some (.iface 165 (.pointer (some z)))) := (hb46.cell (p := ⟨11, 0, none⟩) (lt_of_cell HZ4.out)).trans HZ4.out
  obtain ⟨rb, ro, rc, hgm, hrows⟩ := spread_rows (HM4.out.below hb46) (by omega) hk1
  have HROWS : Hid (∀ i, i < n → w6.cell? ⟨gm, i, none⟩ = some (.slice (some ⟨rb i, ro i, none⟩) k (rc i)) ∧ Seg w6 (some ⟨rb i, ro i, none⟩) (sprRow k i)) := hrows
  have HW6 : Hid (w6 = w5.alloc (.cells #[.slice p5 k c5] 55)) := hw6
  have HP6 : Hid (Box3 w6 w.heap.size n k size) := hp6
  have HBX6 : Hid (w6.cell? ⟨w5.heap.size, 0, none⟩ = some (.slice p5 k c5)) := hbx6
  clear HF4 hb5 hb6 hb46 hs5 hw6 hrows HM4 HZ4 HB4 HP4 hp6 q1
  rcases HS6.out with h0 | ⟨b5, o5, hp5, hlb5, hc5⟩
  · exact absurd HLEN.out (by rw [h0]; simp; omega)
  subst hp5
  have hr7 : (w6.alloc (.cells (madeCells #[.slice none 0 0] k) 80)).rowIs w6.heap.size 80 k (fun _ => .slice none 0 0) := World.rowIs_made w6 _ k _
  have hb7 : Below w6.heap.size w6 (w6.alloc (.cells (madeCells #[.slice none 0 0] k) 80)) := (Below.refl _ _).alloc (Nat.le_refl _) _
  have HC5 : Hid (∀ i, i < so.length → w6.cell? ⟨b5, o5 + i * 2, none⟩ = some (.int .i64 (shAt so i).1) ∧ w6.cell? ⟨b5, o5 + i * 2 + 1, none⟩ = some (.string (shAt so i).2)) := hc5
  clear hc5
  go_wp2_with (rw [← HW6.out])
  generalize w6.alloc (.cells (madeCells #[.slice none 0 0] k) 80) = w7 at hr7 hb7 ⊢
  have HR7 : Hid (w7.rowIs (w6.heap.size) 80 k (fun _ => .slice none 0 0)) := hr7
  have HB7 : Hid (Below w6.heap.size w6 w7) := hb7
  clear hr7 hb7 hmk r1 hbx6
  go_loopw [44] (fun x wr => ∃ i : Nat, i ≤ k ∧ x = .int .i64 i ∧ wr.rowIs (w6.heap.size) 80 k (fun q => if q < i then .slice (some ⟨rb (Gf.nth (atsN so) q), ro (Gf.nth (atsN so) q), none⟩) k (rc (Gf.nth (atsN so) q)) else .slice none 0 0) ∧ Below w6.heap.size w6 wr) (fun x _ => k - (intOf x).toNat)
  case atStart => exact ⟨0, by omega, rfl, HR7.out.congr (fun q _ => by simp), HB7.out⟩
  case round =>
    obtain ⟨i, hi, rfl, hR, hB⟩ := hrel
    obtain ⟨w8, rfl⟩ : ∃ w8, w8 = wr := ⟨_, rfl⟩
    have HR : Hid (w8.rowIs (w6.heap.size) 80 k (fun q => if q < i then .slice (some ⟨rb (Gf.nth (atsN so) q), ro (Gf.nth (atsN so) q), none⟩) k (rc (Gf.nth (atsN so) q)) else .slice none 0 0)) := hR
    have HB : Hid (Below w6.heap.size w6 w8) := hB
    have hgt : w6.heap.size < w8.heap.size := hR.lt
    clear hR hB HR7 HB7
    by_cases hil : i < k
    · have hm : shAt so i ∈ so := shAt_mem (by rw [HLEN.out]; exact hil)
      have hx := HSZ.out _ hm
      have hnx : Gf.nth (atsN so) i = (shAt so i).1.toNat := nth_ats (by rw [HLEN.out]; exact hil)
      have hxe : (shAt so i).1 = ((Gf.nth (atsN so) i : Nat) : Int) := by rw [hnx]; omega
      have hxn : Gf.nth (atsN so) i < n := by rw [hnx]; omega
      have q1 : w8.cell? ⟨b5, o5 + i * 2, none⟩ = some (.int .i64 ((Gf.nth (atsN so) i : Nat) : Int)) := by
        rw [HB.out.cell (p := ⟨b5, o5 + i * 2, none⟩) hlb5, (HC5.out i (by rw [HLEN.out]; exact hil)).1, hxe]
      have q2 : w8.cell? ⟨b5, o5 + i * 2 + 1, none⟩ = some (.string (shAt so i).2) := by
        rw [HB.out.cell (p := ⟨b5, o5 + i * 2 + 1, none⟩) hlb5, (HC5.out i (by rw [HLEN.out]; exact hil)).2]
      have q3 : w8.cell? ⟨gm, Gf.nth (atsN so) i, none⟩ = some (.slice (some ⟨rb (Gf.nth (atsN so) i), ro (Gf.nth (atsN so) i), none⟩) k (rc (Gf.nth (atsN so) i))) := by
        rw [HB.out.cell (p := ⟨gm, Gf.nth (atsN so) i, none⟩) hgm, (HROWS.out _ hxn).1]
      have q4 : w8.cell? ⟨w6.heap.size, i, none⟩ = some (.slice none 0 0) := by rw [HR.out.cell hil, if_neg (Nat.lt_irrefl _)]
      have q5 : w8.frozen? ⟨w6.heap.size, i, none⟩ = false := HR.out.frozen i
      have HXE : Hid (Gf.nth (atsN so) i = Gf.nth (atsN so) i) := by show _ = _; rfl
      have hgm8 : gm < w8.heap.size := by have := HB.out.size; omega
      clear hnx hxe hx hm
      generalize hxx : Gf.nth (atsN so) i = x at q1 q3 hxn
      have HXX : Hid (Gf.nth (atsN so) i = x) := hxx
      clear hxx HXE
      go_wp2
      go_roundw
      case rel =>
        refine ⟨i + 1, by omega, by go_num, ?_, ?_⟩
        · refine ((HR.out.set i _).alloc _).congr (fun q _ => ?_)
          by_cases e : q = i
          · rw [if_pos e, if_pos (by omega), e, HXX.out]
          · rw [if_neg e]
            by_cases e' : q < i
            · rw [if_pos e', if_pos (by omega)]
            · rw [if_neg e', if_neg (by omega)]
        · exact (HB.out.setCell (Nat.le_refl _) _).alloc (by simp [World.setCell]; exact HB.out.size) _
      case measure => simp [intOf]; omega
    · have hie : i = k := by omega
      subst hie
      have hR8 : w8.rowIs (w6.heap.size) 80 i (fun q => .slice (some ⟨rb (Gf.nth (atsN so) q), ro (Gf.nth (atsN so) q), none⟩) i (rc (Gf.nth (atsN so) q))) := HR.out.congr (fun q hq => by rw [if_pos hq])
      have hM8 : Mat w8 (some ⟨w6.heap.size, 0, none⟩) ((atsN so).map (sprRow i)) := picked_mat HX.out.2.2 HX.out.1 hR8 (fun x hx => (HROWS.out x hx).2.below HB.out)
      have hz8 : w8.cell? ⟨11, 0, none⟩ = some (.iface 165 (.pointer (some z))) := (HB.out.cell (p := ⟨11, 0, none⟩) (lt_of_cell HZ6.out)).trans HZ6.out
      have hml : ((atsN so).map (sprRow i)).length = i := by rw [List.length_map]; exact HX.out.2.2
      have hM : IsMat ((atsN so).map (sprRow i)) := picked_isMat hk1 (by omega) HX.out.2.2
      have hr0 : (rowOf ((atsN so).map (sprRow i)) 0).length = i := by
        have h0 : rowOf ((atsN so).map (sprRow i)) 0 = sprRow i (Gf.nth (atsN so) 0) := by
          show ((atsN so).map _).getD 0 [] = _
          rw [List.getD_eq_getElem?_getD, List.getElem?_map, List.getElem?_eq_getElem (by rw [HX.out.2.2]; omega), Gf.nth_getElem _ 0 (by rw [HX.out.2.2]; omega)]
          rfl
        rw [h0]
        exact rowFn_length _ _
      have HI := invert_ok (some ⟨w6.heap.size, 0, none⟩) ((atsN so).map (sprRow i)) i z w8 hM (by rw [hr0, hml]) (picked_bytes i (atsN so)) hM8 hz8
      have hrk := picked_rank hn HX.out.2.2 HX.out.2.1 HX.out.1 hkn
      unfold Inverted at HI
      rw [hml] at HI
      have HRK : Hid (Lin.IsRank i i (vec ((atsN so).map (sprRow i))) i) := hrk
      have HB8 : Hid (Below w.heap.size w w8) := HB6.out.trans (HB.out.mono HB6.out.size)
      have HP8 : Hid (Box3 w8 w.heap.size n i size) := HP6.out.below HB.out
      have HBX8 : Hid (w8.cell? ⟨w5.heap.size, 0, none⟩ = some (.slice (some ⟨b5, o5, none⟩) i c5)) := (HB.out.cell (p := ⟨w5.heap.size, 0, none⟩) hs6).trans HBX6.out
      have HS8 : Hid (Shs w8 (some ⟨b5, o5, none⟩) so) := HS6.out.below HB.out
      clear hR8 hM8 hz8 hml hM hr0 hrk HR HB HC5 HROWS HB6 HS6 HZ6 HP6 HBX6 HW6
      go_wp2_with fail
      refine HI.mono ?_
      rintro e w9 ⟨⟨d, hd, hcase⟩, hb9⟩
      have hdk : d = i := Lin.rank_unique hd HRK.out
      rcases hcase with ⟨hlt, _⟩ | ⟨_, g2, x, rfl, hm9, hx, hinv⟩
      · omega
      have HXI : Hid (∀ a b, a < i → b < i → x a b = invN (atsN so) a b) := inv_unique (fun j => by
          by_cases hj : j < (atsN so).length
          · have := HX.out.1 (Gf.nth (atsN so) j) (by rw [Gf.nth_getElem _ j hj]; exact List.getElem_mem _)
            omega
          · rw [nth_past (by omega)]; decide) HX.out.2.1 HX.out.2.2 (by omega) hx (fun a b ha hb => by
            rw [← hinv a b ha hb]
            exact Lin.mm_congr i (fun _ _ => rfl) (fun t ht => (vec_picked HX.out.2.2 ht hb).symm))
      have hz9 : w8.heap.size ≤ w9.heap.size := hb9.size
      have hp9 := HP8.out.below hb9
      have HP9 : Hid (Box3 w9 w.heap.size n i size) := hp9
      have s1 := hp9.c1
      have s2 := hp9.c2
      have hbx9 : w9.cell? ⟨w5.heap.size, 0, none⟩ = some (.slice (some ⟨b5, o5, none⟩) so.length c5) := by rw [HLEN.out]; exact (hb9.cell (p := ⟨w5.heap.size, 0, none⟩) (lt_of_cell HBX8.out)).trans HBX8.out
      have hs9 : Shs w9 (some ⟨b5, o5, none⟩) so := HS8.out.below hb9
      have HTE : Tells w9 38 #[.pointer (some ⟨w5.heap.size, 0, none⟩)] (txtN so) i wd := fun j c hj hc w10 h10 => by
        have hjl : j < so.length := by rw [HLEN.out]; exact hj
        exact decode2_any w5.heap.size j c _ c5 so w10 hjl (by rw [(HSZ.out _ (shAt_mem hjl)).2.2]; exact hc) ((h10.cell (p := ⟨w5.heap.size, 0, none⟩) (lt_of_cell hbx9)).trans hbx9) (hs9.below h10)
      have HRW := rows_any (some ⟨g2, 0, none⟩) i i wd i x (txtN so) 38 #[.pointer (some ⟨w5.heap.size, 0, none⟩)] w9 hk1 (by omega) hk1 (by omega) (by omega) hx (fun j c => txtN_lt so j c) hm9 (enters_of Tryz.func38 (by kernel_rfl) rfl) HTE
      have HB9 : Hid (Below w.heap.size w w9) := HB8.out.trans (hb9.mono HB8.out.size)
      have HXB : Hid (∀ a b, x a b < 256) := hx
      clear HI hd hdk hb9 hm9 hx hinv hbx9 hs9 HTE HB8 HP8 HBX8 HS8 HRK hp9
      go_wp2_with fail
      refine (HWD.out _).mono ?_
      rintro e w9' ⟨rfl, hww⟩
      rw [hww]
      clear hww w9' HWD
      go_wp2_with fail
      refine HRW.mono ?_
      rintro e w10 ⟨rfl, hr10, hb10⟩
      have hjl : (((List.range i).map fun q => strOf (rowFn wd fun c => rsumN x (txtN so) q c i))).length = i := by simp
      have hjn : Lib.join (((List.range i).map fun q => strOf (rowFn wd fun c => rsumN x (txtN so) q c i)).map (·.data.toList)) [] = byteL (catN (fun q c => rsumN x (txtN so) q c i) wd i) := join_rows (fun q c => rsumN x (txtN so) q c i) wd i
      have hiw : i * wd ≤ 12 * 1000 := Nat.mul_le_mul (by omega) (by omega)
      have hlt10 : w9.heap.size < w10.heap.size := hr10.lt
      have HJ0 := fun (W : World) (hW : Below w10.heap.size w10 W) => Tryz.strings_Join w9.heap.size 0 i ((List.range i).map fun q => strOf (rowFn wd fun c => rsumN x (txtN so) q c i)) ⟨#[]⟩ W (fun j y hy => by
          have hjj : j < i := by
            have := (List.getElem?_eq_some_iff.1 hy).1
            rw [hjl] at this
            exact this
          rw [List.getElem?_map, List.getElem?_range hjj] at hy
          have hy' : strOf (rowFn wd fun c => rsumN x (txtN so) j c i) = y := Option.some.inj hy
          rw [Nat.zero_add, hW.cell (p := ⟨w9.heap.size, j, none⟩) hlt10, hr10.cell hjj, ← hy']
          rfl) (Nat.lt_of_lt_of_le hlt10 hW.size) (by rw [hjl]; omega) (by rw [hjl]; exact Nat.le_refl _) (by
          show (Lib.join _ []).length ≤ _
          rw [hjn]
          unfold byteL
          rw [List.length_map, catN_length]
          omega)
      have HJ : ∀ W, Below w10.heap.size w10 W → Calls Tryz.prog 39 #[.slice (some ⟨w9.heap.size, 0, none⟩) i i, .string ⟨#[]⟩] W fun e w' => e = .returned (.string ⟨(byteL (catN (fun q c => rsumN x (txtN so) q c i) wd i)).toArray⟩) ∧ Below W.heap.size W w' := fun W hW => by
        have h := HJ0 W hW
        rw [hjl, show (⟨#[]⟩ : ByteArray).data.toList = [] from rfl, hjn] at h
        exact h
      clear HJ0
      have hsl : ∀ W, Sem.run Tryz.prog (Instr.slice 9 (.string ⟨(byteL (catN (fun q c => rsumN x (txtN so) q c i) wd i)).toArray⟩) none (some (.int .i64 (size : Int))) none) W = .ok (.string dt) W := fun W => by
        rw [run_slice_string_h W 9 _ Tryz.underlying9 .i64 (size : Int) (by omega) (by
          show (size : Int) ≤ (((byteL (catN (fun q c => rsumN x (txtN so) q c i) wd i)).toArray.size : Nat) : Int)
          unfold byteL
          rw [List.size_toArray, List.length_map, catN_length]
          have := HMUL.out
          omega), Int.toNat_natCast, strOf_take, catN_take _ _ _ _ HMUL.out, HDT.out]
        congr 3
        refine rowFn_congr size _ _ (fun q hq => ?_)
        refine rsumN_congr i (fun j hj => HXI.out _ j ?_ hj)
        have hm := HMUL.out
        have hw0 : 0 < wd := by
          rcases Nat.eq_zero_or_pos wd with e | e
          · rw [e, Nat.mul_zero] at hm; omega
          · exact e
        rw [Nat.div_lt_iff_lt_mul hw0]
        omega
      have HB10 : Hid (Below w.heap.size w w10) := HB9.out.trans (hb10.mono HB9.out.size)
      have hp10 := HP9.out.below hb10
      have HP10 : Hid (Box3 w10 w.heap.size n i size) := hp10
      clear s1 s2
      have s2 := hp10.c2
      clear hp10 HP9
      clear HRW hr10 hb10 HB9 hjl hjn HXI HXB HDT HMUL
      generalize (⟨(byteL (catN (fun q c => rsumN x (txtN so) q c i) wd i)).toArray⟩ : ByteArray) = st at HJ hsl
      have HJH : Hid (∀ W, Below w10.heap.size w10 W → Calls Tryz.prog 39 #[.slice (some ⟨w9.heap.size, 0, none⟩) i i, .string ⟨#[]⟩] W fun e w' => e = .returned (.string st) ∧ w'.cell? ⟨w.heap.size + 1 + 1, 0, none⟩ = some (.int .i64 (size : Int)) ∧ Below w.heap.size w w') := fun W hW => (HJ W hW).mono fun e w' ⟨he, hb⟩ => by
        have h3 : Below w10.heap.size w10 w' := hW.trans (hb.mono hW.size)
        exact ⟨he, (HP10.out.below h3).c2, HB10.out.trans (h3.mono HB10.out.size)⟩
      clear HJ HP10
      go_wp2
      go_region_with (go_at_call 39; refine (HJH.out _ (by first | exact (Below.refl _ _).drew | exact Below.refl _ _)).mono ?_; rintro e w11 ⟨rfl, s3, HB11⟩)
      all_goals (go_wp2; go_ret2; exact ⟨rfl, HB11⟩)
set_option maxRecDepth 10000 in
theorem rdecode_bad (a0 a1 a2 v : Value) (c : Int) (w : World) (hc : 0 < c) (HS : Calls Tryz.prog 46 #[a0, a1, a2, v] w fun e w' => e = .returned (.tuple #[.slice none 0 0, .int .i64 c]) ∧ Below w.heap.size w w') :
    Calls Tryz.prog 24 #[a0, a1, a2, v] w fun e w' => e = .returned (.tuple #[.string ⟨#[]⟩, .int .i64 c]) ∧ Below w.heap.size w w' := by
  go_enter Tryz.func24, Tryz.ntmps24
  go_wp2_with fail
  refine HS.mono ?_
  rintro e w1 ⟨rfl, hb1⟩
  clear HS
  go_wp2
  go_ret2
  exact ⟨rfl, hb1⟩
theorem strOf_append (l m : List Nat) : strOf l ++ strOf m = strOf (l ++ m) := by
  rw [strOf_mk, strOf_mk, strOf_mk]
  apply ByteArray.ext
  simp [byteL]
/-- The factors of place j, so far. -/
def basL (X : List Nat) (j m : Nat) : List Nat := rowFn m fun i => Gf.shareOf X i j
theorem basL_succ (X : List Nat) (j m : Nat) : basL X j (m + 1) = basL X j m ++ [Gf.shareOf X m j] := by simp [basL, rowFn, List.range_succ]
theorem basL_length (X : List Nat) (j m : Nat) : (basL X j m).length = m := rowFn_length _ _
theorem basL_bytes (X : List Nat) (j m : Nat) : Gf.Bytes (basL X j m) := rowFn_bytes _ _ fun _ => Gf.shareOf_lt _ _ _
set_option maxRecDepth 10000 in
set_option maxHeartbeats 16000000 in
theorem rdecode_ok (n k size : Nat) (p : Option Addr) (l : List (Int × ByteArray)) (cap : Nat) (w : World) (hk1 : 1 ≤ k) (hkn : k ≤ n) (hn : n ≤ 12) (hsz : size ≤ 1000) (hl : l.length ≤ 1000) (ht : ∀ i, (shAt l i).2.size ≤ 100000) (hf : Fits n k size l) (hs : Shs w p l) :
    Calls Tryz.prog 24 #[.int .i64 (n : Int), .int .i64 (k : Int), .int .i64 (size : Int), .slice p l.length cap] w fun e w' => e = .returned (.tuple #[.string (decT k size (pickN k l l.length)), .int .i64 0]) ∧ Below w.heap.size w w' := by
  have hwd := wideN_le (size := size) hk1
  obtain ⟨i0, hi0, hz0, hz1, hzb⟩ := info_parts u8info
  have HSO := rsome_any n k size p l cap w hk1 hkn hn hsz hl ht hs
  have HWD : Hid (∀ W, Calls Tryz.prog 48 #[.int .i64 (k : Int), .int .i64 (size : Int)] W fun e w' => e = .returned (.int .i64 ((wideN k size : Nat) : Int)) ∧ w' = W) := fun W => rwide_any k size W hk1 (by omega) (by omega)
  have HSZ : Hid (∀ x ∈ pickN k l l.length, 0 ≤ x.1 ∧ x.1 < n ∧ x.2.size = wideN k size) := fun x hx => hf.at_ (pickN_sub k l l.length (Nat.le_refl _) x hx)
  have HMUL : Hid (size ≤ k * wideN k size) := wide_mul hk1
  have HX : Hid ((∀ x ∈ atsN (pickN k l l.length), x < n) ∧ (atsN (pickN k l l.length)).Nodup ∧ (atsN (pickN k l l.length)).length = k) := hf.ats
  have HLEN : Hid ((pickN k l l.length).length = k) := hf.enough
  have HGOOD : Hid (l.any (badB (n : Int) (wideN k size)) = false) := hf.good
  have HDT : Hid (decT k size (pickN k l l.length) = strOf (rowFn size fun p => rsumN (invN (atsN (pickN k l l.length))) (txtN (pickN k l l.length)) (p / wideN k size) (p % wideN k size) k)) := by show _ = _; rfl
  unfold Somed at HSO
  clear hf hs ht
  generalize decT k size (pickN k l l.length) = dt at HDT ⊢
  generalize wideN k size = wd at *
  generalize pickN k l l.length = so at *
  have hmk : ∀ W : World, Sem.run Tryz.prog (Instr.makeSlice 80 (.int .i64 (wd : Int)) (.int .i64 (wd : Int))) W = .ok (.slice (some ⟨W.heap.size, 0, none⟩) wd wd) (W.alloc (.cells (madeCells #[byteV 0] wd) 5)) := fun W => run_make_row (P := Tryz.prog) 80 5 i0 (byteV 0) Tryz.underlying80 hi0 hz0 hz1 rfl .i64 .i64 wd (by rw [hzb]; omega) (by omega) W
  go_enter Tryz.func24, Tryz.ntmps24
  go_wp2_with fail
  refine HSO.mono ?_
  rintro e w1 ⟨⟨v, c, rfl, hcase⟩, hb1⟩
  rcases hcase with ⟨_, _, hbad⟩ | ⟨_, _, _, hfew⟩ | ⟨hc0, _, _, p1, c1, hv, hs1⟩
  · exact absurd hbad (by rw [HGOOD.out]; decide)
  · exact absurd hfew (by rw [HLEN.out]; exact Nat.lt_irrefl _)
  subst hc0 hv
  rcases hs1 with h0 | ⟨b1, o1, hp1, hlb1, hcs⟩
  · exact absurd HLEN.out (by rw [h0]; simp; omega)
  subst hp1
  have HCS : Hid (∀ i, i < so.length → w1.cell? ⟨b1, o1 + i * 2, none⟩ = some (.int .i64 (shAt so i).1) ∧ w1.cell? ⟨b1, o1 + i * 2 + 1, none⟩ = some (.string (shAt so i).2)) := hcs
  have HB1 : Hid (Below w.heap.size w w1) := hb1
  clear HSO hb1 hcs HGOOD
  have HXB : Hid (Gf.Bytes (atsN so)) := fun j => by
    by_cases hj : j < (atsN so).length
    · have := HX.out.1 (Gf.nth (atsN so) j) (by rw [Gf.nth_getElem _ j hj]; exact List.getElem_mem _)
      omega
    · rw [nth_past (by omega)]; decide
  go_wp2
  go_loopw [12, 13] (fun v x wr => ∃ i : Nat, i ≤ k ∧ x = .int .i64 i ∧ Own wr w1.heap.size 5 v ((atsN so).take i) ∧ Below w1.heap.size w1 wr) (fun _ x _ => k - (intOf x).toNat)
  case atStart => exact ⟨0, by omega, rfl, by rw [List.take_zero]; exact Own.nil _ _ _, Below.refl _ _⟩
  case round =>
    obtain ⟨i, hi, rfl, hO, hB⟩ := hrel
    obtain ⟨w2, rfl⟩ : ∃ w2, w2 = wr := ⟨_, rfl⟩
    have HO : Hid (Own w2 w1.heap.size 5 u12 ((atsN so).take i)) := hO
    have HB : Hid (Below w1.heap.size w1 w2) := hB
    have hz2 : w1.heap.size ≤ w2.heap.size := hB.size
    have htl : ((atsN so).take i).length = i := by rw [List.length_take, HX.out.2.2]; omega
    have HTL : Hid (((atsN so).take i).length = i) := htl
    clear hO hB htl
    by_cases hil : i < k
    · have hm : shAt so i ∈ so := shAt_mem (by rw [HLEN.out]; exact hil)
      have hx := HSZ.out _ hm
      have hnx : Gf.nth (atsN so) i = (shAt so i).1.toNat := nth_ats (by rw [HLEN.out]; exact hil)
      have hxe : (shAt so i).1 = ((Gf.nth (atsN so) i : Nat) : Int) := by rw [hnx]; omega
      have hxn : Gf.nth (atsN so) i < n := by rw [hnx]; omega
      have q1 : w2.cell? ⟨b1, o1 + i * 2, none⟩ = some (.int .i64 ((Gf.nth (atsN so) i : Nat) : Int)) := by
        rw [HB.out.cell (p := ⟨b1, o1 + i * 2, none⟩) hlb1, (HCS.out i (by rw [HLEN.out]; exact hil)).1, hxe]
      have HTK : Hid ((atsN so).take (i + 1) = (atsN so).take i ++ [Gf.nth (atsN so) i]) := Gf.take_nth _ i (by rw [HX.out.2.2]; exact hil)
      clear hnx hxe hx hm
      generalize Gf.nth (atsN so) i = x at q1 hxn HTK
      generalize (atsN so).take i = xs at *
      have hxl : xs.length ≤ 12 := by rw [HTL.out]; omega
      go_wp2_with (first | (at_builtin; refine wpList_append_byte rfl (.tmp 38) (.tmp 45) 80 rfl w1.heap.size 5 i0 Tryz.underlying80 hi0 hz0 hz1 hzb u12 xs rfl (HO.out.kept (World.grownBy_alloc w2 _ none) (by cases hv : u12.ownBlock <;> simp)) ⟨w2.heap.size, 0, none⟩ 1 x rfl (by simp [byteV]) (by omega) (by simp; omega) ?_; intro v1 w3 hX hgX _))
      have hb3 : Below w1.heap.size w1 w3 := (HB.out.alloc hz2 _).grown hgX (by simp; omega) (fun k' hk' => (HO.out.block hk').1)
      go_roundw
      case rel => exact ⟨i + 1, by omega, by go_num, by rw [HTK.out]; exact hX, hb3⟩
      case measure => simp [intOf]; omega
    · have hie : k = i := by omega
      subst hie
      have htk : (atsN so).take k = atsN so := List.take_of_length_le (by rw [HX.out.2.2]; exact Nat.le_refl _)
      obtain ⟨pX, cX, hvX, hsX⟩ := (show Own w2 w1.heap.size 5 u12 (atsN so) by rw [← htk]; exact HO.out).seg HXB.out
      rw [HX.out.2.2] at hvX
      subst hvX
      have HSX : Hid (Seg w2 pX (atsN so)) := hsX
      clear htk hsX HO HTL
      go_wp2
      go_loopw [14, 15] (fun v x wr => ∃ j : Nat, j ≤ k ∧ x = .int .i64 j ∧ v = .string (strOf (catN (fun q c => rsumN (invN (atsN so)) (txtN so) q c k) wd j)) ∧ Below w2.heap.size w2 wr) (fun _ x _ => k - (intOf x).toNat)
      case atStart => exact ⟨0, by omega, rfl, rfl, Below.refl _ _⟩
      case round =>
        obtain ⟨j, hj, rfl, rfl, hB3⟩ := hrel
        obtain ⟨w3, rfl⟩ : ∃ w3, w3 = wr := ⟨_, rfl⟩
        have HB3 : Hid (Below w2.heap.size w2 w3) := hB3
        have hz3 : w2.heap.size ≤ w3.heap.size := hB3.size
        clear hB3
        by_cases hjl : j < k
        · go_wp2
          go_loopw [16, 17] (fun v x wq => ∃ m : Nat, m ≤ k ∧ x = .int .i64 m ∧ Own wq w3.heap.size 5 v (basL (atsN so) j m) ∧ Below w3.heap.size w3 wq) (fun _ x _ => k - (intOf x).toNat)
          case atStart => exact ⟨0, by omega, rfl, Own.nil _ _ _, Below.refl _ _⟩
          case round =>
            obtain ⟨m, hm, rfl, hO4, hB4⟩ := hrel
            obtain ⟨w4, rfl⟩ : ∃ w4, w4 = wr := ⟨_, rfl⟩
            have HO4 : Hid (Own w4 w3.heap.size 5 u16 (basL (atsN so) j m)) := hO4
            have HB4 : Hid (Below w3.heap.size w3 w4) := hB4
            have hz4 : w3.heap.size ≤ w4.heap.size := hB4.size
            clear hO4 hB4
            by_cases hml : m < k
            · have hbs := basis_any pX (atsN so) cX m j w4 (by omega) (by rw [HX.out.2.2]; omega) (by rw [HX.out.2.2]; exact hml) HX.out.2.1 ((HSX.out.below HB3.out).below HB4.out)
              rw [HX.out.2.2] at hbs
              have HSU : Hid (basL (atsN so) j (m + 1) = basL (atsN so) j m ++ [Gf.shareOf (atsN so) m j]) := basL_succ _ _ _
              have hbl : (basL (atsN so) j m).length ≤ 12 := by rw [basL_length]; omega
              go_wp2_with fail
              refine hbs.mono ?_
              rintro e w5 ⟨rfl, q, hw5⟩
              have HO5 : Hid (Own w5 w3.heap.size 5 u16 (basL (atsN so) j m)) := by rw [hw5]; exact HO4.out.kept (grownBy_drewN w4 q none) (by cases hv : u16.ownBlock <;> simp)
              have HB5 : Hid (Below w3.heap.size w3 w5) := by rw [hw5]; exact below_drewN HB4.out q
              have hz5 : w3.heap.size ≤ w5.heap.size := HB5.out.size
              clear hw5 hbs HO4 HB4
              generalize Gf.shareOf (atsN so) m j = y at HSU ⊢
              generalize basL (atsN so) j m = bl at *
              go_wp2_with (first | (at_builtin; refine wpList_append_byte rfl (.tmp 62) (.tmp 64) 80 rfl w3.heap.size 5 i0 Tryz.underlying80 hi0 hz0 hz1 hzb u16 bl rfl (HO5.out.kept (World.grownBy_alloc w5 _ none) (by cases hv : u16.ownBlock <;> simp)) ⟨w5.heap.size, 0, none⟩ 1 y rfl (by simp [byteV]) (by omega) (by simp; omega) ?_; intro v1 w6 hX6 hgX _))
              have hb6 : Below w3.heap.size w3 w6 := (HB5.out.alloc hz5 _).grown hgX (by simp; omega) (fun k' hk' => (HO5.out.block hk').1)
              go_roundw
              case rel => exact ⟨m + 1, by omega, by go_num, by rw [HSU.out]; exact hX6, hb6⟩
              case measure => simp [intOf]; omega
            · have hme : k = m := by omega
              subst hme
              obtain ⟨pB, cB, hvB, hsB⟩ := HO4.out.seg (basL_bytes (atsN so) j k)
              rw [basL_length] at hvB
              subst hvB
              rcases hsB.cells with h0 | ⟨bb, ob, hpB, hlbb, hcb⟩
              · exact absurd (congrArg List.length h0) (by rw [basL_length]; simp; omega)
              subst hpB
              have HCB : Hid (∀ i, i < k → w4.cell? ⟨bb, ob + i, none⟩ = some (.int .u8 ((Gf.shareOf (atsN so) i j : Nat) : Int))) := fun i hi => by
                rw [hcb i (by rw [basL_length]; exact hi)]
                unfold basL
                rw [nth_rowFn _ _ i hi]
              clear hsB hcb HO4
              go_wp2_with fail
              refine (HWD.out _).mono ?_
              rintro e w4' ⟨rfl, hww⟩
              rw [hww]
              clear hww w4'
              go_wp2
              have hmkN : OwnN (w4.alloc (.cells (madeCells #[byteV 0] wd) 5)) w4.heap.size 5 w4.heap.size wd (rowFn wd (fun c => if c < 0 then rsumN (invN (atsN so)) (txtN so) j c k else 0)) := by
                have := OwnN.made w4 w4.heap.size 5 wd (Nat.le_refl _) (by omega)
                rw [rowFn_congr wd _ (fun c => if c < 0 then rsumN (invN (atsN so)) (txtN so) j c k else 0) (fun c _ => by rw [if_neg (Nat.not_lt_zero _)])] at this
                exact this
              have hbk : Below w4.heap.size w4 (w4.alloc (.cells (madeCells #[byteV 0] wd) 5)) := (Below.refl _ _).alloc (Nat.le_refl _) _
              generalize w4.alloc (.cells (madeCells #[byteV 0] wd) 5) = w5 at hmkN hbk ⊢
              have HMK : Hid (OwnN w5 w4.heap.size 5 w4.heap.size wd (rowFn wd (fun c => if c < 0 then rsumN (invN (atsN so)) (txtN so) j c k else 0))) := hmkN
              have HBK : Hid (Below w4.heap.size w4 w5) := hbk
              clear hmkN hbk
              go_loopw [20] (fun x wq => ∃ c : Nat, c ≤ wd ∧ x = .int .i64 c ∧ OwnN wq w4.heap.size 5 w4.heap.size wd (rowFn wd (fun d => if d < c then rsumN (invN (atsN so)) (txtN so) j d k else 0)) ∧ Below w4.heap.size w4 wq) (fun x _ => wd - (intOf x).toNat)
              case atStart => exact ⟨0, by omega, rfl, HMK.out, HBK.out⟩
              case round =>
                obtain ⟨c, hc, rfl, hON, hBq⟩ := hrel
                obtain ⟨w6, rfl⟩ : ∃ w6, w6 = wr := ⟨_, rfl⟩
                have HON : Hid (OwnN w6 w4.heap.size 5 w4.heap.size wd (rowFn wd (fun d => if d < c then rsumN (invN (atsN so)) (txtN so) j d k else 0))) := hON
                have HBq : Hid (Below w4.heap.size w4 w6) := hBq
                clear hON hBq HMK HBK
                by_cases hcl : c < wd
                · go_wp2
                  go_loopw [21] (fun x wq => ∃ i : Nat, i ≤ k ∧ x = .int .i64 i ∧ OwnN wq w4.heap.size 5 w4.heap.size wd (rowFn wd (fun d => if d < c then rsumN (invN (atsN so)) (txtN so) j d k else if d = c then rsumN (invN (atsN so)) (txtN so) j c i else 0)) ∧ Below w4.heap.size w4 wq) (fun x _ => k - (intOf x).toNat)
                  case atStart =>
                    refine ⟨0, by omega, rfl, ?_, HBq.out⟩
                    rw [rowFn_congr wd _ (fun d => if d < c then rsumN (invN (atsN so)) (txtN so) j d k else 0) (fun d _ => by by_cases e : d = c <;> simp [e, rsumN])]
                    exact HON.out
                  case round =>
                    obtain ⟨i, hi, rfl, hON2, hBq2⟩ := hrel
                    obtain ⟨w7, rfl⟩ : ∃ w7, w7 = wr := ⟨_, rfl⟩
                    have HON2 : Hid (OwnN w7 w4.heap.size 5 w4.heap.size wd (rowFn wd (fun d => if d < c then rsumN (invN (atsN so)) (txtN so) j d k else if d = c then rsumN (invN (atsN so)) (txtN so) j c i else 0))) := hON2
                    have HBq2 : Hid (Below w4.heap.size w4 w7) := hBq2
                    clear hON2 hBq2 HON HBq
                    by_cases hil2 : i < k
                    · have hil3 : i < so.length := by rw [HLEN.out]; exact hil2
                      have q2 : w7.cell? ⟨bb, ob + i, none⟩ = some (.int .u8 ((Gf.shareOf (atsN so) i j : Nat) : Int)) := (HBq2.out.cell (p := ⟨bb, ob + i, none⟩) hlbb).trans (HCB.out i hil2)
                      have q3 : w7.cell? ⟨b1, o1 + i * 2 + 1, none⟩ = some (.string (shAt so i).2) := by
                        rw [HBq2.out.cell (p := ⟨b1, o1 + i * 2 + 1, none⟩) (by show b1 < _; omega), HB4.out.cell (p := ⟨b1, o1 + i * 2 + 1, none⟩) (by show b1 < _; omega), HB3.out.cell (p := ⟨b1, o1 + i * 2 + 1, none⟩) (by show b1 < _; omega), HB.out.cell (p := ⟨b1, o1 + i * 2 + 1, none⟩) hlb1]
                        exact (HCS.out i hil3).2
                      have q5 : w7.cell? ⟨w4.heap.size, c, none⟩ = some (.int .u8 ((rsumN (invN (atsN so)) (txtN so) j c i : Nat) : Int)) := by rw [HON2.out.cell c hcl (rowFn_length _ _), nth_rowFn _ _ c hcl, if_neg (Nat.lt_irrefl _), if_pos rfl]
                      have q6 : w7.frozen? ⟨w4.heap.size, c, none⟩ = false := HON2.out.free c
                      have hst : (shAt so i).2.size = wd := (HSZ.out _ (shAt_mem hil3)).2.2
                      have hidx := run_idx (shAt so i).2 c (by rw [hst]; exact hcl)
                      have lx := Gf.shareOf_lt (atsN so) i j
                      have ly := bytesOf_lt (shAt so i).2 c
                      have ls : rsumN (invN (atsN so)) (txtN so) j c i < 256 := rsumN_lt (invN_lt _) j c i
                      have lm := Gf.mul_lt lx (Gf.nth (bytesOf (shAt so i).2) c)
                      have HXS : Hid (bits .xor .u8 ((rsumN (invN (atsN so)) (txtN so) j c i : Nat) : Int) ((Gf.mul (Gf.shareOf (atsN so) i j) (Gf.nth (bytesOf (shAt so i).2) c) : Nat) : Int) = ((rsumN (invN (atsN so)) (txtN so) j c (i + 1) : Nat) : Int)) := by
                        show _ = _
                        rw [u8_xor_nat _ _ ls lm]
                        rfl
                      have n1 : w4.heap.size ≠ bb := by omega
                      have n2 : w4.heap.size ≠ b1 := by omega
                      have HON2' : Hid (OwnN w7 w4.heap.size 5 w4.heap.size wd (rowFn wd (fun d => if d < c then rsumN (invN (atsN so)) (txtN so) j d k else if d = c then rsumN (invN (atsN so)) (txtN so) j c i else 0))) := HON2.out
                      clear hst hil3
                      generalize rsumN (invN (atsN so)) (txtN so) j c i = sacc at q5 ls HXS HON2'
                      generalize Gf.shareOf (atsN so) i j = x at q2 lx lm HXS
                      generalize (shAt so i).2 = tt at q3 hidx ly lm HXS
                      generalize Gf.nth (bytesOf tt) c = y at hidx ly lm HXS
                      go_wp2
                      refine wp_region_still_tail 20 (by kernel_rfl) (by kernel_rfl) ?_
                      simp only [List.take_succ_cons, List.take_zero, List.drop_succ_cons, List.drop_zero]
                      repeat still_step
                      still_call (rmul_any x y _ lx ly)
                      repeat still_step
                      refine wpStill_nil ?_
                      rw [HXS.out]
                      have HO7 : Hid (OwnN (w7.drewN 1) w4.heap.size 5 w4.heap.size wd (rowFn wd (fun d => if d < c then rsumN (invN (atsN so)) (txtN so) j d k else if d = c then sacc else 0))) := HON2'.out.drewN 1
                      have HB7 : Hid (Below w4.heap.size w4 (w7.drewN 1)) := below_drewN HBq2.out 1
                      have q5' : (w7.drewN 1).cell? ⟨w4.heap.size, c, none⟩ = some (.int .u8 (sacc : Int)) := q5
                      have q6' : (w7.drewN 1).frozen? ⟨w4.heap.size, c, none⟩ = false := q6
                      change wpList _ _ _ _ _ (w7.drewN 1)
                      generalize w7.drewN 1 = w8 at HO7 HB7 q5' q6' ⊢
                      clear q2 q3 q5 q6 HON2 HON2' HBq2 hidx
                      go_wp2
                      go_roundw
                      case rel =>
                        refine ⟨i + 1, by omega, by go_num, ?_, HB7.out.setCell (Nat.le_refl _) _⟩
                        have := HO7.out.set c (rsumN (invN (atsN so)) (txtN so) j c (i + 1))
                        rw [rowFn_congr wd (fun d => if d < c then rsumN (invN (atsN so)) (txtN so) j d k else if d = c then rsumN (invN (atsN so)) (txtN so) j c (i + 1) else 0) (fun d => if d = c then rsumN (invN (atsN so)) (txtN so) j c (i + 1) else if d < c then rsumN (invN (atsN so)) (txtN so) j d k else if d = c then sacc else 0) (fun d _ => by
                          by_cases e : d = c
                          · subst e; rw [if_neg (Nat.lt_irrefl _), if_pos rfl, if_pos rfl]
                          · rw [if_neg e, if_neg e, if_neg e])]
                        exact this
                      case measure => simp [intOf]; omega
                    · have hie : k = i := by omega
                      subst hie
                      go_wp2
                      go_roundw
                      case rel =>
                        refine ⟨c + 1, by omega, by go_num, ?_, HBq2.out⟩
                        rw [rowFn_congr wd _ (fun d => if d < c then rsumN (invN (atsN so)) (txtN so) j d k else if d = c then rsumN (invN (atsN so)) (txtN so) j c k else 0) (fun d _ => by
                          by_cases e : d < c
                          · rw [if_pos (by omega), if_pos e]
                          · by_cases e' : d = c
                            · subst e'; rw [if_pos (by omega), if_neg e, if_pos rfl]
                            · rw [if_neg (by omega), if_neg e, if_neg e'])]
                        exact HON2.out
                      case measure => simp [intOf]; omega
                · have hce : wd = c := by omega
                  subst hce
                  have hN6 : OwnN w6 w4.heap.size 5 w4.heap.size wd (rowFn wd fun c => rsumN (invN (atsN so)) (txtN so) j c k) := by
                    rw [rowFn_congr wd _ (fun d => if d < wd then rsumN (invN (atsN so)) (txtN so) j d k else 0) (fun d hd => by rw [if_pos hd])]
                    exact HON.out
                  have hcv : Sem.run Tryz.prog (convert 80 9 (.slice (some ⟨w4.heap.size, 0, none⟩) wd wd)) w6 = .ok (.string (strOf (rowFn wd fun c => rsumN (invN (atsN so)) (txtN so) j c k))) w6 := by
                    have hsg : Seg w6 (some ⟨w4.heap.size, 0, none⟩) (rowFn wd fun c => rsumN (invN (atsN so)) (txtN so) j c k) := ⟨rowFn_bytes _ _ (fun d => rsumN_lt (invN_lt _) _ _ _), Or.inr ⟨w4.heap.size, 0, rfl, hN6.lt.2, fun d hd => by
                      rw [rowFn_length] at hd
                      rw [Nat.zero_add]
                      exact hN6.cell d hd (rowFn_length _ _)⟩⟩
                    have := conv_seg hsg wd
                    rw [rowFn_length] at this
                    exact this
                  have HCT : Hid (strOf (catN (fun q c => rsumN (invN (atsN so)) (txtN so) q c k) wd j) ++ strOf (rowFn wd fun c => rsumN (invN (atsN so)) (txtN so) j c k) = strOf (catN (fun q c => rsumN (invN (atsN so)) (txtN so) q c k) wd (j + 1))) := by
                    show _ = _
                    rw [strOf_append, catN_succ]
                  have hjw : j * wd ≤ 12 * 1000 := Nat.mul_le_mul (by omega) (by omega)
                  have hs1 : (strOf (catN (fun q c => rsumN (invN (atsN so)) (txtN so) q c k) wd j)).size ≤ 12000 := by rw [strOf_size, catN_length]; omega
                  have hs2 : (strOf (rowFn wd fun c => rsumN (invN (atsN so)) (txtN so) j c k)).size ≤ 1000 := by rw [strOf_size, rowFn_length]; omega
                  have HB6 : Hid (Below w2.heap.size w2 w6) := HB3.out.trans ((HB4.out.trans (HBq.out.mono hz4)).mono hz3)
                  clear hN6 HON HBq hjw
                  generalize strOf (rowFn wd fun c => rsumN (invN (atsN so)) (txtN so) j c k) = s2 at hcv HCT hs2
                  generalize strOf (catN (fun q c => rsumN (invN (atsN so)) (txtN so) q c k) wd j) = s1 at *
                  go_wp2
                  go_roundw
                  case rel => exact ⟨j + 1, by omega, by go_num, by rw [← HCT.out], HB6.out⟩
                  case measure => simp [intOf]; omega
        · have hje : k = j := by omega
          subst hje
          have hsl : ∀ W, Sem.run Tryz.prog (Instr.slice 9 (.string (strOf (catN (fun q c => rsumN (invN (atsN so)) (txtN so) q c k) wd k))) none (some (.int .i64 (size : Int))) none) W = .ok (.string dt) W := fun W => by
            rw [run_slice_string_h W 9 _ Tryz.underlying9 .i64 (size : Int) (by omega) (by
              rw [strOf_size, catN_length]
              have := HMUL.out
              omega), Int.toNat_natCast, strOf_mk, strOf_take, catN_take _ _ _ _ HMUL.out, HDT.out]
          have HBF : Hid (Below w.heap.size w w3) := HB1.out.trans ((HB.out.trans (HB3.out.mono hz2)).mono HB1.out.size)
          clear HDT HMUL
          generalize strOf (catN (fun q c => rsumN (invN (atsN so)) (txtN so) q c k) wd k) = st at hsl ⊢
          go_wp2
          go_ret2
          exact ⟨rfl, HBF.out⟩
section
section
variable {P : Program} {w : World}
theorem appendK_where (base : Nat) (t ty e : TypeId) (i : TypeInfo) (z : Value) (size bytes : Nat) (ht : P.underlying t = some (.slice e)) (hi : P.info? e = some i) (hz : i.zero = some z)
    (hsize : i.size = size) (hby : i.bytes = bytes) (v : Value) (n : Nat) (xs : List Value) (hown : w.ownsRow base e size v n xs)
    (a : Addr) (m c : Nat) (news : List Value) (hl : news.length = m * size) (hnews : ∀ j u, news[j]? = some u → w.cell? (a.add j) = some u) (h1 : ∀ u ∈ news, u.oneCell' = true)
    (h63 : n + m ≤ maxLen) (hbytes : (n + m) * bytes ≤ 140737488355328) (hm : 0 < m) {v' : Value} {w' : World}
    (hr : (Builtin.append_ #[t, t] ty #[v, .slice (some a) m c]).run P w = .ok v' w') : v'.ownBlock = v.ownBlock ∨ v'.ownBlock = some w.heap.size := by
  subst hsize
  subst hby
  have hsmall : n + m ≤ 9223372036854775807 := by simp only [maxLen] at h63; omega
  rcases hown.2 with ⟨rfl, rfl⟩ | ⟨g, cap, cur, rfl, hbg, hg, hnc, hcm, hcs, htake⟩
  · have := run_append_nil (P := P) w t ty e i z ht hi hz a m c news hl hnews (by omega) (by omega) (by have hb := hbytes; simp only [Nat.zero_add] at hb; omega)
    rw [this] at hr
    injection hr with e1 e2
    subst e1
    exact Or.inr rfl
  · by_cases hroom : n + m ≤ cap
    · have hfit : n * i.size + news.length ≤ cur.size := by rw [hl, hcs, ← Nat.add_mul]; exact Nat.mul_le_mul_right _ hroom
      have := run_append_room (P := P) w t ty e i ht hi g n cap cur hg a m c news hl hnews h1 hroom hfit
      rw [this] at hr
      injection hr with e1 e2
      subst e1
      exact Or.inl rfl
    · have holds : ∀ j u, xs[j]? = some u → w.cell? ((⟨g, 0, none⟩ : Addr).add j) = some u := hown.cells (g := g) rfl
      have := run_append_grow (P := P) w t ty e i z ht hi hz ⟨g, 0, none⟩ n cap xs hown.1 holds a m c news hl hnews (by omega) (by omega) (growslice_fits (by omega) hbytes)
      rw [this] at hr
      injection hr with e1 e2
      subst e1
      exact Or.inr rfl
theorem wpList_append_at {ops : Array Oper} {rest : List Oper} {o : Oper} {a : Act} {Q : Exit → Act → World → Prop} (hgd : o.guard = none) (s x : Operand) (t : TypeId)
    (ho : o.op = .call { callee := .builtin .append, args := #[s, x], argTypes := #[t, t] })
    (base : Nat) (e : TypeId) (i : TypeInfo) (z : Value) (size bytes : Nat) (ht : P.underlying t = some (.slice e)) (hi : P.info? e = some i) (hz : i.zero = some z)
    (hsize : i.size = size) (hby : i.bytes = bytes) (hzs : z.cells.size = size) (hsz : 0 < size)
    (v : Value) (n : Nat) (xs : List Value) (hs : a.eval s = v) (hown : w.ownsRow base e size v n xs)
    (ad : Addr) (m c : Nat) (news : List Value) (hx : a.eval x = .slice (some ad) m c) (hl : news.length = m * size) (hnews : ∀ j u, news[j]? = some u → w.cell? (ad.add j) = some u) (h1 : ∀ u ∈ news, u.oneCell' = true)
    (h63 : n + m ≤ maxLen) (hbytes : (n + m) * bytes ≤ 140737488355328) (hbase : base ≤ w.heap.size) (hm : 0 < m)
    (h : ∀ v' w', w'.ownsRow base e size v' (n + m) (xs ++ news) → w.grownBy w' v.ownBlock → (v'.ownBlock = v.ownBlock ∨ v'.ownBlock = some w.heap.size) → wpList P ops Q rest (a.put o.dst v') w') : wpList P ops Q (o :: rest) a w := by
  refine wpList_plain hgd fun K hK => ?_
  obtain ⟨v', w', hr, h2, h3, h4⟩ := run_append_own (P := P) w base t o.type e i z size bytes ht hi hz hsize hby hzs hsz v n xs hown ad m c news hl hnews h1 h63 hbytes hbase
  have hw := appendK_where base t o.type e i z size bytes ht hi hz hsize hby v n xs hown ad m c news hl hnews h1 h63 hbytes hm hr
  unfold Oper.wp execOp
  simp only [ho, resolve, invoke, builtin, Sem.run_bind, Sem.run_pure, Result.andThen_ok, List.map_toArray, List.map_cons, List.map_nil, hs, hx, hr]
  exact hK _ _ (h v' w' h2 h3 hw)
end
end
end Go.Proofs.YtpjeibicopgedaaGreatDoor
