/- Texts laid together. -/
import Derived.Test.YtpjeibicopgedaaGreatDoorQb9
namespace Go.Proofs.YtpjeibicopgedaaGreatDoor
open Go.RowKit
/-- Lists of versions, as a slice of slices. -/
def Vss (w : World) (p : Option Addr) (LL : List (List Ver)) : Prop :=
  LL = [] ∨ ∃ b o, p = some ⟨b, o, none⟩ ∧ b < w.heap.size ∧ ∀ i, i < LL.length → ∃ q c, w.cell? ⟨b, o + i, none⟩ = some (.slice q (LL.getD i []).length c) ∧ Rec verE w q (LL.getD i []) ∧ (LL.getD i []).length ≤ c ∧ (q = none → LL.getD i [] = [] ∧ c = 0)
theorem Vss.below {w w' : World} {p : Option Addr} {LL : List (List Ver)} (h : Vss w p LL) (hb : Below w.heap.size w w') : Vss w' p LL := by
  rcases h with h | ⟨b, o, hp, hlt, hc⟩
  · exact Or.inl h
  · refine Or.inr ⟨b, o, hp, Nat.lt_of_lt_of_le hlt hb.size, fun i hi => ?_⟩
    obtain ⟨q, c, h1, h2, h3, h4⟩ := hc i hi
    exact ⟨q, c, (hb.cell (p := ⟨b, o + i, none⟩) hlt).trans h1, h2.below hb, h3, h4⟩
/-- A tag in a block of its own, to be written. -/
structure TagAt (w : World) (b : Nat) (a : Int × Int) : Prop where
  n : w.cell? ⟨b, 0, none⟩ = some (.int .i64 a.1)
  who : w.cell? ⟨b, 1, none⟩ = some (.int .i64 a.2)
  f0 : w.frozen? ⟨b, 0, none⟩ = false
  f1 : w.frozen? ⟨b, 1, none⟩ = false
theorem TagAt.below {w w' : World} {b : Nat} {a : Int × Int} (h : TagAt w b a) (hb : Below w.heap.size w w') : TagAt w' b a :=
  have hlt := lt_of_cellH h.n
  ⟨(hb.cell (p := ⟨b, 0, none⟩) hlt).trans h.n, (hb.cell (p := ⟨b, 1, none⟩) hlt).trans h.who, (hb.frozen (p := ⟨b, 0, none⟩) hlt).trans h.f0, (hb.frozen (p := ⟨b, 1, none⟩) hlt).trans h.f1⟩
theorem TagAt.belowAt {w w' : World} {b B : Nat} {a : Int × Int} (h : TagAt w b a) (hb : Below B w w') (hlt : b < B) : TagAt w' b a :=
  ⟨(hb.cell (p := ⟨b, 0, none⟩) hlt).trans h.n, (hb.cell (p := ⟨b, 1, none⟩) hlt).trans h.who, (hb.frozen (p := ⟨b, 0, none⟩) hlt).trans h.f0, (hb.frozen (p := ⟨b, 1, none⟩) hlt).trans h.f1⟩
theorem TagAt.set {w : World} {b : Nat} {a : Int × Int} (h : TagAt w b a) (x y : Int) : TagAt ((w.setCell ⟨b, 0, none⟩ (.int .i64 x)).setCell ⟨b, 1, none⟩ (.int .i64 y)) b (x, y) := by
  refine ⟨?_, ?_, by simp [h.f0], by simp [h.f1]⟩
  · rw [World.cell?_setCell_other _ _ _ _ (fun e => by have h2 : (1 : Nat) = 0 := congrArg Addr.off e; omega)]
    exact World.cell?_setCell_same _ _ _ h.n
  · refine World.cell?_setCell_same _ _ _ (u := .int .i64 a.2) ?_
    rw [World.cell?_setCell_other _ _ _ _ (fun e => by have h2 : (0 : Nat) = 1 := congrArg Addr.off e; omega)]
    exact h.who
theorem TagAt.alloc (w : World) (x y : Int) (T : TypeId) : TagAt (w.alloc (.cells #[.int .i64 x, .int .i64 y] T)) w.heap.size (x, y) := by
  exact ⟨by rw [World.cell?_alloc_at _ _ _ _ rfl]; rfl, by rw [World.cell?_alloc_at _ _ _ _ rfl]; rfl, World.frozen?_alloc_at _ _ _ _ rfl, World.frozen?_alloc_at _ _ _ _ rfl⟩
theorem flatten_take_succ {LL : List (List Ver)} {i : Nat} (hi : i < LL.length) : (LL.take (i + 1)).flatten = (LL.take i).flatten ++ LL.getD i [] := by
  rw [List.take_succ_eq_append_getElem hi, List.flatten_append, List.getD_eq_getElem?_getD, List.getElem?_eq_getElem hi]
  simp
theorem flatten_take_le (LL : List (List Ver)) (i : Nat) : (LL.take i).flatten.length ≤ LL.flatten.length := by
  have h : LL.flatten = (LL.take i).flatten ++ (LL.drop i).flatten := by rw [← List.flatten_append, List.take_append_drop]
  rw [h, List.length_append]
  omega
theorem flatten_at_le (LL : List (List Ver)) {i : Nat} (hi : i < LL.length) : (LL.take i).flatten.length + (LL.getD i []).length ≤ LL.flatten.length := by
  have h := flatten_take_le LL (i + 1)
  rw [flatten_take_succ hi, List.length_append] at h
  exact h
set_option maxRecDepth 10000 in
set_option maxHeartbeats 8000000 in
theorem rbest_any (n k : Nat) (p0 : Option Addr) (l0 c0 : Nat) (p : Option Addr) (LL : List (List Ver)) (cap : Nat) (w : World) (hk1 : 1 ≤ k) (hkn : k ≤ n) (hn : n ≤ 12) (hl : LL.length ≤ 1000) (hl2 : LL.flatten.length ≤ 1000) (hL : Vss w p LL) :
    Calls Tryz.prog 13 #[.agg #[.int .i64 (n : Int), .int .i64 (k : Int), .slice p0 l0 c0], .slice p LL.length cap] w fun e w' => e = .returned (.tuple #[.agg #[.int .i64 (bestF n k LL.flatten LL.flatten).1.1, .int .i64 (bestF n k LL.flatten LL.flatten).1.2], .string (bestF n k LL.flatten LL.flatten).2.1, .bool (bestF n k LL.flatten LL.flatten).2.2]) ∧ Below w.heap.size w w' := by
  obtain ⟨wc, hwc⟩ : ∃ wc, wc = w.alloc (.cells #[.int .i64 (n : Int), .int .i64 (k : Int), .slice p0 l0 c0] 24) := ⟨_, rfl⟩
  have e1 : wc.heap.size = w.heap.size + 1 := by rw [hwc]; simp
  obtain ⟨w0, hw0⟩ : ∃ w0, w0 = wc.alloc (.cells #[.int .i64 0, .int .i64 0] 30) := ⟨_, rfl⟩
  have hbc : Below w.heap.size w wc := by rw [hwc]; exact (Below.refl _ _).alloc (Nat.le_refl _) _
  have hb0c : Below wc.heap.size wc w0 := by rw [hw0]; exact (Below.refl _ _).alloc (Nat.le_refl _) _
  have HB0 : Hid (Below w.heap.size w w0) := hbc.trans (hb0c.mono hbc.size)
  have a0 : w0.cell? ⟨w.heap.size, 0, none⟩ = some (.int .i64 (n : Int)) := (hb0c.cell (p := ⟨w.heap.size, 0, none⟩) (by show w.heap.size < _; omega)).trans (by rw [hwc, World.cell?_alloc_at _ _ _ _ rfl]; rfl)
  have a1 : w0.cell? ⟨w.heap.size, 1, none⟩ = some (.int .i64 (k : Int)) := (hb0c.cell (p := ⟨w.heap.size, 1, none⟩) (by show w.heap.size < _; omega)).trans (by rw [hwc, World.cell?_alloc_at _ _ _ _ rfl]; rfl)
  have a2 : w0.cell? ⟨w.heap.size, 2, none⟩ = some (.slice p0 l0 c0) := (hb0c.cell (p := ⟨w.heap.size, 2, none⟩) (by show w.heap.size < _; omega)).trans (by rw [hwc, World.cell?_alloc_at _ _ _ _ rfl]; rfl)
  have tg : TagAt w0 (w.heap.size + 1) (0, 0) := by rw [hw0, ← e1]; exact TagAt.alloc _ _ _ _
  have HALL : Hid (∀ W, Below w0.heap.size w0 W → (W.cell? ⟨w.heap.size, 0, none⟩ = some (.int .i64 (n : Int)) ∧ W.cell? ⟨w.heap.size, 1, none⟩ = some (.int .i64 (k : Int)) ∧ W.cell? ⟨w.heap.size, 2, none⟩ = some (.slice p0 l0 c0)) ∧ TagAt W (w.heap.size + 1) (0, 0) ∧ Vss W p LL ∧ Below w.heap.size w W) := fun W hW => by
    have hy : w.heap.size < w0.heap.size := lt_of_cellH a0
    exact ⟨⟨(hW.cell (p := ⟨w.heap.size, 0, none⟩) hy).trans a0, (hW.cell (p := ⟨w.heap.size, 1, none⟩) hy).trans a1, (hW.cell (p := ⟨w.heap.size, 2, none⟩) hy).trans a2⟩, tg.below hW, (hL.below HB0.out).below hW, HB0.out.trans (hW.mono HB0.out.size)⟩
  have HW0 : Hid (w0 = (w.alloc (.cells #[.int .i64 (n : Int), .int .i64 (k : Int), .slice p0 l0 c0] 24)).alloc (.cells #[.int .i64 0, .int .i64 0] 30)) := by rw [← hwc]; exact hw0
  have HFS : Hid (∀ i, i < LL.length → (LL.take (i + 1)).flatten = (LL.take i).flatten ++ LL.getD i []) := fun i hi => flatten_take_succ hi
  have HFL : Hid (∀ i, i < LL.length → (LL.take i).flatten.length + (LL.getD i []).length ≤ 1000) := fun i hi => Nat.le_trans (flatten_at_le LL hi) hl2
  have HFN : Hid ((LL.take LL.length).flatten = LL.flatten) := by show _ = _; rw [List.take_length]
  have HF0 : Hid ((LL.take 0).flatten = []) := by show _ = _; rfl
  have HSO : Hid (∀ (t : Int × Int) (q : Option Addr) (A : List Ver) (c : Nat) (W : World), A.length ≤ 1000 → Rec verE W q A → Calls Tryz.prog 23 #[.agg #[.int .i64 (n : Int), .int .i64 (k : Int), .slice p0 l0 c0], .slice q A.length c, .agg #[.int .i64 t.1, .int .i64 t.2]] W fun e w' => (∃ v, e = .returned (.tuple #[.int .i64 (shOf n k t A).1, v]) ∧ w'.ownsRow W.heap.size 49 2 v (shOf n k t A).2.length (shVals (shOf n k t A).2)) ∧ Below W.heap.size W w') := fun t q A c W hA hr => shardsOf_any n k p0 l0 c0 q A c t W hk1 (by omega) (by omega) hr
  clear hwc hw0 hbc hb0c e1 a0 a1 a2 tg hL
  generalize LL.flatten = A at *
  go_enter Tryz.func13, Tryz.ntmps13
  go_wp2_with (rw [← HW0.out])
  go_loopw [7, 8] (fun v x wr => ∃ i : Nat, i ≤ LL.length ∧ x = .int .i64 i ∧ OwnR verE 51 wr w0.heap.size v (LL.take i).flatten ∧ Below w0.heap.size w0 wr) (fun _ x _ => LL.length - (intOf x).toNat)
  case atStart => exact ⟨0, Nat.zero_le _, rfl, by rw [HF0.out]; exact OwnR.nil _ _ _, Below.refl _ _⟩
  case round =>
    obtain ⟨i, hi, rfl, hO, hB⟩ := hrel
    obtain ⟨w1, rfl⟩ : ∃ w1, w1 = wr := ⟨_, rfl⟩
    obtain ⟨⟨k0, k1, k2⟩, htg, hvs, hbw⟩ := HALL.out w1 hB
    have HO : Hid (OwnR verE 51 w1 w0.heap.size u7 (LL.take i).flatten) := hO
    have HB : Hid (Below w0.heap.size w0 w1) := hB
    have HVS : Hid (Vss w1 p LL) := hvs
    have hz1 : w0.heap.size ≤ w1.heap.size := hB.size
    clear hO hB hvs hbw
    by_cases hil : i < LL.length
    · rcases HVS.out with h0 | ⟨b, o, rfl, hblt, hc⟩
      · rw [h0] at hil; simp at hil
      obtain ⟨q, c, hcell, hrec, hlc, hqn⟩ := hc i hil
      have HR : Hid (Rec verE w1 q (LL.getD i [])) := hrec
      have HQN : Hid (q = none → LL.getD i [] = [] ∧ c = 0) := hqn
      have hfl := HFL.out i hil
      have HNX : Hid ((LL.take (i + 1)).flatten = (LL.take i).flatten ++ LL.getD i []) := HFS.out i hil
      clear hc hrec hqn htg k0 k1 k2
      generalize LL.getD i [] = ri at *
      generalize (LL.take i).flatten = li at *
      go_wp2_with (first | (at_builtin; refine wpList_append_recs (E := verE) rfl (.tmp 24) (.tmp 28) 47 51 rfl (.agg #[.int .i64 0, .int .i64 0, .int .i64 0, .int .i64 0, .string ⟨#[]⟩]) 48 Tryz.underlying47 verinfo rfl w0.heap.size u7 li rfl HO.out q ri c rfl HR.out HQN.out (by unfold maxLen; omega) (by omega) hz1 ?_; intro v' w3 hO3 hb3))
      go_roundw
      case rel => exact ⟨i + 1, by omega, by go_num, by rw [HNX.out]; exact hO3, HB.out.trans hb3⟩
      case measure => simp [intOf]; omega
    · have hie : i = LL.length := by omega
      have HOA : Hid (OwnR verE 51 w1 w0.heap.size u7 A) := by
        show OwnR _ _ _ _ _ _
        rw [← HFN.out, ← hie]
        exact HO.out
      clear HO HFS HFL HFN HF0 HVS hie
      obtain ⟨pa, ca, rfl, hra, hlca, hnca, hbca⟩ := HOA.out.form
      have HRA : Hid (Rec verE w1 pa A) := hra
      clear HOA hra hnca hbca
      obtain ⟨w2, hw2⟩ : ∃ w2, w2 = w1.alloc (.cells #[.int .i64 0, .int .i64 0] 30) := ⟨_, rfl⟩
      have HW2 : Hid (w2 = w1.alloc (.cells #[.int .i64 0, .int .i64 0] 30)) := hw2
      have hb2 : Below w1.heap.size w1 w2 := by rw [hw2]; exact (Below.refl _ _).alloc (Nat.le_refl _) _
      have HT2 : Hid (TagAt w2 w1.heap.size (0, 0)) := by show TagAt _ _ _; rw [hw2]; exact TagAt.alloc _ _ _ _
      have HB2 : Hid (Below w1.heap.size w1 w2) := hb2
      have hlt2 : w1.heap.size < w2.heap.size := lt_of_cellH HT2.out.n
      have HI0 : Hid (bestF n k A (A.take 0) = ((0, 0), ⟨#[]⟩, false)) := by show _ = _; rfl
      have HSU : Hid (∀ i, i < A.length → bestF n k A (A.take (i + 1)) = bestStep n k A (bestF n k A (A.take i)) (verAt A i)) := fun i hi => bestF_succ hi
      have HFI : Hid (bestF n k A (A.take A.length) = bestF n k A A) := by show _ = _; rw [List.take_length]
      have H1 : Hid (∀ W, Below w1.heap.size w1 W → (W.cell? ⟨w.heap.size, 0, none⟩ = some (.int .i64 (n : Int)) ∧ W.cell? ⟨w.heap.size, 1, none⟩ = some (.int .i64 (k : Int)) ∧ W.cell? ⟨w.heap.size, 2, none⟩ = some (.slice p0 l0 c0)) ∧ TagAt W (w.heap.size + 1) (0, 0) ∧ Rec verE W pa A ∧ Below w.heap.size w W) := fun W hW => by
        obtain ⟨q1, q2, _, q4⟩ := HALL.out W (HB.out.trans (hW.mono hz1))
        exact ⟨q1, q2, HRA.out.below hW, q4⟩
      clear hw2 hb2 HALL HRA HB HW0 htg k0 k1 k2
      go_wp2
      rw [← HW2.out]
      go_loopw [10, 11, 12] (fun tx fo x wr => ∃ i : Nat, i ≤ A.length ∧ x = .int .i64 i ∧ tx = .string (bestF n k A (A.take i)).2.1 ∧ fo = .bool (bestF n k A (A.take i)).2.2 ∧ TagAt wr w1.heap.size (bestF n k A (A.take i)).1 ∧ w1.heap.size < wr.heap.size ∧ Below w1.heap.size w1 wr) (fun _ _ x _ => A.length - (intOf x).toNat)
      case atStart => exact ⟨0, Nat.zero_le _, rfl, by rw [HI0.out], by rw [HI0.out], by rw [HI0.out]; exact HT2.out, hlt2, HB2.out⟩
      case round =>
        obtain ⟨i, hi, rfl, rfl, rfl, hT, hlt, hB⟩ := hrel
        obtain ⟨w3, rfl⟩ : ∃ w3, w3 = wr := ⟨_, rfl⟩
        obtain ⟨⟨k0, k1, k2⟩, htg, hra, hbw⟩ := H1.out w3 hB
        have HB : Hid (Below w1.heap.size w1 w3) := hB
        have HT : Hid (TagAt w3 w1.heap.size (bestF n k A (A.take i)).1) := hT
        have HRA : Hid (Rec verE w3 pa A) := hra
        have HTG : Hid (TagAt w3 (w.heap.size + 1) (0, 0)) := htg
        have HBW : Hid (Below w.heap.size w w3) := hbw
        have hsu := HSU.out i
        have HFIN : Hid (i = A.length → bestF n k A A = bestF n k A (A.take i)) := fun h => by rw [← HFI.out, h]
        have HNXT : Hid (∀ (S' : (Int × Int) × ByteArray × Bool) (W : World), bestF n k A (A.take (i + 1)) = S' → TagAt W w1.heap.size S'.1 → w1.heap.size < W.heap.size → Below w1.heap.size w1 W → i + 1 ≤ A.length → ∃ j : Nat, j ≤ A.length ∧ (.int .i64 ((i : Int) + 1) : Value) = .int .i64 j ∧ (.string S'.2.1 : Value) = .string (bestF n k A (A.take j)).2.1 ∧ (.bool S'.2.2 : Value) = .bool (bestF n k A (A.take j)).2.2 ∧ TagAt W w1.heap.size (bestF n k A (A.take j)).1 ∧ w1.heap.size < W.heap.size ∧ Below w1.heap.size w1 W) := fun S' W hS hT hl hb hlt => ⟨i + 1, hlt, by rw [Int.natCast_add]; rfl, by rw [hS], by rw [hS], by rw [hS]; exact hT, hl, hb⟩
        generalize bestF n k A (A.take (i + 1)) = S1 at *
        generalize bestF n k A (A.take i) = S at *
        obtain ⟨⟨sn, sw⟩, stx, sf⟩ := S
        dsimp only at hsu HT
        clear hB hT hra htg hbw HSU HI0 HFI HT2 HB2
        by_cases hil : i < A.length
        · obtain ⟨b, o, hpp, hblt, d0, d1, _, _, _⟩ := ver_cells HRA.out hil
          subst hpp
          have hs1 := hsu hil
          clear hsu HFIN
          generalize verAt A i = x at *
          obtain ⟨xn, xw, xs, xa, xt⟩ := x
          dsimp only at d0 d1
          obtain ⟨w4, hw4⟩ : ∃ w4, w4 = w3.alloc (.cells #[.int .i64 xn, .int .i64 xw] 30) := ⟨_, rfl⟩
          have HW4 : Hid (w4 = w3.alloc (.cells #[.int .i64 xn, .int .i64 xw] 30)) := hw4
          have hb4 : Below w3.heap.size w3 w4 := by rw [hw4]; exact (Below.refl _ _).alloc (Nat.le_refl _) _
          have HX4 : Hid (TagAt w4 w3.heap.size (xn, xw)) := by show TagAt _ _ _; rw [hw4]; exact TagAt.alloc _ _ _ _
          have H4 : Hid (∀ W, Below w4.heap.size w4 W → (W.cell? ⟨w.heap.size, 0, none⟩ = some (.int .i64 (n : Int)) ∧ W.cell? ⟨w.heap.size, 1, none⟩ = some (.int .i64 (k : Int)) ∧ W.cell? ⟨w.heap.size, 2, none⟩ = some (.slice p0 l0 c0)) ∧ TagAt W w3.heap.size (xn, xw) ∧ TagAt W w1.heap.size (sn, sw) ∧ Rec verE W (some ⟨b, o, none⟩) A ∧ w1.heap.size < W.heap.size ∧ Below w1.heap.size w1 W) := fun W hW => by
            have h3W : Below w3.heap.size w3 W := hb4.trans (hW.mono hb4.size)
            have h1W : Below w1.heap.size w1 W := HB.out.trans (h3W.mono HB.out.size)
            obtain ⟨q1, _, q3, _⟩ := H1.out W h1W
            exact ⟨q1, HX4.out.below hW, HT.out.below h3W, q3, Nat.lt_of_lt_of_le hlt h3W.size, h1W⟩
          clear hw4 hb4 k0 k1 k2 HT HRA HTG HBW HB H1
          obtain ⟨⟨k0, k1, k2⟩, x4, t4, r4, hl4, b4⟩ := H4.out w4 (Below.refl _ _)
          have x0 := x4.n
          have x1 := x4.who
          have t0 := t4.n
          have t1 := t4.who
          have HT4 : Hid (TagAt w4 w1.heap.size (sn, sw)) := t4
          have HB4 : Hid (Below w1.heap.size w1 w4) := b4
          dsimp only at x0 x1 t0 t1
          clear x4 t4 r4 b4
          cases sf with
          | true =>
            go_wp2_with (rw [← HW4.out])
            refine (rless_any (sn, sw) (xn, xw) _).mono ?_
            rintro e w5 ⟨rfl, hb5⟩
            have H5 : Hid (∀ W, Below w5.heap.size w5 W → (W.cell? ⟨w.heap.size, 0, none⟩ = some (.int .i64 (n : Int)) ∧ W.cell? ⟨w.heap.size, 1, none⟩ = some (.int .i64 (k : Int)) ∧ W.cell? ⟨w.heap.size, 2, none⟩ = some (.slice p0 l0 c0)) ∧ TagAt W w3.heap.size (xn, xw) ∧ TagAt W w1.heap.size (sn, sw) ∧ Rec verE W (some ⟨b, o, none⟩) A ∧ w1.heap.size < W.heap.size ∧ Below w1.heap.size w1 W) := fun W hW => H4.out W (hb5.trans (hW.mono hb5.size))
            clear hb5 H4 HT4 HB4 k0 k1 k2 x0 x1 t0 t1 hl4
            by_cases hless : lessB (sn, sw) (xn, xw) = false
            · have HN : Hid (S1 = ((sn, sw), stx, true)) := by show _ = _; rw [hs1]; exact bestStep_old ⟨rfl, hless⟩
              rw [hless]
              obtain ⟨_, _, t5, _, hl5, b5⟩ := H5.out w5 (Below.refl _ _)
              have HT5 : Hid (TagAt w5 w1.heap.size (sn, sw)) := t5
              have HB5 : Hid (Below w1.heap.size w1 w5) := b5
              clear hless hs1 t5 b5
              go_wp2
              go_roundw
              case rel => exact HNXT.out _ _ HN.out HT5.out hl5 HB5.out hil
              case measure => simp [intOf]; omega
            · have HFEW : Hid ((shOf n k (xn, xw) A).2.length < k → S1 = ((sn, sw), stx, true)) := fun h => by rw [hs1]; exact bestStep_few (fun h2 => hless h2.2) h
              have HNEW : Hid (¬ (shOf n k (xn, xw) A).2.length < k → S1 = ((xn, xw), decT k (shOf n k (xn, xw) A).1.toNat (pickN k (shOf n k (xn, xw) A).2 (shOf n k (xn, xw) A).2.length), true)) := fun h => by rw [hs1]; exact bestStep_new (fun h2 => hless h2.2) h
              rw [Bool.not_eq_false] at hless
              rw [hless]
              clear hless
              obtain ⟨⟨k0, k1, k2⟩, x5, t5, r5, hl5, b5⟩ := H5.out w5 (Below.refl _ _)
              have x0 := x5.n
              have x1 := x5.who
              dsimp only at x0 x1
              clear x5 t5 b5 hl5
              have HC := HSO.out (xn, xw) (some ⟨b, o, none⟩) A ca w5 (by omega) r5
              have HC' := HC
              dsimp only at HC
              clear r5 HC'
              go_wp2_with fail
              refine HC.mono ?_
              rintro e w6 ⟨⟨v6, rfl, ho6⟩, hb6⟩
              clear HC
              obtain ⟨p6, c6, rfl, hsh6⟩ := shs_of_own ho6
              have H6 : Hid (∀ W, Below w6.heap.size w6 W → (W.cell? ⟨w.heap.size, 0, none⟩ = some (.int .i64 (n : Int)) ∧ W.cell? ⟨w.heap.size, 1, none⟩ = some (.int .i64 (k : Int)) ∧ W.cell? ⟨w.heap.size, 2, none⟩ = some (.slice p0 l0 c0)) ∧ TagAt W w3.heap.size (xn, xw) ∧ TagAt W w1.heap.size (sn, sw) ∧ Rec verE W (some ⟨b, o, none⟩) A ∧ w1.heap.size < W.heap.size ∧ Below w1.heap.size w1 W) := fun W hW => H5.out W (hb6.trans (hW.mono hb6.size))
              clear k0 k1 k2 x0 x1 H5 hb6 ho6
              obtain ⟨⟨k0, k1, k2⟩, _, t6, _, hl6, b6⟩ := H6.out w6 (Below.refl _ _)
              have HT6 : Hid (TagAt w6 w1.heap.size (sn, sw)) := t6
              have HB6 : Hid (Below w1.heap.size w1 w6) := b6
              have HSH6 : Hid (Shs w6 p6 (shOf n k (xn, xw) A).2) := hsh6
              clear t6 b6 hsh6
              by_cases hfew : (shOf n k (xn, xw) A).2.length < k
              · have HN : Hid (S1 = ((sn, sw), stx, true)) := HFEW.out hfew
                clear hs1 HFEW HNEW HSH6
                generalize shOf n k (xn, xw) A = Z at *
                go_wp2
                go_roundw
                case rel => exact HNXT.out _ _ HN.out HT6.out hl6 HB6.out hil
                case measure => simp [intOf]; omega
              · have HN : Hid (S1 = ((xn, xw), decT k (shOf n k (xn, xw) A).1.toNat (pickN k (shOf n k (xn, xw) A).2 (shOf n k (xn, xw) A).2.length), true)) := HNEW.out hfew
                obtain ⟨z1, z2, z3, z4⟩ := shOf_fits hk1 hfew
                have hlen : (shOf n k (xn, xw) A).2.length ≤ A.length := by have := shOf_le (n := n) (k := k) (t := (xn, xw)) A A.length; rw [List.take_length] at this; exact this
                clear hs1 HFEW HNEW
                generalize shOf n k (xn, xw) A = Z at *
                obtain ⟨zs, zl⟩ := Z
                dsimp only at hfew z1 z2 z3 z4 hlen HSH6 HN
                have HD := rdecode_ok n k zs.toNat p6 zl c6 w6 hk1 hkn hn z2 (by omega) z4 z3 HSH6.out
                rw [z1] at HD
                generalize decT k zs.toNat (pickN k zl zl.length) = dt at *
                clear z1 z2 z3 z4 HSH6
                go_wp2_with fail
                refine HD.mono ?_
                rintro e w7 ⟨rfl, hb7⟩
                clear HD k0 k1 k2 HT6 HB6 hl6
                obtain ⟨_, x7, t7, _, hl7, b7⟩ := H6.out w7 hb7
                have x0 := x7.n
                have x1 := x7.who
                have t0 := t7.n
                have t1 := t7.who
                have t2 := t7.f0
                have t3 := t7.f1
                have HT7 : Hid (TagAt w7 w1.heap.size (sn, sw)) := t7
                have HB7 : Hid (Below w1.heap.size w1 w7) := b7
                dsimp only at x0 x1 t0 t1
                clear x7 t7 b7 hb7 H6
                go_wp2
                go_roundw
                case rel => exact HNXT.out _ _ HN.out (HT7.out.set xn xw) (by simpa using hl7) ((HB7.out.setCell (Nat.le_refl _) _).setCell (Nat.le_refl _) _) hil
                case measure => simp [intOf]; omega
          | false =>
            have HFEW : Hid ((shOf n k (xn, xw) A).2.length < k → S1 = ((sn, sw), stx, false)) := fun h => by rw [hs1]; exact bestStep_few (fun h2 => by cases h2.1) h
            have HNEW : Hid (¬ (shOf n k (xn, xw) A).2.length < k → S1 = ((xn, xw), decT k (shOf n k (xn, xw) A).1.toNat (pickN k (shOf n k (xn, xw) A).2 (shOf n k (xn, xw) A).2.length), true)) := fun h => by rw [hs1]; exact bestStep_new (fun h2 => by cases h2.1) h
            have H5 : Hid (∀ W, Below w4.heap.size w4 W → (W.cell? ⟨w.heap.size, 0, none⟩ = some (.int .i64 (n : Int)) ∧ W.cell? ⟨w.heap.size, 1, none⟩ = some (.int .i64 (k : Int)) ∧ W.cell? ⟨w.heap.size, 2, none⟩ = some (.slice p0 l0 c0)) ∧ TagAt W w3.heap.size (xn, xw) ∧ TagAt W w1.heap.size (sn, sw) ∧ Rec verE W (some ⟨b, o, none⟩) A ∧ w1.heap.size < W.heap.size ∧ Below w1.heap.size w1 W) := H4.out
            clear H4 HT4 HB4 hl4
            obtain ⟨_, _, _, r5, _, _⟩ := H5.out w4 (Below.refl _ _)
            have HC := HSO.out (xn, xw) (some ⟨b, o, none⟩) A ca w4 (by omega) r5
            have HC' := HC
            dsimp only at HC
            clear r5 HC'
            go_wp2_with (rw [← HW4.out])
            refine HC.mono ?_
            rintro e w6 ⟨⟨v6, rfl, ho6⟩, hb6⟩
            clear HC
            obtain ⟨p6, c6, rfl, hsh6⟩ := shs_of_own ho6
            have H6 : Hid (∀ W, Below w6.heap.size w6 W → (W.cell? ⟨w.heap.size, 0, none⟩ = some (.int .i64 (n : Int)) ∧ W.cell? ⟨w.heap.size, 1, none⟩ = some (.int .i64 (k : Int)) ∧ W.cell? ⟨w.heap.size, 2, none⟩ = some (.slice p0 l0 c0)) ∧ TagAt W w3.heap.size (xn, xw) ∧ TagAt W w1.heap.size (sn, sw) ∧ Rec verE W (some ⟨b, o, none⟩) A ∧ w1.heap.size < W.heap.size ∧ Below w1.heap.size w1 W) := fun W hW => H5.out W (hb6.trans (hW.mono hb6.size))
            clear k0 k1 k2 x0 x1 t0 t1 H5 hb6 ho6
            obtain ⟨⟨k0, k1, k2⟩, _, t6, _, hl6, b6⟩ := H6.out w6 (Below.refl _ _)
            have HT6 : Hid (TagAt w6 w1.heap.size (sn, sw)) := t6
            have HB6 : Hid (Below w1.heap.size w1 w6) := b6
            have HSH6 : Hid (Shs w6 p6 (shOf n k (xn, xw) A).2) := hsh6
            clear t6 b6 hsh6
            by_cases hfew : (shOf n k (xn, xw) A).2.length < k
            · have HN : Hid (S1 = ((sn, sw), stx, false)) := HFEW.out hfew
              clear hs1 HFEW HNEW HSH6
              generalize shOf n k (xn, xw) A = Z at *
              go_wp2
              go_roundw
              case rel => exact HNXT.out _ _ HN.out HT6.out hl6 HB6.out hil
              case measure => simp [intOf]; omega
            · have HN : Hid (S1 = ((xn, xw), decT k (shOf n k (xn, xw) A).1.toNat (pickN k (shOf n k (xn, xw) A).2 (shOf n k (xn, xw) A).2.length), true)) := HNEW.out hfew
              obtain ⟨z1, z2, z3, z4⟩ := shOf_fits hk1 hfew
              have hlen : (shOf n k (xn, xw) A).2.length ≤ A.length := by have := shOf_le (n := n) (k := k) (t := (xn, xw)) A A.length; rw [List.take_length] at this; exact this
              clear hs1 HFEW HNEW
              generalize shOf n k (xn, xw) A = Z at *
              obtain ⟨zs, zl⟩ := Z
              dsimp only at hfew z1 z2 z3 z4 hlen HSH6 HN
              have HD := rdecode_ok n k zs.toNat p6 zl c6 w6 hk1 hkn hn z2 (by omega) z4 z3 HSH6.out
              rw [z1] at HD
              generalize decT k zs.toNat (pickN k zl zl.length) = dt at *
              clear z1 z2 z3 z4 HSH6
              go_wp2_with fail
              refine HD.mono ?_
              rintro e w7 ⟨rfl, hb7⟩
              clear HD k0 k1 k2 HT6 HB6 hl6
              obtain ⟨_, x7, t7, _, hl7, b7⟩ := H6.out w7 hb7
              have x0 := x7.n
              have x1 := x7.who
              have t0 := t7.n
              have t1 := t7.who
              have t2 := t7.f0
              have t3 := t7.f1
              have HT7 : Hid (TagAt w7 w1.heap.size (sn, sw)) := t7
              have HB7 : Hid (Below w1.heap.size w1 w7) := b7
              dsimp only at x0 x1 t0 t1
              clear x7 t7 b7 hb7 H6
              go_wp2
              go_roundw
              case rel => exact HNXT.out _ _ HN.out (HT7.out.set xn xw) (by simpa using hl7) ((HB7.out.setCell (Nat.le_refl _) _).setCell (Nat.le_refl _) _) hil
              case measure => simp [intOf]; omega
        · have hie : i = A.length := by omega
          have HE : Hid (bestF n k A A = ((sn, sw), stx, sf)) := HFIN.out hie
          have t0 := HT.out.n
          have t1 := HT.out.who
          have g0 := HTG.out.n
          have g1 := HTG.out.who
          have g2 := HTG.out.f0
          have g3 := HTG.out.f1
          dsimp only at t0 t1 g0 g1
          clear hsu HFIN HNXT hie k0 k1 k2
          have HF : Hid (TagAt ((w3.setCell ⟨w.heap.size + 1, 0, none⟩ (.int .i64 sn)).setCell ⟨w.heap.size + 1, 1, none⟩ (.int .i64 sw)) (w.heap.size + 1) (sn, sw)) := HTG.out.set sn sw
          have HBF : Hid (Below w.heap.size w ((w3.setCell ⟨w.heap.size + 1, 0, none⟩ (.int .i64 sn)).setCell ⟨w.heap.size + 1, 1, none⟩ (.int .i64 sw))) := (HBW.out.setCell (p := ⟨w.heap.size + 1, 0, none⟩) (by show w.heap.size ≤ w.heap.size + 1; omega) _).setCell (p := ⟨w.heap.size + 1, 1, none⟩) (by show w.heap.size ≤ w.heap.size + 1; omega) _
          go_wp2
          generalize (w3.setCell ⟨w.heap.size + 1, 0, none⟩ (.int .i64 sn)).setCell ⟨w.heap.size + 1, 1, none⟩ (.int .i64 sw) = wf at HF HBF ⊢
          have c1 := HF.out.n
          have c2 := HF.out.who
          dsimp only at c1 c2
          refine bodyPost_ret (v := .tuple #[.agg #[.int .i64 sn, .int .i64 sw], .string stx, .bool sf]) (by simp [results, Tryz.results13, go_sem, c1, c2]) rfl ⟨by rw [HE.out], HBF.out⟩
section
/-- v owns the texts l in a row from block B on. -/
def OwnT (w : World) (B : Nat) (v : Value) (l : List ByteArray) : Prop := OwnV w B 9 v (l.map Value.string)
theorem OwnT.nil (w : World) (B : Nat) : OwnT w B (.slice none 0 0) [] := OwnV.nil w B _
theorem OwnT.block {w : World} {B : Nat} {v : Value} {l : List ByteArray} (h : OwnT w B v l) {k : Nat} (hk : v.ownBlock = some k) : B ≤ k ∧ k < w.heap.size := OwnV.block h hk
theorem OwnT.form {w : World} {B : Nat} {v : Value} {l : List ByteArray} (h : OwnT w B v l) : ∃ p c, v = .slice p l.length c ∧ Strs w p l ∧ l.length ≤ c ∧ (p = none → c = 0) ∧ ∀ b o, p = some ⟨b, o, none⟩ → B ≤ b ∧ b < w.heap.size := by
  have hcell := OwnV.cells h
  have h0 : w.ownsRow B 9 1 v (l.map Value.string).length (l.map Value.string) := h
  rcases h0.2 with ⟨rfl, hz⟩ | ⟨g, cap, cur, rfl, hb, hg, hnc, hcm, hcs, htake⟩
  · have e : l = [] := by simpa using hz
    subst e
    exact ⟨none, 0, rfl, Or.inl rfl, Nat.le_refl _, fun _ => rfl, fun _ _ h => by cases h⟩
  · rw [List.length_map] at hnc ⊢
    have hlt : g < w.heap.size := (Array.getElem?_eq_some_iff.1 hg).1
    refine ⟨some ⟨g, 0, none⟩, cap, rfl, Or.inr ⟨g, 0, rfl, hlt, fun i hi => ?_⟩, hnc, fun h => (by cases h), fun b o h => ?_⟩
    · rcases hcell with ⟨h1, _⟩ | ⟨g', cap', hv, _, _, hc⟩
      · cases h1
      · have hgg : g = g' := by
          have := congrArg Value.ownBlock hv
          simpa [Value.ownBlock] using this
        subst hgg
        rw [Nat.zero_add, hc i (.string (txt l i)) (by rw [List.getElem?_map, List.getElem?_eq_getElem hi, txt_getElem l i hi]; rfl)]
    · obtain ⟨rfl, rfl⟩ : g = b ∧ 0 = o := by simpa using h
      exact ⟨hb, hlt⟩
theorem OwnT.base {w : World} {B B' : Nat} {v : Value} {l : List ByteArray} (h : OwnT w B v l) (hb : B' ≤ B) : OwnT w B' v l := by
  obtain ⟨h1, h2⟩ := h
  refine ⟨h1, ?_⟩
  rcases h2 with h2 | ⟨g, cap, cur, hv, hbg, hrest⟩
  · exact Or.inl h2
  · exact Or.inr ⟨g, cap, cur, hv, Nat.le_trans hb hbg, hrest⟩
theorem OwnT.kept {w w' : World} {B : Nat} {v : Value} {l : List ByteArray} (h : OwnT w B v l) (hb : Below w.heap.size w w') : OwnT w' B v l :=
  OwnV.kept (row := none) h ⟨hb.os, hb.tape, hb.output, hb.size, fun k hk _ => hb.block k hk⟩ (by cases v.ownBlock <;> simp)
section
variable {w : World}
theorem wpList_append_strs {ops : Array Oper} {rest : List Oper} {o : Oper} {a : Act} {Q : Exit → Act → World → Prop} (hgd : o.guard = none) (s x : Operand)
    (ho : o.op = .call { callee := .builtin .append, args := #[s, x], argTypes := #[22, 22] })
    (B : Nat) (v : Value) (l : List ByteArray) (hs : a.eval s = v) (hown : OwnT w B v l) (q : Option Addr) (r : List ByteArray) (c : Nat) (hx : a.eval x = .slice q r.length c) (hq : Strs w q r) (hc0 : q = none → r = [] ∧ c = 0) (hl : l.length + r.length ≤ 8796093022208) (hbase : B ≤ w.heap.size)
    (h : ∀ v' w', OwnT w' B v' (l ++ r) → Below B w w' → wpList Tryz.prog ops Q rest (a.put o.dst v') w') : wpList Tryz.prog ops Q (o :: rest) a w := by
  obtain ⟨i0, hi0, hz0, hz1, hzb⟩ := info_parts (P := Tryz.prog) (e := 9) (z := .string ⟨#[]⟩) (size := 1) (bytes := 16) (by kernel_rfl)
  have hfin : ∀ v' w', w'.ownsRow B 9 1 v' ((l.map Value.string).length + r.length) (l.map Value.string ++ r.map Value.string) → w.grownBy w' v.ownBlock → wpList Tryz.prog ops Q rest (a.put o.dst v') w' := fun v' w' h1 h2 => by
    refine h v' w' ?_ ((Below.refl _ _).grown h2 hbase (fun k hk => (hown.block hk).1))
    unfold OwnT OwnV
    have e : (l.map Value.string ++ r.map Value.string).length = (l.map Value.string).length + r.length := by simp
    rw [List.map_append, e]
    exact h1
  cases q with
  | none =>
    obtain ⟨hr, hc⟩ := hc0 rfl
    subst hr hc
    refine wpList_append_own_none hgd s x _ ho B 9 i0 1 Tryz.underlying22 hi0 v (l.map Value.string).length (l.map Value.string) hs hown hx ?_
    have := h v w (by rw [List.append_nil]; exact hown) (Below.refl _ _)
    exact this
  | some ad =>
    refine wpList_append_own w hgd s x _ ho B 9 i0 (.string ⟨#[]⟩) 1 16 Tryz.underlying22 hi0 hz0 hz1 hzb rfl (by decide) v (l.map Value.string).length (l.map Value.string) hs hown ad r.length c (r.map Value.string) hx (by simp) ?_ ?_ (by rw [List.length_map]; unfold maxLen; omega) (by rw [List.length_map]; omega) hbase (fun v' w' h1 h2 _ => hfin v' w' h1 h2)
    · intro j u hj
      rw [List.getElem?_map] at hj
      obtain ⟨y, hy1, hy2⟩ := Option.map_eq_some_iff.1 hj
      have hjl : j < r.length := (List.getElem?_eq_some_iff.1 hy1).1
      rcases hq with h0 | ⟨b, o', hp, _, hcell⟩
      · rw [h0] at hjl; exact absurd hjl (Nat.not_lt_zero _)
      · obtain rfl : ad = ⟨b, o', none⟩ := by simpa using hp
        rw [Addr.add_lit, hcell j hjl, txt_getElem r j hjl, ← hy2, (List.getElem?_eq_some_iff.1 hy1).2]
    · intro u hu
      obtain ⟨y, _, rfl⟩ := List.mem_map.1 hu
      rfl
/-- One text more, out of a row of one. -/
theorem wpList_append_str {ops : Array Oper} {rest : List Oper} {o : Oper} {a : Act} {Q : Exit → Act → World → Prop} (hgd : o.guard = none) (s x : Operand)
    (ho : o.op = .call { callee := .builtin .append, args := #[s, x], argTypes := #[22, 22] })
    (B : Nat) (v : Value) (l : List ByteArray) (hs : a.eval s = v) (hown : OwnT w B v l) (ad : Addr) (t : ByteArray) (c : Nat) (hx : a.eval x = .slice (some ad) 1 c) (hq : w.cell? ad = some (.string t)) (hl : l.length + 1 ≤ 1000000) (hbase : B ≤ w.heap.size)
    (h : ∀ v' w', OwnT w' B v' (l ++ [t]) → Below B w w' → wpList Tryz.prog ops Q rest (a.put o.dst v') w') : wpList Tryz.prog ops Q (o :: rest) a w := by
  obtain ⟨i0, hi0, hz0, hz1, hzb⟩ := info_parts (P := Tryz.prog) (e := 9) (z := .string ⟨#[]⟩) (size := 1) (bytes := 16) (by kernel_rfl)
  refine wpList_append_val hgd s x _ ho B 9 i0 (.string ⟨#[]⟩) 16 Tryz.underlying22 hi0 hz0 rfl hz1 hzb (by decide) v (l.map Value.string) hs hown ad c (.string t) rfl hx hq (by rw [List.length_map]; exact hl) hbase fun v' w' h1 h2 _ => h v' w' ?_ ((Below.refl _ _).grown h2 hbase (fun k hk => (hown.block hk).1))
  unfold OwnT
  rw [List.map_append]
  exact h1
end
end
theorem strs_from {w : World} {p : Option Addr} {l : List ByteArray} {c k : Nat} (h : Strs w p l) (hk : k ≤ l.length) (hc : l.length ≤ c) (hn : p = none → l = [] ∧ c = 0) :
    Strs w (if c = k then p else p.map (·.add k)) (l.drop k) ∧ ((if c = k then p else p.map (·.add k)) = none → l.drop k = [] ∧ c - k = 0) := by
  by_cases e : c = k
  · rw [if_pos e]
    have h0 : l.drop k = [] := List.drop_eq_nil_of_le (by omega)
    exact ⟨Or.inl h0, fun _ => ⟨h0, by omega⟩⟩
  · rw [if_neg e]
    cases p with
    | none =>
      obtain ⟨h1, h2⟩ := hn rfl
      rw [h1] at hk
      simp at hk
      omega
    | some a =>
      refine ⟨?_, fun h0 => by cases h0⟩
      rcases h with h | ⟨b, o, hp, hlt, hcell⟩
      · exact Or.inl (by rw [h, List.drop_nil])
      · obtain rfl : a = ⟨b, o, none⟩ := by simpa using hp
        refine Or.inr ⟨b, o + k, by simp [Addr.add_lit], hlt, fun i hi => ?_⟩
        rw [List.length_drop] at hi
        rw [Nat.add_assoc, hcell (k + i) (by omega)]
        congr 2
        unfold txt
        rw [List.getD_eq_getElem?_getD, List.getD_eq_getElem?_getD, List.getElem?_drop]
theorem run_strs_from (p : Option Addr) (l : List ByteArray) (c k : Nat) (hk : k ≤ l.length) (W : World) : Sem.run Tryz.prog (Instr.slice 22 (.slice p l.length c) (some (.int .i64 (k : Int))) none none) W = .ok (.slice (if c = k then p else p.map (·.add k)) (l.drop k).length (c - k)) W := by
  have hsz : (sizeOf (Tryz.prog.elem 22)).run Tryz.prog W = .ok 1 W := by kernel_rfl
  have hel : Tryz.prog.elem 22 = 9 := by kernel_rfl
  have hun : Tryz.prog.underlying 22 = some (.slice (Tryz.prog.elem 22)) := by rw [hel]; exact Tryz.underlying22
  rw [run_slice_l W 22 p l.length c hun .i64 (k : Int) (by omega) (by omega), hsz]
  simp [Result.andThen, sliced]
theorem run_strs_to (p : Option Addr) (l : List ByteArray) (c k : Nat) (hk : k ≤ l.length) (hc : l.length ≤ c) (W : World) : Sem.run Tryz.prog (Instr.slice 22 (.slice p l.length c) none (some (.int .i64 (k : Int))) none) W = .ok (.slice p (l.take k).length c) W := by
  have hsz : (sizeOf (Tryz.prog.elem 22)).run Tryz.prog W = .ok 1 W := by kernel_rfl
  have hel : Tryz.prog.elem 22 = 9 := by kernel_rfl
  have hun : Tryz.prog.underlying 22 = some (.slice (Tryz.prog.elem 22)) := by rw [hel]; exact Tryz.underlying22
  have hl : (l.take k).length = k := by rw [List.length_take]; omega
  rw [run_slice_h W 22 p l.length c hun .i64 (k : Int) (by omega) (by omega), hsz, hl]
  simp [Result.andThen, sliced, Addr.add]
structure E3 (w : World) (ad : Nat → Addr) : Prop where
  c1 : w.cell? ⟨1, 0, none⟩ = some (.iface 165 (.pointer (some (ad 1))))
  c3 : w.cell? ⟨4, 0, none⟩ = some (.iface 165 (.pointer (some (ad 3))))
  c5 : w.cell? ⟨6, 0, none⟩ = some (.iface 165 (.pointer (some (ad 5))))
theorem E3.below {w w' : World} {ad : Nat → Addr} (h : E3 w ad) (hb : Below w.heap.size w w') : E3 w' ad := ⟨(hb.cell (lt_of_cellE h.c1)).trans h.c1, (hb.cell (lt_of_cellE h.c3)).trans h.c3, (hb.cell (lt_of_cellE h.c5)).trans h.c5⟩
theorem errIs_fault {w w' : World} {ad : Nat → Addr} {t : TypeId} (i : Nat) (hi : i < 12) (at_ : Int) (hw : w' = w.alloc (.cells #[.int .i64 at_, .iface 165 (.pointer (some (ad i)))] t)) : ErrIs w' ad (.iface 89 (.pointer (some ⟨w.heap.size, 0, none⟩))) ((i + 1 : Nat) : Int) at_ := by
  subst hw
  refine Or.inr (Or.inr ⟨i, w.heap.size, hi, rfl, rfl, ?_, ?_⟩)
  · rw [World.cell?_alloc_at _ _ _ _ rfl]; rfl
  · rw [World.cell?_alloc_at _ _ _ _ rfl]; rfl
set_option maxRecDepth 10000 in
set_option maxHeartbeats 1000000 in
theorem check3_bound (ad : Nat → Addr) (p : Option Addr) (l : List ByteArray) (c : Nat) (w : World) (hl : l.length ≤ 1000) (hE : E3 w ad) (h : l.length < 1 ∨ 16 < l.length) :
    Calls Tryz.prog 26 #[.slice p l.length c] w fun e w' => (∃ ev, e = .returned ev ∧ ErrIs w' ad ev 2 (-1)) ∧ Below w.heap.size w w' := by
  have q1 := hE.c1
  have HI : Hid (∀ W, ErrIs W ad (.iface 165 (.pointer (some (ad 1)))) 2 (-1)) := fun W => ErrIs.sent 1 (by decide)
  clear hE
  rcases h with h | h
  · have d1 : decide ((l.length : Int) < 1) = true := decide_eq_true (by omega)
    go_enter Tryz.func26, Tryz.ntmps26
    go_wp2
    go_ret
    exact ⟨⟨_, rfl, HI.out _⟩, Below.refl _ _⟩
  · have d1 : decide ((l.length : Int) < 1) = false := decide_eq_false (by omega)
    have d2 := decide_eq_true (by omega)
    go_enter Tryz.func26, Tryz.ntmps26
    go_wp2
    go_ret
    exact ⟨⟨_, rfl, HI.out _⟩, Below.refl _ _⟩
set_option maxRecDepth 10000 in
set_option maxHeartbeats 4000000 in
theorem check3_scan (ad : Nat → Addr) (p : Option Addr) (l : List ByteArray) (c : Nat) (w : World) (h1 : ¬ l.length < 1) (h2 : ¬ 16 < l.length) (hc : l.length ≤ c) (hs : Strs w p l) (hE : E3 w ad) :
    Calls Tryz.prog 26 #[.slice p l.length c] w fun e w' => (∃ ev, e = .returned ev ∧ ErrIs w' ad ev (scanF l 0 l.length).1 (scanF l 0 l.length).2) ∧ Below w.heap.size w w' := by
  have HS : Hid (Strs w p l) := hs
  have HE : Hid _ := hE
  have g1 := decide_eq_false (by omega)
  have g2 := decide_eq_false (by omega)
  obtain ⟨b, o, rfl⟩ : ∃ b o, p = some ⟨b, o, none⟩ := by
    rcases hs with h0 | ⟨b, o, hp, _⟩
    · rw [h0] at h1; exact absurd (by decide) h1
    · exact ⟨b, o, hp⟩
  clear hs hE
  obtain ⟨R, hR⟩ : ∃ R, R = scanF l 0 l.length := ⟨_, rfl⟩
  rw [← hR]
  have HR : Hid _ := hR
  clear hR
  go_enter Tryz.func26, Tryz.ntmps26
  go_wp2
  go_loopw [16] (fun x wq => ∃ i : Nat, i ≤ l.length ∧ x = .int .i64 i ∧ scanF l i (l.length - i) = R ∧ Below w.heap.size w wq) (fun x _ => l.length - (intOf x).toNat)
  case atStart => exact ⟨0, Nat.zero_le _, rfl, HR.out.symm, Below.refl _ _⟩
  case round =>
    obtain ⟨i, hi, rfl, hsc, hbq⟩ := hrel
    obtain ⟨w1, rfl⟩ : ∃ w1, w1 = wr := ⟨_, rfl⟩
    have HSC : Hid _ := hsc
    have HBW : Hid _ := hbq
    have HS1 : Hid (Strs w1 (some ⟨b, o, none⟩) l) := HS.out.below hbq
    have HE1 : Hid (E3 w1 ad) := HE.out.below hbq
    clear hsc hbq HR HS HE
    by_cases hil : i < l.length
    · have q3 : w1.cell? ⟨b, o + i, none⟩ = some (.string (txt l i)) := by
        rcases HS1.out with h0 | ⟨b', o', hp, _, hcell⟩
        · rw [h0] at hil; exact absurd hil (Nat.not_lt_zero _)
        · obtain ⟨rfl, rfl⟩ : b = b' ∧ o = o' := by simpa using hp
          exact hcell i hil
      have HNAME : Hid (∀ W, Calls Tryz.prog 50 #[.string (txt l i)] W fun e w' => e = .returned (.bool (isN (txt l i))) ∧ Below W.heap.size W w') := fun W => pname_any _ W
      have HSUC : Hid (scanF l i (l.length - i) = if faultAt l i = 0 then scanF l (i + 1) (l.length - (i + 1)) else (((faultAt l i : Nat) : Int), (i : Int))) := by
        show _ = _
        rw [show l.length - i = (l.length - (i + 1)) + 1 by omega]
        rfl
      by_cases hN : isN (txt l i) = true
      · have HCON : Hid (∀ W, Strs W (some ⟨b, o, none⟩) (l.take i) → Calls Tryz.prog 51 #[.slice (some ⟨b, o, none⟩) (l.take i).length c, .string (txt l i)] W fun e w' => e = .returned (.bool (inL (l.take i) (txt l i))) ∧ w' = W) := fun W hW => scont_any _ _ c _ W (by rw [List.length_take]; omega) hW
        rw [show (l.take i).length = i by rw [List.length_take]; omega] at HCON
        rw [hN] at HNAME
        by_cases hM : txt l i ∈ l.take i
        · have HA : Hid (R = (6, (i : Int))) := by
            show _ = _
            rw [← HSC.out, HSUC.out, faultAt_twice hN hM, if_neg (by decide)]
            rfl
          rw [inL_iff.2 hM] at HCON
          clear HSC HSUC hN hM
          generalize txt l i = t at *
          go_wp2_with fail
          refine (HNAME.out _).mono ?_
          rintro e w2 ⟨rfl, hb2⟩
          have HB2 : Hid (Below w.heap.size w w2) := HBW.out.trans (hb2.mono HBW.out.size)
          have HS2 : Hid (Strs w2 (some ⟨b, o, none⟩) (l.take i)) := (HS1.out.below hb2).take i
          have hE2 : E3 w2 ad := HE1.out.below hb2
          have q4 := hE2.c5
          clear hE2 hb2 HNAME q3
          go_wp2_with fail
          refine (HCON.out _ HS2.out).mono ?_
          rintro e w3 ⟨rfl, hw3⟩
          rw [hw3]
          clear hw3 w3 HCON HS2
          go_wp2
          go_ret
          exact ⟨⟨_, rfl, by rw [HA.out]; exact errIs_fault (w := w2) 5 (by decide) (i : Int) rfl⟩, HB2.out.alloc HB2.out.size _⟩
        · have HA : Hid (scanF l (i + 1) (l.length - (i + 1)) = R) := by
            show _ = _
            rw [← HSC.out, HSUC.out, faultAt_fine hN hM, if_pos rfl]
          rw [Bool.eq_false_iff.2 (fun h => hM (inL_iff.1 h))] at HCON
          clear HSC HSUC hN hM
          generalize txt l i = t at *
          go_wp2_with fail
          refine (HNAME.out _).mono ?_
          rintro e w2 ⟨rfl, hb2⟩
          have HB2 : Hid (Below w.heap.size w w2) := HBW.out.trans (hb2.mono HBW.out.size)
          have HS2 : Hid (Strs w2 (some ⟨b, o, none⟩) (l.take i)) := (HS1.out.below hb2).take i
          clear hb2 HNAME q3
          go_wp2_with fail
          refine (HCON.out _ HS2.out).mono ?_
          rintro e w3 ⟨rfl, hw3⟩
          rw [hw3]
          clear hw3 w3 HCON HS2
          go_wp2
          go_roundw
          case rel => exact ⟨i + 1, by omega, by go_num, HA.out, HB2.out⟩
          case measure => simp [intOf]; omega
      · have hN' : isN (txt l i) = false := Bool.eq_false_iff.2 hN
        have HA : Hid (R = (4, (i : Int))) := by
          show _ = _
          rw [← HSC.out, HSUC.out, faultAt_name hN', if_neg (by decide)]
          rfl
        rw [hN'] at HNAME
        clear HSC HSUC hN hN'
        generalize txt l i = t at *
        go_wp2_with fail
        refine (HNAME.out _).mono ?_
        rintro e w2 ⟨rfl, hb2⟩
        have HB2 : Hid (Below w.heap.size w w2) := HBW.out.trans (hb2.mono HBW.out.size)
        have hE2 : E3 w2 ad := HE1.out.below hb2
        have q4 := hE2.c3
        clear hE2 hb2 HNAME q3
        go_wp2
        go_ret
        exact ⟨⟨_, rfl, by rw [HA.out]; exact errIs_fault (w := w2) 3 (by decide) (i : Int) rfl⟩, HB2.out.alloc HB2.out.size _⟩
    · have hie : i = l.length := by omega
      subst hie
      have HA : Hid (R = (0, -1)) := by
        show _ = _
        rw [← HSC.out, Nat.sub_self]
        rfl
      clear HSC
      go_wp2
      go_ret
      exact ⟨⟨_, rfl, by rw [HA.out]; exact ErrIs.nil _ _⟩, HBW.out⟩
theorem check3_any (ad : Nat → Addr) (p : Option Addr) (l : List ByteArray) (c : Nat) (w : World) (hl : l.length ≤ 1000) (hc : l.length ≤ c) (hs : Strs w p l) (hE : E3 w ad) :
    Calls Tryz.prog 26 #[.slice p l.length c] w fun e w' => (∃ ev, e = .returned ev ∧ ErrIs w' ad ev (nodesF l).1 (nodesF l).2) ∧ Below w.heap.size w w' := by
  by_cases h : l.length < 1 ∨ 16 < l.length
  · rw [nodesF_bound h]
    exact check3_bound ad p l c w hl hE h
  · rw [nodesF_scan (by omega) (by omega)]
    exact check3_scan ad p l c w (by omega) (by omega) hc hs hE
/-- Numbers that an int can be. -/
def VerI64 (v : Ver) : Prop := (-9223372036854775808 ≤ v.n ∧ v.n ≤ 9223372036854775807) ∧ (-9223372036854775808 ≤ v.who ∧ v.who ≤ 9223372036854775807) ∧ (-9223372036854775808 ≤ v.size ∧ v.size ≤ 9223372036854775807) ∧ -9223372036854775808 ≤ v.at_ ∧ v.at_ ≤ 9223372036854775807
/-- An object that is long, and can be. -/
def bigV (v : Ver) : Bool := decide (200 < v.size ∧ v.size ≤ 1000)
/-- How much is told. -/
def tolN (L : List Ver) : Nat := (L.map fun v => 1 + v.text.size / 20).sum
theorem tolN_append (a b : List Ver) : tolN (a ++ b) = tolN a + tolN b := by simp [tolN]
theorem tolN_succ {L : List Ver} {j : Nat} (hj : j < L.length) : tolN (L.take (j + 1)) = tolN (L.take j) + (1 + (verAt L j).text.size / 20) := by
  rw [List.take_add_one, verAt_get hj, tolN_append]
  simp [tolN]
theorem tolN_take (L : List Ver) (j : Nat) : tolN (L.take j) ≤ tolN L := by
  have h : tolN L = tolN (L.take j) + tolN (L.drop j) := by rw [← tolN_append, List.take_append_drop]
  omega
theorem tolN_len (L : List Ver) : L.length ≤ tolN L := by
  induction L with
  | nil => exact Nat.le_refl _
  | cons v L ih =>
    have e : tolN (v :: L) = 1 + v.text.size / 20 + tolN L := by simp [tolN]
    rw [e, List.length_cons]
    omega
theorem big_succ {L : List Ver} {j : Nat} (hj : j < L.length) : (L.take (j + 1)).any bigV = ((L.take j).any bigV || bigV (verAt L j)) := by
  rw [List.take_add_one, verAt_get hj, List.any_append]
  simp
theorem big_of_at {L : List Ver} {j : Nat} (hj : j < L.length) (h : bigV (verAt L j) = true) : L.any bigV = true := by
  refine List.any_eq_true.2 ⟨_, ?_, h⟩
  have := verAt_get hj
  exact List.mem_of_getElem? this
/-- Too much to be tried. -/
def muchT (LL : List (List Ver)) : Bool := LL.flatten.any bigV || decide (200 < LL.length + tolN LL.flatten)
theorem tolN_flat {LL : List (List Ver)} {i : Nat} (hi : i < LL.length) : tolN (LL.take i).flatten + tolN (LL.getD i []) ≤ tolN LL.flatten := by
  rw [← tolN_append, ← flatten_take_succ hi]
  have h : LL.flatten = (LL.take (i + 1)).flatten ++ (LL.drop (i + 1)).flatten := by rw [← List.flatten_append, List.take_append_drop]
  rw [h, tolN_append]
  omega
theorem big_flat {LL : List (List Ver)} {i : Nat} (hi : i < LL.length) (h : (LL.getD i []).any bigV = true) : LL.flatten.any bigV = true := by
  obtain ⟨v, hv, hb⟩ := List.any_eq_true.1 h
  refine List.any_eq_true.2 ⟨v, List.mem_flatten.2 ⟨LL.getD i [], ?_, hv⟩, hb⟩
  rw [List.getD_eq_getElem?_getD, List.getElem?_eq_getElem hi]
  exact List.getElem_mem hi
section
open Go.Extern.Stop Go.Stop Go.Extern
theorem noIsF (v : Value) (xT : TypeId) (w : World) : (Instr.typeAssert (.iface 89 v) xT 152 true).run Tryz.prog w = .ok (.tuple #[.nilIface, .bool false]) w := run_typeAssert_lacksB Tryz.underlying152 (by kernel_rfl) (by kernel_rfl) v xT w
theorem hasUnwrapF (v : Value) (xT : TypeId) (w : World) : (Instr.typeAssert (.iface 89 v) xT 148 true).run Tryz.prog w = .ok (.tuple #[.iface 89 v, .bool true]) w := run_typeAssert_hasB Tryz.underlying148 (by kernel_rfl) v xT w
theorem methodUnwrapF (v : Value) (w : World) : (Go.method 297 89 v "Unwrap").run Tryz.prog w = .ok (128, v) w := by kernel_rfl
set_option maxRecDepth 10000 in
set_option maxHeartbeats 1000000 in
/-- errors.Is(f, x), f a fault that wraps x. -/
theorem is_wrap_same (pb : Nat) (b : Addr) (w : World) (h1 : w.cell? ⟨pb, 1, none⟩ = some (.iface 165 (.pointer (some b)))) :
    Calls Tryz.prog 44 #[.iface 89 (.pointer (some ⟨pb, 0, none⟩)), .iface 165 (.pointer (some b))] w fun e w' => e = .returned (.bool true) ∧ w' = w := by
  obtain ⟨i, hi, hcmp⟩ := Option.map_eq_some_iff.1 isComp
  obtain ⟨j, hj, hjs⟩ := Option.map_eq_some_iff.1 isSize
  have h8 := @run_callFunc_extern Tryz.prog 75 _ Extern.ReflectliteType.typeOf Tryz.func75 (by kernel_rfl) (by kernel_rfl) (by kernel_rfl) (by kernel_rfl)
  have h32 := @run_callFunc_extern Tryz.prog 135 _ cmpEntry Tryz.func135 (by kernel_rfl) (by kernel_rfl) (by kernel_rfl) (by kernel_rfl)
  have tT := isTypeOf
  have cT := isComparable
  have mR := isMethodComparable
  have nW := noIsF
  have uW := hasUnwrapF
  have mU := methodUnwrapF
  have heq := run_eql_iface_ptr_same (P := Tryz.prog) w b Tryz.underlying32 Tryz.underlying165 hi hcmp hj
  have hty := run_eql_iface_types (P := Tryz.prog) 89 165 (.pointer (some ⟨pb, 0, none⟩)) (.pointer (some b)) Tryz.underlying32 (by decide) w
  go_enter Tryz.func44, Tryz.ntmps44
  go_wp2
  refine wp_loop_rounds 2 ?_
  rw [rounds_succ]
  go_wp2
  rw [rounds_succ]
  go_wp2
  go_ret
  exact ⟨rfl, rfl⟩
set_option maxRecDepth 10000 in
set_option maxHeartbeats 1000000 in
/-- errors.Is(f, y), f a fault that wraps x, another one. -/
theorem is_wrap_other (pb : Nat) (a b : Addr) (ca cb : Array Value) (ta tb : TypeId) (w : World) (h1 : w.cell? ⟨pb, 1, none⟩ = some (.iface 165 (.pointer (some a)))) (hne : a ≠ b) (ha : w.heap[a.block]? = some (.cells ca ta (0, 0))) (hb : w.heap[b.block]? = some (.cells cb tb (0, 0))) :
    Calls Tryz.prog 44 #[.iface 89 (.pointer (some ⟨pb, 0, none⟩)), .iface 165 (.pointer (some b))] w fun e w' => e = .returned (.bool false) ∧ w' = w := by
  obtain ⟨i, hi, hcmp⟩ := Option.map_eq_some_iff.1 isComp
  obtain ⟨j, hj, hjs⟩ := Option.map_eq_some_iff.1 isSize
  have h8 := @run_callFunc_extern Tryz.prog 75 _ Extern.ReflectliteType.typeOf Tryz.func75 (by kernel_rfl) (by kernel_rfl) (by kernel_rfl) (by kernel_rfl)
  have h32 := @run_callFunc_extern Tryz.prog 135 _ cmpEntry Tryz.func135 (by kernel_rfl) (by kernel_rfl) (by kernel_rfl) (by kernel_rfl)
  have tT := isTypeOf
  have cT := isComparable
  have mR := isMethodComparable
  have nE := noIsE
  have uE := noUnwrapE
  have vE := noUnwrapsE
  have nW := noIsF
  have uW := hasUnwrapF
  have mU := methodUnwrapF
  have heq := run_eql_iface_ptr_other (P := Tryz.prog) w Tryz.underlying32 Tryz.underlying165 hi hcmp hj (by rw [hjs]; decide) hne ha hb
  have hty := run_eql_iface_types (P := Tryz.prog) 89 165 (.pointer (some ⟨pb, 0, none⟩)) (.pointer (some b)) Tryz.underlying32 (by decide) w
  go_enter Tryz.func44, Tryz.ntmps44
  go_wp2
  refine wp_loop_rounds 2 ?_
  rw [rounds_succ]
  go_wp2
  rw [rounds_succ]
  go_wp2
  go_ret
  exact ⟨rfl, rfl⟩
theorem typeOfF (v : Value) (w : World) : (ReflectliteType.typeOf #[.iface 89 v]).run Tryz.prog w = .ok (.iface 141 (.agg #[.pointer (some ⟨14, 89, none⟩)])) w := by kernel_rfl
theorem assignableF (w : World) : (ReflectliteType.relation "AssignableTo" ReflectliteType.assignableTo #[.agg #[.pointer (some ⟨14, 89, none⟩)], .iface 141 (.agg #[.pointer (some ⟨14, 89, none⟩)])]).run Tryz.prog w = .ok (.bool true) w := by kernel_rfl
theorem valueOfF (e : Addr) (w : World) : (ReflectliteValue.unpack (.iface 89 (.pointer (some e)))).run Tryz.prog w
    = .ok (.agg #[.pointer (some ⟨14, 89, none⟩), .pointer (some ⟨w.heap.size, 0, none⟩), .int .u64 150]) (w.alloc (.cells #[.pointer (some e)] 89)) := by kernel_rfl
theorem elemOfFF (w : World) : (Rtype.elem? 91).run Tryz.prog w = .ok (some 89) w := by kernel_rfl
theorem mkF (p : Addr) (w : World) : (ReflectliteValue.mk 89 p ReflectliteValue.flagAddr).run Tryz.prog w = .ok (.agg #[.pointer (some ⟨14, 89, none⟩), .pointer (some p), .int .u64 406]) w := by kernel_rfl
theorem elemVFF (a p : Addr) (W : World) (ha : W.cell? a = some (.pointer (some p))) :
    (ReflectliteValue.method (ReflectliteValue.valueError "reflectlite.Value.Elem" 0) ReflectliteValue.elem #[.agg #[.pointer (some ⟨14, 91, none⟩), .pointer (some a), .int .u64 150]]).run Tryz.prog W
      = .ok (.agg #[.pointer (some ⟨14, 89, none⟩), .pointer (some p), .int .u64 406]) W := by
  rw [rlm]
  simp only [Sem.run_bind, partsFF, Result.andThen]
  simp [ReflectliteValue.elem, loadVar, isAgg, underlying, Tryz.underlying91, ha, Result.andThen, elemOfFF, mkF]
theorem partsFa (a : Addr) (w : World) : (ReflectliteValue.parts (.agg #[.pointer (some ⟨14, 89, none⟩), .pointer (some a), .int .u64 406])).run Tryz.prog w = .ok (some (89, a, 406)) w := by kernel_rfl
theorem partsF (a : Addr) (w : World) : (ReflectliteValue.parts (.agg #[.pointer (some ⟨14, 89, none⟩), .pointer (some a), .int .u64 150])).run Tryz.prog w = .ok (some (89, a, 150)) w := by kernel_rfl
theorem directF (w : World) : (Rtype.directlyAssignable 89 89).run Tryz.prog w = .ok true w := by kernel_rfl
theorem setF (ta b e : Addr) (old : Value) (W : World) (hb : W.cell? b = some (.pointer (some e))) (ht : W.cell? ta = some old) (hf : W.frozen? ta = false) :
    (ReflectliteValue.set #[.agg #[.pointer (some ⟨14, 89, none⟩), .pointer (some ta), .int .u64 406], .agg #[.pointer (some ⟨14, 89, none⟩), .pointer (some b), .int .u64 150]]).run Tryz.prog W
      = .ok (.tuple #[]) (W.setCell ta (.pointer (some e))) := by
  delta ReflectliteValue.set ReflectliteValue.set.match_3
  dsimp only [Array.casesOn, Array.rec]
  rw [dif_pos (show (#[_, _] : Array Value).size = 2 from rfl)]
  simp only [Array.getLit, List.getElem_toArray, List.getElem_cons_zero, List.getElem_cons_succ, Sem.run_bind, partsFa, partsF, Result.andThen]
  simp [ReflectliteValue.flagAddr, loadVar, isAgg, underlying, Tryz.underlying89, hb, Result.andThen, directF, storeVar, Value.cells, storeCells, Addr.add]
  rw [run_store Tryz.prog W ta _ _ (by rfl)]
  simp [ht, hf]
set_option maxRecDepth 10000 in
set_option maxHeartbeats 4000000 in
/-- errors.As of an api.Fault, the target a **api.Fault: true; the target is set. -/
theorem as_hit (e t : Addr) (old : Value) (w : World) (hg : w.cell? ⟨12, 0, none⟩ = some (.iface 141 (.agg #[.pointer (some ⟨14, 32, none⟩)]))) (ht0 : w.cell? t = some old) (hf0 : w.frozen? t = false) :
    Calls Tryz.prog 43 #[.iface 89 (.pointer (some e)), .iface 91 (.pointer (some t))] w fun ev w' => ev = .returned (.bool true) ∧ ∃ w1, Below w.heap.size w w1 ∧ w' = w1.setCell t (.pointer (some e)) := by
  have h6 := @run_callFunc_extern Tryz.prog 71 _ (fun args => ReflectliteValue.unpack (args.getD 0 (.tuple #[]))) Tryz.func71 (by kernel_rfl) (by kernel_rfl) (by kernel_rfl) (by kernel_rfl)
  have h7 := @run_callFunc_extern Tryz.prog 72 _ (ReflectliteValue.methodAny (ReflectliteValue.valueError "reflectlite.Value.Type" 0) (fun t _ _ _ => ReflectliteType.toType t)) Tryz.func72 (by kernel_rfl) (by kernel_rfl) (by kernel_rfl) (by kernel_rfl)
  have h8 := @run_callFunc_extern Tryz.prog 73 _ (ReflectliteValue.method (ReflectliteValue.valueError "reflectlite.Value.IsNil" 0) ReflectliteValue.isNil) Tryz.func73 (by kernel_rfl) (by kernel_rfl) (by kernel_rfl) (by kernel_rfl)
  have h27 := @run_callFunc_extern Tryz.prog 124 _ (ReflectliteType.abiMethod fun t => do pure (.int .u8 (← Rtype.kind t))) Tryz.func124 (by kernel_rfl) (by kernel_rfl) (by kernel_rfl) (by kernel_rfl)
  have h37 := @run_callFunc_extern Tryz.prog 136 _ (ReflectliteType.method ReflectliteType.elem) Tryz.func136 (by kernel_rfl) (by kernel_rfl) (by kernel_rfl) (by kernel_rfl)
  have h38 := @run_callFunc_extern Tryz.prog 137 _ (ReflectliteType.relation "Implements" ReflectliteType.implements_) Tryz.func137 (by kernel_rfl) (by kernel_rfl) (by kernel_rfl) (by kernel_rfl)
  have h10 := @run_callFunc_extern Tryz.prog 75 _ ReflectliteType.typeOf Tryz.func75 (by kernel_rfl) (by kernel_rfl) (by kernel_rfl) (by kernel_rfl)
  have h35 := @run_callFunc_extern Tryz.prog 134 _ (ReflectliteType.relation "AssignableTo" ReflectliteType.assignableTo) Tryz.func134 (by kernel_rfl) (by kernel_rfl) (by kernel_rfl) (by kernel_rfl)
  have h11 := @run_callFunc_extern Tryz.prog 93 _ (ReflectliteValue.method (ReflectliteValue.valueError "reflectlite.Value.Elem" 0) ReflectliteValue.elem) Tryz.func93 (by kernel_rfl) (by kernel_rfl) (by kernel_rfl) (by kernel_rfl)
  have h12 := @run_callFunc_extern Tryz.prog 94 _ ReflectliteValue.set Tryz.func94 (by kernel_rfl) (by kernel_rfl) (by kernel_rfl) (by kernel_rfl)
  have tO := typeOfF
  have mA := methodAssignableTo
  have aF := assignableF
  have vF := valueOfF
  have f6 := valueOfFF
  have f7 := typeFF
  have mK := methodKind
  have mE := methodElem
  have mI := methodImplements
  have kFF := kindFF
  have kF := kindF
  have eFF := elemFF
  have iF := implementsF
  have n8 := isNilFF ⟨w.heap.size, 0, none⟩ t ((w.alloc (.cells #[.pointer (some t)] 91)).alloc (.cells #[.pointer (some ⟨14, 91, none⟩), .pointer (some ⟨w.heap.size, 0, none⟩), .int .u64 150] 118)) (by simp)
  have hlt := lt_of_cell hg
  have hg2 : ((w.alloc (.cells #[.pointer (some t)] 91)).alloc (.cells #[.pointer (some ⟨14, 91, none⟩), .pointer (some ⟨w.heap.size, 0, none⟩), .int .u64 150] 118)).cell? ⟨12, 0, none⟩ = some (.iface 141 (.agg #[.pointer (some ⟨14, 32, none⟩)])) := by
    rw [World.cell?_alloc_lt _ _ ⟨12, 0, none⟩ (by simp; omega), World.cell?_alloc_lt _ _ ⟨12, 0, none⟩ hlt]; exact hg
  have htl : t.block < w.heap.size := by
    rcases Nat.lt_or_ge t.block w.heap.size with h | h
    · exact h
    · simp [World.cell?, Array.getElem?_eq_none h] at ht0
  have el := elemVFF ⟨w.heap.size, 0, none⟩ t (((w.alloc (.cells #[.pointer (some t)] 91)).alloc (.cells #[.pointer (some ⟨14, 91, none⟩), .pointer (some ⟨w.heap.size, 0, none⟩), .int .u64 150] 118)).alloc (.cells #[.pointer (some ⟨14, 91, none⟩), .pointer (some ⟨w.heap.size, 0, none⟩), .int .u64 150] 118)) (by rw [World.cell?_alloc_lt _ _ ⟨w.heap.size, 0, none⟩ (by simp; omega)]; simp)
  have st := setF t ⟨w.heap.size + 1 + 1 + 1, 0, none⟩ e old ((((w.alloc (.cells #[.pointer (some t)] 91)).alloc (.cells #[.pointer (some ⟨14, 91, none⟩), .pointer (some ⟨w.heap.size, 0, none⟩), .int .u64 150] 118)).alloc (.cells #[.pointer (some ⟨14, 91, none⟩), .pointer (some ⟨w.heap.size, 0, none⟩), .int .u64 150] 118)).alloc (.cells #[.pointer (some e)] 89))
    (by rw [World.cell?_alloc_at _ _ _ _ (by simp)]; rfl)
    (by rw [World.cell?_alloc_lt _ _ t (by simp; omega), World.cell?_alloc_lt _ _ t (by simp; omega), World.cell?_alloc_lt _ _ t (by simp; omega), World.cell?_alloc_lt _ _ t htl]; exact ht0)
    (by rw [World.frozen?_alloc_old _ _ t (by simp; omega), World.frozen?_alloc_old _ _ t (by simp; omega), World.frozen?_alloc_old _ _ t (by simp; omega), World.frozen?_alloc_old _ _ t (Nat.ne_of_lt htl)]; exact hf0)
  go_enter Tryz.func43, Tryz.ntmps43
  go_wp2
  refine wp_loop_rounds 1 ?_
  rw [rounds_succ]
  go_wp2
  go_ret
  exact ⟨rfl, _, ((((Below.refl _ _).alloc (Nat.le_refl _) _).alloc (by simp) _).alloc (by simp; omega) _).alloc (by simp; omega) _, rfl⟩
end
section
open Go.Extern.Stop Go.Stop Go.Extern
set_option maxRecDepth 10000 in
set_option maxHeartbeats 4000000 in
theorem code_faultAt (ad : Nat → Addr) (i fb : Nat) (at_ : Int) (hi : i < 12) (w : World) (hS : Sent w ad) (h0 : w.cell? ⟨fb, 0, none⟩ = some (.int .i64 at_)) (h1 : w.cell? ⟨fb, 1, none⟩ = some (.iface 165 (.pointer (some (ad i))))) :
    Calls Tryz.prog 21 #[.iface 89 (.pointer (some ⟨fb, 0, none⟩))] w fun e w' => e = .returned (.tuple #[.int .i64 ((i + 1 : Nat) : Int), .int .i64 at_]) ∧ Below w.heap.size w w' := by
  have hfb : fb < w.heap.size := lt_of_cell h0
  have hb1 : Below w.heap.size w (w.alloc (.cells #[.pointer none] 89)) := (Below.refl _ _).alloc (Nat.le_refl _) _
  have hS1 := hS.below hb1
  have ht0 : (w.alloc (.cells #[.pointer none] 89)).cell? ⟨w.heap.size, 0, none⟩ = some (.pointer none) := by simp
  have hf0 : (w.alloc (.cells #[.pointer none] 89)).frozen? ⟨w.heap.size, 0, none⟩ = false := by simp
  go_enter Tryz.func21, Tryz.ntmps21
  go_wp2_with fail
  refine (as_hit ⟨fb, 0, none⟩ ⟨w.heap.size, 0, none⟩ (.pointer none) _ hS1.typ ht0 hf0).mono ?_
  rintro e w2 ⟨rfl, wx, hbx, hw2⟩
  have hb2 : Below w.heap.size w w2 := by rw [hw2]; exact (hb1.trans (hbx.mono (by simp))).setCell (Nat.le_refl _) _
  have hS2 := hS.below hb2
  have ht2 : w2.cell? ⟨w.heap.size, 0, none⟩ = some (.pointer (some ⟨fb, 0, none⟩)) := by
    rw [hw2]
    exact World.cell?_setCell_same wx ⟨w.heap.size, 0, none⟩ _ ((hbx.cell (p := ⟨w.heap.size, 0, none⟩) (by simp)).trans ht0)
  have h02 : w2.cell? ⟨fb, 0, none⟩ = some (.int .i64 at_) := (hb2.cell (p := ⟨fb, 0, none⟩) hfb).trans h0
  have h12 : w2.cell? ⟨fb, 1, none⟩ = some (.iface 165 (.pointer (some (ad i)))) := (hb2.cell (p := ⟨fb, 1, none⟩) hfb).trans h1
  have hfb2 : fb < w2.heap.size := Nat.lt_of_lt_of_le hfb hb2.size
  have HB2 : Hid (Below w.heap.size w w2) := hb2
  clear hw2 hbx wx hb2 hS1 hb1 ht0 hf0 h0 h1 hS hfb
  have hS2' := hS2
  obtain ⟨c0, c1, c2, c3, c4, c5, c6, c7, c8, c9, c10, c11, _, _, _⟩ := hS2'
  go_wp2
  clear c0 c1 c2 c3 c4 c5 c6 c7 c8 c9 c10 c11 ht2 h02
  have hb3 : Below w2.heap.size w2 (w2.alloc (.cells (sentRow ad) 32)) := (Below.refl _ _).alloc (Nat.le_refl _) _
  have hS3 := hS2.below hb3
  have hrow := sentRow_cell ad w2
  have h13 := (hb3.cell (p := ⟨fb, 1, none⟩) hfb2).trans h12
  have hb4 : Hid (Below w.heap.size w (w2.alloc (.cells (sentRow ad) 32))) := HB2.out.trans (hb3.mono HB2.out.size)
  unfold sentRow at hS3 hrow hb4 h13
  generalize w2.alloc (.cells _ 32) = w3 at hS3 hrow hb4 h13 ⊢
  clear hb3 hS2 HB2 h12 hfb2
  go_loop [3, 30] (fun y x => y = .int .i64 at_ ∧ ∃ k : Nat, k ≤ i ∧ x = .int .i64 k) (fun _ x => 12 - (intOf x).toNat)
  case atStart => exact ⟨rfl, 0, by omega, rfl⟩
  case round =>
    obtain ⟨rfl, k, hk, rfl⟩ := hrel
    have hk12 : k < 12 := by omega
    have hc := hrow k hk12
    obtain ⟨ca, ta, hra⟩ := hS3.row i hi
    obtain ⟨cb, tb, hrb⟩ := hS3.row k hk12
    have H13 : Hid (w3.cell? ⟨fb, 1, none⟩ = some (.iface 165 (.pointer (some (ad i))))) := h13
    clear hrow h13
    by_cases hki : k = i
    · subst hki
      go_wp2_with (go_at_call 44; refine (is_wrap_same fb (ad k) _ H13.out).mono ?_; rintro e w' ⟨rfl, rfl⟩)
      go_ret2
      exact ⟨by simp, hb4.out⟩
    · have hne := hS3.ne i k hi hk12 (fun h => hki h.symm)
      have HN : Hid (ad i ≠ ad k) := hne
      have HA : Hid (w3.heap[(ad i).block]? = some (.cells ca ta (0, 0))) := hra
      have HB : Hid (w3.heap[(ad k).block]? = some (.cells cb tb (0, 0))) := hrb
      clear hne hra hrb
      go_wp2_with (go_at_call 44; refine (is_wrap_other fb (ad i) (ad k) ca cb ta tb _ H13.out HN.out HA.out HB.out).mono ?_; rintro e w' ⟨rfl, rfl⟩)
      go_round
      case rel => exact ⟨rfl, k + 1, by omega, by go_num⟩
      case measure => simp [intOf]; omega
theorem code_is (ad : Nat → Addr) (ev : Value) (c at_ : Int) (w : World) (hS : Sent w ad) (he : ErrIs w ad ev c at_) :
    Calls Tryz.prog 21 #[ev] w fun e w' => e = .returned (.tuple #[.int .i64 c, .int .i64 at_]) ∧ Below w.heap.size w w' := by
  rcases he with ⟨rfl, rfl, rfl⟩ | ⟨i, hi, rfl, rfl, rfl⟩ | ⟨i, fb, hi, rfl, rfl, h0, h1⟩
  · refine (code_nil w).mono ?_
    rintro e w' ⟨rfl, rfl⟩
    exact ⟨rfl, Below.refl _ _⟩
  · exact code_sent ad i hi w hS
  · exact code_faultAt ad i fb at_ hi w hS h0 h1
theorem Sent.errs {w : World} {ad : Nat → Addr} (h : Sent w ad) : Errs w ad := ⟨h.c1, h.c3, h.c5, h.c7⟩
end
section
open Go.Extern.Stop Go.Stop Go.Extern
set_option maxRecDepth 10000 in
set_option maxHeartbeats 2000000 in
theorem faulted2_any (ad : Nat → Addr) (ev : Value) (c at_ : Int) (w : World) (hS : Sent w ad) (he : ErrIs w ad ev c at_) :
    Calls Tryz.prog 12 #[ev, .agg #[.int .i64 c, .int .i64 at_]] w fun e w' => e = .returned (.bool true) ∧ Below w.heap.size w w' := by
  obtain ⟨w0, hw0⟩ : ∃ w0, w0 = w.alloc (.cells #[.int .i64 c, .int .i64 at_] 38) := ⟨_, rfl⟩
  have hb0 : Below w.heap.size w w0 := by rw [hw0]; exact (Below.refl _ _).alloc (Nat.le_refl _) _
  have q1 : w0.cell? ⟨w.heap.size, 0, none⟩ = some (.int .i64 c) := by rw [hw0, World.cell?_alloc_at _ _ _ _ rfl]; rfl
  have q2 : w0.cell? ⟨w.heap.size, 1, none⟩ = some (.int .i64 at_) := by rw [hw0, World.cell?_alloc_at _ _ _ _ rfl]; rfl
  have HC := code_is ad ev c at_ w0 (hS.below hb0) (he.below hb0)
  have HW0 : Hid (w0 = w.alloc (.cells #[.int .i64 c, .int .i64 at_] 38)) := hw0
  have HB0 : Hid (Below w.heap.size w w0) := hb0
  have HQ : Hid (w0.cell? ⟨w.heap.size, 0, none⟩ = some (.int .i64 c) ∧ w0.cell? ⟨w.heap.size, 1, none⟩ = some (.int .i64 at_) ∧ w.heap.size < w0.heap.size) := ⟨q1, q2, by rw [hw0]; simp⟩
  have HZ : Hid (c = 0 ∨ c ≠ 0) := by
    show c = 0 ∨ c ≠ 0
    omega
  clear hw0 hb0 q1 q2 hS he
  go_enter Tryz.func12, Tryz.ntmps12
  go_wp2_with fail
  rw [← HW0.out]
  refine HC.mono ?_
  rintro e w1 ⟨rfl, hb1⟩
  obtain ⟨q1, q2, hlt⟩ := HQ.out
  have r1 := (hb1.cell (p := ⟨w.heap.size, 0, none⟩) hlt).trans q1
  have r2 := (hb1.cell (p := ⟨w.heap.size, 1, none⟩) hlt).trans q2
  have HB1 : Hid (Below w.heap.size w w1) := HB0.out.trans (hb1.mono HB0.out.size)
  clear HC hb1 q1 q2 HQ HB0 hlt HW0
  rcases HZ.out with hz | hz
  · subst hz
    go_wp2
    go_ret
    exact ⟨rfl, HB1.out⟩
  · have hz2 : (c == 0) = false := by
      rw [beq_eq_false_iff_ne]
      exact hz
    go_wp2
    go_ret
    exact ⟨rfl, HB1.out⟩
end
set_option maxRecDepth 10000 in
set_option maxHeartbeats 8000000 in
theorem muchTold_any (p : Option Addr) (LL : List (List Ver)) (cap : Nat) (w : World) (hb : LL.length + tolN LL.flatten ≤ 4611686018427387904) (hL : Vss w p LL) :
    Calls Tryz.prog 6 #[.slice p LL.length cap] w fun e w' => e = .returned (.bool (muchT LL)) ∧ Below w.heap.size w w' := by
  have HL : Hid (Vss w p LL) := hL
  have HTF : Hid (∀ i, i < LL.length → tolN (LL.take i).flatten + tolN (LL.getD i []) ≤ tolN LL.flatten) := fun i hi => tolN_flat hi
  have HBF : Hid (∀ i, i < LL.length → (LL.getD i []).any bigV = true → muchT LL = true) := fun i hi h => by unfold muchT; rw [big_flat hi h]; rfl
  have HFS : Hid (∀ i, i < LL.length → tolN (LL.take (i + 1)).flatten = tolN (LL.take i).flatten + tolN (LL.getD i [])) := fun i hi => by rw [flatten_take_succ hi, tolN_append]
  have HAS : Hid (∀ i, i < LL.length → (LL.take (i + 1)).flatten.any bigV = ((LL.take i).flatten.any bigV || (LL.getD i []).any bigV)) := fun i hi => by rw [flatten_take_succ hi, List.any_append]
  have HF0 : Hid (tolN (LL.take 0).flatten = 0 ∧ (LL.take 0).flatten.any bigV = false) := by exact ⟨rfl, rfl⟩
  have HFN : Hid ((LL.take LL.length).flatten.any bigV = false → muchT LL = decide (200 < LL.length + tolN (LL.take LL.length).flatten)) := fun h => by
    rw [List.take_length] at h ⊢
    unfold muchT
    rw [h, Bool.false_or]
  generalize muchT LL = R at *
  generalize tolN LL.flatten = TT at *
  clear hL
  go_enter Tryz.func6, Tryz.ntmps6
  go_wp2
  go_loopw [3, 4] (fun nv x wr => ∃ i : Nat, i ≤ LL.length ∧ x = .int .i64 i ∧ nv = .int .i64 ((LL.length + tolN (LL.take i).flatten : Nat) : Int) ∧ (LL.take i).flatten.any bigV = false ∧ Below w.heap.size w wr) (fun _ x _ => LL.length - (intOf x).toNat)
  case atStart => exact ⟨0, Nat.zero_le _, rfl, by rw [HF0.out.1]; rfl, HF0.out.2, Below.refl _ _⟩
  case round =>
    obtain ⟨i, hi, rfl, rfl, hany, hB⟩ := hrel
    obtain ⟨w1, rfl⟩ : ∃ w1, w1 = wr := ⟨_, rfl⟩
    have HB : Hid (Below w.heap.size w w1) := hB
    have HANY : Hid ((LL.take i).flatten.any bigV = false) := hany
    clear hB hany
    by_cases hil : i < LL.length
    · have htf := HTF.out i hil
      have HBI : Hid ((LL.getD i []).any bigV = true → R = true) := HBF.out i hil
      have HNX : Hid ((LL.getD i []).any bigV = false → ∀ W, Below w.heap.size w W → ∃ j : Nat, j ≤ LL.length ∧ (.int .i64 ((i : Int) + 1) : Value) = .int .i64 j ∧ (.int .i64 ((LL.length + tolN (LL.take i).flatten + tolN (LL.getD i []) : Nat) : Int) : Value) = .int .i64 ((LL.length + tolN (LL.take j).flatten : Nat) : Int) ∧ (LL.take j).flatten.any bigV = false ∧ Below w.heap.size w W) := fun h W hW => ⟨i + 1, hil, by rw [Int.natCast_add]; rfl, by rw [HFS.out i hil, Nat.add_assoc], by rw [HAS.out i hil, HANY.out, h]; rfl, hW⟩
      rcases HL.out with h0 | ⟨b, o, rfl, hblt, hc⟩
      · rw [h0] at hil; simp at hil
      obtain ⟨q, c, hcell, hrec, hlc, hqn⟩ := hc i hil
      have HR : Hid (Rec verE w q (LL.getD i [])) := hrec
      have HCE : Hid (∀ W, Below w.heap.size w W → W.cell? ⟨b, o + i, none⟩ = some (.slice q (LL.getD i []).length c)) := fun W hW => (hW.cell (p := ⟨b, o + i, none⟩) hblt).trans hcell
      clear hc hrec hqn hcell HTF HBF HFS HAS HF0 HFN HANY
      generalize LL.getD i [] = row at *
      generalize tolN (LL.take i).flatten = ni at *
      have hrl := tolN_len row
      have HTS : Hid (∀ j, j < row.length → tolN (row.take (j + 1)) = tolN (row.take j) + (1 + (verAt row j).text.size / 20)) := fun j hj => tolN_succ hj
      have HTT : Hid (∀ j, tolN (row.take j) ≤ tolN row) := fun j => tolN_take row j
      have HGS : Hid (∀ j, j < row.length → (row.take (j + 1)).any bigV = ((row.take j).any bigV || bigV (verAt row j))) := fun j hj => big_succ hj
      have HGA : Hid (∀ j, j < row.length → bigV (verAt row j) = true → R = true) := fun j hj h => HBI.out (big_of_at hj h)
      have HR0 : Hid (tolN (row.take 0) = 0 ∧ (row.take 0).any bigV = false) := by exact ⟨rfl, rfl⟩
      have HRN : Hid (row.take row.length = row) := List.take_length
      go_wp2
      go_loopw [3, 5] (fun nv x wr => ∃ j : Nat, j ≤ row.length ∧ x = .int .i64 j ∧ nv = .int .i64 ((LL.length + ni + tolN (row.take j) : Nat) : Int) ∧ (row.take j).any bigV = false ∧ Below w.heap.size w wr) (fun _ x _ => row.length - (intOf x).toNat)
      case atStart => exact ⟨0, Nat.zero_le _, rfl, by rw [HR0.out.1]; rfl, HR0.out.2, HB.out⟩
      case round =>
        obtain ⟨j, hj, rfl, rfl, hany, hB⟩ := hrel
        obtain ⟨w2, rfl⟩ : ∃ w2, w2 = wr := ⟨_, rfl⟩
        have HB2 : Hid (Below w.heap.size w w2) := hB
        have HANY : Hid ((row.take j).any bigV = false) := hany
        have hce := HCE.out w2 hB
        have HR2 : Hid (Rec verE w2 q row) := HR.out.below hB
        have hz2 : w.heap.size ≤ w2.heap.size := hB.size
        clear hB hany
        by_cases hjl : j < row.length
        · obtain ⟨b', o', hpp, hblt', d0, d1, d2, d3, d4⟩ := ver_cells HR2.out hjl
          subst hpp
          have hts := HTS.out j hjl
          have htt := HTT.out (j + 1)
          have hgs := HGS.out j hjl
          have hga := HGA.out j hjl
          rw [hts] at htt
          have HTSH : Hid (tolN (row.take (j + 1)) = tolN (row.take j) + (1 + (verAt row j).text.size / 20)) := hts
          have HGSH : Hid (bigV (verAt row j) = false → (row.take (j + 1)).any bigV = false) := fun h => by rw [hgs, HANY.out, h]; rfl
          have HGAH : Hid (bigV (verAt row j) = true → R = true) := hga
          have HBG : Hid (bigV (verAt row j) = decide (200 < (verAt row j).size ∧ (verAt row j).size ≤ 1000)) := by show _ = _; rfl
          clear hts hgs hga
          generalize bigV (verAt row j) = bg at *
          generalize verAt row j = x at *
          generalize tolN (row.take j) = nj at *
          generalize tolN row = nr at *
          obtain ⟨xn, xw, xs, xa, xt⟩ := x
          dsimp only at d0 d1 d2 d3 d4 htt
          have HTSX : Hid (tolN (row.take (j + 1)) = nj + (1 + xt.size / 20)) := HTSH.out
          have HBGX : Hid (bg = decide (200 < xs ∧ xs ≤ 1000)) := HBG.out
          have HBN : Hid (Below w.heap.size w (w2.alloc (.cells #[.int .i64 xn, .int .i64 xw, .int .i64 xs, .int .i64 xa, .string xt] 51))) := HB2.out.alloc hz2 _
          clear HTSH HBG HANY HR2
          by_cases h1 : 200 < xs
          · by_cases h2 : xs ≤ 1000
            · have HT : Hid (R = true) := HGAH.out (by rw [HBGX.out]; exact decide_eq_true ⟨h1, h2⟩)
              go_wp2
              go_ret
              exact ⟨by rw [HT.out]; rfl, HBN.out⟩
            · have HBF2 : Hid ((row.take (j + 1)).any bigV = false) := HGSH.out (by rw [HBGX.out]; exact decide_eq_false (fun h => h2 h.2))
              go_wp2
              go_roundw
              case rel => exact ⟨j + 1, by omega, by go_num, by rw [HTSX.out]; go_num, HBF2.out, HBN.out⟩
              case measure => simp [intOf]; omega
          · have HBF2 : Hid ((row.take (j + 1)).any bigV = false) := HGSH.out (by rw [HBGX.out]; exact decide_eq_false (fun h => h1 h.1))
            go_wp2
            go_roundw
            case rel => exact ⟨j + 1, by omega, by go_num, by rw [HTSX.out]; go_num, HBF2.out, HBN.out⟩
            case measure => simp [intOf]; omega
        · have hje : j = row.length := by omega
          have HE : Hid (row.take j = row) := by show _ = _; rw [hje]; exact HRN.out
          rw [HE.out]
          have HA2 : Hid (row.any bigV = false) := by have := HANY.out; rw [HE.out] at this; exact this
          have htt := HTT.out j
          rw [HE.out] at htt
          clear HANY HE
          go_wp2
          go_roundw
          case rel => exact HNX.out HA2.out _ HB2.out
          case measure => simp [intOf]; omega
    · have hie : i = LL.length := by omega
      have HE : Hid (R = decide (200 < LL.length + tolN (LL.take i).flatten)) := by
        show _ = _
        rw [hie]
        exact HFN.out (by rw [← hie]; exact HANY.out)
      clear HANY HTF HBF HFS HAS HF0 HFN
      generalize tolN (LL.take i).flatten = ni at *
      by_cases h200 : 200 < LL.length + ni
      · have HT : Hid (R = true) := by show _ = _; rw [HE.out]; exact decide_eq_true h200
        have hx : (200 : Int) < (LL.length : Int) + (ni : Int) := by omega
        clear h200 HE
        subst hie
        go_wp2
        go_ret
        exact ⟨by rw [HT.out]; first | rfl | simp [hx], HB.out⟩
      · have HT : Hid (R = false) := by show _ = _; rw [HE.out]; exact decide_eq_false h200
        have hx : ¬ (200 : Int) < (LL.length : Int) + (ni : Int) := by omega
        clear h200 HE
        subst hie
        go_wp2
        go_ret
        exact ⟨by rw [HT.out]; first | rfl | simp [hx], HB.out⟩
end Go.Proofs.YtpjeibicopgedaaGreatDoor
