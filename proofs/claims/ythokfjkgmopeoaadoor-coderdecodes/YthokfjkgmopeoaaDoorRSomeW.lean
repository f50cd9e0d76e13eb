/- The document's own Some: the first k unlike shards, or an error's number. -/
import Derived.Test.YthokfjkgmopeoaaDoorFirstW
import Derived.Test.YthokfjkgmopeoaaDoorG3
import Derived.Deep.QuietTactic
import Derived.BigQuiet
namespace Go.Proofs.YthokfjkgmopeoaaDoor
open Go.RowKit
set_option maxRecDepth 10000 in
theorem rsome_bound (n k size : Int) (v : Value) (w : World) (h : ¬ (1 ≤ k ∧ k ≤ n ∧ n ≤ 12 ∧ 0 ≤ size ∧ size ≤ 1000)) :
    Calls Tryd.prog 33 #[.int .i64 n, .int .i64 k, .int .i64 size, v] w fun e w' => e = .returned (.tuple #[.slice none 0 0, .int .i64 2]) ∧ w' = w := by
  have HH : Hid (¬ (1 ≤ k ∧ k ≤ n ∧ n ≤ 12 ∧ 0 ≤ size ∧ size ≤ 1000)) := h
  by_cases h1 : 1 ≤ k ∧ k ≤ n ∧ n ≤ 12
  · obtain ⟨k1, k2, k3⟩ := h1
    by_cases h2 : size < 0
    · clear h
      go_enter Tryd.func33, Tryd.ntmps33
      go_wp2_with fail
      refine (isSpread_yes n k _ k1 k2 k3).mono ?_
      rintro e w' ⟨rfl, hww⟩
      rw [hww]
      clear hww w'
      go_wp2
      go_ret2
      exact ⟨rfl, rfl⟩
    · have h3 : size > 1000 := Classical.byContradiction fun h3 => HH.out ⟨k1, k2, k3, by omega, by omega⟩
      clear h
      go_enter Tryd.func33, Tryd.ntmps33
      go_wp2_with fail
      refine (isSpread_yes n k _ k1 k2 k3).mono ?_
      rintro e w' ⟨rfl, hww⟩
      rw [hww]
      clear hww w'
      go_wp2
      go_ret2
      exact ⟨rfl, rfl⟩
  · have HN : Hid (¬ (1 ≤ k ∧ k ≤ n ∧ n ≤ 12)) := h1
    clear h h1
    go_enter Tryd.func33, Tryd.ntmps33
    go_wp2_with fail
    refine (isSpread_no n k _ HN.out).mono ?_
    rintro e w' ⟨rfl, hww⟩
    rw [hww]
    clear hww w'
    go_wp2
    go_ret2
    exact ⟨rfl, rfl⟩
/-- What Some answers, within the bounds. -/
def Somed (w' : World) (n k wd : Nat) (l : List (Int × ByteArray)) (v : Value) (c : Int) : Prop :=
  (c = 3 ∧ v = .slice none 0 0 ∧ l.any (badB (n : Int) wd) = true) ∨ (c = 8 ∧ v = .slice none 0 0 ∧ l.any (badB (n : Int) wd) = false ∧ (pickN k l l.length).length < k) ∨
    (c = 0 ∧ l.any (badB (n : Int) wd) = false ∧ (pickN k l l.length).length = k ∧ ∃ p c', v = .slice p k c' ∧ Shs w' p (pickN k l l.length))
theorem any_take_succ {l : List (Int × ByteArray)} {P : Int × ByteArray → Bool} {j : Nat} (h : j < l.length) : (l.take (j + 1)).any P = ((l.take j).any P || P (shAt l j)) := by
  rw [List.take_succ_eq_append_getElem h, List.any_append]
  have : shAt l j = l[j] := by
    unfold shAt
    rw [List.getD_eq_getElem?_getD, List.getElem?_eq_getElem h]
    rfl
  rw [this]
  simp
set_option maxRecDepth 10000 in
set_option maxHeartbeats 8000000 in
theorem rsome_any (n k size : Nat) (p : Option Addr) (l : List (Int × ByteArray)) (cap : Nat) (w : World) (hk1 : 1 ≤ k) (hkn : k ≤ n) (hn : n ≤ 12) (hsz : size ≤ 1000) (hl : l.length ≤ 1000) (ht : ∀ i, (shAt l i).2.size ≤ 100000) (hs : Shs w p l) :
    Calls Tryd.prog 33 #[.int .i64 (n : Int), .int .i64 (k : Int), .int .i64 (size : Int), .slice p l.length cap] w fun e w' => (∃ v c, e = .returned (.tuple #[v, .int .i64 c]) ∧ Somed w' n k (wideN k size) l v c) ∧ Below w.heap.size w w' := by
  obtain ⟨i1, hi1, hy0, hy1, hy2⟩ := info_parts shinfo
  have hwd := wideN_le (size := size) hk1
  have HWD : Hid (∀ W, Calls Tryd.prog 24 #[.int .i64 (k : Int), .int .i64 (size : Int)] W fun e w' => e = .returned (.int .i64 ((wideN k size : Nat) : Int)) ∧ w' = W) := fun W => rwide_any k size W hk1 (by omega) (by omega)
  have HS : Hid (Shs w p l) := hs
  clear hs
  generalize wideN k size = wd at *
  have g1 : decide ((size : Int) < 0) = false := decide_eq_false (by omega)
  have g2 : decide (1000 < (size : Int)) = false := decide_eq_false (by omega)
  go_enter Tryd.func33, Tryd.ntmps33
  go_wp2_with fail
  refine (isSpread_yes n k _ (by omega) (by omega) (by omega)).mono ?_
  rintro e w' ⟨rfl, hww⟩
  rw [hww]
  clear hww w'
  go_wp2
  go_loopw [11, 12] (fun v x wr => ∃ i : Nat, i ≤ l.length ∧ x = .int .i64 i ∧ wr.ownsRow w.heap.size 34 2 v (pickN k l i).length (shVals (pickN k l i)) ∧ (∀ j, j < i → badB (n : Int) wd (shAt l j) = false) ∧ Below w.heap.size w wr) (fun _ x _ => l.length - (intOf x).toNat)
  case atStart => exact ⟨0, by omega, rfl, World.ownsRow_nil _ _ _ _, fun j hj => absurd hj (Nat.not_lt_zero _), Below.refl _ _⟩
  case round =>
    obtain ⟨i, hi, rfl, hO, hG, hB⟩ := hrel
    obtain ⟨w3, rfl⟩ : ∃ w3, w3 = wr := ⟨_, rfl⟩
    obtain ⟨pv, cv, rfl, hsh⟩ := shs_of_own hO
    have HO : Hid (w3.ownsRow w.heap.size 34 2 (.slice pv (pickN k l i).length cv) (pickN k l i).length (shVals (pickN k l i))) := hO
    have HB : Hid (Below w.heap.size w w3) := hB
    have HSH : Hid (Shs w3 pv (pickN k l i)) := hsh
    have HG : Hid (∀ j, j < i → badB (n : Int) wd (shAt l j) = false) := hG
    have hz3 : w.heap.size ≤ w3.heap.size := hB.size
    have hle := pickN_le k l i
    clear hO hB hsh hG
    by_cases hil : i < l.length
    · rcases (HS.out.below HB.out) with h0 | ⟨b1, o1, rfl, hb1, hc1⟩
      · rw [h0] at hil; simp at hil
      obtain ⟨q1, q2⟩ := hc1 i hil
      have hti := ht i
      have HNX : Hid (∀ y t, shAt l i = (y, t) → True) := fun _ _ _ => trivial
      clear hc1 HNX
      by_cases hbad : badB (n : Int) wd (shAt l i) = true
      · have HANY : Hid (l.any (badB (n : Int) wd) = true) := any_of_at hil hbad
        have hcase : (shAt l i).1 < 0 ∨ 0 ≤ (shAt l i).1 ∧ n ≤ (shAt l i).1 ∨ 0 ≤ (shAt l i).1 ∧ (shAt l i).1 < n ∧ (shAt l i).2.size ≠ wd := by
          unfold badB at hbad
          simp only [Bool.or_eq_true, decide_eq_true_eq, Bool.not_eq_true', decide_eq_false_iff_not] at hbad
          omega
        clear hbad
        generalize (shAt l i).1 = x at *
        generalize (shAt l i).2 = t at *
        generalize pickN k l i = so at *
        rcases hcase with h1 | ⟨h0, h1⟩ | ⟨h0, h1, h2⟩
        · have hd : decide (x < 0) = true := decide_eq_true h1
          go_wp2
          go_quiet (fail)
          go_wp2
          go_ret2
          exact ⟨⟨_, 3, rfl, Or.inl ⟨rfl, rfl, HANY.out⟩⟩, below_drewN HB.out _⟩
        · have hd : decide (x < 0) = false := decide_eq_false (by omega)
          have hd2 : decide ((n : Int) ≤ x) = true := decide_eq_true h1
          go_wp2
          go_quiet (fail)
          go_wp2
          go_ret2
          exact ⟨⟨_, 3, rfl, Or.inl ⟨rfl, rfl, HANY.out⟩⟩, below_drewN HB.out _⟩
        · have hd : decide (x < 0) = false := decide_eq_false (by omega)
          have hd2 : decide ((n : Int) ≤ x) = false := decide_eq_false (by omega)
          have hd3 : ((t.size : Int) != (wd : Int)) = true := by rw [bne_iff_ne]; omega
          clear h2
          go_wp2
          go_quiet ((go_at_call 24; exact Calls.quiet_of_same (HWD.out _)))
          go_wp2
          go_ret2
          exact ⟨⟨_, 3, rfl, Or.inl ⟨rfl, rfl, HANY.out⟩⟩, below_drewN HB.out _⟩
      · have hbf : badB (n : Int) wd (shAt l i) = false := Bool.eq_false_iff.2 hbad
        have HBF : Hid (badB (n : Int) wd (shAt l i) = false) := hbf
        have hcase : 0 ≤ (shAt l i).1 ∧ (shAt l i).1 < n ∧ (shAt l i).2.size = wd := by
          unfold badB at hbf
          simp only [Bool.or_eq_false_iff, decide_eq_false_iff_not, Bool.not_eq_false', decide_eq_true_eq] at hbf
          omega
        obtain ⟨h0, h1, h2⟩ := hcase
        have hd : decide ((shAt l i).1 < 0) = false := decide_eq_false (by omega)
        have hd2 : decide ((n : Int) ≤ (shAt l i).1) = false := decide_eq_false (by omega)
        have hd3 : (((shAt l i).2.size : Int) != (wd : Int)) = false := by rw [h2]; simp
        have HPT : Hid ((pickN k l i).any (fun y => y.1 == (shAt l i).1) = true → pickN k l (i + 1) = pickN k l i) := fun h => pickN_twice h
        have HPF : Hid (¬ (pickN k l i).length < k → pickN k l (i + 1) = pickN k l i) := fun h => pickN_full h
        have HPY : Hid ((pickN k l i).length < k → (pickN k l i).any (fun y => y.1 == (shAt l i).1) = false → pickN k l (i + 1) = pickN k l i ++ [shAt l i]) := fun h1 h2 => pickN_yes h1 h2
        have HGN : Hid (∀ j, j < i + 1 → badB (n : Int) wd (shAt l j) = false) := fun j hj => by
          by_cases e : j = i
          · rw [e]; exact hbf
          · exact HG.out j (by omega)
        clear hbad hbf h2 HG HBF
        generalize hxt : shAt l i = xt at *
        clear hxt
        obtain ⟨x, t⟩ := xt
        dsimp only at q1 q2 hti h0 h1 hd hd2 hd3
        generalize pickN k l i = so at *
        go_wp2
        go_quiet ((go_at_call 24; exact Calls.quiet_of_same (HWD.out _)))
        have HB4 : Hid (Below w.heap.size w (w3.drewN nq)) := below_drewN HB.out _
        have HO4 : Hid ((w3.drewN nq).ownsRow w.heap.size 34 2 (.slice pv so.length cv) so.length (shVals so)) := World.ownsRow.kept HO.out (grownBy_drewN w3 nq none) (by cases hv : (Value.slice pv so.length cv).ownBlock <;> simp)
        have HSH4 : Hid (Shs (w3.drewN nq) pv so) := HSH.out.below (below_drewN (Below.refl _ _) _)
        have r1 : (w3.drewN nq).cell? ⟨b1, o1 + i * 2, none⟩ = some (.int .i64 x) := q1
        have r2 : (w3.drewN nq).cell? ⟨b1, o1 + i * 2 + 1, none⟩ = some (.string t) := q2
        have hb14 : b1 < (w3.drewN nq).heap.size := hb1
        have hz4 : w.heap.size ≤ (w3.drewN nq).heap.size := hz3
        clear q1 q2 HO HB HSH hb1 hz3 hd3
        generalize w3.drewN nq = w4 at *
        go_wp2
        go_loopw [13, 14] (fun b y wq => ∃ j : Nat, j ≤ so.length ∧ y = .int .i64 j ∧ b = .bool ((so.take j).any (fun y => y.1 == x)) ∧ Below w4.heap.size w4 wq) (fun _ y _ => so.length - (intOf y).toNat)
        case atStart => exact ⟨0, by omega, rfl, by simp, Below.refl _ _⟩
        case round =>
          obtain ⟨j, hj, rfl, rfl, hBq⟩ := hrel
          obtain ⟨w5, rfl⟩ : ∃ w5, w5 = wr := ⟨_, rfl⟩
          have HBq : Hid (Below w4.heap.size w4 w5) := hBq
          clear hBq
          have s1 : w5.cell? ⟨b1, o1 + i * 2, none⟩ = some (.int .i64 x) := (HBq.out.cell (p := ⟨b1, o1 + i * 2, none⟩) hb14).trans r1
          have s2 : w5.cell? ⟨b1, o1 + i * 2 + 1, none⟩ = some (.string t) := (HBq.out.cell (p := ⟨b1, o1 + i * 2 + 1, none⟩) hb14).trans r2
          by_cases hjl : j < so.length
          · rcases (HSH4.out.below HBq.out) with h9 | ⟨b2, o2, rfl, hb2, hc2⟩
            · rw [h9] at hjl; simp at hjl
            obtain ⟨u1, _⟩ := hc2 j hjl
            have HST : Hid ((so.take (j + 1)).any (fun y => y.1 == x) = ((so.take j).any (fun y => y.1 == x) || ((shAt so j).1 == x))) := any_take_succ hjl
            clear hc2
            generalize (so.take j).any (fun y => y.1 == x) = bb at *
            generalize (shAt so j).1 = y at *
            by_cases hyx : y = x
            · subst hyx
              go_wp2
              go_quiet (fail)
              go_wp2
              go_roundw
              case rel => exact ⟨j + 1, by omega, by go_num, by rw [HST.out]; simp, below_drewN HBq.out _⟩
              case measure => simp [intOf]; omega
            · have hyb : (y == x) = false := by simpa using hyx
              have HYB : Hid ((y == x) = false) := hyb
              clear hyx
              go_wp2
              go_quiet (fail)
              go_wp2
              go_roundw
              case rel => exact ⟨j + 1, by omega, by go_num, by rw [HST.out, HYB.out, Bool.or_false], below_drewN HBq.out _⟩
              case measure => simp [intOf]; omega
          · have hje : j = so.length := by omega
            have htk : so.take j = so := by rw [hje, List.take_length]
            rw [htk]
            clear htk
            have HB5 : Hid (Below w.heap.size w w5) := HB4.out.trans (HBq.out.mono hz4)
            have HO5 : Hid (w5.ownsRow w.heap.size 34 2 (.slice pv so.length cv) so.length (shVals so)) := World.ownsRow.kept HO4.out (below_grown HBq.out none) (by cases hv : (Value.slice pv so.length cv).ownBlock <;> simp)
            have hz5 : w.heap.size ≤ w5.heap.size := HB5.out.size
            by_cases hany : so.any (fun y => y.1 == x) = true
            · have HP := HPT.out hany
              have HPN : Hid (pickN k l (i + 1) = so) := HP
              rw [hany]
              clear hany HP hje
              go_wp2
              go_roundw
              case rel => exact ⟨i + 1, by omega, by go_num, by rw [HPN.out]; exact HO5.out, HGN.out, HB5.out⟩
              case measure => simp [intOf]; omega
            · have hany' : so.any (fun y => y.1 == x) = false := Bool.eq_false_iff.2 hany
              rw [hany']
              clear hany hje
              by_cases hlt : so.length < k
              · have HPN : Hid (pickN k l (i + 1) = so ++ [(x, t)]) := HPY.out hlt hany'
                clear hany' HPT HPF HPY
                go_wp2_with (first | (at_builtin; refine wpList_append_own _ rfl (.tmp 86) (.tmp 91) 23 rfl w.heap.size 34 i1 (.agg #[.int .i64 0, .string ⟨#[]⟩]) 2 24 Tryd.underlying23 hi1 hy0 hy1 hy2 rfl (by decide) (.slice pv so.length cv) so.length (shVals so) rfl (World.ownsRow.alloc HO5.out _) ⟨w5.heap.size, 0, none⟩ 1 1 [.int .i64 x, .string t] rfl rfl (fun j u hj => by match j, hj with | 0, hj => (simp at hj; subst hj; simp [Addr.add]) | 1, hj => (simp at hj; subst hj; simp [Addr.add])) (fun u hu => by simp at hu; rcases hu with rfl | rfl <;> rfl) (by unfold maxLen; omega) (by omega) (by simp; omega) ?_; intro v' w8 hown' hg' _))
                have hb8 : Below w.heap.size w w8 := (HB5.out.alloc (by omega) _).grown hg' (by simp; omega) (fun g hg => (World.ownsRow.lt HO5.out g hg).1)
                go_roundw
                case rel => exact ⟨i + 1, by omega, by go_num, by rw [HPN.out, shVals_snoc, List.length_append, List.length_singleton]; exact hown', HGN.out, hb8⟩
                case measure => simp [intOf]; omega
              · have HPN : Hid (pickN k l (i + 1) = so) := HPF.out hlt
                clear hany' HPT HPF HPY
                go_wp2
                go_roundw
                case rel => exact ⟨i + 1, by omega, by go_num, by rw [HPN.out]; exact HO5.out, HGN.out, HB5.out⟩
                case measure => simp [intOf]; omega
    · have hie : i = l.length := by omega
      subst hie
      have HNB : Hid (l.any (badB (n : Int) wd) = false) := none_of_at fun j hj => HG.out j hj
      by_cases hlt : (pickN k l l.length).length < k
      · go_wp2
        go_ret2
        exact ⟨⟨_, 8, rfl, Or.inr (Or.inl ⟨rfl, rfl, HNB.out, hlt⟩)⟩, HB.out⟩
      · have HEQ : Hid ((pickN k l l.length).length = k) := by show _ = _; omega
        go_wp2
        go_ret2
        exact ⟨⟨.slice pv (pickN k l l.length).length cv, 0, rfl, Or.inr (Or.inr ⟨rfl, HNB.out, HEQ.out, pv, cv, by rw [HEQ.out], HSH.out⟩)⟩, HB.out⟩
end Go.Proofs.YthokfjkgmopeoaaDoor
