/- Texts laid together. -/
import Derived.Test.YtpjeibicopgedaaGreatDoorQb6
import Derived.Shelf.Strings.OnBuilder
namespace Go.Proofs
open Go.Shelf
def Tryz.lays156_ren : Go.Shelf.Ren := ⟨fun | 156 => 39 | 165 => 68 | 166 => 69 | 169 => 70 | 240 => 91 | 241 => 92 | 276 => 104 | 277 => 105 | n => n, fun | 31 => 22 | 9 => 9 | 3 => 3 | 4 => 4 | 0 => 0 | 20 => 20 | 72 => 111 | 76 => 45 | 70 => 109 | 37 => 80 | 75 => 32 | 127 => 139 | 164 => 115 | 5 => 5 | 80 => 114 | n => n, fun | n => n⟩
theorem Tryz.lays156 : Go.Proofs.Lays.n156 Tryz.prog Tryz.lays156_ren := {
  mixed := by kernel_rfl
  f156 := Tryz.func39.trans (congrArg some (by kernel_rfl))
  f165 := Tryz.func68.trans (congrArg some (by kernel_rfl))
  f166 := Tryz.func69.trans (congrArg some (by kernel_rfl))
  f169 := Tryz.func70.trans (congrArg some (by kernel_rfl))
  f240 := Tryz.func91.trans (congrArg some (by kernel_rfl))
  f241 := Tryz.func92.trans (congrArg some (by kernel_rfl))
  f276 := Tryz.func104.trans (congrArg some (by kernel_rfl))
  f277 := Tryz.func105.trans (congrArg some (by kernel_rfl))
  t0 := Tryz.underlying0
  a0 := Tryz.isAgg0
  z0 := Tryz.sizeOf0
  v0 := Tryz.zeroValue0
  t3 := Tryz.underlying3
  a3 := Tryz.isAgg3
  z3 := Tryz.sizeOf3
  v3 := Tryz.zeroValue3
  t4 := Tryz.underlying4
  a4 := Tryz.isAgg4
  z4 := Tryz.sizeOf4
  v4 := Tryz.zeroValue4
  t9 := Tryz.underlying9
  a9 := Tryz.isAgg9
  z9 := Tryz.sizeOf9
  v9 := Tryz.zeroValue9
  t20 := Tryz.underlying20
  a20 := Tryz.isAgg20
  z20 := Tryz.sizeOf20
  v20 := Tryz.zeroValue20
  t31 := Tryz.underlying22
  a31 := Tryz.isAgg22
  z31 := Tryz.sizeOf22
  v31 := Tryz.zeroValue22
  t37 := Tryz.underlying80
  a37 := Tryz.isAgg80
  z37 := Tryz.sizeOf80
  v37 := Tryz.zeroValue80
  t70 := Tryz.underlying109
  a70 := Tryz.isAgg109
  z70 := Tryz.sizeOf109
  v70 := Tryz.zeroValue109
  t72 := Tryz.underlying111
  a72 := Tryz.isAgg111
  z72 := Tryz.sizeOf111
  v72 := Tryz.zeroValue111
  t75 := Tryz.underlying32
  a75 := Tryz.isAgg32
  z75 := Tryz.sizeOf32
  v75 := Tryz.zeroValue32
  t76 := Tryz.underlying45
  a76 := Tryz.isAgg45
  z76 := Tryz.sizeOf45
  v76 := Tryz.zeroValue45
  t127 := Tryz.underlying139
  a127 := Tryz.isAgg139
  z127 := Tryz.sizeOf139
  v127 := Tryz.zeroValue139
  t164 := Tryz.underlying115
  a164 := Tryz.isAgg115
  z164 := Tryz.sizeOf115
  v164 := Tryz.zeroValue115 }
theorem Tryz.Builder_Extra_156 : Builder.Extra Tryz.prog Tryz.lays156_ren := {
  sizeBuilder := by kernel_rfl
  liesBuilder := by kernel_rfl
  t5 := Tryz.underlying5
  a5 := Tryz.isAgg5
  z5 := Tryz.sizeOf5
  v5 := Tryz.zeroValue5
  infoByte := by kernel_rfl
  cellsByte := by kernel_rfl
  sizeByte := by kernel_rfl
  neB5 := by decide }
open Go.RowKit in
/-- strings.Join, however many elements. -/
theorem Tryz.strings_Join (bk o c : Nat) (xs : List ByteArray) (sep : ByteArray) (w : World) (hcells : ∀ (j : Nat) x, xs[j]? = some x → w.cell? ⟨bk, o + j, none⟩ = some (.string x)) (hbk : bk < w.heap.size) (hN : xs.length ≤ 140737488355328) (hcap : xs.length ≤ c) (hlen : (Lib.join (xs.map (·.data.toList)) sep.data.toList).length ≤ 140737488355328) :
    Calls Tryz.prog 39 #[.slice (some ⟨bk, o, none⟩) xs.length c, .string sep] w fun e w' => e = .returned (.string ⟨(Lib.join (xs.map (·.data.toList)) sep.data.toList).toArray⟩) ∧ Below w.heap.size w w' := Any.strings_Join Tryz.lays156 Tryz.Builder_Extra_156 bk o c xs sep w hcells hbk hN hcap hlen
end Go.Proofs
namespace Go.Proofs.YtpjeibicopgedaaGreatDoor
open Go.RowKit
set_option maxRecDepth 10000 in
theorem rsome_bound (n k size : Int) (v : Value) (w : World) (h : ¬ (1 ≤ k ∧ k ≤ n ∧ n ≤ 12 ∧ 0 ≤ size ∧ size ≤ 1000)) :
    Calls Tryz.prog 46 #[.int .i64 n, .int .i64 k, .int .i64 size, v] w fun e w' => e = .returned (.tuple #[.slice none 0 0, .int .i64 2]) ∧ w' = w := by
  have HH : Hid (¬ (1 ≤ k ∧ k ≤ n ∧ n ≤ 12 ∧ 0 ≤ size ∧ size ≤ 1000)) := h
  by_cases h1 : 1 ≤ k ∧ k ≤ n ∧ n ≤ 12
  · obtain ⟨k1, k2, k3⟩ := h1
    by_cases h2 : size < 0
    · clear h
      go_enter Tryz.func46, Tryz.ntmps46
      go_wp2_with fail
      refine (isSpread_yes n k _ k1 k2 k3).mono ?_
      rintro e w' ⟨rfl, hww⟩
      rw [hww]
      clear hww w'
      go_wp2
      go_ret2
      exact ⟨rfl, rfl⟩
    · have h3 : size > 1000 := Classical.byContradiction fun h3 => HH.out ⟨k1, k2, k3, by omega, by omega⟩
      clear h
      go_enter Tryz.func46, Tryz.ntmps46
      go_wp2_with fail
      refine (isSpread_yes n k _ k1 k2 k3).mono ?_
      rintro e w' ⟨rfl, hww⟩
      rw [hww]
      clear hww w'
      go_wp2
      go_ret2
      exact ⟨rfl, rfl⟩
  · have HN : Hid (¬ (1 ≤ k ∧ k ≤ n ∧ n ≤ 12)) := h1
    clear h h1
    go_enter Tryz.func46, Tryz.ntmps46
    go_wp2_with fail
    refine (isSpread_no n k _ HN.out).mono ?_
    rintro e w' ⟨rfl, hww⟩
    rw [hww]
    clear hww w'
    go_wp2
    go_ret2
    exact ⟨rfl, rfl⟩
/-- What Some answers, within the bounds. -/
def Somed (w' : World) (n k wd : Nat) (l : List (Int × ByteArray)) (v : Value) (c : Int) : Prop :=
  (c = 3 ∧ v = .slice none 0 0 ∧ l.any (badB (n : Int) wd) = true) ∨ (c = 8 ∧ v = .slice none 0 0 ∧ l.any (badB (n : Int) wd) = false ∧ (pickN k l l.length).length < k) ∨
    (c = 0 ∧ l.any (badB (n : Int) wd) = false ∧ (pickN k l l.length).length = k ∧ ∃ p c', v = .slice p k c' ∧ Shs w' p (pickN k l l.length))
theorem any_take_succ {l : List (Int × ByteArray)} {P : Int × ByteArray → Bool} {j : Nat} (h : j < l.length) : (l.take (j + 1)).any P = ((l.take j).any P || P (shAt l j)) := by
  rw [List.take_succ_eq_append_getElem h, List.any_append]
  have : shAt l j = l[j] := by
    unfold shAt
    rw [List.getD_eq_getElem?_getD, List.getElem?_eq_getElem h]
    rfl
  rw [this]
  simp
set_option maxRecDepth 10000 in
set_option maxHeartbeats 8000000 in
theorem rsome_any (n k size : Nat) (p : Option Addr) (l : List (Int × ByteArray)) (cap : Nat) (w : World) (hk1 : 1 ≤ k) (hkn : k ≤ n) (hn : n ≤ 12) (hsz : size ≤ 1000) (hl : l.length ≤ 1000) (ht : ∀ i, (shAt l i).2.size ≤ 100000) (hs : Shs w p l) :
    Calls Tryz.prog 46 #[.int .i64 (n : Int), .int .i64 (k : Int), .int .i64 (size : Int), .slice p l.length cap] w fun e w' => (∃ v c, e = .returned (.tuple #[v, .int .i64 c]) ∧ Somed w' n k (wideN k size) l v c) ∧ Below w.heap.size w w' := by
  obtain ⟨i1, hi1, hy0, hy1, hy2⟩ := info_parts shinfo
  have hwd := wideN_le (size := size) hk1
  have HWD : Hid (∀ W, Calls Tryz.prog 48 #[.int .i64 (k : Int), .int .i64 (size : Int)] W fun e w' => e = .returned (.int .i64 ((wideN k size : Nat) : Int)) ∧ w' = W) := fun W => rwide_any k size W hk1 (by omega) (by omega)
  have HS : Hid (Shs w p l) := hs
  clear hs
  generalize wideN k size = wd at *
  have g1 : decide ((size : Int) < 0) = false := decide_eq_false (by omega)
  have g2 : decide (1000 < (size : Int)) = false := decide_eq_false (by omega)
  go_enter Tryz.func46, Tryz.ntmps46
  go_wp2_with fail
  refine (isSpread_yes n k _ (by omega) (by omega) (by omega)).mono ?_
  rintro e w' ⟨rfl, hww⟩
  rw [hww]
  clear hww w'
  go_wp2
  go_loopw [11, 12] (fun v x wr => ∃ i : Nat, i ≤ l.length ∧ x = .int .i64 i ∧ wr.ownsRow w.heap.size 49 2 v (pickN k l i).length (shVals (pickN k l i)) ∧ (∀ j, j < i → badB (n : Int) wd (shAt l j) = false) ∧ Below w.heap.size w wr) (fun _ x _ => l.length - (intOf x).toNat)
  case atStart => exact ⟨0, by omega, rfl, World.ownsRow_nil _ _ _ _, fun j hj => absurd hj (Nat.not_lt_zero _), Below.refl _ _⟩
  case round =>
    obtain ⟨i, hi, rfl, hO, hG, hB⟩ := hrel
    obtain ⟨w3, rfl⟩ : ∃ w3, w3 = wr := ⟨_, rfl⟩
    obtain ⟨pv, cv, rfl, hsh⟩ := shs_of_own hO
    have HO : Hid (w3.ownsRow w.heap.size 49 2 (.slice pv (pickN k l i).length cv) (pickN k l i).length (shVals (pickN k l i))) := hO
    have HB : Hid (Below w.heap.size w w3) := hB
    have HSH : Hid (Shs w3 pv (pickN k l i)) := hsh
    have HG : Hid (∀ j, j < i → badB (n : Int) wd (shAt l j) = false) := hG
    have hz3 : w.heap.size ≤ w3.heap.size := hB.size
    have hle := pickN_le k l i
    clear hO hB hsh hG
    by_cases hil : i < l.length
    · rcases (HS.out.below HB.out) with h0 | ⟨b1, o1, rfl, hb1, hc1⟩
      · rw [h0] at hil; simp at hil
      obtain ⟨q1, q2⟩ := hc1 i hil
      have hti := ht i
      have HNX : Hid (∀ y t, shAt l i = (y, t) → True) := fun _ _ _ => trivial
      clear hc1 HNX
      by_cases hbad : badB (n : Int) wd (shAt l i) = true
      · have HANY : Hid (l.any (badB (n : Int) wd) = true) := any_of_at hil hbad
        have hcase : (shAt l i).1 < 0 ∨ 0 ≤ (shAt l i).1 ∧ n ≤ (shAt l i).1 ∨ 0 ≤ (shAt l i).1 ∧ (shAt l i).1 < n ∧ (shAt l i).2.size ≠ wd := by
          unfold badB at hbad
          simp only [Bool.or_eq_true, decide_eq_true_eq, Bool.not_eq_true', decide_eq_false_iff_not] at hbad
          omega
        clear hbad
        generalize (shAt l i).1 = x at *
        generalize (shAt l i).2 = t at *
        generalize pickN k l i = so at *
        rcases hcase with h1 | ⟨h0, h1⟩ | ⟨h0, h1, h2⟩
        · have hd : decide (x < 0) = true := decide_eq_true h1
          go_wp2
          go_quiet (fail)
          go_wp2
          go_ret2
          exact ⟨⟨_, 3, rfl, Or.inl ⟨rfl, rfl, HANY.out⟩⟩, below_drewN HB.out _⟩
        · have hd : decide (x < 0) = false := decide_eq_false (by omega)
          have hd2 : decide ((n : Int) ≤ x) = true := decide_eq_true h1
          go_wp2
          go_quiet (fail)
          go_wp2
          go_ret2
          exact ⟨⟨_, 3, rfl, Or.inl ⟨rfl, rfl, HANY.out⟩⟩, below_drewN HB.out _⟩
        · have hd : decide (x < 0) = false := decide_eq_false (by omega)
          have hd2 : decide ((n : Int) ≤ x) = false := decide_eq_false (by omega)
          have hd3 : ((t.size : Int) != (wd : Int)) = true := by rw [bne_iff_ne]; omega
          clear h2
          go_wp2
          go_quiet ((go_at_call 48; exact Calls.quiet_of_same (HWD.out _)))
          go_wp2
          go_ret2
          exact ⟨⟨_, 3, rfl, Or.inl ⟨rfl, rfl, HANY.out⟩⟩, below_drewN HB.out _⟩
      · have hbf : badB (n : Int) wd (shAt l i) = false := Bool.eq_false_iff.2 hbad
        have HBF : Hid (badB (n : Int) wd (shAt l i) = false) := hbf
        have hcase : 0 ≤ (shAt l i).1 ∧ (shAt l i).1 < n ∧ (shAt l i).2.size = wd := by
          unfold badB at hbf
          simp only [Bool.or_eq_false_iff, decide_eq_false_iff_not, Bool.not_eq_false', decide_eq_true_eq] at hbf
          omega
        obtain ⟨h0, h1, h2⟩ := hcase
        have hd : decide ((shAt l i).1 < 0) = false := decide_eq_false (by omega)
        have hd2 : decide ((n : Int) ≤ (shAt l i).1) = false := decide_eq_false (by omega)
        have hd3 : (((shAt l i).2.size : Int) != (wd : Int)) = false := by rw [h2]; simp
        have HPT : Hid ((pickN k l i).any (fun y => y.1 == (shAt l i).1) = true → pickN k l (i + 1) = pickN k l i) := fun h => pickN_twice h
        have HPF : Hid (¬ (pickN k l i).length < k → pickN k l (i + 1) = pickN k l i) := fun h => pickN_full h
        have HPY : Hid ((pickN k l i).length < k → (pickN k l i).any (fun y => y.1 == (shAt l i).1) = false → pickN k l (i + 1) = pickN k l i ++ [shAt l i]) := fun h1 h2 => pickN_yes h1 h2
        have HGN : Hid (∀ j, j < i + 1 → badB (n : Int) wd (shAt l j) = false) := fun j hj => by
          by_cases e : j = i
          · rw [e]; exact hbf
          · exact HG.out j (by omega)
        clear hbad hbf h2 HG HBF
        generalize hxt : shAt l i = xt at *
        clear hxt
        obtain ⟨x, t⟩ := xt
        dsimp only at q1 q2 hti h0 h1 hd hd2 hd3
        generalize pickN k l i = so at *
        go_wp2
        go_quiet ((go_at_call 48; exact Calls.quiet_of_same (HWD.out _)))
        have HB4 : Hid (Below w.heap.size w (w3.drewN nq)) := below_drewN HB.out _
        have HO4 : Hid ((w3.drewN nq).ownsRow w.heap.size 49 2 (.slice pv so.length cv) so.length (shVals so)) := World.ownsRow.kept HO.out (grownBy_drewN w3 nq none) (by cases hv : (Value.slice pv so.length cv).ownBlock <;> simp)
        have HSH4 : Hid (Shs (w3.drewN nq) pv so) := HSH.out.below (below_drewN (Below.refl _ _) _)
        have r1 : (w3.drewN nq).cell? ⟨b1, o1 + i * 2, none⟩ = some (.int .i64 x) := q1
        have r2 : (w3.drewN nq).cell? ⟨b1, o1 + i * 2 + 1, none⟩ = some (.string t) := q2
        have hb14 : b1 < (w3.drewN nq).heap.size := hb1
        have hz4 : w.heap.size ≤ (w3.drewN nq).heap.size := hz3
        clear q1 q2 HO HB HSH hb1 hz3 hd3
        generalize w3.drewN nq = w4 at *
        go_wp2
        go_loopw [13, 14] (fun b y wq => ∃ j : Nat, j ≤ so.length ∧ y = .int .i64 j ∧ b = .bool ((so.take j).any (fun y => y.1 == x)) ∧ Below w4.heap.size w4 wq) (fun _ y _ => so.length - (intOf y).toNat)
        case atStart => exact ⟨0, by omega, rfl, by simp, Below.refl _ _⟩
        case round =>
          obtain ⟨j, hj, rfl, rfl, hBq⟩ := hrel
          obtain ⟨w5, rfl⟩ : ∃ w5, w5 = wr := ⟨_, rfl⟩
          have HBq : Hid (Below w4.heap.size w4 w5) := hBq
          clear hBq
          have s1 : w5.cell? ⟨b1, o1 + i * 2, none⟩ = some (.int .i64 x) := (HBq.out.cell (p := ⟨b1, o1 + i * 2, none⟩) hb14).trans r1
          have s2 : w5.cell? ⟨b1, o1 + i * 2 + 1, none⟩ = some (.string t) := (HBq.out.cell (p := ⟨b1, o1 + i * 2 + 1, none⟩) hb14).trans r2
          by_cases hjl : j < so.length
          · rcases (HSH4.out.below HBq.out) with h9 | ⟨b2, o2, rfl, hb2, hc2⟩
            · rw [h9] at hjl; simp at hjl
            obtain ⟨u1, _⟩ := hc2 j hjl
            have HST : Hid ((so.take (j + 1)).any (fun y => y.1 == x) = ((so.take j).any (fun y => y.1 == x) || ((shAt so j).1 == x))) := any_take_succ hjl
            clear hc2
            generalize (so.take j).any (fun y => y.1 == x) = bb at *
            generalize (shAt so j).1 = y at *
            by_cases hyx : y = x
            · subst hyx
              go_wp2
              go_quiet (fail)
              go_wp2
              go_roundw
              case rel => exact ⟨j + 1, by omega, by go_num, by rw [HST.out]; simp, below_drewN HBq.out _⟩
              case measure => simp [intOf]; omega
            · have hyb : (y == x) = false := by simpa using hyx
              have HYB : Hid ((y == x) = false) := hyb
              clear hyx
              go_wp2
              go_quiet (fail)
              go_wp2
              go_roundw
              case rel => exact ⟨j + 1, by omega, by go_num, by rw [HST.out, HYB.out, Bool.or_false], below_drewN HBq.out _⟩
              case measure => simp [intOf]; omega
          · have hje : j = so.length := by omega
            have htk : so.take j = so := by rw [hje, List.take_length]
            rw [htk]
            clear htk
            have HB5 : Hid (Below w.heap.size w w5) := HB4.out.trans (HBq.out.mono hz4)
            have HO5 : Hid (w5.ownsRow w.heap.size 49 2 (.slice pv so.length cv) so.length (shVals so)) := World.ownsRow.kept HO4.out (below_grown HBq.out none) (by cases hv : (Value.slice pv so.length cv).ownBlock <;> simp)
            have hz5 : w.heap.size ≤ w5.heap.size := HB5.out.size
            by_cases hany : so.any (fun y => y.1 == x) = true
            · have HP := HPT.out hany
              have HPN : Hid (pickN k l (i + 1) = so) := HP
              rw [hany]
              clear hany HP hje
              go_wp2
              go_roundw
              case rel => exact ⟨i + 1, by omega, by go_num, by rw [HPN.out]; exact HO5.out, HGN.out, HB5.out⟩
              case measure => simp [intOf]; omega
            · have hany' : so.any (fun y => y.1 == x) = false := Bool.eq_false_iff.2 hany
              rw [hany']
              clear hany hje
              by_cases hlt : so.length < k
              · have HPN : Hid (pickN k l (i + 1) = so ++ [(x, t)]) := HPY.out hlt hany'
                clear hany' HPT HPF HPY
                go_wp2_with (first | (at_builtin; refine wpList_append_own _ rfl (.tmp 86) (.tmp 91) 55 rfl w.heap.size 49 i1 (.agg #[.int .i64 0, .string ⟨#[]⟩]) 2 24 Tryz.underlying55 hi1 hy0 hy1 hy2 rfl (by decide) (.slice pv so.length cv) so.length (shVals so) rfl (World.ownsRow.alloc HO5.out _) ⟨w5.heap.size, 0, none⟩ 1 1 [.int .i64 x, .string t] rfl rfl (fun j u hj => by match j, hj with | 0, hj => (simp at hj; subst hj; simp [Addr.add]) | 1, hj => (simp at hj; subst hj; simp [Addr.add])) (fun u hu => by simp at hu; rcases hu with rfl | rfl <;> rfl) (by unfold maxLen; omega) (by omega) (by simp; omega) ?_; intro v' w8 hown' hg' _))
                have hb8 : Below w.heap.size w w8 := (HB5.out.alloc (by omega) _).grown hg' (by simp; omega) (fun g hg => (World.ownsRow.lt HO5.out g hg).1)
                go_roundw
                case rel => exact ⟨i + 1, by omega, by go_num, by rw [HPN.out, shVals_snoc, List.length_append, List.length_singleton]; exact hown', HGN.out, hb8⟩
                case measure => simp [intOf]; omega
              · have HPN : Hid (pickN k l (i + 1) = so) := HPF.out hlt
                clear hany' HPT HPF HPY
                go_wp2
                go_roundw
                case rel => exact ⟨i + 1, by omega, by go_num, by rw [HPN.out]; exact HO5.out, HGN.out, HB5.out⟩
                case measure => simp [intOf]; omega
    · have hie : i = l.length := by omega
      subst hie
      have HNB : Hid (l.any (badB (n : Int) wd) = false) := none_of_at fun j hj => HG.out j hj
      by_cases hlt : (pickN k l l.length).length < k
      · go_wp2
        go_ret2
        exact ⟨⟨_, 8, rfl, Or.inr (Or.inl ⟨rfl, rfl, HNB.out, hlt⟩)⟩, HB.out⟩
      · have HEQ : Hid ((pickN k l l.length).length = k) := by show _ = _; omega
        go_wp2
        go_ret2
        exact ⟨⟨.slice pv (pickN k l l.length).length cv, 0, rfl, Or.inr (Or.inr ⟨rfl, HNB.out, HEQ.out, pv, cv, by rw [HEQ.out], HSH.out⟩)⟩, HB.out⟩
/-- The next version, behind a size and shards. -/
def shStep (n k : Nat) (t : Int × Int) (S : Int × List (Int × ByteArray)) (v : Ver) : Int × List (Int × ByteArray) :=
  if v.n = t.1 ∧ v.who = t.2 ∧ canB n k v = true then
    (if S.1 < 0 then v.size else S.1, if v.size = (if S.1 < 0 then v.size else S.1) ∧ S.2.any (fun y => y.1 == v.at_) = false then S.2 ++ [(v.at_, v.text)] else S.2)
  else S
/-- The size and the shards of a tag. -/
def shOf (n k : Nat) (t : Int × Int) (L : List Ver) : Int × List (Int × ByteArray) := L.foldl (shStep n k t) (-1, [])
theorem shOf_succ {n k : Nat} {t : Int × Int} {L : List Ver} {i : Nat} (hi : i < L.length) : shOf n k t (L.take (i + 1)) = shStep n k t (shOf n k t (L.take i)) (verAt L i) := by
  unfold shOf
  rw [List.take_add_one, verAt_get hi, List.foldl_append]
  rfl
theorem shStep_no {n k : Nat} {t : Int × Int} {S : Int × List (Int × ByteArray)} {v : Ver} (h : ¬ (v.n = t.1 ∧ v.who = t.2 ∧ canB n k v = true)) : shStep n k t S v = S := if_neg h
theorem shStep_yes {n k : Nat} {t : Int × Int} {S : Int × List (Int × ByteArray)} {v : Ver} {z : Int} (h : v.n = t.1 ∧ v.who = t.2 ∧ canB n k v = true) (hz : z = if S.1 < 0 then v.size else S.1) : shStep n k t S v = (z, if v.size = z ∧ S.2.any (fun y => y.1 == v.at_) = false then S.2 ++ [(v.at_, v.text)] else S.2) := by
  subst hz
  exact if_pos h
theorem shOf_le {n k : Nat} {t : Int × Int} (L : List Ver) : ∀ i, (shOf n k t (L.take i)).2.length ≤ i
  | 0 => Nat.le_refl _
  | i + 1 => by
    have ih := shOf_le (n := n) (k := k) (t := t) L i
    by_cases hi : i < L.length
    · rw [shOf_succ hi]
      unfold shStep
      split
      · show (ite _ _ _ : List (Int × ByteArray)).length ≤ i + 1
        generalize (if (shOf n k t (L.take i)).1 < 0 then (verAt L i).size else (shOf n k t (L.take i)).1) = z
        split
        · rw [List.length_append, List.length_singleton]; omega
        · omega
      · omega
    · rw [List.take_of_length_le (by omega)]
      rw [List.take_of_length_le (by omega)] at ih
      omega
theorem shOf_ge {n k : Nat} {t : Int × Int} (L : List Ver) : ∀ i, -1 ≤ (shOf n k t (L.take i)).1
  | 0 => Int.le_refl _
  | i + 1 => by
    have ih := shOf_ge (n := n) (k := k) (t := t) L i
    by_cases hi : i < L.length
    · rw [shOf_succ hi]
      unfold shStep
      split
      · rename_i h
        have h2 := h.2.2
        unfold canB at h2
        rw [Bool.and_eq_true] at h2
        have h3 := (of_decide_eq_true h2.2).1
        dsimp only
        split <;> omega
      · exact ih
    · rw [List.take_of_length_le (by omega)]
      rw [List.take_of_length_le (by omega)] at ih
      exact ih
set_option maxRecDepth 10000 in
set_option maxHeartbeats 8000000 in
theorem shardsOf_any (n k : Nat) (p0 : Option Addr) (l0 c0 : Nat) (p : Option Addr) (L : List Ver) (cap : Nat) (t : Int × Int) (w : World) (hk1 : 1 ≤ k) (hk : k ≤ 12) (hl : L.length ≤ 1000000) (hL : Rec verE w p L) :
    Calls Tryz.prog 23 #[.agg #[.int .i64 (n : Int), .int .i64 (k : Int), .slice p0 l0 c0], .slice p L.length cap, .agg #[.int .i64 t.1, .int .i64 t.2]] w fun e w' => (∃ v, e = .returned (.tuple #[.int .i64 (shOf n k t L).1, v]) ∧ w'.ownsRow w.heap.size 49 2 v (shOf n k t L).2.length (shVals (shOf n k t L).2)) ∧ Below w.heap.size w w' := by
  obtain ⟨i1, hi1, hy0, hy1, hy2⟩ := info_parts shinfo
  obtain ⟨t1, t2⟩ := t
  obtain ⟨wc, hwc⟩ : ∃ wc, wc = w.alloc (.cells #[.int .i64 (n : Int), .int .i64 (k : Int), .slice p0 l0 c0] 24) := ⟨_, rfl⟩
  have e1 : wc.heap.size = w.heap.size + 1 := by rw [hwc]; simp
  obtain ⟨w0, hw0⟩ : ∃ w0, w0 = wc.alloc (.cells #[.int .i64 t1, .int .i64 t2] 30) := ⟨_, rfl⟩
  have hbc : Below w.heap.size w wc := by rw [hwc]; exact (Below.refl _ _).alloc (Nat.le_refl _) _
  have hb0c : Below wc.heap.size wc w0 := by rw [hw0]; exact (Below.refl _ _).alloc (Nat.le_refl _) _
  have HB0 : Hid (Below w.heap.size w w0) := hbc.trans (hb0c.mono hbc.size)
  have a0 : w0.cell? ⟨w.heap.size, 0, none⟩ = some (.int .i64 (n : Int)) := (hb0c.cell (p := ⟨w.heap.size, 0, none⟩) (by show w.heap.size < _; omega)).trans (by rw [hwc, World.cell?_alloc_at _ _ _ _ rfl]; rfl)
  have a1 : w0.cell? ⟨w.heap.size, 1, none⟩ = some (.int .i64 (k : Int)) := (hb0c.cell (p := ⟨w.heap.size, 1, none⟩) (by show w.heap.size < _; omega)).trans (by rw [hwc, World.cell?_alloc_at _ _ _ _ rfl]; rfl)
  have a2 : w0.cell? ⟨w.heap.size, 2, none⟩ = some (.slice p0 l0 c0) := (hb0c.cell (p := ⟨w.heap.size, 2, none⟩) (by show w.heap.size < _; omega)).trans (by rw [hwc, World.cell?_alloc_at _ _ _ _ rfl]; rfl)
  have b0 : w0.cell? ⟨w.heap.size + 1, 0, none⟩ = some (.int .i64 t1) := by rw [hw0, World.cell?_alloc_at _ _ _ _ e1.symm]; rfl
  have b1 : w0.cell? ⟨w.heap.size + 1, 1, none⟩ = some (.int .i64 t2) := by rw [hw0, World.cell?_alloc_at _ _ _ _ e1.symm]; rfl
  have HALL : Hid (∀ W, Below w0.heap.size w0 W → (W.cell? ⟨w.heap.size, 0, none⟩ = some (.int .i64 (n : Int)) ∧ W.cell? ⟨w.heap.size, 1, none⟩ = some (.int .i64 (k : Int)) ∧ W.cell? ⟨w.heap.size, 2, none⟩ = some (.slice p0 l0 c0) ∧ W.cell? ⟨w.heap.size + 1, 0, none⟩ = some (.int .i64 t1) ∧ W.cell? ⟨w.heap.size + 1, 1, none⟩ = some (.int .i64 t2)) ∧ Rec verE W p L ∧ Below w.heap.size w W) := fun W hW => by
    have hx : w.heap.size + 1 < w0.heap.size := lt_of_cellH b0
    have hy : w.heap.size < w0.heap.size := lt_of_cellH a0
    exact ⟨⟨(hW.cell (p := ⟨w.heap.size, 0, none⟩) hy).trans a0, (hW.cell (p := ⟨w.heap.size, 1, none⟩) hy).trans a1, (hW.cell (p := ⟨w.heap.size, 2, none⟩) hy).trans a2, (hW.cell (p := ⟨w.heap.size + 1, 0, none⟩) hx).trans b0, (hW.cell (p := ⟨w.heap.size + 1, 1, none⟩) hx).trans b1⟩, (hL.below HB0.out).below hW, HB0.out.trans (hW.mono HB0.out.size)⟩
  have HW0 : Hid (w0 = (w.alloc (.cells #[.int .i64 (n : Int), .int .i64 (k : Int), .slice p0 l0 c0] 24)).alloc (.cells #[.int .i64 t1, .int .i64 t2] 30)) := by rw [← hwc]; exact hw0
  have HCB : Hid (∀ (v : Ver) W, Calls Tryz.prog 45 #[.agg #[.int .i64 (n : Int), .int .i64 (k : Int), .slice p0 l0 c0], .agg #[.int .i64 v.n, .int .i64 v.who, .int .i64 v.size, .int .i64 v.at_, .string v.text]] W fun e w' => e = .returned (.bool (canB n k v)) ∧ Below W.heap.size W w') := fun v W => canBe_any n k p0 l0 c0 v W hk1 hk
  have HLE : Hid (∀ i, (shOf n k (t1, t2) (L.take i)).2.length ≤ i) := fun i => shOf_le L i
  have HIN : Hid (shOf n k (t1, t2) (L.take 0) = (-1, [])) := by show _ = _; rfl
  have HFI : Hid (L.take L.length = L) := List.take_length
  have HNO : Hid (∀ i, i < L.length → ¬ ((verAt L i).n = t1 ∧ (verAt L i).who = t2 ∧ canB n k (verAt L i) = true) → shOf n k (t1, t2) (L.take (i + 1)) = shOf n k (t1, t2) (L.take i)) := fun i hi h => by rw [shOf_succ hi, shStep_no h]
  have HYE : Hid (∀ i, i < L.length → ((verAt L i).n = t1 ∧ (verAt L i).who = t2 ∧ canB n k (verAt L i) = true) → ∀ z, (z = if (shOf n k (t1, t2) (L.take i)).1 < 0 then (verAt L i).size else (shOf n k (t1, t2) (L.take i)).1) → shOf n k (t1, t2) (L.take (i + 1)) = (z, if (verAt L i).size = z ∧ (shOf n k (t1, t2) (L.take i)).2.any (fun y => y.1 == (verAt L i).at_) = false then (shOf n k (t1, t2) (L.take i)).2 ++ [((verAt L i).at_, (verAt L i).text)] else (shOf n k (t1, t2) (L.take i)).2)) := fun i hi h z hz => by rw [shOf_succ hi, shStep_yes h hz]
  have HIS : Hid (∀ i, -1 ≤ (shOf n k (t1, t2) (L.take i)).1) := fun i => shOf_ge L i
  clear hwc hw0 hbc hb0c e1 b0 b1 a0 a1 a2 hL
  go_enter Tryz.func23, Tryz.ntmps23
  go_wp2_with (rw [← HW0.out])
  go_loopw [8, 9, 10] (fun s v x wr => ∃ i : Nat, i ≤ L.length ∧ x = .int .i64 i ∧ s = .int .i64 (shOf n k (t1, t2) (L.take i)).1 ∧ wr.ownsRow w0.heap.size 49 2 v (shOf n k (t1, t2) (L.take i)).2.length (shVals (shOf n k (t1, t2) (L.take i)).2) ∧ Below w0.heap.size w0 wr) (fun _ _ x _ => L.length - (intOf x).toNat)
  case atStart => exact ⟨0, Nat.zero_le _, rfl, by rw [HIN.out], by rw [HIN.out]; exact World.ownsRow_nil _ _ _ _, Below.refl _ _⟩
  case round =>
    obtain ⟨i, hi, rfl, rfl, hO, hB⟩ := hrel
    obtain ⟨w3, rfl⟩ : ∃ w3, w3 = wr := ⟨_, rfl⟩
    obtain ⟨pv, cv, rfl, hsh⟩ := shs_of_own hO
    have hle := HLE.out i
    have hge := HIS.out i
    have hno := HNO.out i
    have hye := HYE.out i
    have HB : Hid (Below w0.heap.size w0 w3) := hB
    obtain ⟨⟨k0, k1, k2, k3, k4⟩, hrc, hbw⟩ := HALL.out w3 hB
    have HBW : Hid (Below w.heap.size w w3) := hbw
    have HRC : Hid (Rec verE w3 p L) := hrc
    have HFIN : Hid (i = L.length → shOf n k (t1, t2) (L.take i) = shOf n k (t1, t2) L) := fun h => by rw [h, HFI.out]
    have HNXT : Hid (∀ (S' : Int × List (Int × ByteArray)) (v' : Value) (W : World), shOf n k (t1, t2) (L.take (i + 1)) = S' → W.ownsRow w0.heap.size 49 2 v' S'.2.length (shVals S'.2) → Below w0.heap.size w0 W → i + 1 ≤ L.length → ∃ j : Nat, j ≤ L.length ∧ (.int .i64 ((i : Int) + 1) : Value) = .int .i64 j ∧ (.int .i64 S'.1 : Value) = .int .i64 (shOf n k (t1, t2) (L.take j)).1 ∧ W.ownsRow w0.heap.size 49 2 v' (shOf n k (t1, t2) (L.take j)).2.length (shVals (shOf n k (t1, t2) (L.take j)).2) ∧ Below w0.heap.size w0 W) := fun S' v' W hS hW hBW hlt => ⟨i + 1, hlt, by rw [Int.natCast_add]; rfl, by rw [hS], by rw [hS]; exact hW, hBW⟩
    generalize shOf n k (t1, t2) (L.take (i + 1)) = S1 at *
    generalize shOf n k (t1, t2) (L.take i) = S at *
    obtain ⟨z, so⟩ := S
    have HO : Hid (w3.ownsRow w0.heap.size 49 2 (.slice pv so.length cv) so.length (shVals so)) := hO
    have HSH : Hid (Shs w3 pv so) := hsh
    have hz3 : w0.heap.size ≤ w3.heap.size := hB.size
    dsimp only at hle hge hno hye
    clear hO hB hsh hrc hbw HLE HIN HNO HYE HIS HFI
    by_cases hil : i < L.length
    · obtain ⟨b, o, hpp, hblt, d0, d1, d2, d3, d4⟩ := ver_cells HRC.out hil
      subst hpp
      have hno' := hno hil
      have hye' := hye hil
      clear hno hye HFIN
      generalize verAt L i = x at *
      obtain ⟨xn, xw, xs, xa, xt⟩ := x
      have hcb := HCB.out ⟨xn, xw, xs, xa, xt⟩
      dsimp only at d0 d1 d2 d3 d4 hno' hye' hcb
      generalize canB n k ⟨xn, xw, xs, xa, xt⟩ = cb at *
      have HCB2 : Hid (∀ W, Calls Tryz.prog 45 #[.agg #[.int .i64 (n : Int), .int .i64 (k : Int), .slice p0 l0 c0], .agg #[.int .i64 xn, .int .i64 xw, .int .i64 xs, .int .i64 xa, .string xt]] W fun e w' => e = .returned (.bool cb) ∧ Below W.heap.size W w') := hcb
      obtain ⟨w4, hw4⟩ : ∃ w4, w4 = w3.alloc (.cells #[.int .i64 xn, .int .i64 xw, .int .i64 xs, .int .i64 xa, .string xt] 51) := ⟨_, rfl⟩
      have hb4 : Below w3.heap.size w3 w4 := by rw [hw4]; exact (Below.refl _ _).alloc (Nat.le_refl _) _
      have f0 : w4.cell? ⟨w3.heap.size, 0, none⟩ = some (.int .i64 xn) := by rw [hw4, World.cell?_alloc_at _ _ _ _ rfl]; rfl
      have f1 : w4.cell? ⟨w3.heap.size, 1, none⟩ = some (.int .i64 xw) := by rw [hw4, World.cell?_alloc_at _ _ _ _ rfl]; rfl
      have f2 : w4.cell? ⟨w3.heap.size, 2, none⟩ = some (.int .i64 xs) := by rw [hw4, World.cell?_alloc_at _ _ _ _ rfl]; rfl
      have f3 : w4.cell? ⟨w3.heap.size, 3, none⟩ = some (.int .i64 xa) := by rw [hw4, World.cell?_alloc_at _ _ _ _ rfl]; rfl
      have f4 : w4.cell? ⟨w3.heap.size, 4, none⟩ = some (.string xt) := by rw [hw4, World.cell?_alloc_at _ _ _ _ rfl]; rfl
      have HB4 : Hid (Below w0.heap.size w0 w4) := HB.out.trans (hb4.mono hz3)
      have H4 : Hid (∀ W, Below w4.heap.size w4 W → (W.cell? ⟨w3.heap.size, 0, none⟩ = some (.int .i64 xn) ∧ W.cell? ⟨w3.heap.size, 1, none⟩ = some (.int .i64 xw) ∧ W.cell? ⟨w3.heap.size, 2, none⟩ = some (.int .i64 xs) ∧ W.cell? ⟨w3.heap.size, 3, none⟩ = some (.int .i64 xa) ∧ W.cell? ⟨w3.heap.size, 4, none⟩ = some (.string xt)) ∧ Shs W pv so ∧ W.ownsRow w0.heap.size 49 2 (.slice pv so.length cv) so.length (shVals so) ∧ Below w0.heap.size w0 W) := fun W hW => by
        have hx : w3.heap.size < w4.heap.size := lt_of_cellH f0
        have h3W : Below w3.heap.size w3 W := hb4.trans (hW.mono hb4.size)
        exact ⟨⟨(hW.cell (p := ⟨w3.heap.size, 0, none⟩) hx).trans f0, (hW.cell (p := ⟨w3.heap.size, 1, none⟩) hx).trans f1, (hW.cell (p := ⟨w3.heap.size, 2, none⟩) hx).trans f2, (hW.cell (p := ⟨w3.heap.size, 3, none⟩) hx).trans f3, (hW.cell (p := ⟨w3.heap.size, 4, none⟩) hx).trans f4⟩, HSH.out.below h3W, World.ownsRow.kept HO.out (below_grown h3W none) (by cases hv : (Value.slice pv so.length cv).ownBlock <;> simp), HB.out.trans (h3W.mono hz3)⟩
      have HW4 : Hid (w4 = w3.alloc (.cells #[.int .i64 xn, .int .i64 xw, .int .i64 xs, .int .i64 xa, .string xt] 51)) := hw4
      clear k0 k1 k2 k3 k4
      obtain ⟨⟨k0, k1, k2, k3, k4⟩, _, _⟩ := HALL.out w4 HB4.out
      clear hw4 hb4 hcb HB HO HSH HRC HBW
      go_wp2_with (rw [← HW4.out])
      refine (HCB2.out _).mono ?_
      rintro e w5 ⟨rfl, hb5⟩
      have HB5 : Hid (Below w0.heap.size w0 w5) := HB4.out.trans (hb5.mono HB4.out.size)
      have H5 : Hid (∀ W, Below w5.heap.size w5 W → (W.cell? ⟨w3.heap.size, 0, none⟩ = some (.int .i64 xn) ∧ W.cell? ⟨w3.heap.size, 1, none⟩ = some (.int .i64 xw) ∧ W.cell? ⟨w3.heap.size, 2, none⟩ = some (.int .i64 xs) ∧ W.cell? ⟨w3.heap.size, 3, none⟩ = some (.int .i64 xa) ∧ W.cell? ⟨w3.heap.size, 4, none⟩ = some (.string xt)) ∧ Shs W pv so ∧ W.ownsRow w0.heap.size 49 2 (.slice pv so.length cv) so.length (shVals so) ∧ Below w0.heap.size w0 W) := fun W hW => H4.out W (hb5.trans (hW.mono hb5.size))
      clear k0 k1 k2 k3 k4 f0 f1 f2 f3 f4 d0 d1 d2 d3 d4 hb5 H4 HB4 HCB2 HW4
      obtain ⟨⟨k0, k1, k2, k3, k4⟩, _, _⟩ := HALL.out w5 HB5.out
      obtain ⟨⟨f0, f1, f2, f3, f4⟩, _, hO5, _⟩ := H5.out w5 (Below.refl _ _)
      have HO5 : Hid (w5.ownsRow w0.heap.size 49 2 (.slice pv so.length cv) so.length (shVals so)) := hO5
      clear hO5
      by_cases hyes : xn = t1 ∧ xw = t2 ∧ cb = true
      · obtain ⟨rfl, rfl, rfl⟩ := hyes
        have hy3 := hye' ⟨rfl, rfl, rfl⟩
        clear hno' hye'
        by_cases hzn : z < 0
        · have hs := hy3 xs (by rw [if_pos hzn])
          have hcases : (xs = xs ∧ so.any (fun y => y.1 == xa) = false ∧ S1 = (xs, so ++ [(xa, xt)])) ∨ (xs ≠ xs ∧ S1 = (xs, so)) ∨ (so.any (fun y => y.1 == xa) = true ∧ S1 = (xs, so)) := by
            rw [hs]
            cases ha : so.any (fun y => y.1 == xa) with
            | true => exact Or.inr (Or.inr ⟨rfl, by simp⟩)
            | false => exact Or.inl ⟨rfl, rfl, by simp⟩
          clear hy3 hs
          go_wp2
          go_loopw [13, 14] (fun bv y wq => ∃ j : Nat, j ≤ so.length ∧ y = .int .i64 j ∧ bv = .bool ((so.take j).any (fun y => y.1 == xa)) ∧ Below w5.heap.size w5 wq) (fun _ y _ => so.length - (intOf y).toNat)
          case atStart => exact ⟨0, Nat.zero_le _, rfl, by simp, Below.refl _ _⟩
          case round =>
            obtain ⟨j, hj, rfl, rfl, hBq⟩ := hrel
            obtain ⟨w6, rfl⟩ : ∃ w6, w6 = wr := ⟨_, rfl⟩
            obtain ⟨⟨r0, r1, r2, r3, r4⟩, hS6, hO6, hB6⟩ := H5.out w6 hBq
            have HBq : Hid (Below w5.heap.size w5 w6) := hBq
            have HO6 : Hid (w6.ownsRow w0.heap.size 49 2 (.slice pv so.length cv) so.length (shVals so)) := hO6
            have HB6 : Hid (Below w0.heap.size w0 w6) := hB6
            have hz6 : w0.heap.size ≤ w6.heap.size := hB6.size
            have HS6 : Hid (Shs w6 pv so) := hS6
            clear hBq hO6 hB6 hS6
            by_cases hjl : j < so.length
            · rcases HS6.out with h9 | ⟨b2, o2, rfl, hb2, hc2⟩
              · rw [h9] at hjl; simp at hjl
              obtain ⟨u1, _⟩ := hc2 j hjl
              have HST : Hid ((so.take (j + 1)).any (fun y => y.1 == xa) = ((so.take j).any (fun y => y.1 == xa) || ((shAt so j).1 == xa))) := any_take_succ hjl
              clear hc2 hcases
              generalize (so.take j).any (fun y => y.1 == xa) = bb at *
              generalize (shAt so j).1 = y at *
              by_cases hyx : y = xa
              · subst hyx
                go_wp2
                go_quiet (fail)
                go_wp2
                go_roundw
                case rel => exact ⟨j + 1, by omega, by go_num, by rw [HST.out]; simp, below_drewN HBq.out _⟩
                case measure => simp [intOf]; omega
              · have hyb : (y == xa) = false := by simpa using hyx
                have HYB : Hid ((y == xa) = false) := hyb
                clear hyx
                go_wp2
                go_quiet (fail)
                go_wp2
                go_roundw
                case rel => exact ⟨j + 1, by omega, by go_num, by rw [HST.out, HYB.out, Bool.or_false], below_drewN HBq.out _⟩
                case measure => simp [intOf]; omega
            · have hje : j = so.length := by omega
              have htk : so.take j = so := by rw [hje, List.take_length]
              rw [htk]
              clear htk
              rcases hcases with ⟨hq, hany, hs1⟩ | ⟨hq, hs1⟩ | ⟨hany, hs1⟩
              · have HN : Hid (S1 = (xs, so ++ [(xa, xt)])) := hs1
                rw [hany]
                clear hany hje hs1
                clear hq
                go_wp2_with (first | (at_builtin; refine wpList_append_own _ rfl (.tmp 63) (.tmp 66) 55 rfl w0.heap.size 49 i1 (.agg #[.int .i64 0, .string ⟨#[]⟩]) 2 24 Tryz.underlying55 hi1 hy0 hy1 hy2 rfl (by decide) (.slice pv so.length cv) so.length (shVals so) rfl (World.ownsRow.alloc HO6.out _) ⟨w6.heap.size, 0, none⟩ 1 1 [.int .i64 xa, .string xt] rfl rfl (fun j u hj => by match j, hj with | 0, hj => (simp at hj; subst hj; simp [Addr.add]) | 1, hj => (simp at hj; subst hj; simp [Addr.add])) (fun u hu => by simp at hu; rcases hu with rfl | rfl <;> rfl) (by unfold maxLen; omega) (by omega) (by simp; omega) ?_; intro v' w8 hown' hg' _))
                have hb8 : Below w0.heap.size w0 w8 := (HB6.out.alloc (by omega) _).grown hg' (by simp; omega) (fun g hg => (World.ownsRow.lt HO6.out g hg).1)
                go_roundw
                case rel => exact HNXT.out _ _ _ HN.out (by rw [shVals_snoc, List.length_append, List.length_singleton]; exact hown') hb8 hil
                case measure => simp [intOf]; omega
              · exact absurd rfl hq
              · have HN : Hid (S1 = (xs, so)) := hs1
                rw [hany]
                clear hany hje hs1
                go_wp2
                go_roundw
                case rel => exact HNXT.out _ _ _ HN.out HO6.out HB6.out hil
                case measure => simp [intOf]; omega
        · have hs := hy3 z (by rw [if_neg hzn])
          have hcases : (xs = z ∧ so.any (fun y => y.1 == xa) = false ∧ S1 = (z, so ++ [(xa, xt)])) ∨ (xs ≠ z ∧ S1 = (z, so)) ∨ (so.any (fun y => y.1 == xa) = true ∧ S1 = (z, so)) := by
            rw [hs]
            cases ha : so.any (fun y => y.1 == xa) with
            | true => exact Or.inr (Or.inr ⟨rfl, by simp⟩)
            | false =>
              by_cases hq : xs = z
              · exact Or.inl ⟨hq, rfl, by rw [if_pos ⟨hq, rfl⟩]⟩
              · exact Or.inr (Or.inl ⟨hq, by rw [if_neg (fun h => hq h.1)]⟩)
          clear hy3 hs
          go_wp2
          go_loopw [13, 14] (fun bv y wq => ∃ j : Nat, j ≤ so.length ∧ y = .int .i64 j ∧ bv = .bool ((so.take j).any (fun y => y.1 == xa)) ∧ Below w5.heap.size w5 wq) (fun _ y _ => so.length - (intOf y).toNat)
          case atStart => exact ⟨0, Nat.zero_le _, rfl, by simp, Below.refl _ _⟩
          case round =>
            obtain ⟨j, hj, rfl, rfl, hBq⟩ := hrel
            obtain ⟨w6, rfl⟩ : ∃ w6, w6 = wr := ⟨_, rfl⟩
            obtain ⟨⟨r0, r1, r2, r3, r4⟩, hS6, hO6, hB6⟩ := H5.out w6 hBq
            have HBq : Hid (Below w5.heap.size w5 w6) := hBq
            have HO6 : Hid (w6.ownsRow w0.heap.size 49 2 (.slice pv so.length cv) so.length (shVals so)) := hO6
            have HB6 : Hid (Below w0.heap.size w0 w6) := hB6
            have hz6 : w0.heap.size ≤ w6.heap.size := hB6.size
            have HS6 : Hid (Shs w6 pv so) := hS6
            clear hBq hO6 hB6 hS6
            by_cases hjl : j < so.length
            · rcases HS6.out with h9 | ⟨b2, o2, rfl, hb2, hc2⟩
              · rw [h9] at hjl; simp at hjl
              obtain ⟨u1, _⟩ := hc2 j hjl
              have HST : Hid ((so.take (j + 1)).any (fun y => y.1 == xa) = ((so.take j).any (fun y => y.1 == xa) || ((shAt so j).1 == xa))) := any_take_succ hjl
              clear hc2 hcases
              generalize (so.take j).any (fun y => y.1 == xa) = bb at *
              generalize (shAt so j).1 = y at *
              by_cases hyx : y = xa
              · subst hyx
                go_wp2
                go_quiet (fail)
                go_wp2
                go_roundw
                case rel => exact ⟨j + 1, by omega, by go_num, by rw [HST.out]; simp, below_drewN HBq.out _⟩
                case measure => simp [intOf]; omega
              · have hyb : (y == xa) = false := by simpa using hyx
                have HYB : Hid ((y == xa) = false) := hyb
                clear hyx
                go_wp2
                go_quiet (fail)
                go_wp2
                go_roundw
                case rel => exact ⟨j + 1, by omega, by go_num, by rw [HST.out, HYB.out, Bool.or_false], below_drewN HBq.out _⟩
                case measure => simp [intOf]; omega
            · have hje : j = so.length := by omega
              have htk : so.take j = so := by rw [hje, List.take_length]
              rw [htk]
              clear htk
              rcases hcases with ⟨hq, hany, hs1⟩ | ⟨hq, hs1⟩ | ⟨hany, hs1⟩
              · have HN : Hid (S1 = (z, so ++ [(xa, xt)])) := hs1
                rw [hany]
                clear hany hje hs1
                subst hq
                go_wp2_with (first | (at_builtin; refine wpList_append_own _ rfl (.tmp 63) (.tmp 66) 55 rfl w0.heap.size 49 i1 (.agg #[.int .i64 0, .string ⟨#[]⟩]) 2 24 Tryz.underlying55 hi1 hy0 hy1 hy2 rfl (by decide) (.slice pv so.length cv) so.length (shVals so) rfl (World.ownsRow.alloc HO6.out _) ⟨w6.heap.size, 0, none⟩ 1 1 [.int .i64 xa, .string xt] rfl rfl (fun j u hj => by match j, hj with | 0, hj => (simp at hj; subst hj; simp [Addr.add]) | 1, hj => (simp at hj; subst hj; simp [Addr.add])) (fun u hu => by simp at hu; rcases hu with rfl | rfl <;> rfl) (by unfold maxLen; omega) (by omega) (by simp; omega) ?_; intro v' w8 hown' hg' _))
                have hb8 : Below w0.heap.size w0 w8 := (HB6.out.alloc (by omega) _).grown hg' (by simp; omega) (fun g hg => (World.ownsRow.lt HO6.out g hg).1)
                go_roundw
                case rel => exact HNXT.out _ _ _ HN.out (by rw [shVals_snoc, List.length_append, List.length_singleton]; exact hown') hb8 hil
                case measure => simp [intOf]; omega
              · have HN : Hid (S1 = (z, so)) := hs1
                have hqb : (xs == z) = false := beq_eq_false_iff_ne.2 hq
                generalize so.any (fun y => y.1 == xa) = bb at *
                clear hq hje hs1
                go_wp2
                go_roundw
                case rel => exact HNXT.out _ _ _ HN.out HO6.out HB6.out hil
                case measure => simp [intOf]; omega
              · have HN : Hid (S1 = (z, so)) := hs1
                rw [hany]
                clear hany hje hs1
                by_cases hq : xs = z
                · have hqb : (xs == z) = true := beq_iff_eq.2 hq
                  clear hq
                  go_wp2
                  go_roundw
                  case rel => exact HNXT.out _ _ _ HN.out HO6.out HB6.out hil
                  case measure => simp [intOf]; omega
                · have hqb : (xs == z) = false := beq_eq_false_iff_ne.2 hq
                  clear hq
                  go_wp2
                  go_roundw
                  case rel => exact HNXT.out _ _ _ HN.out HO6.out HB6.out hil
                  case measure => simp [intOf]; omega
      · have HN : Hid (S1 = (z, so)) := hno' hyes
        clear hno' hye'
        have walk : ((xn == t1) = false) ∨ xn = t1 ∧ (((xw == t2) = false) ∨ xw = t2 ∧ cb = false) := by
          by_cases e1 : xn = t1
          · refine Or.inr ⟨e1, ?_⟩
            by_cases e2 : xw = t2
            · exact Or.inr ⟨e2, Bool.eq_false_iff.2 fun e3 => hyes ⟨e1, e2, e3⟩⟩
            · exact Or.inl (beq_eq_false_iff_ne.2 e2)
          · exact Or.inl (beq_eq_false_iff_ne.2 e1)
        clear hyes
        rcases walk with g | ⟨rfl, g | ⟨rfl, rfl⟩⟩
        all_goals
          go_wp2
          go_roundw
          case rel => exact HNXT.out _ _ _ HN.out HO5.out HB5.out hil
          case measure => simp [intOf]; omega
    · have hie : i = L.length := by omega
      have HE : Hid (shOf n k (t1, t2) L = (z, so)) := (HFIN.out hie).symm
      clear hno hye HFIN HNXT
      have HOF : Hid (w3.ownsRow w.heap.size 49 2 (.slice pv so.length cv) so.length (shVals so)) := by
        obtain ⟨h1, h2⟩ := HO.out
        refine ⟨h1, ?_⟩
        rcases h2 with h2 | ⟨g', cap, cur, e, hbb, rest⟩
        · exact Or.inl h2
        · exact Or.inr ⟨g', cap, cur, e, Nat.le_trans HB0.out.size hbb, rest⟩
      subst hie
      go_wp2
      go_ret2
      exact ⟨⟨.slice pv so.length cv, by rw [HE.out]; rfl, by rw [HE.out]; exact HOF.out⟩, HBW.out⟩
set_option maxRecDepth 10000 in
theorem rless_any (a b : Int × Int) (w : World) :
    Calls Tryz.prog 22 #[.agg #[.int .i64 a.1, .int .i64 a.2], .agg #[.int .i64 b.1, .int .i64 b.2]] w fun e w' => e = .returned (.bool (lessB a b)) ∧ Below w.heap.size w w' := by
  obtain ⟨a1, a2⟩ := a
  obtain ⟨b1, b2⟩ := b
  have HB : Hid (Below w.heap.size w ((w.alloc (.cells #[.int .i64 a1, .int .i64 a2] 30)).alloc (.cells #[.int .i64 b1, .int .i64 b2] 30))) := ((Below.refl _ _).alloc (Nat.le_refl _) _).alloc (by simp) _
  by_cases h1 : a1 < b1
  · have HE : Hid (lessB (a1, a2) (b1, b2) = true) := by show _ = _; unfold lessB; simp [h1]
    rw [HE.out]
    go_enter Tryz.func22, Tryz.ntmps22
    go_wp2
    go_ret
    exact ⟨rfl, HB.out⟩
  have d1 : decide (a1 < b1) = false := decide_eq_false h1
  by_cases h2 : a1 = b1
  · subst h2
    have HE : Hid (lessB (a1, a2) (a1, b2) = decide (a2 < b2)) := by show _ = _; unfold lessB; simp
    rw [HE.out]
    go_enter Tryz.func22, Tryz.ntmps22
    go_wp2
    go_ret
    exact ⟨rfl, HB.out⟩
  · have HE : Hid (lessB (a1, a2) (b1, b2) = false) := by show _ = _; unfold lessB; simp [h1, h2]
    rw [HE.out]
    have d2 : (a1 == b1) = false := by
      rw [beq_eq_false_iff_ne]
      exact h2
    go_enter Tryz.func22, Tryz.ntmps22
    go_wp2
    go_ret
    exact ⟨rfl, HB.out⟩
end Go.Proofs.YtpjeibicopgedaaGreatDoor
