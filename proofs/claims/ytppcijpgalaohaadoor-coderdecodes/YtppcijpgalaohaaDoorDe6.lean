/- Texts laid together. -/
import Derived.Test.YtppcijpgalaohaaDoorDe5
import Derived.Shelf.Strings.OnBuilder
namespace Go.Proofs
open Go.Shelf
def Tryd.lays156_ren : Go.Shelf.Ren := ⟨fun | 156 => 30 | 165 => 54 | 166 => 55 | 169 => 56 | 240 => 74 | 241 => 75 | 276 => 103 | 277 => 104 | n => n, fun | 31 => 41 | 9 => 9 | 3 => 3 | 4 => 4 | 0 => 0 | 20 => 20 | 72 => 83 | 76 => 85 | 70 => 81 | 37 => 58 | 75 => 27 | 127 => 109 | 164 => 110 | 5 => 5 | 80 => 87 | n => n, fun | n => n⟩
theorem Tryd.lays156 : Go.Proofs.Lays.n156 Tryd.prog Tryd.lays156_ren := {
  mixed := by kernel_rfl
  f156 := Tryd.func30.trans (congrArg some (by kernel_rfl))
  f165 := Tryd.func54.trans (congrArg some (by kernel_rfl))
  f166 := Tryd.func55.trans (congrArg some (by kernel_rfl))
  f169 := Tryd.func56.trans (congrArg some (by kernel_rfl))
  f240 := Tryd.func74.trans (congrArg some (by kernel_rfl))
  f241 := Tryd.func75.trans (congrArg some (by kernel_rfl))
  f276 := Tryd.func103.trans (congrArg some (by kernel_rfl))
  f277 := Tryd.func104.trans (congrArg some (by kernel_rfl))
  t0 := Tryd.underlying0
  a0 := Tryd.isAgg0
  z0 := Tryd.sizeOf0
  v0 := Tryd.zeroValue0
  t3 := Tryd.underlying3
  a3 := Tryd.isAgg3
  z3 := Tryd.sizeOf3
  v3 := Tryd.zeroValue3
  t4 := Tryd.underlying4
  a4 := Tryd.isAgg4
  z4 := Tryd.sizeOf4
  v4 := Tryd.zeroValue4
  t9 := Tryd.underlying9
  a9 := Tryd.isAgg9
  z9 := Tryd.sizeOf9
  v9 := Tryd.zeroValue9
  t20 := Tryd.underlying20
  a20 := Tryd.isAgg20
  z20 := Tryd.sizeOf20
  v20 := Tryd.zeroValue20
  t31 := Tryd.underlying41
  a31 := Tryd.isAgg41
  z31 := Tryd.sizeOf41
  v31 := Tryd.zeroValue41
  t37 := Tryd.underlying58
  a37 := Tryd.isAgg58
  z37 := Tryd.sizeOf58
  v37 := Tryd.zeroValue58
  t70 := Tryd.underlying81
  a70 := Tryd.isAgg81
  z70 := Tryd.sizeOf81
  v70 := Tryd.zeroValue81
  t72 := Tryd.underlying83
  a72 := Tryd.isAgg83
  z72 := Tryd.sizeOf83
  v72 := Tryd.zeroValue83
  t75 := Tryd.underlying27
  a75 := Tryd.isAgg27
  z75 := Tryd.sizeOf27
  v75 := Tryd.zeroValue27
  t76 := Tryd.underlying85
  a76 := Tryd.isAgg85
  z76 := Tryd.sizeOf85
  v76 := Tryd.zeroValue85
  t127 := Tryd.underlying109
  a127 := Tryd.isAgg109
  z127 := Tryd.sizeOf109
  v127 := Tryd.zeroValue109
  t164 := Tryd.underlying110
  a164 := Tryd.isAgg110
  z164 := Tryd.sizeOf110
  v164 := Tryd.zeroValue110 }
theorem Tryd.Builder_Extra_156 : Builder.Extra Tryd.prog Tryd.lays156_ren := {
  sizeBuilder := by kernel_rfl
  liesBuilder := by kernel_rfl
  t5 := Tryd.underlying5
  a5 := Tryd.isAgg5
  z5 := Tryd.sizeOf5
  v5 := Tryd.zeroValue5
  infoByte := by kernel_rfl
  cellsByte := by kernel_rfl
  sizeByte := by kernel_rfl
  neB5 := by decide }
open Go.RowKit in
/-- strings.Join, however many elements. -/
theorem Tryd.strings_Join (bk o c : Nat) (xs : List ByteArray) (sep : ByteArray) (w : World) (hcells : ∀ (j : Nat) x, xs[j]? = some x → w.cell? ⟨bk, o + j, none⟩ = some (.string x)) (hbk : bk < w.heap.size) (hN : xs.length ≤ 140737488355328) (hcap : xs.length ≤ c) (hlen : (Lib.join (xs.map (·.data.toList)) sep.data.toList).length ≤ 140737488355328) :
    Calls Tryd.prog 30 #[.slice (some ⟨bk, o, none⟩) xs.length c, .string sep] w fun e w' => e = .returned (.string ⟨(Lib.join (xs.map (·.data.toList)) sep.data.toList).toArray⟩) ∧ Below w.heap.size w w' := Any.strings_Join Tryd.lays156 Tryd.Builder_Extra_156 bk o c xs sep w hcells hbk hN hcap hlen
end Go.Proofs
namespace Go.Proofs.YtppcijpgalaohaaDoor
open Go.RowKit
set_option maxRecDepth 10000 in
theorem rsome_bound (n k size : Int) (v : Value) (w : World) (h : ¬ (1 ≤ k ∧ k ≤ n ∧ n ≤ 12 ∧ 0 ≤ size ∧ size ≤ 1000)) :
    Calls Tryd.prog 31 #[.int .i64 n, .int .i64 k, .int .i64 size, v] w fun e w' => e = .returned (.tuple #[.slice none 0 0, .int .i64 2]) ∧ w' = w := by
  have HH : Hid (¬ (1 ≤ k ∧ k ≤ n ∧ n ≤ 12 ∧ 0 ≤ size ∧ size ≤ 1000)) := h
  by_cases h1 : 1 ≤ k ∧ k ≤ n ∧ n ≤ 12
  · obtain ⟨k1, k2, k3⟩ := h1
    by_cases h2 : size < 0
    · clear h
      go_enter Tryd.func31, Tryd.ntmps31
      go_wp2_with fail
      refine (isSpread_yes n k _ k1 k2 k3).mono ?_
      rintro e w' ⟨rfl, hww⟩
      rw [hww]
      clear hww w'
      go_wp2
      go_ret2
      exact ⟨rfl, rfl⟩
    · have h3 : size > 1000 := Classical.byContradiction fun h3 => HH.out ⟨k1, k2, k3, by omega, by omega⟩
      clear h
      go_enter Tryd.func31, Tryd.ntmps31
      go_wp2_with fail
      refine (isSpread_yes n k _ k1 k2 k3).mono ?_
      rintro e w' ⟨rfl, hww⟩
      rw [hww]
      clear hww w'
      go_wp2
      go_ret2
      exact ⟨rfl, rfl⟩
  · have HN : Hid (¬ (1 ≤ k ∧ k ≤ n ∧ n ≤ 12)) := h1
    clear h h1
    go_enter Tryd.func31, Tryd.ntmps31
    go_wp2_with fail
    refine (isSpread_no n k _ HN.out).mono ?_
    rintro e w' ⟨rfl, hww⟩
    rw [hww]
    clear hww w'
    go_wp2
    go_ret2
    exact ⟨rfl, rfl⟩
/-- What Some answers, within the bounds. -/
def Somed (w' : World) (n k wd : Nat) (l : List (Int × ByteArray)) (v : Value) (c : Int) : Prop :=
  (c = 3 ∧ v = .slice none 0 0 ∧ l.any (badB (n : Int) wd) = true) ∨ (c = 8 ∧ v = .slice none 0 0 ∧ l.any (badB (n : Int) wd) = false ∧ (pickN k l l.length).length < k) ∨
    (c = 0 ∧ l.any (badB (n : Int) wd) = false ∧ (pickN k l l.length).length = k ∧ ∃ p c', v = .slice p k c' ∧ Shs w' p (pickN k l l.length))
theorem any_take_succ {l : List (Int × ByteArray)} {P : Int × ByteArray → Bool} {j : Nat} (h : j < l.length) : (l.take (j + 1)).any P = ((l.take j).any P || P (shAt l j)) := by
  rw [List.take_succ_eq_append_getElem h, List.any_append]
  have : shAt l j = l[j] := by
    unfold shAt
    rw [List.getD_eq_getElem?_getD, List.getElem?_eq_getElem h]
    rfl
  rw [this]
  simp
set_option maxRecDepth 10000 in
set_option maxHeartbeats 8000000 in
theorem rsome_any (n k size : Nat) (p : Option Addr) (l : List (Int × ByteArray)) (cap : Nat) (w : World) (hk1 : 1 ≤ k) (hkn : k ≤ n) (hn : n ≤ 12) (hsz : size ≤ 1000) (hl : l.length ≤ 1000) (ht : ∀ i, (shAt l i).2.size ≤ 100000) (hs : Shs w p l) :
    Calls Tryd.prog 31 #[.int .i64 (n : Int), .int .i64 (k : Int), .int .i64 (size : Int), .slice p l.length cap] w fun e w' => (∃ v c, e = .returned (.tuple #[v, .int .i64 c]) ∧ Somed w' n k (wideN k size) l v c) ∧ Below w.heap.size w w' := by
  obtain ⟨i1, hi1, hy0, hy1, hy2⟩ := info_parts shinfo
  have hwd := wideN_le (size := size) hk1
  have HWD : Hid (∀ W, Calls Tryd.prog 33 #[.int .i64 (k : Int), .int .i64 (size : Int)] W fun e w' => e = .returned (.int .i64 ((wideN k size : Nat) : Int)) ∧ w' = W) := fun W => rwide_any k size W hk1 (by omega) (by omega)
  have HS : Hid (Shs w p l) := hs
  clear hs
  generalize wideN k size = wd at *
  have g1 : decide ((size : Int) < 0) = false := decide_eq_false (by omega)
  have g2 : decide (1000 < (size : Int)) = false := decide_eq_false (by omega)
  go_enter Tryd.func31, Tryd.ntmps31
  go_wp2_with fail
  refine (isSpread_yes n k _ (by omega) (by omega) (by omega)).mono ?_
  rintro e w' ⟨rfl, hww⟩
  rw [hww]
  clear hww w'
  go_wp2
  go_loopw [11, 12] (fun v x wr => ∃ i : Nat, i ≤ l.length ∧ x = .int .i64 i ∧ wr.ownsRow w.heap.size 25 2 v (pickN k l i).length (shVals (pickN k l i)) ∧ (∀ j, j < i → badB (n : Int) wd (shAt l j) = false) ∧ Below w.heap.size w wr) (fun _ x _ => l.length - (intOf x).toNat)
  case atStart => exact ⟨0, by omega, rfl, World.ownsRow_nil _ _ _ _, fun j hj => absurd hj (Nat.not_lt_zero _), Below.refl _ _⟩
  case round =>
    obtain ⟨i, hi, rfl, hO, hG, hB⟩ := hrel
    obtain ⟨w3, rfl⟩ : ∃ w3, w3 = wr := ⟨_, rfl⟩
    obtain ⟨pv, cv, rfl, hsh⟩ := shs_of_own hO
    have HO : Hid (w3.ownsRow w.heap.size 25 2 (.slice pv (pickN k l i).length cv) (pickN k l i).length (shVals (pickN k l i))) := hO
    have HB : Hid (Below w.heap.size w w3) := hB
    have HSH : Hid (Shs w3 pv (pickN k l i)) := hsh
    have HG : Hid (∀ j, j < i → badB (n : Int) wd (shAt l j) = false) := hG
    have hz3 : w.heap.size ≤ w3.heap.size := hB.size
    have hle := pickN_le k l i
    clear hO hB hsh hG
    by_cases hil : i < l.length
    · rcases (HS.out.below HB.out) with h0 | ⟨b1, o1, rfl, hb1, hc1⟩
      · rw [h0] at hil; simp at hil
      obtain ⟨q1, q2⟩ := hc1 i hil
      have hti := ht i
      have HNX : Hid (∀ y t, shAt l i = (y, t) → True) := fun _ _ _ => trivial
      clear hc1 HNX
      by_cases hbad : badB (n : Int) wd (shAt l i) = true
      · have HANY : Hid (l.any (badB (n : Int) wd) = true) := any_of_at hil hbad
        have hcase : (shAt l i).1 < 0 ∨ 0 ≤ (shAt l i).1 ∧ n ≤ (shAt l i).1 ∨ 0 ≤ (shAt l i).1 ∧ (shAt l i).1 < n ∧ (shAt l i).2.size ≠ wd := by
          unfold badB at hbad
          simp only [Bool.or_eq_true, decide_eq_true_eq, Bool.not_eq_true', decide_eq_false_iff_not] at hbad
          omega
        clear hbad
        generalize (shAt l i).1 = x at *
        generalize (shAt l i).2 = t at *
        generalize pickN k l i = so at *
        rcases hcase with h1 | ⟨h0, h1⟩ | ⟨h0, h1, h2⟩
        · have hd : decide (x < 0) = true := decide_eq_true h1
          go_wp2
          go_quiet (fail)
          go_wp2
          go_ret2
          exact ⟨⟨_, 3, rfl, Or.inl ⟨rfl, rfl, HANY.out⟩⟩, below_drewN HB.out _⟩
        · have hd : decide (x < 0) = false := decide_eq_false (by omega)
          have hd2 : decide ((n : Int) ≤ x) = true := decide_eq_true h1
          go_wp2
          go_quiet (fail)
          go_wp2
          go_ret2
          exact ⟨⟨_, 3, rfl, Or.inl ⟨rfl, rfl, HANY.out⟩⟩, below_drewN HB.out _⟩
        · have hd : decide (x < 0) = false := decide_eq_false (by omega)
          have hd2 : decide ((n : Int) ≤ x) = false := decide_eq_false (by omega)
          have hd3 : ((t.size : Int) != (wd : Int)) = true := by rw [bne_iff_ne]; omega
          clear h2
          go_wp2
          go_quiet ((go_at_call 33; exact Calls.quiet_of_same (HWD.out _)))
          go_wp2
          go_ret2
          exact ⟨⟨_, 3, rfl, Or.inl ⟨rfl, rfl, HANY.out⟩⟩, below_drewN HB.out _⟩
      · have hbf : badB (n : Int) wd (shAt l i) = false := Bool.eq_false_iff.2 hbad
        have HBF : Hid (badB (n : Int) wd (shAt l i) = false) := hbf
        have hcase : 0 ≤ (shAt l i).1 ∧ (shAt l i).1 < n ∧ (shAt l i).2.size = wd := by
          unfold badB at hbf
          simp only [Bool.or_eq_false_iff, decide_eq_false_iff_not, Bool.not_eq_false', decide_eq_true_eq] at hbf
          omega
        obtain ⟨h0, h1, h2⟩ := hcase
        have hd : decide ((shAt l i).1 < 0) = false := decide_eq_false (by omega)
        have hd2 : decide ((n : Int) ≤ (shAt l i).1) = false := decide_eq_false (by omega)
        have hd3 : (((shAt l i).2.size : Int) != (wd : Int)) = false := by rw [h2]; simp
        have HPT : Hid ((pickN k l i).any (fun y => y.1 == (shAt l i).1) = true → pickN k l (i + 1) = pickN k l i) := fun h => pickN_twice h
        have HPF : Hid (¬ (pickN k l i).length < k → pickN k l (i + 1) = pickN k l i) := fun h => pickN_full h
        have HPY : Hid ((pickN k l i).length < k → (pickN k l i).any (fun y => y.1 == (shAt l i).1) = false → pickN k l (i + 1) = pickN k l i ++ [shAt l i]) := fun h1 h2 => pickN_yes h1 h2
        have HGN : Hid (∀ j, j < i + 1 → badB (n : Int) wd (shAt l j) = false) := fun j hj => by
          by_cases e : j = i
          · rw [e]; exact hbf
          · exact HG.out j (by omega)
        clear hbad hbf h2 HG HBF
        generalize hxt : shAt l i = xt at *
        clear hxt
        obtain ⟨x, t⟩ := xt
        dsimp only at q1 q2 hti h0 h1 hd hd2 hd3
        generalize pickN k l i = so at *
        go_wp2
        go_quiet ((go_at_call 33; exact Calls.quiet_of_same (HWD.out _)))
        have HB4 : Hid (Below w.heap.size w (w3.drewN nq)) := below_drewN HB.out _
        have HO4 : Hid ((w3.drewN nq).ownsRow w.heap.size 25 2 (.slice pv so.length cv) so.length (shVals so)) := World.ownsRow.kept HO.out (grownBy_drewN w3 nq none) (by cases hv : (Value.slice pv so.length cv).ownBlock <;> simp)
        have HSH4 : Hid (Shs (w3.drewN nq) pv so) := HSH.out.below (below_drewN (Below.refl _ _) _)
        have r1 : (w3.drewN nq).cell? ⟨b1, o1 + i * 2, none⟩ = some (.int .i64 x) := q1
        have r2 : (w3.drewN nq).cell? ⟨b1, o1 + i * 2 + 1, none⟩ = some (.string t) := q2
        have hb14 : b1 < (w3.drewN nq).heap.size := hb1
        have hz4 : w.heap.size ≤ (w3.drewN nq).heap.size := hz3
        clear q1 q2 HO HB HSH hb1 hz3 hd3
        generalize w3.drewN nq = w4 at *
        go_wp2
        go_loopw [13, 14] (fun b y wq => ∃ j : Nat, j ≤ so.length ∧ y = .int .i64 j ∧ b = .bool ((so.take j).any (fun y => y.1 == x)) ∧ Below w4.heap.size w4 wq) (fun _ y _ => so.length - (intOf y).toNat)
        case atStart => exact ⟨0, by omega, rfl, by simp, Below.refl _ _⟩
        case round =>
          obtain ⟨j, hj, rfl, rfl, hBq⟩ := hrel
          obtain ⟨w5, rfl⟩ : ∃ w5, w5 = wr := ⟨_, rfl⟩
          have HBq : Hid (Below w4.heap.size w4 w5) := hBq
          clear hBq
          have s1 : w5.cell? ⟨b1, o1 + i * 2, none⟩ = some (.int .i64 x) := (HBq.out.cell (p := ⟨b1, o1 + i * 2, none⟩) hb14).trans r1
          have s2 : w5.cell? ⟨b1, o1 + i * 2 + 1, none⟩ = some (.string t) := (HBq.out.cell (p := ⟨b1, o1 + i * 2 + 1, none⟩) hb14).trans r2
          by_cases hjl : j < so.length
          · rcases (HSH4.out.below HBq.out) with h9 | ⟨b2, o2, rfl, hb2, hc2⟩
            · rw [h9] at hjl; simp at hjl
            obtain ⟨u1, _⟩ := hc2 j hjl
            have HST : Hid ((so.take (j + 1)).any (fun y => y.1 == x) = ((so.take j).any (fun y => y.1 == x) || ((shAt so j).1 == x))) := any_take_succ hjl
            clear hc2
            generalize (so.take j).any (fun y => y.1 == x) = bb at *
            generalize (shAt so j).1 = y at *
            by_cases hyx : y = x
            · subst hyx
              go_wp2
              go_quiet (fail)
              go_wp2
              go_roundw
              case rel => exact ⟨j + 1, by omega, by go_num, by rw [HST.out]; simp, below_drewN HBq.out _⟩
              case measure => simp [intOf]; omega
            · have hyb : (y == x) = false := by simpa using hyx
              have HYB : Hid ((y == x) = false) := hyb
              clear hyx
              go_wp2
              go_quiet (fail)
              go_wp2
              go_roundw
              case rel => exact ⟨j + 1, by omega, by go_num, by rw [HST.out, HYB.out, Bool.or_false], below_drewN HBq.out _⟩
              case measure => simp [intOf]; omega
          · have hje : j = so.length := by omega
            have htk : so.take j = so := by rw [hje, List.take_length]
            rw [htk]
            clear htk
            have HB5 : Hid (Below w.heap.size w w5) := HB4.out.trans (HBq.out.mono hz4)
            have HO5 : Hid (w5.ownsRow w.heap.size 25 2 (.slice pv so.length cv) so.length (shVals so)) := World.ownsRow.kept HO4.out (below_grown HBq.out none) (by cases hv : (Value.slice pv so.length cv).ownBlock <;> simp)
            have hz5 : w.heap.size ≤ w5.heap.size := HB5.out.size
            by_cases hany : so.any (fun y => y.1 == x) = true
            · have HP := HPT.out hany
              have HPN : Hid (pickN k l (i + 1) = so) := HP
              rw [hany]
              clear hany HP hje
              go_wp2
              go_roundw
              case rel => exact ⟨i + 1, by omega, by go_num, by rw [HPN.out]; exact HO5.out, HGN.out, HB5.out⟩
              case measure => simp [intOf]; omega
            · have hany' : so.any (fun y => y.1 == x) = false := Bool.eq_false_iff.2 hany
              rw [hany']
              clear hany hje
              by_cases hlt : so.length < k
              · have HPN : Hid (pickN k l (i + 1) = so ++ [(x, t)]) := HPY.out hlt hany'
                clear hany' HPT HPF HPY
                go_wp2_with (first | (at_builtin; refine wpList_append_own _ rfl (.tmp 86) (.tmp 91) 22 rfl w.heap.size 25 i1 (.agg #[.int .i64 0, .string ⟨#[]⟩]) 2 24 Tryd.underlying22 hi1 hy0 hy1 hy2 rfl (by decide) (.slice pv so.length cv) so.length (shVals so) rfl (World.ownsRow.alloc HO5.out _) ⟨w5.heap.size, 0, none⟩ 1 1 [.int .i64 x, .string t] rfl rfl (fun j u hj => by match j, hj with | 0, hj => (simp at hj; subst hj; simp [Addr.add]) | 1, hj => (simp at hj; subst hj; simp [Addr.add])) (fun u hu => by simp at hu; rcases hu with rfl | rfl <;> rfl) (by unfold maxLen; omega) (by omega) (by simp; omega) ?_; intro v' w8 hown' hg' _))
                have hb8 : Below w.heap.size w w8 := (HB5.out.alloc (by omega) _).grown hg' (by simp; omega) (fun g hg => (World.ownsRow.lt HO5.out g hg).1)
                go_roundw
                case rel => exact ⟨i + 1, by omega, by go_num, by rw [HPN.out, shVals_snoc, List.length_append, List.length_singleton]; exact hown', HGN.out, hb8⟩
                case measure => simp [intOf]; omega
              · have HPN : Hid (pickN k l (i + 1) = so) := HPF.out hlt
                clear hany' HPT HPF HPY
                go_wp2
                go_roundw
                case rel => exact ⟨i + 1, by omega, by go_num, by rw [HPN.out]; exact HO5.out, HGN.out, HB5.out⟩
                case measure => simp [intOf]; omega
    · have hie : i = l.length := by omega
      subst hie
      have HNB : Hid (l.any (badB (n : Int) wd) = false) := none_of_at fun j hj => HG.out j hj
      by_cases hlt : (pickN k l l.length).length < k
      · go_wp2
        go_ret2
        exact ⟨⟨_, 8, rfl, Or.inr (Or.inl ⟨rfl, rfl, HNB.out, hlt⟩)⟩, HB.out⟩
      · have HEQ : Hid ((pickN k l l.length).length = k) := by show _ = _; omega
        go_wp2
        go_ret2
        exact ⟨⟨.slice pv (pickN k l l.length).length cv, 0, rfl, Or.inr (Or.inr ⟨rfl, HNB.out, HEQ.out, pv, cv, by rw [HEQ.out], HSH.out⟩)⟩, HB.out⟩
set_option maxRecDepth 10000 in
theorem decode2_any (ps j c : Nat) (q : Option Addr) (cq : Nat) (so : List (Int × ByteArray)) (w : World) (hj : j < so.length) (hc : c < (shAt so j).2.size) (hp : w.cell? ⟨ps, 0, none⟩ = some (.slice q so.length cq)) (hs : Shs w q so) :
    Calls Tryd.prog 29 (#[.int .i64 (j : Int), .int .i64 (c : Int)] ++ #[.pointer (some ⟨ps, 0, none⟩)]) w fun e w2 => e = .returned (.int .u8 ((txtN so j c : Nat) : Int)) ∧ w2 = w := by
  rcases hs with h0 | ⟨b, o, rfl, _, hcs⟩
  · rw [h0] at hj; simp at hj
  obtain ⟨_, q2⟩ := hcs j hj
  have hix := run_idx (shAt so j).2 c hc
  have HT : Hid (txtN so j c = Gf.nth (bytesOf (shAt so j).2) c) := by show _ = _; rfl
  rw [HT.out]
  clear hcs HT
  generalize (shAt so j).2 = t at q2 hix hc ⊢
  generalize Gf.nth (bytesOf t) c = y at hix ⊢
  go_enter Tryd.func29, Tryd.ntmps29
  go_wp2
  go_ret
  exact ⟨rfl, rfl⟩
theorem nth_ats {so : List (Int × ByteArray)} {i : Nat} (hi : i < so.length) : Gf.nth (atsN so) i = (shAt so i).1.toNat := by
  show (so.map _).getD i 0 = (so.getD i _).1.toNat
  rw [List.getD_eq_getElem?_getD, List.getD_eq_getElem?_getD, List.getElem?_map, List.getElem?_eq_getElem hi]
  rfl
theorem vec_picked {k : Nat} {X : List Nat} (hX : X.length = k) {i j : Nat} (hi : i < k) (hj : j < k) : vec (X.map (sprRow k)) i j = sprX k X i j := by
  have hr : rowOf (X.map (sprRow k)) i = sprRow k (Gf.nth X i) := by
    show (X.map _).getD i [] = _
    rw [List.getD_eq_getElem?_getD, List.getElem?_map, List.getElem?_eq_getElem (by omega), Gf.nth_getElem X i (by omega)]
    rfl
  show toF (Gf.nth (rowOf (X.map (sprRow k)) i) j) = _
  rw [hr]
  unfold sprRow
  rw [nth_rowFn _ _ j hj]
  rfl
/-- Rows of Spread that are picked lie as a matrix. -/
theorem picked_mat {w : World} {g k n : Nat} {X : List Nat} {rb ro rc : Nat → Nat} (hX : X.length = k) (hlt : ∀ x ∈ X, x < n) (h : w.rowIs g 58 k (fun i => .slice (some ⟨rb (Gf.nth X i), ro (Gf.nth X i), none⟩) k (rc (Gf.nth X i)))) (hs : ∀ x, x < n → Seg w (some ⟨rb x, ro x, none⟩) (sprRow k x)) : Mat w (some ⟨g, 0, none⟩) (X.map (sprRow k)) := by
  refine Or.inr ⟨g, 0, rfl, h.lt, fun i hi => ?_⟩
  have hi' : i < X.length := by simpa using hi
  have hr : rowOf (X.map (sprRow k)) i = sprRow k (Gf.nth X i) := by
    show (X.map _).getD i [] = _
    rw [List.getD_eq_getElem?_getD, List.getElem?_map, List.getElem?_eq_getElem hi', Gf.nth_getElem X i hi']
    rfl
  have hm : Gf.nth X i ∈ X := by rw [Gf.nth_getElem X i hi']; exact List.getElem_mem _
  rw [hr, Nat.zero_add]
  refine ⟨some ⟨rb (Gf.nth X i), ro (Gf.nth X i), none⟩, rc (Gf.nth X i), ?_, hs _ (hlt _ hm), fun e => by cases e⟩
  rw [h.cell (by omega)]
  unfold sprRow
  rw [rowFn_length]
/-- What is asked of shards that fit. -/
structure Fits (n k size : Nat) (l : List (Int × ByteArray)) : Prop where
  good : l.any (badB (n : Int) (wideN k size)) = false
  enough : (pickN k l l.length).length = k
theorem Fits.at_ {n k size : Nat} {l : List (Int × ByteArray)} (h : Fits n k size l) {x : Int × ByteArray} (hx : x ∈ l) : 0 ≤ x.1 ∧ x.1 < n ∧ x.2.size = wideN k size := by
  have := List.any_eq_false.1 h.good x hx
  unfold badB at this
  simp only [Bool.or_eq_true, decide_eq_true_eq, Bool.not_eq_true', decide_eq_false_iff_not] at this
  omega
theorem Fits.ats {n k size : Nat} {l : List (Int × ByteArray)} (h : Fits n k size l) : (∀ x ∈ atsN (pickN k l l.length), x < n) ∧ (atsN (pickN k l l.length)).Nodup ∧ (atsN (pickN k l l.length)).length = k := by
  refine ⟨fun x hx => ?_, ?_, by unfold atsN; rw [List.length_map]; exact h.enough⟩
  · obtain ⟨y, hy, rfl⟩ := List.mem_map.1 hx
    have := h.at_ (pickN_sub k l l.length (Nat.le_refl _) y hy)
    omega
  · have hn := pickN_nodup k l l.length
    have e : atsN (pickN k l l.length) = ((pickN k l l.length).map Prod.fst).map Int.toNat := by
      unfold atsN
      rw [List.map_map]
      rfl
    rw [e]
    refine List.Pairwise.map (R := fun a b : Int => a ≠ b ∧ 0 ≤ a ∧ 0 ≤ b) _ (fun a b hab e => hab.1 (by have := hab.2; omega)) (List.Pairwise.imp_of_mem (fun ha hb hab => ?_) hn)
    · obtain ⟨y, hy, rfl⟩ := List.mem_map.1 ha
      obtain ⟨y', hy', rfl⟩ := List.mem_map.1 hb
      exact ⟨hab, (h.at_ (pickN_sub k l l.length (Nat.le_refl _) y hy)).1, (h.at_ (pickN_sub k l l.length (Nat.le_refl _) y' hy')).1⟩
/-- Three numbers, each in a block of its own. -/
structure Box3 (w : World) (b n k size : Nat) : Prop where
  c0 : w.cell? ⟨b, 0, none⟩ = some (.int .i64 (n : Int))
  c1 : w.cell? ⟨b + 1, 0, none⟩ = some (.int .i64 (k : Int))
  c2 : w.cell? ⟨b + 1 + 1, 0, none⟩ = some (.int .i64 (size : Int))
theorem Box3.below {w w' : World} {b n k size : Nat} (h : Box3 w b n k size) (hb : Below w.heap.size w w') : Box3 w' b n k size :=
  ⟨(hb.cell (lt_of_cell h.c0)).trans h.c0, (hb.cell (lt_of_cell h.c1)).trans h.c1, (hb.cell (lt_of_cell h.c2)).trans h.c2⟩
theorem box3_made (w : World) (n k size : Nat) (t : TypeId) : Box3 (((w.alloc (.cells #[.int .i64 (n : Int)] t)).alloc (.cells #[.int .i64 (k : Int)] t)).alloc (.cells #[.int .i64 (size : Int)] t)) w.heap.size n k size := by
  have e1 : (w.alloc (.cells #[.int .i64 (n : Int)] t)).heap.size = w.heap.size + 1 := by simp
  have e2 : ((w.alloc (.cells #[.int .i64 (n : Int)] t)).alloc (.cells #[.int .i64 (k : Int)] t)).heap.size = w.heap.size + 1 + 1 := by simp
  have b1 : Below (w.alloc (.cells #[.int .i64 (n : Int)] t)).heap.size (w.alloc (.cells #[.int .i64 (n : Int)] t)) ((w.alloc (.cells #[.int .i64 (n : Int)] t)).alloc (.cells #[.int .i64 (k : Int)] t)) := (Below.refl _ _).alloc (Nat.le_refl _) _
  have b2 : Below ((w.alloc (.cells #[.int .i64 (n : Int)] t)).alloc (.cells #[.int .i64 (k : Int)] t)).heap.size ((w.alloc (.cells #[.int .i64 (n : Int)] t)).alloc (.cells #[.int .i64 (k : Int)] t)) (((w.alloc (.cells #[.int .i64 (n : Int)] t)).alloc (.cells #[.int .i64 (k : Int)] t)).alloc (.cells #[.int .i64 (size : Int)] t)) := (Below.refl _ _).alloc (Nat.le_refl _) _
  refine ⟨?_, ?_, ?_⟩
  · rw [b2.cell (p := ⟨w.heap.size, 0, none⟩) (by show w.heap.size < _; omega), b1.cell (p := ⟨w.heap.size, 0, none⟩) (by show w.heap.size < _; omega), World.cell?_alloc_at _ _ _ _ rfl]; rfl
  · rw [b2.cell (p := ⟨w.heap.size + 1, 0, none⟩) (by show w.heap.size + 1 < _; omega), World.cell?_alloc_at _ _ _ _ e1.symm]; rfl
  · rw [World.cell?_alloc_at _ _ _ _ e2.symm]; rfl
theorem rowsinfo : (Tryd.prog.info? 58).map (fun i => (i.zero, i.size, i.bytes)) = some (some (.slice none 0 0), 1, 24) := by kernel_rfl
set_option maxRecDepth 10000 in
set_option maxHeartbeats 8000000 in
theorem decode_ok (n k size : Nat) (p : Option Addr) (l : List (Int × ByteArray)) (cap : Nat) (z : Addr) (w : World) (hk1 : 1 ≤ k) (hkn : k ≤ n) (hn : n ≤ 12) (hsz : size ≤ 1000) (hl : l.length ≤ 1000) (hf : Fits n k size l) (hs : Shs w p l)
    (hz : w.cell? ⟨3, 0, none⟩ = some (.iface 200 (.pointer (some z)))) :
    Calls Tryd.prog 7 #[.int .i64 (n : Int), .int .i64 (k : Int), .int .i64 (size : Int), .slice p l.length cap] w fun e w' => e = .returned (.tuple #[.string (decT k size (pickN k l l.length)), .nilIface]) ∧ Below w.heap.size w w' := by
  have hwd := wideN_le (size := size) hk1
  have HSZ : Hid (∀ x ∈ pickN k l l.length, 0 ≤ x.1 ∧ x.1 < n ∧ x.2.size = wideN k size) := fun x hx => hf.at_ (pickN_sub k l l.length (Nat.le_refl _) x hx)
  have HGOOD : Hid (l.any (badB (n : Int) (wideN k size)) = false) := hf.good
  have HMUL : Hid (size ≤ k * wideN k size) := wide_mul hk1
  have HX : Hid ((∀ x ∈ atsN (pickN k l l.length), x < n) ∧ (atsN (pickN k l l.length)).Nodup ∧ (atsN (pickN k l l.length)).length = k) := hf.ats
  have HLEN : Hid ((pickN k l l.length).length = k) := hf.enough
  have HFI : Hid (∀ W, Shs W p l → Calls Tryd.prog 25 #[.int .i64 (k : Int), .slice p l.length cap] W fun e w' => (∃ p' c', e = .returned (.slice p' k c') ∧ Shs w' p' (pickN k l l.length)) ∧ Below W.heap.size W w') := fun W hW => by
    have h := first_any k p l cap W (by omega) hl hW
    rw [HLEN.out] at h
    exact h
  have HWD : Hid (∀ W, Calls Tryd.prog 28 #[.int .i64 (size : Int), .int .i64 (k : Int)] W fun e w' => e = .returned (.int .i64 ((wideN k size : Nat) : Int)) ∧ w' = W) := fun W => width_any size k W hk1 (by omega) (by omega)
  have HDT : Hid (decT k size (pickN k l l.length) = strOf (rowFn size fun p => rsumN (invN (atsN (pickN k l l.length))) (txtN (pickN k l l.length)) (p / wideN k size) (p % wideN k size) k)) := by show _ = _; rfl
  have HD1 : Hid (∀ y t W, W.cell? ⟨w.heap.size, 0, none⟩ = some (.int .i64 (n : Int)) → W.cell? ⟨w.heap.size + 1, 0, none⟩ = some (.int .i64 (k : Int)) → W.cell? ⟨w.heap.size + 1 + 1, 0, none⟩ = some (.int .i64 (size : Int)) → Calls Tryd.prog 23 (#[.agg #[.int .i64 y, .string t]] ++ #[.pointer (some ⟨w.heap.size, 0, none⟩), .pointer (some ⟨w.heap.size + 1, 0, none⟩), .pointer (some ⟨w.heap.size + 1 + 1, 0, none⟩)]) W fun e w2 => e = .returned (.bool (badB (n : Int) (wideN k size) (y, t))) ∧ Below W.heap.size W w2) := fun y t W h0 h1 h2 => decode1_any w.heap.size (w.heap.size + 1) (w.heap.size + 1 + 1) n k size y t W hk1 hkn hn hsz h0 h1 h2
  clear hf
  generalize decT k size (pickN k l l.length) = dt at HDT ⊢
  generalize wideN k size = wd at *
  generalize pickN k l l.length = so at *
  obtain ⟨w1, hw1⟩ : ∃ w1, w1 = (((w.alloc (.cells #[.int .i64 (n : Int)] 3)).alloc (.cells #[.int .i64 (k : Int)] 3)).alloc (.cells #[.int .i64 (size : Int)] 3)) := ⟨_, rfl⟩
  have hb1 : Below w.heap.size w w1 := by rw [hw1]; exact (((Below.refl _ _).alloc (Nat.le_refl _) _).alloc (by simp) _).alloc (by simp; omega) _
  have hp1 : Box3 w1 w.heap.size n k size := by rw [hw1]; exact box3_made w n k size _
  have p0 := hp1.c0
  have p1 := hp1.c1
  have p2 := hp1.c2
  have HP1 : Hid (Box3 w1 w.heap.size n k size) := hp1
  have hz1 : w1.cell? ⟨3, 0, none⟩ = some (.iface 200 (.pointer (some z))) := (hb1.cell (p := ⟨3, 0, none⟩) (lt_of_cell hz)).trans hz
  have HS := spreadOf_ok n k size z w1 hk1 hkn hn hsz hz1
  have HW1 : Hid (w1 = (((w.alloc (.cells #[.int .i64 (n : Int)] 3)).alloc (.cells #[.int .i64 (k : Int)] 3)).alloc (.cells #[.int .i64 (size : Int)] 3))) := hw1
  have HB1 : Hid (Below w.heap.size w w1) := hb1
  have HL1 : Hid (Shs w1 p l) := hs.below hb1
  have HZ1 : Hid (w1.cell? ⟨3, 0, none⟩ = some (.iface 200 (.pointer (some z)))) := hz1
  obtain ⟨i1, hi1, hy0, hy1, hyb⟩ := info_parts rowsinfo
  have hmk : ∀ W : World, Sem.run Tryd.prog (Instr.makeSlice 51 (.int .i64 (k : Int)) (.int .i64 (k : Int))) W = .ok (.slice (some ⟨W.heap.size, 0, none⟩) k k) (W.alloc (.cells (madeCells #[.slice none 0 0] k) 58)) := fun W => run_make_row (P := Tryd.prog) 51 58 i1 (.slice none 0 0) Tryd.underlying51 hi1 hy0 hy1 rfl .i64 .i64 k (by rw [hyb]; omega) (by omega) W
  clear hw1 hb1 hz hz1 hs hi1 hy0 hy1 hyb hp1
  go_enter Tryd.func7, Tryd.ntmps7
  go_wp2_with (rw [← HW1.out])
  refine HS.mono ?_
  rintro e w2 ⟨⟨gm, rfl, hm2⟩, hb2⟩
  have hs2 : w1.heap.size ≤ w2.heap.size := hb2.size
  have hp2 := HP1.out.below hb2
  have HP2 : Hid (Box3 w2 w.heap.size n k size) := hp2
  have q0 := hp2.c0
  have q1 := hp2.c1
  have q2 := hp2.c2
  have HM2 : Hid (Mat w2 (some ⟨gm, 0, none⟩) (spreadM k n)) := hm2
  have HB2 : Hid (Below w.heap.size w w2) := HB1.out.trans (hb2.mono HB1.out.size)
  have HL2 : Hid (Shs w2 p l) := HL1.out.below hb2
  have HZ2 : Hid (w2.cell? ⟨3, 0, none⟩ = some (.iface 200 (.pointer (some z)))) := (hb2.cell (p := ⟨3, 0, none⟩) (lt_of_cell HZ1.out)).trans HZ1.out
  have HA : Asks w2 23 #[.pointer (some ⟨w.heap.size, 0, none⟩), .pointer (some ⟨w.heap.size + 1, 0, none⟩), .pointer (some ⟨w.heap.size + 1 + 1, 0, none⟩)] l (badB (n : Int) wd) := fun i hi w4 h4 => by
    have hx := HD1.out (shAt l i).1 (shAt l i).2 w4 ((hp2.below h4).c0) ((hp2.below h4).c1) ((hp2.below h4).c2)
    exact hx
  have HC := contains_any p l cap 23 #[.pointer (some ⟨w.heap.size, 0, none⟩), .pointer (some ⟨w.heap.size + 1, 0, none⟩), .pointer (some ⟨w.heap.size + 1 + 1, 0, none⟩)] (badB (n : Int) wd) w2 (by omega) HL2.out (enters_of Tryd.func23 (by kernel_rfl) rfl) HA
  rw [HGOOD.out] at HC
  clear HS hm2 hb2 HB1 HW1 HP1 p0 p1 p2 HL1 HZ1 hp2 HA HGOOD HD1
  go_wp2_with fail
  refine HC.mono ?_
  rintro e w4 ⟨rfl, hb4⟩
  have hz4 : w2.heap.size ≤ w4.heap.size := hb4.size
  have HB4 : Hid (Below w.heap.size w w4) := HB2.out.trans (hb4.mono HB2.out.size)
  have HM4 : Hid (Mat w4 (some ⟨gm, 0, none⟩) (spreadM k n)) := HM2.out.below hb4
  have HZ4 : Hid (w4.cell? ⟨3, 0, none⟩ = some (.iface 200 (.pointer (some z)))) := (hb4.cell (p := ⟨3, 0, none⟩) (lt_of_cell HZ2.out)).trans HZ2.out
  have hp4 := HP2.out.below hb4
  have HP4 : Hid (Box3 w4 w.heap.size n k size) := hp4
  have HF4 := HFI.out w4 (HL2.out.below hb4)
  clear q0 q1 q2
  have q1 := hp4.c1
  clear HC hb4 HB2 HL2 HM2 HZ2 HP2 HFI hp4
  go_wp2_with fail
  refine HF4.mono ?_
  rintro e w5 ⟨⟨p5, c5, rfl, hs5⟩, hb5⟩
  have hz5 : w4.heap.size ≤ w5.heap.size := hb5.size
  obtain ⟨w6, hw6⟩ : ∃ w6, w6 = w5.alloc (.cells #[.slice p5 k c5] 22) := ⟨_, rfl⟩
  have hb6 : Below w5.heap.size w5 w6 := by rw [hw6]; exact (Below.refl _ _).alloc (Nat.le_refl _) _
  have hs6 : w5.heap.size < w6.heap.size := by rw [hw6]; simp
  have hb46 : Below w4.heap.size w4 w6 := hb5.trans (hb6.mono hz5)
  have HB6 : Hid (Below w.heap.size w w6) := HB4.out.trans (hb46.mono HB4.out.size)
  have HS6 : Hid (Shs w6 p5 so) := hs5.below hb6
  have hbx6 : w6.cell? ⟨w5.heap.size, 0, none⟩ = some (.slice p5 k c5) := by rw [hw6, World.cell?_alloc_at _ _ _ _ rfl]; rfl
  have hp6 := HP4.out.below hb46
  have r1 := hp6.c1
  have HZ6 : Hid (w6.cell? ⟨3, 0, none⟩ = some (.iface 200 (.pointer (some z)))) := (hb46.cell (p := ⟨3, 0, none⟩) (lt_of_cell HZ4.out)).trans HZ4.out
  obtain ⟨rb, ro, rc, hgm, hrows⟩ := spread_rows (HM4.out.below hb46) (by omega) hk1
  have HROWS : Hid (∀ i, i < n → w6.cell? ⟨gm, i, none⟩ = some (.slice (some ⟨rb i, ro i, none⟩) k (rc i)) ∧ Seg w6 (some ⟨rb i, ro i, none⟩) (sprRow k i)) := hrows
  have HW6 : Hid (w6 = w5.alloc (.cells #[.slice p5 k c5] 22)) := hw6
  have HP6 : Hid (Box3 w6 w.heap.size n k size) := hp6
  have HBX6 : Hid (w6.cell? ⟨w5.heap.size, 0, none⟩ = some (.slice p5 k c5)) := hbx6
  clear HF4 hb5 hb6 hb46 hs5 hw6 hrows HM4 HZ4 HB4 HP4 hp6 q1
  rcases HS6.out with h0 | ⟨b5, o5, hp5, hlb5, hc5⟩
  · exact absurd HLEN.out (by rw [h0]; simp; omega)
  subst hp5
  have hr7 : (w6.alloc (.cells (madeCells #[.slice none 0 0] k) 58)).rowIs w6.heap.size 58 k (fun _ => .slice none 0 0) := World.rowIs_made w6 _ k _
  have hb7 : Below w6.heap.size w6 (w6.alloc (.cells (madeCells #[.slice none 0 0] k) 58)) := (Below.refl _ _).alloc (Nat.le_refl _) _
  have HC5 : Hid (∀ i, i < so.length → w6.cell? ⟨b5, o5 + i * 2, none⟩ = some (.int .i64 (shAt so i).1) ∧ w6.cell? ⟨b5, o5 + i * 2 + 1, none⟩ = some (.string (shAt so i).2)) := hc5
  clear hc5
  go_wp2_with (rw [← HW6.out])
  generalize w6.alloc (.cells (madeCells #[.slice none 0 0] k) 58) = w7 at hr7 hb7 ⊢
  have HR7 : Hid (w7.rowIs (w6.heap.size) 58 k (fun _ => .slice none 0 0)) := hr7
  have HB7 : Hid (Below w6.heap.size w6 w7) := hb7
  clear hr7 hb7 hmk r1 hbx6
  go_loopw [44] (fun x wr => ∃ i : Nat, i ≤ k ∧ x = .int .i64 i ∧ wr.rowIs (w6.heap.size) 58 k (fun q => if q < i then .slice (some ⟨rb (Gf.nth (atsN so) q), ro (Gf.nth (atsN so) q), none⟩) k (rc (Gf.nth (atsN so) q)) else .slice none 0 0) ∧ Below w6.heap.size w6 wr) (fun x _ => k - (intOf x).toNat)
  case atStart => exact ⟨0, by omega, rfl, HR7.out.congr (fun q _ => by simp), HB7.out⟩
  case round =>
    obtain ⟨i, hi, rfl, hR, hB⟩ := hrel
    obtain ⟨w8, rfl⟩ : ∃ w8, w8 = wr := ⟨_, rfl⟩
    have HR : Hid (w8.rowIs (w6.heap.size) 58 k (fun q => if q < i then .slice (some ⟨rb (Gf.nth (atsN so) q), ro (Gf.nth (atsN so) q), none⟩) k (rc (Gf.nth (atsN so) q)) else .slice none 0 0)) := hR
    have HB : Hid (Below w6.heap.size w6 w8) := hB
    have hgt : w6.heap.size < w8.heap.size := hR.lt
    clear hR hB HR7 HB7
    by_cases hil : i < k
    · have hm : shAt so i ∈ so := shAt_mem (by rw [HLEN.out]; exact hil)
      have hx := HSZ.out _ hm
      have hnx : Gf.nth (atsN so) i = (shAt so i).1.toNat := nth_ats (by rw [HLEN.out]; exact hil)
      have hxe : (shAt so i).1 = ((Gf.nth (atsN so) i : Nat) : Int) := by rw [hnx]; omega
      have hxn : Gf.nth (atsN so) i < n := by rw [hnx]; omega
      have q1 : w8.cell? ⟨b5, o5 + i * 2, none⟩ = some (.int .i64 ((Gf.nth (atsN so) i : Nat) : Int)) := by
        rw [HB.out.cell (p := ⟨b5, o5 + i * 2, none⟩) hlb5, (HC5.out i (by rw [HLEN.out]; exact hil)).1, hxe]
      have q2 : w8.cell? ⟨b5, o5 + i * 2 + 1, none⟩ = some (.string (shAt so i).2) := by
        rw [HB.out.cell (p := ⟨b5, o5 + i * 2 + 1, none⟩) hlb5, (HC5.out i (by rw [HLEN.out]; exact hil)).2]
      have q3 : w8.cell? ⟨gm, Gf.nth (atsN so) i, none⟩ = some (.slice (some ⟨rb (Gf.nth (atsN so) i), ro (Gf.nth (atsN so) i), none⟩) k (rc (Gf.nth (atsN so) i))) := by
        rw [HB.out.cell (p := ⟨gm, Gf.nth (atsN so) i, none⟩) hgm, (HROWS.out _ hxn).1]
      have q4 : w8.cell? ⟨w6.heap.size, i, none⟩ = some (.slice none 0 0) := by rw [HR.out.cell hil, if_neg (Nat.lt_irrefl _)]
      have q5 : w8.frozen? ⟨w6.heap.size, i, none⟩ = false := HR.out.frozen i
      have HXE : Hid (Gf.nth (atsN so) i = Gf.nth (atsN so) i) := by show _ = _; rfl
      have hgm8 : gm < w8.heap.size := by have := HB.out.size; omega
      clear hnx hxe hx hm
      generalize hxx : Gf.nth (atsN so) i = x at q1 q3 hxn
      have HXX : Hid (Gf.nth (atsN so) i = x) := hxx
      clear hxx HXE
      go_wp2
      go_roundw
      case rel =>
        refine ⟨i + 1, by omega, by go_num, ?_, ?_⟩
        · refine ((HR.out.set i _).alloc _).congr (fun q _ => ?_)
          by_cases e : q = i
          · rw [if_pos e, if_pos (by omega), e, HXX.out]
          · rw [if_neg e]
            by_cases e' : q < i
            · rw [if_pos e', if_pos (by omega)]
            · rw [if_neg e', if_neg (by omega)]
        · exact (HB.out.setCell (Nat.le_refl _) _).alloc (by simp [World.setCell]; exact HB.out.size) _
      case measure => simp [intOf]; omega
    · have hie : i = k := by omega
      subst hie
      have hR8 : w8.rowIs (w6.heap.size) 58 i (fun q => .slice (some ⟨rb (Gf.nth (atsN so) q), ro (Gf.nth (atsN so) q), none⟩) i (rc (Gf.nth (atsN so) q))) := HR.out.congr (fun q hq => by rw [if_pos hq])
      have hM8 : Mat w8 (some ⟨w6.heap.size, 0, none⟩) ((atsN so).map (sprRow i)) := picked_mat HX.out.2.2 HX.out.1 hR8 (fun x hx => (HROWS.out x hx).2.below HB.out)
      have hz8 : w8.cell? ⟨3, 0, none⟩ = some (.iface 200 (.pointer (some z))) := (HB.out.cell (p := ⟨3, 0, none⟩) (lt_of_cell HZ6.out)).trans HZ6.out
      have hml : ((atsN so).map (sprRow i)).length = i := by rw [List.length_map]; exact HX.out.2.2
      have hM : IsMat ((atsN so).map (sprRow i)) := picked_isMat hk1 (by omega) HX.out.2.2
      have hr0 : (rowOf ((atsN so).map (sprRow i)) 0).length = i := by
        have h0 : rowOf ((atsN so).map (sprRow i)) 0 = sprRow i (Gf.nth (atsN so) 0) := by
          show ((atsN so).map _).getD 0 [] = _
          rw [List.getD_eq_getElem?_getD, List.getElem?_map, List.getElem?_eq_getElem (by rw [HX.out.2.2]; omega), Gf.nth_getElem _ 0 (by rw [HX.out.2.2]; omega)]
          rfl
        rw [h0]
        exact rowFn_length _ _
      have HI := invert_ok (some ⟨w6.heap.size, 0, none⟩) ((atsN so).map (sprRow i)) i z w8 hM (by rw [hr0, hml]) (picked_bytes i (atsN so)) hM8 hz8
      have hrk := picked_rank hn HX.out.2.2 HX.out.2.1 HX.out.1 hkn
      unfold Inverted at HI
      rw [hml] at HI
      have HRK : Hid (Lin.IsRank i i (vec ((atsN so).map (sprRow i))) i) := hrk
      have HB8 : Hid (Below w.heap.size w w8) := HB6.out.trans (HB.out.mono HB6.out.size)
      have HP8 : Hid (Box3 w8 w.heap.size n i size) := HP6.out.below HB.out
      have HBX8 : Hid (w8.cell? ⟨w5.heap.size, 0, none⟩ = some (.slice (some ⟨b5, o5, none⟩) i c5)) := (HB.out.cell (p := ⟨w5.heap.size, 0, none⟩) hs6).trans HBX6.out
      have HS8 : Hid (Shs w8 (some ⟨b5, o5, none⟩) so) := HS6.out.below HB.out
      clear hR8 hM8 hz8 hml hM hr0 hrk HR HB HC5 HROWS HB6 HS6 HZ6 HP6 HBX6 HW6
      go_wp2_with fail
      refine HI.mono ?_
      rintro e w9 ⟨⟨d, hd, hcase⟩, hb9⟩
      have hdk : d = i := Lin.rank_unique hd HRK.out
      rcases hcase with ⟨hlt, _⟩ | ⟨_, g2, x, rfl, hm9, hx, hinv⟩
      · omega
      have HXI : Hid (∀ a b, a < i → b < i → x a b = invN (atsN so) a b) := inv_unique (fun j => by
          by_cases hj : j < (atsN so).length
          · have := HX.out.1 (Gf.nth (atsN so) j) (by rw [Gf.nth_getElem _ j hj]; exact List.getElem_mem _)
            omega
          · rw [nth_past (by omega)]; decide) HX.out.2.1 HX.out.2.2 (by omega) hx (fun a b ha hb => by
            rw [← hinv a b ha hb]
            exact Lin.mm_congr i (fun _ _ => rfl) (fun t ht => (vec_picked HX.out.2.2 ht hb).symm))
      have hz9 : w8.heap.size ≤ w9.heap.size := hb9.size
      have hp9 := HP8.out.below hb9
      have HP9 : Hid (Box3 w9 w.heap.size n i size) := hp9
      have s1 := hp9.c1
      have s2 := hp9.c2
      have hbx9 : w9.cell? ⟨w5.heap.size, 0, none⟩ = some (.slice (some ⟨b5, o5, none⟩) so.length c5) := by rw [HLEN.out]; exact (hb9.cell (p := ⟨w5.heap.size, 0, none⟩) (lt_of_cell HBX8.out)).trans HBX8.out
      have hs9 : Shs w9 (some ⟨b5, o5, none⟩) so := HS8.out.below hb9
      have HTE : Tells w9 29 #[.pointer (some ⟨w5.heap.size, 0, none⟩)] (txtN so) i wd := fun j c hj hc w10 h10 => by
        have hjl : j < so.length := by rw [HLEN.out]; exact hj
        exact decode2_any w5.heap.size j c _ c5 so w10 hjl (by rw [(HSZ.out _ (shAt_mem hjl)).2.2]; exact hc) ((h10.cell (p := ⟨w5.heap.size, 0, none⟩) (lt_of_cell hbx9)).trans hbx9) (hs9.below h10)
      have HRW := rows_any (some ⟨g2, 0, none⟩) i i wd i x (txtN so) 29 #[.pointer (some ⟨w5.heap.size, 0, none⟩)] w9 hk1 (by omega) hk1 (by omega) (by omega) hx (fun j c => txtN_lt so j c) hm9 (enters_of Tryd.func29 (by kernel_rfl) rfl) HTE
      have HB9 : Hid (Below w.heap.size w w9) := HB8.out.trans (hb9.mono HB8.out.size)
      have HXB : Hid (∀ a b, x a b < 256) := hx
      clear HI hd hdk hb9 hm9 hx hinv hbx9 hs9 HTE HB8 HP8 HBX8 HS8 HRK hp9
      go_wp2_with fail
      refine (HWD.out _).mono ?_
      rintro e w9' ⟨rfl, hww⟩
      rw [hww]
      clear hww w9' HWD
      go_wp2_with fail
      refine HRW.mono ?_
      rintro e w10 ⟨rfl, hr10, hb10⟩
      have hjl : (((List.range i).map fun q => strOf (rowFn wd fun c => rsumN x (txtN so) q c i))).length = i := by simp
      have hjn : Lib.join (((List.range i).map fun q => strOf (rowFn wd fun c => rsumN x (txtN so) q c i)).map (·.data.toList)) [] = byteL (catN (fun q c => rsumN x (txtN so) q c i) wd i) := join_rows (fun q c => rsumN x (txtN so) q c i) wd i
      have hiw : i * wd ≤ 12 * 1000 := Nat.mul_le_mul (by omega) (by omega)
      have hlt10 : w9.heap.size < w10.heap.size := hr10.lt
      have HJ0 := fun (W : World) (hW : Below w10.heap.size w10 W) => Tryd.strings_Join w9.heap.size 0 i ((List.range i).map fun q => strOf (rowFn wd fun c => rsumN x (txtN so) q c i)) ⟨#[]⟩ W (fun j y hy => by
          have hjj : j < i := by
            have := (List.getElem?_eq_some_iff.1 hy).1
            rw [hjl] at this
            exact this
          rw [List.getElem?_map, List.getElem?_range hjj] at hy
          have hy' : strOf (rowFn wd fun c => rsumN x (txtN so) j c i) = y := Option.some.inj hy
          rw [Nat.zero_add, hW.cell (p := ⟨w9.heap.size, j, none⟩) hlt10, hr10.cell hjj, ← hy']
          rfl) (Nat.lt_of_lt_of_le hlt10 hW.size) (by rw [hjl]; omega) (by rw [hjl]; exact Nat.le_refl _) (by
          show (Lib.join _ []).length ≤ _
          rw [hjn]
          unfold byteL
          rw [List.length_map, catN_length]
          omega)
      have HJ : ∀ W, Below w10.heap.size w10 W → Calls Tryd.prog 30 #[.slice (some ⟨w9.heap.size, 0, none⟩) i i, .string ⟨#[]⟩] W fun e w' => e = .returned (.string ⟨(byteL (catN (fun q c => rsumN x (txtN so) q c i) wd i)).toArray⟩) ∧ Below W.heap.size W w' := fun W hW => by
        have h := HJ0 W hW
        rw [hjl, show (⟨#[]⟩ : ByteArray).data.toList = [] from rfl, hjn] at h
        exact h
      clear HJ0
      have hsl : ∀ W, Sem.run Tryd.prog (Instr.slice 9 (.string ⟨(byteL (catN (fun q c => rsumN x (txtN so) q c i) wd i)).toArray⟩) none (some (.int .i64 (size : Int))) none) W = .ok (.string dt) W := fun W => by
        rw [run_slice_string_h W 9 _ Tryd.underlying9 .i64 (size : Int) (by omega) (by
          show (size : Int) ≤ (((byteL (catN (fun q c => rsumN x (txtN so) q c i) wd i)).toArray.size : Nat) : Int)
          unfold byteL
          rw [List.size_toArray, List.length_map, catN_length]
          have := HMUL.out
          omega), Int.toNat_natCast, strOf_take, catN_take _ _ _ _ HMUL.out, HDT.out]
        congr 3
        refine rowFn_congr size _ _ (fun q hq => ?_)
        refine rsumN_congr i (fun j hj => HXI.out _ j ?_ hj)
        have hm := HMUL.out
        have hw0 : 0 < wd := by
          rcases Nat.eq_zero_or_pos wd with e | e
          · rw [e, Nat.mul_zero] at hm; omega
          · exact e
        rw [Nat.div_lt_iff_lt_mul hw0]
        omega
      have HB10 : Hid (Below w.heap.size w w10) := HB9.out.trans (hb10.mono HB9.out.size)
      have hp10 := HP9.out.below hb10
      have HP10 : Hid (Box3 w10 w.heap.size n i size) := hp10
      clear s1 s2
      have s2 := hp10.c2
      clear hp10 HP9
      clear HRW hr10 hb10 HB9 hjl hjn HXI HXB HDT HMUL
      generalize (⟨(byteL (catN (fun q c => rsumN x (txtN so) q c i) wd i)).toArray⟩ : ByteArray) = st at HJ hsl
      have HJH : Hid (∀ W, Below w10.heap.size w10 W → Calls Tryd.prog 30 #[.slice (some ⟨w9.heap.size, 0, none⟩) i i, .string ⟨#[]⟩] W fun e w' => e = .returned (.string st) ∧ w'.cell? ⟨w.heap.size + 1 + 1, 0, none⟩ = some (.int .i64 (size : Int)) ∧ Below w.heap.size w w') := fun W hW => (HJ W hW).mono fun e w' ⟨he, hb⟩ => by
        have h3 : Below w10.heap.size w10 w' := hW.trans (hb.mono hW.size)
        exact ⟨he, (HP10.out.below h3).c2, HB10.out.trans (h3.mono HB10.out.size)⟩
      clear HJ HP10
      go_wp2
      go_region_with (go_at_call 30; refine (HJH.out _ (by first | exact (Below.refl _ _).drew | exact Below.refl _ _)).mono ?_; rintro e w11 ⟨rfl, s3, HB11⟩)
      all_goals (go_wp2; go_ret2; exact ⟨rfl, HB11⟩)
end Go.Proofs.YtppcijpgalaohaaDoor
