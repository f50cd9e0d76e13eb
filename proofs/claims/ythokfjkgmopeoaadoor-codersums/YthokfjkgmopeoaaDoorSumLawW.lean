/- The walk of the law CoderSums: whatever the numbers and the texts, the call returns true; nothing that was there is written. -/
import Derived.Test.YthokfjkgmopeoaaDoorCodM
import Derived.Test.YthokfjkgmopeoaaDoorSingleW
namespace Go.Proofs.YthokfjkgmopeoaaDoor
open Go.RowKit
set_option maxRecDepth 10000 in
set_option maxHeartbeats 2000000 in
theorem sumLaw_pass (n k : Int) (a b : ByteArray) (z : Addr) (w : World) (ha : a.size ≤ maxLen) (_hb : b.size ≤ maxLen) (h : ¬ (1 ≤ k ∧ k ≤ n ∧ n ≤ 12 ∧ a.size ≤ 100 ∧ b.size = a.size)) (hz : w.cell? ⟨11, 0, none⟩ = some (.iface 136 (.pointer (some z)))) :
    Calls Tryd.prog 7 #[.int .i64 n, .int .i64 k, .string a, .string b] w fun e w' => e = .returned (.bool true) ∧ Below w.heap.size w w' := by
  unfold maxLen at ha
  have HU := single_any z w hz
  clear hz
  have HH : Hid (¬ (1 ≤ k ∧ k ≤ n ∧ n ≤ 12 ∧ a.size ≤ 100 ∧ b.size = a.size)) := h
  clear h
  by_cases h1 : k < 1
  · go_enter Tryd.func7, Tryd.ntmps7
    go_wp2_with fail
    refine HU.mono ?_
    rintro e w1 ⟨rfl, hb1⟩
    clear HU
    go_wp2
    go_ret
    exact ⟨rfl, hb1⟩
  by_cases h2 : k > n
  · go_enter Tryd.func7, Tryd.ntmps7
    go_wp2_with fail
    refine HU.mono ?_
    rintro e w1 ⟨rfl, hb1⟩
    clear HU
    go_wp2
    go_ret
    exact ⟨rfl, hb1⟩
  by_cases h3 : n > 12
  · go_enter Tryd.func7, Tryd.ntmps7
    go_wp2_with fail
    refine HU.mono ?_
    rintro e w1 ⟨rfl, hb1⟩
    clear HU
    go_wp2
    go_ret
    exact ⟨rfl, hb1⟩
  by_cases h4 : 100 < a.size
  · go_enter Tryd.func7, Tryd.ntmps7
    go_wp2_with fail
    refine HU.mono ?_
    rintro e w1 ⟨rfl, hb1⟩
    clear HU
    go_wp2
    go_ret
    exact ⟨rfl, hb1⟩
  have h5 : b.size ≠ a.size := fun e => HH.out ⟨by omega, by omega, by omega, by omega, e⟩
  have h6 : ((b.size : Int) != (a.size : Int)) = true := by rw [bne_iff_ne]; omega
  clear h5
  go_enter Tryd.func7, Tryd.ntmps7
  go_wp2_with fail
  refine HU.mono ?_
  rintro e w1 ⟨rfl, hb1⟩
  clear HU
  go_wp2
  go_ret
  exact ⟨rfl, hb1⟩
set_option maxRecDepth 10000 in
set_option maxHeartbeats 8000000 in
theorem sumLaw_in (n k : Nat) (a b : ByteArray) (z : Addr) (w : World) (hk1 : 1 ≤ k) (hkn : k ≤ n) (hn : n ≤ 12) (ha : a.size ≤ 100) (hab : b.size = a.size) (hz : w.cell? ⟨11, 0, none⟩ = some (.iface 136 (.pointer (some z)))) :
    Calls Tryd.prog 7 #[.int .i64 (n : Int), .int .i64 (k : Int), .string a, .string b] w fun e w' => e = .returned (.bool true) ∧ Below w.heap.size w w' := by
  have HU := single_any z w hz
  obtain ⟨i0, hi0, hz0, hz1, hzb⟩ := info_parts u8info
  have hmk : ∀ W : World, Sem.run Tryd.prog (Instr.makeSlice 48 (.int .i64 (a.size : Int)) (.int .i64 (a.size : Int))) W = .ok (.slice (some ⟨W.heap.size, 0, none⟩) a.size a.size) (W.alloc (.cells (madeCells #[byteV 0] a.size) 5)) := fun W => run_make_row (P := Tryd.prog) 48 5 i0 (byteV 0) Tryd.underlying48 hi0 hz0 hz1 rfl .i64 .i64 a.size (by rw [hzb]; omega) (by omega) W
  have HZ : Hid (w.cell? ⟨11, 0, none⟩ = some (.iface 136 (.pointer (some z)))) := hz
  have HAB : Hid (b.size = a.size) := hab
  have HIA : Hid (∀ i, i < a.size → ∀ W, Sem.run Tryd.prog (Instr.index 9 (.string a) (.int .i64 (i : Int))) W = .ok (.int .u8 ((Gf.nth (bytesOf a) i : Nat) : Int)) W) := fun i hi => run_idx a i hi
  have HIB : Hid (∀ i, i < a.size → ∀ W, Sem.run Tryd.prog (Instr.index 9 (.string b) (.int .i64 (i : Int))) W = .ok (.int .u8 ((Gf.nth (bytesOf b) i : Nat) : Int)) W) := fun i hi => run_idx b i (by omega)
  have hab1 : ((b.size : Int) != (a.size : Int)) = false := by rw [hab]; simp
  have g1 : decide ((k : Int) < 1) = false := decide_eq_false (by omega)
  have g2 : decide (n < k) = false := decide_eq_false (by omega)
  have g3 : decide (12 < (n : Int)) = false := decide_eq_false (by omega)
  have g4 : decide (100 < (a.size : Int)) = false := decide_eq_false (by omega)
  clear hz hab hi0 hz0 hz1 hzb
  go_enter Tryd.func7, Tryd.ntmps7
  go_wp2_with fail
  refine HU.mono ?_
  rintro e w1 ⟨rfl, hb1⟩
  have HB1 : Hid (Below w.heap.size w w1) := hb1
  have HZ1 : Hid (w1.cell? ⟨11, 0, none⟩ = some (.iface 136 (.pointer (some z)))) := (hb1.cell (p := ⟨11, 0, none⟩) (lt_of_cell HZ.out)).trans HZ.out
  clear HU hb1 HZ
  go_wp2
  have hmkN : OwnN (w1.alloc (.cells (madeCells #[byteV 0] a.size) 5)) w1.heap.size 5 w1.heap.size a.size (rowFn a.size (fun c => if c < 0 then Gf.nth (bytesOf a) c ^^^ Gf.nth (bytesOf b) c else 0)) := by
    have := OwnN.made w1 w1.heap.size 5 a.size (Nat.le_refl _) (by omega)
    rw [rowFn_congr a.size _ (fun c => if c < 0 then Gf.nth (bytesOf a) c ^^^ Gf.nth (bytesOf b) c else 0) (fun c _ => by rw [if_neg (Nat.not_lt_zero _)])] at this
    exact this
  have hbk : Below w1.heap.size w1 (w1.alloc (.cells (madeCells #[byteV 0] a.size) 5)) := (Below.refl _ _).alloc (Nat.le_refl _) _
  generalize w1.alloc (.cells (madeCells #[byteV 0] a.size) 5) = w2 at hmkN hbk ⊢
  have HMK : Hid (OwnN w2 w1.heap.size 5 w1.heap.size a.size (rowFn a.size (fun c => if c < 0 then Gf.nth (bytesOf a) c ^^^ Gf.nth (bytesOf b) c else 0))) := hmkN
  have HBK : Hid (Below w1.heap.size w1 w2) := hbk
  clear hmkN hbk hmk
  go_loopw [11] (fun x wq => ∃ c : Nat, c ≤ a.size ∧ x = .int .i64 c ∧ OwnN wq w1.heap.size 5 w1.heap.size a.size (rowFn a.size (fun d => if d < c then Gf.nth (bytesOf a) d ^^^ Gf.nth (bytesOf b) d else 0)) ∧ Below w1.heap.size w1 wq) (fun x _ => a.size - (intOf x).toNat)
  case atStart => exact ⟨0, by omega, rfl, HMK.out, HBK.out⟩
  case round =>
    obtain ⟨c, hc, rfl, hON, hBq⟩ := hrel
    obtain ⟨w3, rfl⟩ : ∃ w3, w3 = wr := ⟨_, rfl⟩
    have HON : Hid (OwnN w3 w1.heap.size 5 w1.heap.size a.size (rowFn a.size (fun d => if d < c then Gf.nth (bytesOf a) d ^^^ Gf.nth (bytesOf b) d else 0))) := hON
    have HBq : Hid (Below w1.heap.size w1 w3) := hBq
    clear hON hBq HMK HBK
    by_cases hcl : c < a.size
    · have hia := HIA.out c hcl
      have hib := HIB.out c hcl
      have hx : bits .xor .u8 ((Gf.nth (bytesOf a) c : Nat) : Int) ((Gf.nth (bytesOf b) c : Nat) : Int) = ((Gf.nth (bytesOf a) c ^^^ Gf.nth (bytesOf b) c : Nat) : Int) := u8_xor_nat _ _ (bytesOf_lt a c) (bytesOf_lt b c)
      have HX : Hid (bits .xor .u8 ((Gf.nth (bytesOf a) c : Nat) : Int) ((Gf.nth (bytesOf b) c : Nat) : Int) = ((Gf.nth (bytesOf a) c ^^^ Gf.nth (bytesOf b) c : Nat) : Int)) := hx
      have q5 : w3.cell? ⟨w1.heap.size, c, none⟩ = some (.int .u8 ((0 : Nat) : Int)) := by rw [HON.out.cell c hcl (rowFn_length _ _), nth_rowFn _ _ c hcl, if_neg (Nat.lt_irrefl _)]
      have q6 : w3.frozen? ⟨w1.heap.size, c, none⟩ = false := HON.out.free c
      have HE : Hid (Gf.nth (bytesOf a) c ^^^ Gf.nth (bytesOf b) c = Gf.nth (bytesOf a) c ^^^ Gf.nth (bytesOf b) c) := by show _ = _; rfl
      clear hx
      have HON' : Hid (OwnN (w3.drewN 1) w1.heap.size 5 w1.heap.size a.size (rowFn a.size (fun d => if d < c then Gf.nth (bytesOf a) d ^^^ Gf.nth (bytesOf b) d else 0))) := HON.out.drewN 1
      generalize hxa : Gf.nth (bytesOf a) c = xa at hia HX
      generalize hxb : Gf.nth (bytesOf b) c = xb at hib HX
      have HXA : Hid (Gf.nth (bytesOf a) c = xa) := hxa
      have HXB : Hid (Gf.nth (bytesOf b) c = xb) := hxb
      clear hxa hxb HE
      go_wp2
      refine wp_region_still_tail 10 (by kernel_rfl) (by kernel_rfl) ?_
      simp only [List.take_succ_cons, List.take_zero, List.drop_succ_cons, List.drop_zero]
      repeat still_step
      refine wpStill_nil ?_
      rw [HX.out]
      have q5' : (w3.drewN 1).cell? ⟨w1.heap.size, c, none⟩ = some (.int .u8 ((0 : Nat) : Int)) := q5
      have q6' : (w3.drewN 1).frozen? ⟨w1.heap.size, c, none⟩ = false := q6
      have HB7 : Hid (Below w1.heap.size w1 (w3.drewN 1)) := below_drewN HBq.out 1
      change wpList _ _ _ _ _ (w3.drewN 1)
      generalize w3.drewN 1 = w7 at HON' HB7 q5' q6' ⊢
      clear q5 q6 HON HBq hia hib
      go_wp2
      go_roundw
      case rel =>
        refine ⟨c + 1, by omega, by go_num, ?_, HB7.out.setCell (Nat.le_refl _) _⟩
        have := HON'.out.set c (xa ^^^ xb)
        rw [rowFn_congr a.size (fun d => if d < c + 1 then Gf.nth (bytesOf a) d ^^^ Gf.nth (bytesOf b) d else 0) (fun d => if d = c then xa ^^^ xb else if d < c then Gf.nth (bytesOf a) d ^^^ Gf.nth (bytesOf b) d else 0) (fun d _ => by
          by_cases e : d = c
          · subst e; rw [if_pos (by omega), if_pos rfl, HXA.out, HXB.out]
          · rw [if_neg e]
            by_cases e' : d < c
            · rw [if_pos e', if_pos (by omega)]
            · rw [if_neg e', if_neg (by omega)])]
        exact this
      case measure => simp [intOf]; omega
    · have hce : c = a.size := by omega
      subst hce
      have hN5 : OwnN w3 w1.heap.size 5 w1.heap.size a.size (sumT a b) := by
        unfold sumT
        rw [rowFn_congr a.size _ (fun d => if d < a.size then Gf.nth (bytesOf a) d ^^^ Gf.nth (bytesOf b) d else 0) (fun d hd => by rw [if_pos hd])]
        exact HON.out
      have HN5 : Hid (OwnN w3 w1.heap.size 5 w1.heap.size a.size (sumT a b)) := hN5
      have HB3 : Hid (Below w.heap.size w w3) := HB1.out.trans (HBq.out.mono HB1.out.size)
      have HZ3 : Hid (w3.cell? ⟨11, 0, none⟩ = some (.iface 136 (.pointer (some z)))) := (HBq.out.cell (p := ⟨11, 0, none⟩) (lt_of_cell HZ1.out)).trans HZ1.out
      clear hN5 HON HBq HB1 HZ1
      go_wp2_with fail
      refine (encode_ok n k a z _ hk1 hkn hn (by omega) HZ3.out).mono ?_
      rintro e w4 ⟨⟨ga, hga, rfl, hra⟩, hb4⟩
      have HB4 : Hid (Below w.heap.size w w4) := HB3.out.trans (hb4.mono HB3.out.size)
      have HZ4 : Hid (w4.cell? ⟨11, 0, none⟩ = some (.iface 136 (.pointer (some z)))) := (hb4.cell (p := ⟨11, 0, none⟩) (lt_of_cell HZ3.out)).trans HZ3.out
      have HN4 : Hid (OwnN w4 w1.heap.size 5 w1.heap.size a.size (sumT a b)) := HN5.out.below hb4
      have HRA : Hid (ShRow w4 ga n (encS k a)) := hra
      clear hb4 hra hga HB3 HZ3 HN5
      go_wp2_with fail
      refine (encode_ok n k b z _ hk1 hkn hn (by rw [HAB.out]; omega) HZ4.out).mono ?_
      rintro e w5 ⟨⟨gb, hgb, rfl, hrb⟩, hb5⟩
      have HB5 : Hid (Below w.heap.size w w5) := HB4.out.trans (hb5.mono HB4.out.size)
      have HZ5 : Hid (w5.cell? ⟨11, 0, none⟩ = some (.iface 136 (.pointer (some z)))) := (hb5.cell (p := ⟨11, 0, none⟩) (lt_of_cell HZ4.out)).trans HZ4.out
      have hN5 : OwnN w5 w1.heap.size 5 w1.heap.size a.size (sumT a b) := HN4.out.below hb5
      have HRA5 : Hid (ShRow w5 ga n (encS k a)) := HRA.out.below hb5
      have HRB5 : Hid (ShRow w5 gb n (encS k b)) := hrb
      have hcv : Sem.run Tryd.prog (convert 48 9 (.slice (some ⟨w1.heap.size, 0, none⟩) a.size a.size)) w5 = .ok (.string (strOf (sumT a b))) w5 := by
        have hsl : (sumT a b).length = a.size := rowFn_length _ _
        have hsg : Seg w5 (some ⟨w1.heap.size, 0, none⟩) (sumT a b) := ⟨sumT_bytes a b, Or.inr ⟨w1.heap.size, 0, rfl, hN5.lt.2, fun d hd => by
          rw [hsl] at hd
          rw [Nat.zero_add]
          exact hN5.cell d hd hsl⟩⟩
        have := conv_seg hsg a.size
        rw [hsl] at this
        exact this
      have HEN := encode_ok n k (strOf (sumT a b)) z w5 hk1 hkn hn (by rw [sumT_size]; omega) HZ5.out
      have HSE : Hid (∀ i c, c < wideN k a.size → Gf.nth (bytesOf (encS k (strOf (sumT a b)) i).2) c = Gf.nth (bytesOf (encS k a i).2) c ^^^ Gf.nth (bytesOf (encS k b i).2) c) := fun i c hc => enc_sum k a b HAB.out i c hc
      have HSZ : Hid (∀ i, (encS k (strOf (sumT a b)) i).2.size = wideN k a.size) := fun i => by
        have h := encT_size k (strOf (sumT a b)) i
        rw [sumT_size] at h
        exact h
      have HSA : Hid (∀ i, (encS k a i).2.size = wideN k a.size) := fun i => encT_size k a i
      have HSB : Hid (∀ i, (encS k b i).2.size = wideN k a.size) := fun i => by
        have h := encT_size k b i
        rw [HAB.out] at h
        exact h
      clear hb5 hrb hgb HB4 HZ4 HN4 HRA hN5
      have hwd := wideN_le (size := a.size) hk1
      generalize strOf (sumT a b) = st at hcv HEN HSE HSZ
      generalize wideN k a.size = wd at HSE HSZ HSA HSB hwd
      go_wp2_with fail
      refine HEN.mono ?_
      rintro e w6 ⟨⟨gx, hgx, rfl, hrx⟩, hb6⟩
      have HB6 : Hid (Below w.heap.size w w6) := HB5.out.trans (hb6.mono HB5.out.size)
      have HRA6 : Hid (ShRow w6 ga n (encS k a)) := HRA5.out.below hb6
      have HRB6 : Hid (ShRow w6 gb n (encS k b)) := HRB5.out.below hb6
      have HRX6 : Hid (ShRow w6 gx n (encS k st)) := hrx
      clear hb6 hrx hgx HB5 HZ5 HRA5 HRB5 HEN hcv
      go_wp2
      go_loopw [18] (fun x wr => ∃ i : Nat, i ≤ n ∧ x = .int .i64 i ∧ Below w6.heap.size w6 wr) (fun x _ => n - (intOf x).toNat)
      case atStart => exact ⟨0, by omega, rfl, Below.refl _ _⟩
      case round =>
        obtain ⟨i, hi, rfl, hB⟩ := hrel
        have HB : Hid (Below w6.heap.size w6 wr) := hB
        clear hB
        by_cases hil : i < n
        · have qa : wr.cell? ⟨ga, i * 2 + 1, none⟩ = some (.string (encS k a i).2) := (HRA6.out.below HB.out).text hil
          have qb : wr.cell? ⟨gb, i * 2 + 1, none⟩ = some (.string (encS k b i).2) := (HRB6.out.below HB.out).text hil
          have qx : wr.cell? ⟨gx, i * 2 + 1, none⟩ = some (.string (encS k st i).2) := (HRX6.out.below HB.out).text hil
          have sa := HSA.out i
          have sb := HSB.out i
          have sx := HSZ.out i
          have HQ : Hid (∀ c, c < wd → Gf.nth (bytesOf (encS k st i).2) c = Gf.nth (bytesOf (encS k a i).2) c ^^^ Gf.nth (bytesOf (encS k b i).2) c) := fun c hc => HSE.out i c hc
          generalize (encS k a i).2 = ta at qa sa HQ
          generalize (encS k b i).2 = tb at qb sb HQ
          generalize (encS k st i).2 = tx at qx sx HQ
          have HSIZ : Hid (ta.size = wd ∧ tb.size = wd ∧ tx.size = wd) := ⟨sa, sb, sx⟩
          have HQA : Hid (∀ W, Below w6.heap.size w6 W → W.cell? ⟨ga, i * 2 + 1, none⟩ = some (.string ta) ∧ W.cell? ⟨gb, i * 2 + 1, none⟩ = some (.string tb) ∧ W.cell? ⟨gx, i * 2 + 1, none⟩ = some (.string tx)) := fun W hW => by
            have la : ga < w6.heap.size := World.rowIs.lt HRA6.out
            have lb : gb < w6.heap.size := World.rowIs.lt HRB6.out
            have lx : gx < w6.heap.size := World.rowIs.lt HRX6.out
            exact ⟨by rw [hW.cell (p := ⟨ga, i * 2 + 1, none⟩) la, ← HB.out.cell (p := ⟨ga, i * 2 + 1, none⟩) la]; exact qa, by rw [hW.cell (p := ⟨gb, i * 2 + 1, none⟩) lb, ← HB.out.cell (p := ⟨gb, i * 2 + 1, none⟩) lb]; exact qb, by rw [hW.cell (p := ⟨gx, i * 2 + 1, none⟩) lx, ← HB.out.cell (p := ⟨gx, i * 2 + 1, none⟩) lx]; exact qx⟩
          go_wp2
          go_quiet (fail)
          have HBn : Hid (Below w6.heap.size w6 (wr.drewN nq)) := below_drewN HB.out _
          clear qa qb qx sa sb sx HB
          generalize wr.drewN nq = w8 at HBn ⊢
          go_wp2
          go_loopw [19] (fun x wq => ∃ c : Nat, c ≤ wd ∧ x = .int .i64 c ∧ Below w6.heap.size w6 wq) (fun x _ => wd - (intOf x).toNat)
          case atStart => exact ⟨0, by omega, rfl, HBn.out⟩
          case round =>
            obtain ⟨c, hc, rfl, hB⟩ := hrel
            have HB : Hid (Below w6.heap.size w6 wr) := hB
            clear hB
            obtain ⟨qa, qb, qx⟩ := HQA.out wr HB.out
            by_cases hcl : c < wd
            · have ia := run_idx ta c (by rw [HSIZ.out.1]; exact hcl)
              have ib := run_idx tb c (by rw [HSIZ.out.2.1]; exact hcl)
              have ix := run_idx tx c (by rw [HSIZ.out.2.2]; exact hcl)
              have hsx : (c : Int) < (tx.size : Int) := by rw [HSIZ.out.2.2]; omega
              have he : bits .xor .u8 ((Gf.nth (bytesOf ta) c : Nat) : Int) ((Gf.nth (bytesOf tb) c : Nat) : Int) = ((Gf.nth (bytesOf tx) c : Nat) : Int) := by
                rw [u8_xor_nat _ _ (bytesOf_lt ta c) (bytesOf_lt tb c), HQ.out c hcl]
              generalize Gf.nth (bytesOf ta) c = xa at ia he
              generalize Gf.nth (bytesOf tb) c = xb at ib he
              generalize Gf.nth (bytesOf tx) c = xx at ix he
              go_wp2
              go_quiet (fail)
              go_wp2
              go_roundw
              case rel => exact ⟨c + 1, by omega, by go_num, below_drewN HB.out _⟩
              case measure => simp [intOf]; omega
            · have hsx : ¬ (c : Int) < (tx.size : Int) := by rw [HSIZ.out.2.2]; omega
              go_wp2
              go_roundw
              case rel => exact ⟨i + 1, by omega, by go_num, HB.out⟩
              case measure => simp [intOf]; omega
        · go_wp2
          go_ret
          exact ⟨rfl, HB6.out.trans (HB.out.mono HB6.out.size)⟩
theorem sumLaw_any (n k : Int) (a b : ByteArray) (z : Addr) (w : World) (ha : a.size ≤ maxLen) (hb : b.size ≤ maxLen) (hz : w.cell? ⟨11, 0, none⟩ = some (.iface 136 (.pointer (some z)))) :
    Calls Tryd.prog 7 #[.int .i64 n, .int .i64 k, .string a, .string b] w fun e w' => e = .returned (.bool true) ∧ Below w.heap.size w w' := by
  by_cases h : 1 ≤ k ∧ k ≤ n ∧ n ≤ 12 ∧ a.size ≤ 100 ∧ b.size = a.size
  · obtain ⟨k', rfl⟩ := Int.eq_ofNat_of_zero_le (show 0 ≤ k by omega)
    obtain ⟨n', rfl⟩ := Int.eq_ofNat_of_zero_le (show 0 ≤ n by omega)
    exact sumLaw_in n' k' a b z w (by omega) (by omega) (by omega) h.2.2.2.1 h.2.2.2.2 hz
  · exact sumLaw_pass n k a b z w ha hb h hz
end Go.Proofs.YthokfjkgmopeoaaDoor
