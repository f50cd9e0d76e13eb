/- Texts laid together. -/
import Derived.Test.YtppcijpgalaohaaDoorDe6
namespace Go.Proofs.YtppcijpgalaohaaDoor
open Go.RowKit
set_option maxRecDepth 10000 in
theorem rdecode_bad (a0 a1 a2 v : Value) (c : Int) (w : World) (hc : 0 < c) (HS : Calls Tryd.prog 31 #[a0, a1, a2, v] w fun e w' => e = .returned (.tuple #[.slice none 0 0, .int .i64 c]) ∧ Below w.heap.size w w') :
    Calls Tryd.prog 9 #[a0, a1, a2, v] w fun e w' => e = .returned (.tuple #[.string ⟨#[]⟩, .int .i64 c]) ∧ Below w.heap.size w w' := by
  go_enter Tryd.func9, Tryd.ntmps9
  go_wp2_with fail
  refine HS.mono ?_
  rintro e w1 ⟨rfl, hb1⟩
  clear HS
  go_wp2
  go_ret2
  exact ⟨rfl, hb1⟩
theorem strOf_append (l m : List Nat) : strOf l ++ strOf m = strOf (l ++ m) := by
  rw [strOf_mk, strOf_mk, strOf_mk]
  apply ByteArray.ext
  simp [byteL]
/-- The factors of place j, so far. -/
def basL (X : List Nat) (j m : Nat) : List Nat := rowFn m fun i => Gf.shareOf X i j
theorem basL_succ (X : List Nat) (j m : Nat) : basL X j (m + 1) = basL X j m ++ [Gf.shareOf X m j] := by simp [basL, rowFn, List.range_succ]
theorem basL_length (X : List Nat) (j m : Nat) : (basL X j m).length = m := rowFn_length _ _
theorem basL_bytes (X : List Nat) (j m : Nat) : Gf.Bytes (basL X j m) := rowFn_bytes _ _ fun _ => Gf.shareOf_lt _ _ _
set_option maxRecDepth 10000 in
set_option maxHeartbeats 16000000 in
theorem rdecode_ok (n k size : Nat) (p : Option Addr) (l : List (Int × ByteArray)) (cap : Nat) (w : World) (hk1 : 1 ≤ k) (hkn : k ≤ n) (hn : n ≤ 12) (hsz : size ≤ 1000) (hl : l.length ≤ 1000) (ht : ∀ i, (shAt l i).2.size ≤ 100000) (hf : Fits n k size l) (hs : Shs w p l) :
    Calls Tryd.prog 9 #[.int .i64 (n : Int), .int .i64 (k : Int), .int .i64 (size : Int), .slice p l.length cap] w fun e w' => e = .returned (.tuple #[.string (decT k size (pickN k l l.length)), .int .i64 0]) ∧ Below w.heap.size w w' := by
  have hwd := wideN_le (size := size) hk1
  obtain ⟨i0, hi0, hz0, hz1, hzb⟩ := info_parts u8info
  have HSO := rsome_any n k size p l cap w hk1 hkn hn hsz hl ht hs
  have HWD : Hid (∀ W, Calls Tryd.prog 33 #[.int .i64 (k : Int), .int .i64 (size : Int)] W fun e w' => e = .returned (.int .i64 ((wideN k size : Nat) : Int)) ∧ w' = W) := fun W => rwide_any k size W hk1 (by omega) (by omega)
  have HSZ : Hid (∀ x ∈ pickN k l l.length, 0 ≤ x.1 ∧ x.1 < n ∧ x.2.size = wideN k size) := fun x hx => hf.at_ (pickN_sub k l l.length (Nat.le_refl _) x hx)
  have HMUL : Hid (size ≤ k * wideN k size) := wide_mul hk1
  have HX : Hid ((∀ x ∈ atsN (pickN k l l.length), x < n) ∧ (atsN (pickN k l l.length)).Nodup ∧ (atsN (pickN k l l.length)).length = k) := hf.ats
  have HLEN : Hid ((pickN k l l.length).length = k) := hf.enough
  have HGOOD : Hid (l.any (badB (n : Int) (wideN k size)) = false) := hf.good
  have HDT : Hid (decT k size (pickN k l l.length) = strOf (rowFn size fun p => rsumN (invN (atsN (pickN k l l.length))) (txtN (pickN k l l.length)) (p / wideN k size) (p % wideN k size) k)) := by show _ = _; rfl
  unfold Somed at HSO
  clear hf hs ht
  generalize decT k size (pickN k l l.length) = dt at HDT ⊢
  generalize wideN k size = wd at *
  generalize pickN k l l.length = so at *
  have hmk : ∀ W : World, Sem.run Tryd.prog (Instr.makeSlice 58 (.int .i64 (wd : Int)) (.int .i64 (wd : Int))) W = .ok (.slice (some ⟨W.heap.size, 0, none⟩) wd wd) (W.alloc (.cells (madeCells #[byteV 0] wd) 5)) := fun W => run_make_row (P := Tryd.prog) 58 5 i0 (byteV 0) Tryd.underlying58 hi0 hz0 hz1 rfl .i64 .i64 wd (by rw [hzb]; omega) (by omega) W
  go_enter Tryd.func9, Tryd.ntmps9
  go_wp2_with fail
  refine HSO.mono ?_
  rintro e w1 ⟨⟨v, c, rfl, hcase⟩, hb1⟩
  rcases hcase with ⟨_, _, hbad⟩ | ⟨_, _, _, hfew⟩ | ⟨hc0, _, _, p1, c1, hv, hs1⟩
  · exact absurd hbad (by rw [HGOOD.out]; decide)
  · exact absurd hfew (by rw [HLEN.out]; exact Nat.lt_irrefl _)
  subst hc0 hv
  rcases hs1 with h0 | ⟨b1, o1, hp1, hlb1, hcs⟩
  · exact absurd HLEN.out (by rw [h0]; simp; omega)
  subst hp1
  have HCS : Hid (∀ i, i < so.length → w1.cell? ⟨b1, o1 + i * 2, none⟩ = some (.int .i64 (shAt so i).1) ∧ w1.cell? ⟨b1, o1 + i * 2 + 1, none⟩ = some (.string (shAt so i).2)) := hcs
  have HB1 : Hid (Below w.heap.size w w1) := hb1
  clear HSO hb1 hcs HGOOD
  have HXB : Hid (Gf.Bytes (atsN so)) := fun j => by
    by_cases hj : j < (atsN so).length
    · have := HX.out.1 (Gf.nth (atsN so) j) (by rw [Gf.nth_getElem _ j hj]; exact List.getElem_mem _)
      omega
    · rw [nth_past (by omega)]; decide
  go_wp2
  go_loopw [12, 13] (fun v x wr => ∃ i : Nat, i ≤ k ∧ x = .int .i64 i ∧ Own wr w1.heap.size 5 v ((atsN so).take i) ∧ Below w1.heap.size w1 wr) (fun _ x _ => k - (intOf x).toNat)
  case atStart => exact ⟨0, by omega, rfl, by rw [List.take_zero]; exact Own.nil _ _ _, Below.refl _ _⟩
  case round =>
    obtain ⟨i, hi, rfl, hO, hB⟩ := hrel
    obtain ⟨w2, rfl⟩ : ∃ w2, w2 = wr := ⟨_, rfl⟩
    have HO : Hid (Own w2 w1.heap.size 5 u12 ((atsN so).take i)) := hO
    have HB : Hid (Below w1.heap.size w1 w2) := hB
    have hz2 : w1.heap.size ≤ w2.heap.size := hB.size
    have htl : ((atsN so).take i).length = i := by rw [List.length_take, HX.out.2.2]; omega
    have HTL : Hid (((atsN so).take i).length = i) := htl
    clear hO hB htl
    by_cases hil : i < k
    · have hm : shAt so i ∈ so := shAt_mem (by rw [HLEN.out]; exact hil)
      have hx := HSZ.out _ hm
      have hnx : Gf.nth (atsN so) i = (shAt so i).1.toNat := nth_ats (by rw [HLEN.out]; exact hil)
      have hxe : (shAt so i).1 = ((Gf.nth (atsN so) i : Nat) : Int) := by rw [hnx]; omega
      have hxn : Gf.nth (atsN so) i < n := by rw [hnx]; omega
      have q1 : w2.cell? ⟨b1, o1 + i * 2, none⟩ = some (.int .i64 ((Gf.nth (atsN so) i : Nat) : Int)) := by
        rw [HB.out.cell (p := ⟨b1, o1 + i * 2, none⟩) hlb1, (HCS.out i (by rw [HLEN.out]; exact hil)).1, hxe]
      have HTK : Hid ((atsN so).take (i + 1) = (atsN so).take i ++ [Gf.nth (atsN so) i]) := Gf.take_nth _ i (by rw [HX.out.2.2]; exact hil)
      clear hnx hxe hx hm
      generalize Gf.nth (atsN so) i = x at q1 hxn HTK
      generalize (atsN so).take i = xs at *
      have hxl : xs.length ≤ 12 := by rw [HTL.out]; omega
      go_wp2_with (first | (at_builtin; refine wpList_append_byte rfl (.tmp 38) (.tmp 45) 58 rfl w1.heap.size 5 i0 Tryd.underlying58 hi0 hz0 hz1 hzb u12 xs rfl (HO.out.kept (World.grownBy_alloc w2 _ none) (by cases hv : u12.ownBlock <;> simp)) ⟨w2.heap.size, 0, none⟩ 1 x rfl (by simp [byteV]) (by omega) (by simp; omega) ?_; intro v1 w3 hX hgX _))
      have hb3 : Below w1.heap.size w1 w3 := (HB.out.alloc hz2 _).grown hgX (by simp; omega) (fun k' hk' => (HO.out.block hk').1)
      go_roundw
      case rel => exact ⟨i + 1, by omega, by go_num, by rw [HTK.out]; exact hX, hb3⟩
      case measure => simp [intOf]; omega
    · have hie : k = i := by omega
      subst hie
      have htk : (atsN so).take k = atsN so := List.take_of_length_le (by rw [HX.out.2.2]; exact Nat.le_refl _)
      obtain ⟨pX, cX, hvX, hsX⟩ := (show Own w2 w1.heap.size 5 u12 (atsN so) by rw [← htk]; exact HO.out).seg HXB.out
      rw [HX.out.2.2] at hvX
      subst hvX
      have HSX : Hid (Seg w2 pX (atsN so)) := hsX
      clear htk hsX HO HTL
      go_wp2
      go_loopw [14, 15] (fun v x wr => ∃ j : Nat, j ≤ k ∧ x = .int .i64 j ∧ v = .string (strOf (catN (fun q c => rsumN (invN (atsN so)) (txtN so) q c k) wd j)) ∧ Below w2.heap.size w2 wr) (fun _ x _ => k - (intOf x).toNat)
      case atStart => exact ⟨0, by omega, rfl, rfl, Below.refl _ _⟩
      case round =>
        obtain ⟨j, hj, rfl, rfl, hB3⟩ := hrel
        obtain ⟨w3, rfl⟩ : ∃ w3, w3 = wr := ⟨_, rfl⟩
        have HB3 : Hid (Below w2.heap.size w2 w3) := hB3
        have hz3 : w2.heap.size ≤ w3.heap.size := hB3.size
        clear hB3
        by_cases hjl : j < k
        · go_wp2
          go_loopw [16, 17] (fun v x wq => ∃ m : Nat, m ≤ k ∧ x = .int .i64 m ∧ Own wq w3.heap.size 5 v (basL (atsN so) j m) ∧ Below w3.heap.size w3 wq) (fun _ x _ => k - (intOf x).toNat)
          case atStart => exact ⟨0, by omega, rfl, Own.nil _ _ _, Below.refl _ _⟩
          case round =>
            obtain ⟨m, hm, rfl, hO4, hB4⟩ := hrel
            obtain ⟨w4, rfl⟩ : ∃ w4, w4 = wr := ⟨_, rfl⟩
            have HO4 : Hid (Own w4 w3.heap.size 5 u16 (basL (atsN so) j m)) := hO4
            have HB4 : Hid (Below w3.heap.size w3 w4) := hB4
            have hz4 : w3.heap.size ≤ w4.heap.size := hB4.size
            clear hO4 hB4
            by_cases hml : m < k
            · have hbs := basis_any pX (atsN so) cX m j w4 (by omega) (by rw [HX.out.2.2]; omega) (by rw [HX.out.2.2]; exact hml) HX.out.2.1 ((HSX.out.below HB3.out).below HB4.out)
              rw [HX.out.2.2] at hbs
              have HSU : Hid (basL (atsN so) j (m + 1) = basL (atsN so) j m ++ [Gf.shareOf (atsN so) m j]) := basL_succ _ _ _
              have hbl : (basL (atsN so) j m).length ≤ 12 := by rw [basL_length]; omega
              go_wp2_with fail
              refine hbs.mono ?_
              rintro e w5 ⟨rfl, q, hw5⟩
              have HO5 : Hid (Own w5 w3.heap.size 5 u16 (basL (atsN so) j m)) := by rw [hw5]; exact HO4.out.kept (grownBy_drewN w4 q none) (by cases hv : u16.ownBlock <;> simp)
              have HB5 : Hid (Below w3.heap.size w3 w5) := by rw [hw5]; exact below_drewN HB4.out q
              have hz5 : w3.heap.size ≤ w5.heap.size := HB5.out.size
              clear hw5 hbs HO4 HB4
              generalize Gf.shareOf (atsN so) m j = y at HSU ⊢
              generalize basL (atsN so) j m = bl at *
              go_wp2_with (first | (at_builtin; refine wpList_append_byte rfl (.tmp 62) (.tmp 64) 58 rfl w3.heap.size 5 i0 Tryd.underlying58 hi0 hz0 hz1 hzb u16 bl rfl (HO5.out.kept (World.grownBy_alloc w5 _ none) (by cases hv : u16.ownBlock <;> simp)) ⟨w5.heap.size, 0, none⟩ 1 y rfl (by simp [byteV]) (by omega) (by simp; omega) ?_; intro v1 w6 hX6 hgX _))
              have hb6 : Below w3.heap.size w3 w6 := (HB5.out.alloc hz5 _).grown hgX (by simp; omega) (fun k' hk' => (HO5.out.block hk').1)
              go_roundw
              case rel => exact ⟨m + 1, by omega, by go_num, by rw [HSU.out]; exact hX6, hb6⟩
              case measure => simp [intOf]; omega
            · have hme : k = m := by omega
              subst hme
              obtain ⟨pB, cB, hvB, hsB⟩ := HO4.out.seg (basL_bytes (atsN so) j k)
              rw [basL_length] at hvB
              subst hvB
              rcases hsB.cells with h0 | ⟨bb, ob, hpB, hlbb, hcb⟩
              · exact absurd (congrArg List.length h0) (by rw [basL_length]; simp; omega)
              subst hpB
              have HCB : Hid (∀ i, i < k → w4.cell? ⟨bb, ob + i, none⟩ = some (.int .u8 ((Gf.shareOf (atsN so) i j : Nat) : Int))) := fun i hi => by
                rw [hcb i (by rw [basL_length]; exact hi)]
                unfold basL
                rw [nth_rowFn _ _ i hi]
              clear hsB hcb HO4
              go_wp2_with fail
              refine (HWD.out _).mono ?_
              rintro e w4' ⟨rfl, hww⟩
              rw [hww]
              clear hww w4'
              go_wp2
              have hmkN : OwnN (w4.alloc (.cells (madeCells #[byteV 0] wd) 5)) w4.heap.size 5 w4.heap.size wd (rowFn wd (fun c => if c < 0 then rsumN (invN (atsN so)) (txtN so) j c k else 0)) := by
                have := OwnN.made w4 w4.heap.size 5 wd (Nat.le_refl _) (by omega)
                rw [rowFn_congr wd _ (fun c => if c < 0 then rsumN (invN (atsN so)) (txtN so) j c k else 0) (fun c _ => by rw [if_neg (Nat.not_lt_zero _)])] at this
                exact this
              have hbk : Below w4.heap.size w4 (w4.alloc (.cells (madeCells #[byteV 0] wd) 5)) := (Below.refl _ _).alloc (Nat.le_refl _) _
              generalize w4.alloc (.cells (madeCells #[byteV 0] wd) 5) = w5 at hmkN hbk ⊢
              have HMK : Hid (OwnN w5 w4.heap.size 5 w4.heap.size wd (rowFn wd (fun c => if c < 0 then rsumN (invN (atsN so)) (txtN so) j c k else 0))) := hmkN
              have HBK : Hid (Below w4.heap.size w4 w5) := hbk
              clear hmkN hbk
              go_loopw [20] (fun x wq => ∃ c : Nat, c ≤ wd ∧ x = .int .i64 c ∧ OwnN wq w4.heap.size 5 w4.heap.size wd (rowFn wd (fun d => if d < c then rsumN (invN (atsN so)) (txtN so) j d k else 0)) ∧ Below w4.heap.size w4 wq) (fun x _ => wd - (intOf x).toNat)
              case atStart => exact ⟨0, by omega, rfl, HMK.out, HBK.out⟩
              case round =>
                obtain ⟨c, hc, rfl, hON, hBq⟩ := hrel
                obtain ⟨w6, rfl⟩ : ∃ w6, w6 = wr := ⟨_, rfl⟩
                have HON : Hid (OwnN w6 w4.heap.size 5 w4.heap.size wd (rowFn wd (fun d => if d < c then rsumN (invN (atsN so)) (txtN so) j d k else 0))) := hON
                have HBq : Hid (Below w4.heap.size w4 w6) := hBq
                clear hON hBq HMK HBK
                by_cases hcl : c < wd
                · go_wp2
                  go_loopw [21] (fun x wq => ∃ i : Nat, i ≤ k ∧ x = .int .i64 i ∧ OwnN wq w4.heap.size 5 w4.heap.size wd (rowFn wd (fun d => if d < c then rsumN (invN (atsN so)) (txtN so) j d k else if d = c then rsumN (invN (atsN so)) (txtN so) j c i else 0)) ∧ Below w4.heap.size w4 wq) (fun x _ => k - (intOf x).toNat)
                  case atStart =>
                    refine ⟨0, by omega, rfl, ?_, HBq.out⟩
                    rw [rowFn_congr wd _ (fun d => if d < c then rsumN (invN (atsN so)) (txtN so) j d k else 0) (fun d _ => by by_cases e : d = c <;> simp [e, rsumN])]
                    exact HON.out
                  case round =>
                    obtain ⟨i, hi, rfl, hON2, hBq2⟩ := hrel
                    obtain ⟨w7, rfl⟩ : ∃ w7, w7 = wr := ⟨_, rfl⟩
                    have HON2 : Hid (OwnN w7 w4.heap.size 5 w4.heap.size wd (rowFn wd (fun d => if d < c then rsumN (invN (atsN so)) (txtN so) j d k else if d = c then rsumN (invN (atsN so)) (txtN so) j c i else 0))) := hON2
                    have HBq2 : Hid (Below w4.heap.size w4 w7) := hBq2
                    clear hON2 hBq2 HON HBq
                    by_cases hil2 : i < k
                    · have hil3 : i < so.length := by rw [HLEN.out]; exact hil2
                      have q2 : w7.cell? ⟨bb, ob + i, none⟩ = some (.int .u8 ((Gf.shareOf (atsN so) i j : Nat) : Int)) := (HBq2.out.cell (p := ⟨bb, ob + i, none⟩) hlbb).trans (HCB.out i hil2)
                      have q3 : w7.cell? ⟨b1, o1 + i * 2 + 1, none⟩ = some (.string (shAt so i).2) := by
                        rw [HBq2.out.cell (p := ⟨b1, o1 + i * 2 + 1, none⟩) (by show b1 < _; omega), HB4.out.cell (p := ⟨b1, o1 + i * 2 + 1, none⟩) (by show b1 < _; omega), HB3.out.cell (p := ⟨b1, o1 + i * 2 + 1, none⟩) (by show b1 < _; omega), HB.out.cell (p := ⟨b1, o1 + i * 2 + 1, none⟩) hlb1]
                        exact (HCS.out i hil3).2
                      have q5 : w7.cell? ⟨w4.heap.size, c, none⟩ = some (.int .u8 ((rsumN (invN (atsN so)) (txtN so) j c i : Nat) : Int)) := by rw [HON2.out.cell c hcl (rowFn_length _ _), nth_rowFn _ _ c hcl, if_neg (Nat.lt_irrefl _), if_pos rfl]
                      have q6 : w7.frozen? ⟨w4.heap.size, c, none⟩ = false := HON2.out.free c
                      have hst : (shAt so i).2.size = wd := (HSZ.out _ (shAt_mem hil3)).2.2
                      have hidx := run_idx (shAt so i).2 c (by rw [hst]; exact hcl)
                      have lx := Gf.shareOf_lt (atsN so) i j
                      have ly := bytesOf_lt (shAt so i).2 c
                      have ls : rsumN (invN (atsN so)) (txtN so) j c i < 256 := rsumN_lt (invN_lt _) j c i
                      have lm := Gf.mul_lt lx (Gf.nth (bytesOf (shAt so i).2) c)
                      have HXS : Hid (bits .xor .u8 ((rsumN (invN (atsN so)) (txtN so) j c i : Nat) : Int) ((Gf.mul (Gf.shareOf (atsN so) i j) (Gf.nth (bytesOf (shAt so i).2) c) : Nat) : Int) = ((rsumN (invN (atsN so)) (txtN so) j c (i + 1) : Nat) : Int)) := by
                        show _ = _
                        rw [u8_xor_nat _ _ ls lm]
                        rfl
                      have n1 : w4.heap.size ≠ bb := by omega
                      have n2 : w4.heap.size ≠ b1 := by omega
                      have HON2' : Hid (OwnN w7 w4.heap.size 5 w4.heap.size wd (rowFn wd (fun d => if d < c then rsumN (invN (atsN so)) (txtN so) j d k else if d = c then rsumN (invN (atsN so)) (txtN so) j c i else 0))) := HON2.out
                      clear hst hil3
                      generalize rsumN (invN (atsN so)) (txtN so) j c i = sacc at q5 ls HXS HON2'
                      generalize Gf.shareOf (atsN so) i j = x at q2 lx lm HXS
                      generalize (shAt so i).2 = tt at q3 hidx ly lm HXS
                      generalize Gf.nth (bytesOf tt) c = y at hidx ly lm HXS
                      go_wp2
                      refine wp_region_still_tail 20 (by kernel_rfl) (by kernel_rfl) ?_
                      simp only [List.take_succ_cons, List.take_zero, List.drop_succ_cons, List.drop_zero]
                      repeat still_step
                      still_call (rmul_any x y _ lx ly)
                      repeat still_step
                      refine wpStill_nil ?_
                      rw [HXS.out]
                      have HO7 : Hid (OwnN (w7.drewN 1) w4.heap.size 5 w4.heap.size wd (rowFn wd (fun d => if d < c then rsumN (invN (atsN so)) (txtN so) j d k else if d = c then sacc else 0))) := HON2'.out.drewN 1
                      have HB7 : Hid (Below w4.heap.size w4 (w7.drewN 1)) := below_drewN HBq2.out 1
                      have q5' : (w7.drewN 1).cell? ⟨w4.heap.size, c, none⟩ = some (.int .u8 (sacc : Int)) := q5
                      have q6' : (w7.drewN 1).frozen? ⟨w4.heap.size, c, none⟩ = false := q6
                      change wpList _ _ _ _ _ (w7.drewN 1)
                      generalize w7.drewN 1 = w8 at HO7 HB7 q5' q6' ⊢
                      clear q2 q3 q5 q6 HON2 HON2' HBq2 hidx
                      go_wp2
                      go_roundw
                      case rel =>
                        refine ⟨i + 1, by omega, by go_num, ?_, HB7.out.setCell (Nat.le_refl _) _⟩
                        have := HO7.out.set c (rsumN (invN (atsN so)) (txtN so) j c (i + 1))
                        rw [rowFn_congr wd (fun d => if d < c then rsumN (invN (atsN so)) (txtN so) j d k else if d = c then rsumN (invN (atsN so)) (txtN so) j c (i + 1) else 0) (fun d => if d = c then rsumN (invN (atsN so)) (txtN so) j c (i + 1) else if d < c then rsumN (invN (atsN so)) (txtN so) j d k else if d = c then sacc else 0) (fun d _ => by
                          by_cases e : d = c
                          · subst e; rw [if_neg (Nat.lt_irrefl _), if_pos rfl, if_pos rfl]
                          · rw [if_neg e, if_neg e, if_neg e])]
                        exact this
                      case measure => simp [intOf]; omega
                    · have hie : k = i := by omega
                      subst hie
                      go_wp2
                      go_roundw
                      case rel =>
                        refine ⟨c + 1, by omega, by go_num, ?_, HBq2.out⟩
                        rw [rowFn_congr wd _ (fun d => if d < c then rsumN (invN (atsN so)) (txtN so) j d k else if d = c then rsumN (invN (atsN so)) (txtN so) j c k else 0) (fun d _ => by
                          by_cases e : d < c
                          · rw [if_pos (by omega), if_pos e]
                          · by_cases e' : d = c
                            · subst e'; rw [if_pos (by omega), if_neg e, if_pos rfl]
                            · rw [if_neg (by omega), if_neg e, if_neg e'])]
                        exact HON2.out
                      case measure => simp [intOf]; omega
                · have hce : wd = c := by omega
                  subst hce
                  have hN6 : OwnN w6 w4.heap.size 5 w4.heap.size wd (rowFn wd fun c => rsumN (invN (atsN so)) (txtN so) j c k) := by
                    rw [rowFn_congr wd _ (fun d => if d < wd then rsumN (invN (atsN so)) (txtN so) j d k else 0) (fun d hd => by rw [if_pos hd])]
                    exact HON.out
                  have hcv : Sem.run Tryd.prog (convert 58 9 (.slice (some ⟨w4.heap.size, 0, none⟩) wd wd)) w6 = .ok (.string (strOf (rowFn wd fun c => rsumN (invN (atsN so)) (txtN so) j c k))) w6 := by
                    have hsg : Seg w6 (some ⟨w4.heap.size, 0, none⟩) (rowFn wd fun c => rsumN (invN (atsN so)) (txtN so) j c k) := ⟨rowFn_bytes _ _ (fun d => rsumN_lt (invN_lt _) _ _ _), Or.inr ⟨w4.heap.size, 0, rfl, hN6.lt.2, fun d hd => by
                      rw [rowFn_length] at hd
                      rw [Nat.zero_add]
                      exact hN6.cell d hd (rowFn_length _ _)⟩⟩
                    have := conv_seg hsg wd
                    rw [rowFn_length] at this
                    exact this
                  have HCT : Hid (strOf (catN (fun q c => rsumN (invN (atsN so)) (txtN so) q c k) wd j) ++ strOf (rowFn wd fun c => rsumN (invN (atsN so)) (txtN so) j c k) = strOf (catN (fun q c => rsumN (invN (atsN so)) (txtN so) q c k) wd (j + 1))) := by
                    show _ = _
                    rw [strOf_append, catN_succ]
                  have hjw : j * wd ≤ 12 * 1000 := Nat.mul_le_mul (by omega) (by omega)
                  have hs1 : (strOf (catN (fun q c => rsumN (invN (atsN so)) (txtN so) q c k) wd j)).size ≤ 12000 := by rw [strOf_size, catN_length]; omega
                  have hs2 : (strOf (rowFn wd fun c => rsumN (invN (atsN so)) (txtN so) j c k)).size ≤ 1000 := by rw [strOf_size, rowFn_length]; omega
                  have HB6 : Hid (Below w2.heap.size w2 w6) := HB3.out.trans ((HB4.out.trans (HBq.out.mono hz4)).mono hz3)
                  clear hN6 HON HBq hjw
                  generalize strOf (rowFn wd fun c => rsumN (invN (atsN so)) (txtN so) j c k) = s2 at hcv HCT hs2
                  generalize strOf (catN (fun q c => rsumN (invN (atsN so)) (txtN so) q c k) wd j) = s1 at *
                  go_wp2
                  go_roundw
                  case rel => exact ⟨j + 1, by omega, by go_num, by rw [← HCT.out], HB6.out⟩
                  case measure => simp [intOf]; omega
        · have hje : k = j := by omega
          subst hje
          have hsl : ∀ W, Sem.run Tryd.prog (Instr.slice 9 (.string (strOf (catN (fun q c => rsumN (invN (atsN so)) (txtN so) q c k) wd k))) none (some (.int .i64 (size : Int))) none) W = .ok (.string dt) W := fun W => by
            rw [run_slice_string_h W 9 _ Tryd.underlying9 .i64 (size : Int) (by omega) (by
              rw [strOf_size, catN_length]
              have := HMUL.out
              omega), Int.toNat_natCast, strOf_mk, strOf_take, catN_take _ _ _ _ HMUL.out, HDT.out]
          have HBF : Hid (Below w.heap.size w w3) := HB1.out.trans ((HB.out.trans (HB3.out.mono hz2)).mono HB1.out.size)
          clear HDT HMUL
          generalize strOf (catN (fun q c => rsumN (invN (atsN so)) (txtN so) q c k) wd k) = st at hsl ⊢
          go_wp2
          go_ret2
          exact ⟨rfl, HBF.out⟩
set_option maxRecDepth 10000 in
set_option maxHeartbeats 1000000 in
theorem upTo_any (k : Nat) (w : World) (hk : k ≤ 100) :
    Calls Tryd.prog 60 #[.int .i64 (k : Int)] w fun e w' => (∃ v, e = .returned v ∧ Own w' w.heap.size 5 v (upToL k)) ∧ Below w.heap.size w w' := by
  obtain ⟨i0, hi0, hz0, hz1, hz2⟩ := info_parts u8info
  go_enter Tryd.func60, Tryd.ntmps60
  go_wp2
  go_loopw [3, 4] (fun v j wr => ∃ n : Nat, n ≤ k ∧ j = .int .i64 n ∧ Own wr w.heap.size 5 v (upToL n) ∧ Below w.heap.size w wr) (fun _ j _ => k - (intOf j).toNat)
  case atStart => exact ⟨0, by omega, rfl, Own.nil _ _ _, Below.refl _ _⟩
  case round =>
    obtain ⟨n, hn, rfl, hown, hb⟩ := hrel
    have HO : Hid (Own wr w.heap.size 5 u3 (upToL n)) := hown
    have HB : Hid (Below w.heap.size w wr) := hb
    have hbz : w.heap.size ≤ wr.heap.size := hb.size
    have hul : (upToL n).length = n := by simp [upToL]
    clear hown hb
    by_cases hlt : n < k
    · have HU : Hid (upToL (n + 1) = upToL n ++ [n]) := by show _ = _; simp [upToL, List.range_succ]
      go_wp2_with (first | (at_builtin; refine wpList_append_byte rfl (.tmp 10) (.tmp 13) 58 rfl w.heap.size 5 i0 Tryd.underlying58 hi0 hz0 hz1 hz2 u3 (upToL n) rfl (HO.out.kept (World.grownBy_alloc wr _ none) (by cases hv : u3.ownBlock <;> simp)) ⟨wr.heap.size, 0, none⟩ 1 n rfl (by simp [byteV]) (by omega) (by simp; omega) ?_; intro v1 w1 hX hgX hwX))
      have hb1 : Below w.heap.size w w1 := (HB.out.alloc hbz _).grown hgX (by simp; omega) (fun k' hk' => (HO.out.block hk').1)
      go_roundw
      case rel => exact ⟨n + 1, by omega, by go_num, by rw [HU.out]; exact hX, hb1⟩
      case measure => simp [intOf]; omega
    · have hne : n = k := by omega
      subst hne
      go_wp2
      go_ret
      exact ⟨⟨u3, rfl, HO.out⟩, HB.out⟩
set_option maxRecDepth 10000 in
set_option maxHeartbeats 4000000 in
theorem rspread_any (n k : Nat) (w : World) (hn : n ≤ 100) (hk1 : 1 ≤ k) (hk : k ≤ 100) :
    Calls Tryd.prog 38 #[.int .i64 (n : Int), .int .i64 (k : Int)] w fun e w' => (∃ p' c', e = .returned (.slice p' n c') ∧ Mat w' p' (spreadM k n)) ∧ Below w.heap.size w w' := by
  obtain ⟨i1, hi1, hy0, hy1, hy2⟩ := info_parts rowinfo
  obtain ⟨i0, hi0, hz0, hz1, hzb⟩ := info_parts u8info
  go_enter Tryd.func38, Tryd.ntmps38
  go_wp2_with fail
  refine (upTo_any k _ hk).mono ?_
  rintro e w2 ⟨⟨vx, rfl, hox⟩, hb2⟩
  obtain ⟨px, cx, hvx, hsx⟩ := hox.seg (upToL_bytes k (by omega))
  rw [upToL_length] at hvx
  subst hvx
  have HSX : Hid (Seg w2 px (upToL k)) := hsx
  have HB2 : Hid (Below w.heap.size w w2) := hb2
  have hzw : w.heap.size ≤ w2.heap.size := hb2.size
  clear hox hsx hb2
  go_wp2
  go_loopw [6, 7] (fun v x wr => ∃ i : Nat, i ≤ n ∧ x = .int .i64 i ∧ OwnMat w2.heap.size wr 58 v (spreadM k i) ∧ Below w2.heap.size w2 wr) (fun _ x _ => n - (intOf x).toNat)
  case atStart => exact ⟨0, by omega, rfl, OwnMat.nil _ _ _, Below.refl _ _⟩
  case round =>
    obtain ⟨i, hi, rfl, hO, hBr⟩ := hrel
    have HO : Hid (OwnMat w2.heap.size wr 58 u6 (spreadM k i)) := hO
    have HBr : Hid (Below w2.heap.size w2 wr) := hBr
    have hz2 : w2.heap.size ≤ wr.heap.size := hBr.size
    clear hO hBr
    by_cases hil : i < n
    · go_wp2_with (first | (at_make; refine wpList_make_row _ rfl (.tmp 17) (.tmp 17) 58 rfl 5 i0 (byteV 0) Tryd.underlying58 hi0 hz0 hz1 rfl .i64 .i64 k rfl rfl (by rw [hzb]; omega) (by omega) ?_))
      obtain ⟨w3, rfl⟩ : ∃ w3, w3 = wr := ⟨_, rfl⟩
      have hmk : OwnN (w3.alloc (.cells (madeCells #[byteV 0] k) 5)) w3.heap.size 5 w3.heap.size k (rowFn k (fun c => if c < 0 then Gf.shareOf (upToL k) c i else 0)) := by
        have := OwnN.made w3 w3.heap.size 5 k (Nat.le_refl _) (by omega)
        rw [rowFn_congr k _ (fun c => if c < 0 then Gf.shareOf (upToL k) c i else 0) (fun c _ => by rw [if_neg (Nat.not_lt_zero _)])] at this
        exact this
      have hbk : Below w3.heap.size w3 (w3.alloc (.cells (madeCells #[byteV 0] k) 5)) := (Below.refl _ _).alloc (Nat.le_refl _) _
      generalize w3.alloc (.cells (madeCells #[byteV 0] k) 5) = w4 at hmk hbk ⊢
      have HMK : Hid (OwnN w4 w3.heap.size 5 w3.heap.size k (rowFn k (fun c => if c < 0 then Gf.shareOf (upToL k) c i else 0))) := hmk
      have HBK : Hid (Below w3.heap.size w3 w4) := hbk
      clear hmk hbk
      go_loopw [9] (fun x wq => ∃ j : Nat, j ≤ k ∧ x = .int .i64 j ∧ OwnN wq w3.heap.size 5 w3.heap.size k (rowFn k (fun c => if c < j then Gf.shareOf (upToL k) c i else 0)) ∧ Below w3.heap.size w3 wq) (fun x _ => k - (intOf x).toNat)
      case atStart => exact ⟨0, by omega, rfl, HMK.out, HBK.out⟩
      case round =>
        obtain ⟨j, hj, rfl, hON, hBq⟩ := hrel
        obtain ⟨w5, rfl⟩ : ∃ w5, w5 = wr := ⟨_, rfl⟩
        have HON : Hid (OwnN w5 w3.heap.size 5 w3.heap.size k (rowFn k (fun c => if c < j then Gf.shareOf (upToL k) c i else 0))) := hON
        have HBq : Hid (Below w3.heap.size w3 w5) := hBq
        have hz5 : w3.heap.size ≤ w5.heap.size := hBq.size
        clear hON hBq HMK HBK
        by_cases hjl : j < k
        · have HS5 : Hid (Seg w5 px (upToL k)) := (HSX.out.below HBr.out).below HBq.out
          go_wp2_with fail
          refine (basis_told px k cx j i _ (by omega) hk hjl HS5.out).mono ?_
          rintro e w6 ⟨rfl, m, hw6⟩
          have HO6 : Hid (OwnN w6 w3.heap.size 5 w3.heap.size k (rowFn k (fun c => if c < j then Gf.shareOf (upToL k) c i else 0))) := by rw [hw6]; exact HON.out.drewN m
          have HB6 : Hid (Below w3.heap.size w3 w6) := by rw [hw6]; exact below_drewN HBq.out m
          have q5 : w6.cell? ⟨w3.heap.size, j, none⟩ = some (.int .u8 ((0 : Nat) : Int)) := by rw [HO6.out.cell j hjl (rowFn_length _ _), nth_rowFn _ _ j hjl, if_neg (Nat.lt_irrefl _)]
          have q6 : w6.frozen? ⟨w3.heap.size, j, none⟩ = false := HO6.out.free j
          have HT : Hid (OwnN (w6.setCell ⟨w3.heap.size, j, none⟩ (.int .u8 ((Gf.shareOf (upToL k) j i : Nat) : Int))) w3.heap.size 5 w3.heap.size k (rowFn k (fun c => if c < j + 1 then Gf.shareOf (upToL k) c i else 0))) := by
            have := HO6.out.set j (Gf.shareOf (upToL k) j i)
            rw [rowFn_congr k (fun c => if c < j + 1 then Gf.shareOf (upToL k) c i else 0) (fun c => if c = j then Gf.shareOf (upToL k) j i else if c < j then Gf.shareOf (upToL k) c i else 0) (fun c _ => by
              by_cases e : c = j
              · subst e; rw [if_pos (by omega), if_pos rfl]
              · rw [if_neg e]
                by_cases e' : c < j
                · rw [if_pos (by omega), if_pos e']
                · rw [if_neg (by omega), if_neg e'])]
            exact this
          clear hw6 HON HBq HS5 HO6
          generalize Gf.shareOf (upToL k) j i = sh at HT ⊢
          go_wp2
          go_roundw
          case rel => exact ⟨j + 1, by omega, by go_num, HT.out, HB6.out.setCell (Nat.le_refl _) _⟩
          case measure => simp [intOf]; omega
        · have hje : j = k := by omega
          subst hje
          obtain ⟨vs, hmv⟩ := HO.out
          have HMV : Hid (OwnMatV w2.heap.size w3 58 u6 vs (spreadM j i)) := hmv
          have HV : Hid (OwnV w3 w2.heap.size 58 u6 vs) := hmv.1
          have HVL : Hid (vs.length = i) := hmv.2.1.trans (spreadM_length j i)
          have hr : Hid (Own w5 w3.heap.size 5 (.slice (some ⟨w3.heap.size, 0, none⟩) j j) (rowFn j fun c => Gf.shareOf (upToL j) c i)) := by
            refine OwnN.own ?_ (rowFn_length _ _)
            rw [rowFn_congr j _ (fun c => if c < j then Gf.shareOf (upToL j) c i else 0) (fun c hc => by rw [if_pos hc])]
            exact HON.out
          clear hmv HON
          go_wp2_with (first | (at_builtin; refine wpList_append_val rfl (.tmp 32) (.tmp 34) 51 rfl w2.heap.size 58 i1 (.slice none 0 0) 24 Tryd.underlying51 hi1 hy0 rfl hy1 hy2 (by decide) u6 vs rfl (((HV.out.kept (row := none) ⟨HBq.out.os, HBq.out.tape, HBq.out.output, HBq.out.size, fun k hk _ => HBq.out.block k hk⟩ (by cases hv : u6.ownBlock <;> simp))).kept (World.grownBy_alloc w5 _ none) (by cases hv : u6.ownBlock <;> simp)) ⟨w5.heap.size, 0, none⟩ 1 (.slice (some ⟨w3.heap.size, 0, none⟩) j j) rfl rfl (by simp) (by have := HVL.out; omega) (by simp; omega) ?_; intro v' w8 hV' hg' hw'))
          have hmv3 := HMV.out.snoc hz2 hr.out (rowFn_bytes _ _ fun c => Gf.shareOf_lt _ c _) HBq.out hV' hg' hw'
          have hb8 : Below w2.heap.size w2 w8 := ((HBr.out.trans (HBq.out.mono hz2)).alloc (by omega) _).grown hg' (by simp; omega) (fun k' hk' => (HV.out.block hk').1)
          go_roundw
          case rel => exact ⟨i + 1, by omega, by go_num, ⟨_, by rw [spreadM_succ]; exact hmv3⟩, hb8⟩
          case measure => simp [intOf]; omega
    · have hie : i = n := by omega
      subst hie
      obtain ⟨p', c', hv, hmat⟩ := HO.out.mat
      rw [spreadM_length] at hv
      subst hv
      clear HO
      go_wp2
      go_ret
      exact ⟨⟨p', c', rfl, hmat⟩, HB2.out.trans (HBr.out.mono hzw)⟩
set_option maxRecDepth 10000 in
set_option maxHeartbeats 4000000 in
theorem rencode_any (n k : Nat) (s : ByteArray) (w : World) (hk1 : 1 ≤ k) (hkn : k ≤ n) (hn : n ≤ 12) (hs : s.size ≤ 3000) :
    Calls Tryd.prog 14 #[.int .i64 (n : Int), .int .i64 (k : Int), .string s] w fun e w' => (∃ v, e = .returned v ∧ OwnSh w' w.heap.size v ((List.range n).map fun i => (i, encRow (bytesOf s) k (wideN k s.size) i))) ∧ Below w.heap.size w w' := by
  obtain ⟨i1, hi1, hy0, hy1, hy2⟩ := info_parts shinfo
  obtain ⟨i0, hi0, hz0, hz1, hzb⟩ := info_parts u8info
  have hwd := wideN_le (size := s.size) hk1
  go_enter Tryd.func14, Tryd.ntmps14
  go_wp2_with fail
  refine (rwide_any k s.size _ hk1 (by omega) (by omega)).mono ?_
  rintro e w' ⟨rfl, hww⟩
  rw [hww]
  clear hww w'
  go_wp2_with fail
  refine (rspread_any n k _ (by omega) hk1 (by omega)).mono ?_
  rintro e w2 ⟨⟨p2, c2, rfl, hm2⟩, hb2⟩
  have HM2 : Hid (Mat w2 p2 (spreadM k n)) := hm2
  have HB2 : Hid (Below w.heap.size w w2) := hb2
  have hs2 : w.heap.size ≤ w2.heap.size := hb2.size
  clear hm2 hb2
  generalize hwe : wideN k s.size = wd at *
  have HWE : Hid (wideN k s.size = wd) := hwe
  clear hwe
  go_wp2
  have hsz : (bytesOf s).length = s.size := by simp [bytesOf]
  go_loopw [9, 10] (fun v x wr => ∃ i : Nat, i ≤ n ∧ x = .int .i64 i ∧ OwnSh wr w2.heap.size v ((List.range i).map fun i => (i, encRow (bytesOf s) k wd i)) ∧ Below w2.heap.size w2 wr) (fun _ x _ => n - (intOf x).toNat)
  case atStart => exact ⟨0, by omega, rfl, World.ownsRow_nil _ _ _ _, Below.refl _ _⟩
  case round =>
    obtain ⟨i, hi, rfl, hO, hB⟩ := hrel
    obtain ⟨w3, rfl⟩ : ∃ w3, w3 = wr := ⟨_, rfl⟩
    have HO : Hid (OwnSh w3 w2.heap.size u9 ((List.range i).map fun i => (i, encRow (bytesOf s) k wd i))) := hO
    have HB : Hid (Below w2.heap.size w2 w3) := hB
    have hz3 : w2.heap.size ≤ w3.heap.size := hB.size
    clear hO hB
    by_cases hil : i < n
    · go_wp2_with (first | (at_make; refine wpList_make_row _ rfl (.tmp 26) (.tmp 26) 58 rfl 5 i0 (byteV 0) Tryd.underlying58 hi0 hz0 hz1 rfl .i64 .i64 wd rfl rfl (by rw [hzb]; omega) (by omega) ?_))
      have hmk : OwnN (w3.alloc (.cells (madeCells #[byteV 0] wd) 5)) w3.heap.size 5 w3.heap.size wd (rowFn wd (fun c => if c < 0 then encN (bytesOf s) k wd i c k else 0)) := by
        have := OwnN.made w3 w3.heap.size 5 wd (Nat.le_refl _) (by omega)
        rw [rowFn_congr wd _ (fun c => if c < 0 then encN (bytesOf s) k wd i c k else 0) (fun c _ => by rw [if_neg (Nat.not_lt_zero _)])] at this
        exact this
      have hbk : Below w3.heap.size w3 (w3.alloc (.cells (madeCells #[byteV 0] wd) 5)) := (Below.refl _ _).alloc (Nat.le_refl _) _
      generalize w3.alloc (.cells (madeCells #[byteV 0] wd) 5) = w4 at hmk hbk ⊢
      have HMK : Hid (OwnN w4 w3.heap.size 5 w3.heap.size wd (rowFn wd (fun c => if c < 0 then encN (bytesOf s) k wd i c k else 0))) := hmk
      have HBK : Hid (Below w3.heap.size w3 w4) := hbk
      clear hmk hbk
      go_loopw [12] (fun x wq => ∃ c : Nat, c ≤ wd ∧ x = .int .i64 c ∧ OwnN wq w3.heap.size 5 w3.heap.size wd (rowFn wd (fun d => if d < c then encN (bytesOf s) k wd i d k else 0)) ∧ Below w3.heap.size w3 wq) (fun x _ => wd - (intOf x).toNat)
      case atStart => exact ⟨0, by omega, rfl, HMK.out, HBK.out⟩
      case round =>
        obtain ⟨c, hc, rfl, hON, hBq⟩ := hrel
        obtain ⟨w5, rfl⟩ : ∃ w5, w5 = wr := ⟨_, rfl⟩
        have HON : Hid (OwnN w5 w3.heap.size 5 w3.heap.size wd (rowFn wd (fun d => if d < c then encN (bytesOf s) k wd i d k else 0))) := hON
        have HBq : Hid (Below w3.heap.size w3 w5) := hBq
        clear hON hBq HMK HBK
        by_cases hcl : c < wd
        · go_wp2
          go_loopw [13] (fun x wq => ∃ j : Nat, j ≤ k ∧ x = .int .i64 j ∧ OwnN wq w3.heap.size 5 w3.heap.size wd (rowFn wd (fun d => if d < c then encN (bytesOf s) k wd i d k else if d = c then encN (bytesOf s) k wd i c j else 0)) ∧ Below w3.heap.size w3 wq) (fun x _ => k - (intOf x).toNat)
          case atStart =>
            refine ⟨0, by omega, rfl, ?_, HBq.out⟩
            rw [rowFn_congr wd _ (fun d => if d < c then encN (bytesOf s) k wd i d k else 0) (fun d _ => by by_cases e : d = c <;> simp [e, encN])]
            exact HON.out
          case round =>
            obtain ⟨j, hjk, rfl, hON2, hBq2⟩ := hrel
            obtain ⟨w6, rfl⟩ : ∃ w6, w6 = wr := ⟨_, rfl⟩
            have HON2 : Hid (OwnN w6 w3.heap.size 5 w3.heap.size wd (rowFn wd (fun d => if d < c then encN (bytesOf s) k wd i d k else if d = c then encN (bytesOf s) k wd i c j else 0))) := hON2
            have HBq2 : Hid (Below w3.heap.size w3 w6) := hBq2
            clear hON2 hBq2 HON HBq
            by_cases hjl : j < k
            · have hb : j * wd ≤ 12 * 3000 := Nat.mul_le_mul (by omega) (by omega)
              have hp0 : (0 : Int) ≤ (j : Int) * (wd : Int) := by rw [← Int.natCast_mul]; omega
              have hp1 : (j : Int) * (wd : Int) ≤ 36000 := by rw [← Int.natCast_mul]; omega
              by_cases hin : j * wd + c < s.size
              · have h2 : (j : Int) * (wd : Int) + (c : Int) < (s.size : Int) := by rw [← Int.natCast_mul]; omega
                have hlr : (rowOf (spreadM k n) i).length = k := by rw [spreadM_row k n i hil, rowFn_length]
                obtain ⟨bm, om, b1, o1, c1, hpm, hbm, hb1, hcM, hdM⟩ := HM2.out.row (i := i) (by rw [spreadM_length]; exact hil) (by rw [hlr]; omega)
                subst hpm
                rw [hlr] at hcM hdM
                have toW6 : ∀ b o, b < w2.heap.size → w6.cell? ⟨b, o, none⟩ = w2.cell? ⟨b, o, none⟩ := fun b o hb => (HBq2.out.cell (p := ⟨b, o, none⟩) (by show b < _; omega)).trans (HB.out.cell (p := ⟨b, o, none⟩) hb)
                have q1 : w6.cell? ⟨bm, om + i, none⟩ = some (.slice (some ⟨b1, o1, none⟩) k c1) := (toW6 _ _ hbm).trans hcM
                have q2 : w6.cell? ⟨b1, o1 + j, none⟩ = some (.int .u8 ((Gf.shareOf (upToL k) j i : Nat) : Int)) := by rw [toW6 _ _ hb1, hdM j hjl, spreadM_row k n i hil, nth_rowFn _ _ j hjl]
                have q5 : w6.cell? ⟨w3.heap.size, c, none⟩ = some (.int .u8 ((encN (bytesOf s) k wd i c j : Nat) : Int)) := by rw [HON2.out.cell c hcl (rowFn_length _ _), nth_rowFn _ _ c hcl, if_neg (Nat.lt_irrefl _), if_pos rfl]
                have q6 : w6.frozen? ⟨w3.heap.size, c, none⟩ = false := HON2.out.free c
                have lx := Gf.shareOf_lt (upToL k) j i
                have ly := bytesOf_lt s (j * wd + c)
                have ls := encN_lt (bytesOf s) k wd i c j
                have lm := Gf.mul_lt lx (Gf.nth (bytesOf s) (j * wd + c))
                have h0 : (0 : Int) ≤ (j : Int) * (wd : Int) + (c : Int) := by omega
                have hidx : ∀ W, Sem.run Tryd.prog (Instr.index 9 (.string s) (.int .i64 ((j : Int) * (wd : Int) + (c : Int)))) W = .ok (.int .u8 ((Gf.nth (bytesOf s) (j * wd + c) : Nat) : Int)) W := fun W => by
                  rw [run_index_string W 9 s .i64 _ Tryd.underlying9, dif_pos ⟨h0, h2⟩]
                  rw [bytesOf_nth s (j * wd + c) hin]
                  congr 3
                have HX : Hid (bits .xor .u8 ((encN (bytesOf s) k wd i c j : Nat) : Int) ((Gf.mul (Gf.shareOf (upToL k) j i) (Gf.nth (bytesOf s) (j * wd + c)) : Nat) : Int) = ((encN (bytesOf s) k wd i c (j + 1) : Nat) : Int)) := by
                  show _ = _
                  rw [u8_xor_nat _ _ ls lm]
                  show _ = (((if j * wd + c < (bytesOf s).length then _ else _) : Nat) : Int)
                  rw [if_pos (by omega)]
                have hw1 : IntKind.i64.wrap ((j : Int) * (wd : Int)) = (j : Int) * (wd : Int) := by rw [IntKind.wrap_i64]; omega
                have hw2 : IntKind.i64.wrap ((j : Int) * (wd : Int) + (c : Int)) = (j : Int) * (wd : Int) + (c : Int) := by rw [IntKind.wrap_i64]; omega
                have n1 : w3.heap.size ≠ bm := by omega
                have n2 : w3.heap.size ≠ b1 := by omega
                clear toW6 hcM hdM hin hb
                generalize Gf.shareOf (upToL k) j i = x at q2 lx lm HX
                generalize Gf.nth (bytesOf s) (j * wd + c) = y at hidx ly lm HX
                have HON2' : Hid (OwnN w6 w3.heap.size 5 w3.heap.size wd (rowFn wd (fun d => if d < c then encN (bytesOf s) k wd i d k else if d = c then encN (bytesOf s) k wd i c j else 0))) := HON2.out
                generalize encN (bytesOf s) k wd i c j = sacc at q5 ls HX HON2'
                go_wp2
                refine wp_region_still_tail 23 (by kernel_rfl) (by kernel_rfl) ?_
                simp only [List.take_succ_cons, List.take_zero, List.drop_succ_cons, List.drop_zero]
                repeat still_step
                still_call (rmul_any x y _ lx ly)
                repeat still_step
                refine wpStill_nil ?_
                rw [HX.out]
                have HO7 : Hid (OwnN (w6.drewN 1) w3.heap.size 5 w3.heap.size wd (rowFn wd (fun d => if d < c then encN (bytesOf s) k wd i d k else if d = c then sacc else 0))) := HON2'.out.drewN 1
                have HB7 : Hid (Below w3.heap.size w3 (w6.drewN 1)) := below_drewN HBq2.out 1
                have q5' : (w6.drewN 1).cell? ⟨w3.heap.size, c, none⟩ = some (.int .u8 (sacc : Int)) := q5
                have q6' : (w6.drewN 1).frozen? ⟨w3.heap.size, c, none⟩ = false := q6
                change wpList _ _ _ _ _ (w6.drewN 1)
                generalize w6.drewN 1 = w7 at HO7 HB7 q5' q6' ⊢
                clear q1 q2 q5 q6 HON2 HON2' HBq2 hidx hw1 hw2 h0 h2
                go_wp2
                go_roundw
                case rel =>
                  refine ⟨j + 1, by omega, by go_num, ?_, HB7.out.setCell (Nat.le_refl _) _⟩
                  have := HO7.out.set c (encN (bytesOf s) k wd i c (j + 1))
                  rw [rowFn_congr wd (fun d => if d < c then encN (bytesOf s) k wd i d k else if d = c then encN (bytesOf s) k wd i c (j + 1) else 0) (fun d => if d = c then encN (bytesOf s) k wd i c (j + 1) else if d < c then encN (bytesOf s) k wd i d k else if d = c then sacc else 0) (fun d _ => by
                    by_cases e : d = c
                    · subst e; rw [if_neg (Nat.lt_irrefl _), if_pos rfl, if_pos rfl]
                    · rw [if_neg e, if_neg e, if_neg e])]
                  exact this
                case measure => simp [intOf]; omega
              · have h2 : ¬ (j : Int) * (wd : Int) + (c : Int) < (s.size : Int) := by rw [← Int.natCast_mul]; omega
                have HE : Hid (encN (bytesOf s) k wd i c (j + 1) = encN (bytesOf s) k wd i c j) := by
                  show (if j * wd + c < (bytesOf s).length then _ else _) = _
                  rw [if_neg (by omega)]
                clear hb hin
                go_wp2
                go_roundw
                case rel => exact ⟨j + 1, by omega, by go_num, by rw [HE.out]; exact HON2.out, HBq2.out⟩
                case measure => simp [intOf]; omega
            · have hke : j = k := by omega
              subst hke
              go_wp2
              go_roundw
              case rel =>
                refine ⟨c + 1, by omega, by go_num, ?_, HBq2.out⟩
                rw [rowFn_congr wd _ (fun d => if d < c then encN (bytesOf s) j wd i d j else if d = c then encN (bytesOf s) j wd i c j else 0) (fun d _ => by
                  by_cases e : d < c
                  · rw [if_pos (by omega), if_pos e]
                  · by_cases e' : d = c
                    · subst e'; rw [if_pos (by omega), if_neg e, if_pos rfl]
                    · rw [if_neg (by omega), if_neg e, if_neg e'])]
                exact HON2.out
              case measure => simp [intOf]; omega
        · have hce : c = wd := by omega
          subst hce
          have hN5 : OwnN w5 w3.heap.size 5 w3.heap.size c (encRow (bytesOf s) k c i) := by
            unfold encRow
            rw [rowFn_congr c _ (fun d => if d < c then encN (bytesOf s) k c i d k else 0) (fun d hd => by rw [if_pos hd])]
            exact HON.out
          have hcv : Sem.run Tryd.prog (convert 58 9 (.slice (some ⟨w3.heap.size, 0, none⟩) c c)) w5 = .ok (.string (strOf (encRow (bytesOf s) k c i))) w5 := by
            have hsg : Seg w5 (some ⟨w3.heap.size, 0, none⟩) (encRow (bytesOf s) k c i) := ⟨rowFn_bytes _ _ (fun d => encN_lt _ _ _ _ _ _), Or.inr ⟨w3.heap.size, 0, rfl, hN5.lt.2, fun d hd => by
              have hd' : d < c := by unfold encRow at hd; rw [rowFn_length] at hd; exact hd
              rw [Nat.zero_add]
              exact hN5.cell d hd' (rowFn_length _ _)⟩⟩
            have := conv_seg hsg c
            rw [show (encRow (bytesOf s) k c i).length = c from rowFn_length _ _] at this
            exact this
          have hz5 : w3.heap.size ≤ w5.heap.size := HBq.out.size
          have HO5 : Hid (OwnSh w5 w2.heap.size u9 ((List.range i).map fun i => (i, encRow (bytesOf s) k c i))) := World.ownsRow.kept HO.out (⟨HBq.out.os, HBq.out.tape, HBq.out.output, HBq.out.size, fun k hk _ => HBq.out.block k hk⟩ : w3.grownBy w5 none) (by cases hv : u9.ownBlock <;> simp)
          have HW5 : Hid (Below w2.heap.size w2 w5) := HB.out.trans (HBq.out.mono hz3)
          have HL : Hid (((List.range i).map fun i => (i, encRow (bytesOf s) k c i)).length = i) := by show _ = _; simp
          clear hN5 HON
          have HR : Hid ((List.range (i + 1)).map (fun i => (i, encRow (bytesOf s) k c i)) = ((List.range i).map fun i => (i, encRow (bytesOf s) k c i)) ++ [(i, encRow (bytesOf s) k c i)]) := by show _ = _; simp [List.range_succ]
          generalize encRow (bytesOf s) k c i = row at hcv HR
          generalize ((List.range i).map fun i => (i, encRow (bytesOf s) k c i)) = pre at HO5 HL HR
          go_wp2_with (first | (at_builtin; refine wpList_append_own _ rfl (.tmp 69) (.tmp 74) 22 rfl w2.heap.size 25 i1 (.agg #[.int .i64 0, .string ⟨#[]⟩]) 2 24 Tryd.underlying22 hi1 hy0 hy1 hy2 rfl (by decide) u9 pre.length (shCells pre) rfl (World.ownsRow.alloc HO5.out _) ⟨w5.heap.size, 0, none⟩ 1 1 [.int .i64 (i : Int), .string (strOf row)] rfl rfl (fun j u hj => by match j, hj with | 0, hj => (simp at hj; subst hj; simp [Addr.add]) | 1, hj => (simp at hj; subst hj; simp [Addr.add])) (fun u hu => by simp at hu; rcases hu with rfl | rfl <;> rfl) (by rw [HL.out]; unfold maxLen; omega) (by rw [HL.out]; omega) (by simp; omega) ?_; intro v' w8 hown' hg' _))
          have hb8 : Below w2.heap.size w2 w8 := (HW5.out.alloc (by omega) _).grown hg' (by simp; omega) (fun g hg => (World.ownsRow.lt HO5.out g hg).1)
          have hO8 := OwnSh.snoc hown' rfl
          go_roundw
          case rel => exact ⟨i + 1, by omega, by go_num, by rw [HR.out]; exact hO8, hb8⟩
          case measure => simp [intOf]; omega
    · have hie : i = n := by omega
      subst hie
      have HF : Hid (OwnSh w3 w.heap.size u9 ((List.range i).map fun j => (j, encRow (bytesOf s) k (wideN k s.size) j))) := by
        show OwnSh _ _ _ _
        rw [HWE.out]
        obtain ⟨h1, h2⟩ := HO.out
        refine ⟨h1, ?_⟩
        rcases h2 with h2 | ⟨g', cap, cur, e, hbb, rest⟩
        · exact Or.inl h2
        · exact Or.inr ⟨g', cap, cur, e, Nat.le_trans hs2 hbb, rest⟩
      have HBF : Hid (Below w.heap.size w w3) := HB2.out.trans (HB.out.mono hs2)
      clear HO HB
      go_wp2
      go_ret
      exact ⟨⟨_, rfl, HF.out⟩, HBF.out⟩
end Go.Proofs.YtppcijpgalaohaaDoor
