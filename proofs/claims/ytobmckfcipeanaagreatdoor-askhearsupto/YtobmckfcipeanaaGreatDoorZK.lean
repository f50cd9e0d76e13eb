import Derived.Test.YtobmckfcipeanaaGreatDoorZI
import Derived.Test.YtobmckfcipeanaaGreatDoorYD
import Derived.Test.YtobmckfcipeanaaGreatDoorZH
import Derived.Test.YtobmckfcipeanaaGreatDoorZB
namespace Go.Proofs.YtobmckfcipeanaaGreatDoor
open Go.RowKit
theorem strOf_append (l m : List Nat) : strOf l ++ strOf m = strOf (l ++ m) := by
 rw [strOf_mk, strOf_mk, strOf_mk]
 apply ByteArray.ext
 simp [byteL]
def basL (X : List Nat) (j m : Nat) : List Nat := rowFn m fun i => Gf.shareOf X i j
theorem basL_succ (X : List Nat) (j m : Nat) : basL X j (m + 1) = basL X j m ++ [Gf.shareOf X m j] := by simp [basL, rowFn, List.range_succ]
theorem basL_length (X : List Nat) (j m : Nat) : (basL X j m).length = m := rowFn_length _ _
theorem basL_bytes (X : List Nat) (j m : Nat) : Gf.Bytes (basL X j m) := rowFn_bytes _ _ fun _ => Gf.shareOf_lt _ _ _
set_option maxRecDepth 10000 in
set_option maxHeartbeats 16000000 in
theorem rdecode_ok (n k size : Nat) (p : Option Addr) (l : List (Int × ByteArray)) (cap : Nat) (w : World) (hk1 : 1 <= k) (hkn : k <= n) (hn : n <= 12) (hsz : size <= 1000) (hl : l.length <= 1000) (ht : ∀ i, (shAt l i).2.size <= 100000) (hf : Fits n k size l) (hs : Shs w p l) :
 Calls Tryz.prog 74 #[.int .i64 (n : Int), .int .i64 (k : Int), .int .i64 (size : Int), .slice p l.length cap] w fun e w' => e = .returned (.tuple #[.string (decT k size (pickN k l l.length)), .int .i64 0]) /\ Below w.heap.size w w' := by
 have hwd := wideN_le (size := size) hk1
 obtain ⟨i0, hi0, hz0, hz1, hzb⟩ := info_parts u8info
 have HSO := rsome_any n k size p l cap w hk1 hkn hn hsz hl ht hs
 have HWD : Hid (∀ W, Calls Tryz.prog 100 #[.int .i64 (k : Int), .int .i64 (size : Int)] W fun e w' => e = .returned (.int .i64 ((wideN k size : Nat) : Int)) /\ w' = W) := fun W => rwide_any k size W hk1 (by omega) (by omega)
 have HSZ : Hid (∀ x ∈ pickN k l l.length, 0 <= x.1 /\ x.1 < n /\ x.2.size = wideN k size) := fun x hx => hf.at_ (pickN_sub k l l.length (Nat.le_refl _) x hx)
 have HMUL : Hid (size <= k * wideN k size) := wide_mul hk1
 have HX : Hid ((∀ x ∈ atsN (pickN k l l.length), x < n) /\ (atsN (pickN k l l.length)).Nodup /\ (atsN (pickN k l l.length)).length = k) := hf.ats
 have HLEN : Hid ((pickN k l l.length).length = k) := hf.enough
 have HGOOD : Hid (l.any (badB (n : Int) (wideN k size)) = false) := hf.good
 have HDT : Hid (decT k size (pickN k l l.length) = strOf (rowFn size fun p => rsumN (invN (atsN (pickN k l l.length))) (txtN (pickN k l l.length)) (p / wideN k size) (p % wideN k size) k)) := by show _ = _; rfl
 unfold Somed at HSO
 clear hf hs ht
 generalize decT k size (pickN k l l.length) = dt at HDT ⊢
 generalize wideN k size = wd at *
 generalize pickN k l l.length = so at *
 have hmk : ∀ W : World, Sem.run Tryz.prog (Instr.makeSlice 133 (.int .i64 (wd : Int)) (.int .i64 (wd : Int))) W = .ok (.slice (some ⟨W.heap.size, 0, none⟩) wd wd) (W.alloc (.cells (madeCells #[byteV 0] wd) 5)) := fun W => run_make_row (P := Tryz.prog) 133 5 i0 (byteV 0) Tryz.underlying133 hi0 hz0 hz1 rfl .i64 .i64 wd (by rw [hzb]; omega) (by omega) W
 go_enter Tryz.func74, Tryz.ntmps74
 go_wp2_with fail
 refine HSO.mono ?_
 rintro e w1 ⟨⟨v, c, rfl, hcase⟩, hb1⟩
 rcases hcase with ⟨_, _, hbad⟩ | ⟨_, _, _, hfew⟩ | ⟨hc0, _, _, p1, c1, hv, hs1⟩
 ·exact absurd hbad (by rw [HGOOD.out]; decide)
 ·exact absurd hfew (by rw [HLEN.out]; exact Nat.lt_irrefl _)
 subst hc0 hv
 rcases hs1 with h0 | ⟨b1, o1, hp1, hlb1, hcs⟩
 ·exact absurd HLEN.out (by rw [h0]; simp; omega)
 subst hp1
 have HCS : Hid (∀ i, i < so.length -> w1.cell? ⟨b1, o1 + i * 2, none⟩ = some (.int .i64 (shAt so i).1) /\ w1.cell? ⟨b1, o1 + i * 2 + 1, none⟩ = some (.string (shAt so i).2)) := hcs
 have HB1 : Hid (Below w.heap.size w w1) := hb1
 clear HSO hb1 hcs HGOOD
 have HXB : Hid (Gf.Bytes (atsN so)) := fun j => by
  by_cases hj : j < (atsN so).length
  ·have := HX.out.1 (Gf.nth (atsN so) j) (by rw [Gf.nth_getElem _ j hj]; exact List.getElem_mem _)
   omega
  ·rw [nth_past (by omega)]; decide
 go_wp2
 go_loopw [12, 13] (fun v x wr => ∃ i : Nat, i <= k /\ x = .int .i64 i /\ Own wr w1.heap.size 5 v ((atsN so).take i) /\ Below w1.heap.size w1 wr) (fun _ x _ => k - (intOf x).toNat)
 case atStart => exact ⟨0, by omega, rfl, by rw [List.take_zero]; exact Own.nil _ _ _, Below.refl _ _⟩
 case round =>
  obtain ⟨i, hi, rfl, hO, hB⟩ := hrel
  obtain ⟨w2, rfl⟩ : ∃ w2, w2 = wr := ⟨_, rfl⟩
  have HO : Hid (Own w2 w1.heap.size 5 u12 ((atsN so).take i)) := hO
  have HB : Hid (Below w1.heap.size w1 w2) := hB
  have hz2 : w1.heap.size <= w2.heap.size := hB.size
  have htl : ((atsN so).take i).length = i := by rw [List.length_take, HX.out.2.2]; omega
  have HTL : Hid (((atsN so).take i).length = i) := htl
  clear hO hB htl
  by_cases hil : i < k
  ·have hm : shAt so i ∈ so := shAt_mem (by rw [HLEN.out]; exact hil)
   have hx := HSZ.out _ hm
   have hnx : Gf.nth (atsN so) i = (shAt so i).1.toNat := nth_ats (by rw [HLEN.out]; exact hil)
   have hxe : (shAt so i).1 = ((Gf.nth (atsN so) i : Nat) : Int) := by rw [hnx]; omega
   have hxn : Gf.nth (atsN so) i < n := by rw [hnx]; omega
   have q1 : w2.cell? ⟨b1, o1 + i * 2, none⟩ = some (.int .i64 ((Gf.nth (atsN so) i : Nat) : Int)) := by
    rw [HB.out.cell (p := ⟨b1, o1 + i * 2, none⟩) hlb1, (HCS.out i (by rw [HLEN.out]; exact hil)).1, hxe]
   have HTK : Hid ((atsN so).take (i + 1) = (atsN so).take i ++ [Gf.nth (atsN so) i]) := Gf.take_nth _ i (by rw [HX.out.2.2]; exact hil)
   clear hnx hxe hx hm
   generalize Gf.nth (atsN so) i = x at q1 hxn HTK
   generalize (atsN so).take i = xs at *
   have hxl : xs.length <= 12 := by rw [HTL.out]; omega
   go_wp2_with (first | (at_builtin; refine wpList_append_byte rfl (.tmp 38) (.tmp 45) 133 rfl w1.heap.size 5 i0 Tryz.underlying133 hi0 hz0 hz1 hzb u12 xs rfl (HO.out.kept (World.grownBy_alloc w2 _ none) (by cases hv : u12.ownBlock <;> simp)) ⟨w2.heap.size, 0, none⟩ 1 x rfl (by simp [byteV]) (by omega) (by simp; omega) ?_; intro v1 w3 hX hgX _))
   have hb3 : Below w1.heap.size w1 w3 := (HB.out.alloc hz2 _).grown hgX (by simp; omega) (fun k' hk' => (HO.out.block hk').1)
   go_roundw
   case rel => exact ⟨i + 1, by omega, by go_num, by rw [HTK.out]; exact hX, hb3⟩
   case measure => simp [intOf]; omega
  ·have hie : k = i := by omega
   subst hie
   have htk : (atsN so).take k = atsN so := List.take_of_length_le (by rw [HX.out.2.2]; exact Nat.le_refl _)
   obtain ⟨pX, cX, hvX, hsX⟩ := (show Own w2 w1.heap.size 5 u12 (atsN so) by rw [<- htk]; exact HO.out).seg HXB.out
   rw [HX.out.2.2] at hvX
   subst hvX
   have HSX : Hid (Seg w2 pX (atsN so)) := hsX
   clear htk hsX HO HTL
   go_wp2
   go_loopw [14, 15] (fun v x wr => ∃ j : Nat, j <= k /\ x = .int .i64 j /\ v = .string (strOf (catN (fun q c => rsumN (invN (atsN so)) (txtN so) q c k) wd j)) /\ Below w2.heap.size w2 wr) (fun _ x _ => k - (intOf x).toNat)
   case atStart => exact ⟨0, by omega, rfl, rfl, Below.refl _ _⟩
   case round =>
    obtain ⟨j, hj, rfl, rfl, hB3⟩ := hrel
    obtain ⟨w3, rfl⟩ : ∃ w3, w3 = wr := ⟨_, rfl⟩
    have HB3 : Hid (Below w2.heap.size w2 w3) := hB3
    have hz3 : w2.heap.size <= w3.heap.size := hB3.size
    clear hB3
    by_cases hjl : j < k
    ·go_wp2
     go_loopw [16, 17] (fun v x wq => ∃ m : Nat, m <= k /\ x = .int .i64 m /\ Own wq w3.heap.size 5 v (basL (atsN so) j m) /\ Below w3.heap.size w3 wq) (fun _ x _ => k - (intOf x).toNat)
     case atStart => exact ⟨0, by omega, rfl, Own.nil _ _ _, Below.refl _ _⟩
     case round =>
      obtain ⟨m, hm, rfl, hO4, hB4⟩ := hrel
      obtain ⟨w4, rfl⟩ : ∃ w4, w4 = wr := ⟨_, rfl⟩
      have HO4 : Hid (Own w4 w3.heap.size 5 u16 (basL (atsN so) j m)) := hO4
      have HB4 : Hid (Below w3.heap.size w3 w4) := hB4
      have hz4 : w3.heap.size <= w4.heap.size := hB4.size
      clear hO4 hB4
      by_cases hml : m < k
      ·have hbs := basis_any pX (atsN so) cX m j w4 (by omega) (by rw [HX.out.2.2]; omega) (by rw [HX.out.2.2]; exact hml) HX.out.2.1 ((HSX.out.below HB3.out).below HB4.out)
       rw [HX.out.2.2] at hbs
       have HSU : Hid (basL (atsN so) j (m + 1) = basL (atsN so) j m ++ [Gf.shareOf (atsN so) m j]) := basL_succ _ _ _
       have hbl : (basL (atsN so) j m).length <= 12 := by rw [basL_length]; omega
       go_wp2_with fail
       refine hbs.mono ?_
       rintro e w5 ⟨rfl, q, hw5⟩
       have HO5 : Hid (Own w5 w3.heap.size 5 u16 (basL (atsN so) j m)) := by rw [hw5]; exact HO4.out.kept (grownBy_drewN w4 q none) (by cases hv : u16.ownBlock <;> simp)
       have HB5 : Hid (Below w3.heap.size w3 w5) := by rw [hw5]; exact below_drewN HB4.out q
       have hz5 : w3.heap.size <= w5.heap.size := HB5.out.size
       clear hw5 hbs HO4 HB4
       generalize Gf.shareOf (atsN so) m j = y at HSU ⊢
       generalize basL (atsN so) j m = bl at *
       go_wp2_with (first | (at_builtin; refine wpList_append_byte rfl (.tmp 62) (.tmp 64) 133 rfl w3.heap.size 5 i0 Tryz.underlying133 hi0 hz0 hz1 hzb u16 bl rfl (HO5.out.kept (World.grownBy_alloc w5 _ none) (by cases hv : u16.ownBlock <;> simp)) ⟨w5.heap.size, 0, none⟩ 1 y rfl (by simp [byteV]) (by omega) (by simp; omega) ?_; intro v1 w6 hX6 hgX _))
       have hb6 : Below w3.heap.size w3 w6 := (HB5.out.alloc hz5 _).grown hgX (by simp; omega) (fun k' hk' => (HO5.out.block hk').1)
       go_roundw
       case rel => exact ⟨m + 1, by omega, by go_num, by rw [HSU.out]; exact hX6, hb6⟩
       case measure => simp [intOf]; omega
      ·have hme : k = m := by omega
       subst hme
       obtain ⟨pB, cB, hvB, hsB⟩ := HO4.out.seg (basL_bytes (atsN so) j k)
       rw [basL_length] at hvB
       subst hvB
       rcases hsB.cells with h0 | ⟨bb, ob, hpB, hlbb, hcb⟩
       ·exact absurd (congrArg List.length h0) (by rw [basL_length]; simp; omega)
       subst hpB
       have HCB : Hid (∀ i, i < k -> w4.cell? ⟨bb, ob + i, none⟩ = some (.int .u8 ((Gf.shareOf (atsN so) i j : Nat) : Int))) := fun i hi => by
        rw [hcb i (by rw [basL_length]; exact hi)]
        unfold basL
        rw [nth_rowFn _ _ i hi]
       clear hsB hcb HO4
       go_wp2_with fail
       refine (HWD.out _).mono ?_
       rintro e w4' ⟨rfl, hww⟩
       rw [hww]
       clear hww w4'
       go_wp2
       have hmkN : OwnN (w4.alloc (.cells (madeCells #[byteV 0] wd) 5)) w4.heap.size 5 w4.heap.size wd (rowFn wd (fun c => if c < 0 then rsumN (invN (atsN so)) (txtN so) j c k else 0)) := by
        have := OwnN.made w4 w4.heap.size 5 wd (Nat.le_refl _) (by omega)
        rw [rowFn_congr wd _ (fun c => if c < 0 then rsumN (invN (atsN so)) (txtN so) j c k else 0) (fun c _ => by rw [if_neg (Nat.not_lt_zero _)])] at this
        exact this
       have hbk : Below w4.heap.size w4 (w4.alloc (.cells (madeCells #[byteV 0] wd) 5)) := (Below.refl _ _).alloc (Nat.le_refl _) _
       generalize w4.alloc (.cells (madeCells #[byteV 0] wd) 5) = w5 at hmkN hbk ⊢
       have HMK : Hid (OwnN w5 w4.heap.size 5 w4.heap.size wd (rowFn wd (fun c => if c < 0 then rsumN (invN (atsN so)) (txtN so) j c k else 0))) := hmkN
       have HBK : Hid (Below w4.heap.size w4 w5) := hbk
       clear hmkN hbk
       go_loopw [20] (fun x wq => ∃ c : Nat, c <= wd /\ x = .int .i64 c /\ OwnN wq w4.heap.size 5 w4.heap.size wd (rowFn wd (fun d => if d < c then rsumN (invN (atsN so)) (txtN so) j d k else 0)) /\ Below w4.heap.size w4 wq) (fun x _ => wd - (intOf x).toNat)
       case atStart => exact ⟨0, by omega, rfl, HMK.out, HBK.out⟩
       case round =>
        obtain ⟨c, hc, rfl, hON, hBq⟩ := hrel
        obtain ⟨w6, rfl⟩ : ∃ w6, w6 = wr := ⟨_, rfl⟩
        have HON : Hid (OwnN w6 w4.heap.size 5 w4.heap.size wd (rowFn wd (fun d => if d < c then rsumN (invN (atsN so)) (txtN so) j d k else 0))) := hON
        have HBq : Hid (Below w4.heap.size w4 w6) := hBq
        clear hON hBq HMK HBK
        by_cases hcl : c < wd
        ·go_wp2
         go_loopw [21] (fun x wq => ∃ i : Nat, i <= k /\ x = .int .i64 i /\ OwnN wq w4.heap.size 5 w4.heap.size wd (rowFn wd (fun d => if d < c then rsumN (invN (atsN so)) (txtN so) j d k else if d = c then rsumN (invN (atsN so)) (txtN so) j c i else 0)) /\ Below w4.heap.size w4 wq) (fun x _ => k - (intOf x).toNat)
         case atStart =>
          refine ⟨0, by omega, rfl, ?_, HBq.out⟩
          rw [rowFn_congr wd _ (fun d => if d < c then rsumN (invN (atsN so)) (txtN so) j d k else 0) (fun d _ => by by_cases e : d = c <;> simp [e, rsumN])]
          exact HON.out
         case round =>
          obtain ⟨i, hi, rfl, hON2, hBq2⟩ := hrel
          obtain ⟨w7, rfl⟩ : ∃ w7, w7 = wr := ⟨_, rfl⟩
          have HON2 : Hid (OwnN w7 w4.heap.size 5 w4.heap.size wd (rowFn wd (fun d => if d < c then rsumN (invN (atsN so)) (txtN so) j d k else if d = c then rsumN (invN (atsN so)) (txtN so) j c i else 0))) := hON2
          have HBq2 : Hid (Below w4.heap.size w4 w7) := hBq2
          clear hON2 hBq2 HON HBq
          by_cases hil2 : i < k
          ·have hil3 : i < so.length := by rw [HLEN.out]; exact hil2
           have q2 : w7.cell? ⟨bb, ob + i, none⟩ = some (.int .u8 ((Gf.shareOf (atsN so) i j : Nat) : Int)) := (HBq2.out.cell (p := ⟨bb, ob + i, none⟩) hlbb).trans (HCB.out i hil2)
           have q3 : w7.cell? ⟨b1, o1 + i * 2 + 1, none⟩ = some (.string (shAt so i).2) := by
            rw [HBq2.out.cell (p := ⟨b1, o1 + i * 2 + 1, none⟩) (by show b1 < _; omega), HB4.out.cell (p := ⟨b1, o1 + i * 2 + 1, none⟩) (by show b1 < _; omega), HB3.out.cell (p := ⟨b1, o1 + i * 2 + 1, none⟩) (by show b1 < _; omega), HB.out.cell (p := ⟨b1, o1 + i * 2 + 1, none⟩) hlb1]
            exact (HCS.out i hil3).2
           have q5 : w7.cell? ⟨w4.heap.size, c, none⟩ = some (.int .u8 ((rsumN (invN (atsN so)) (txtN so) j c i : Nat) : Int)) := by rw [HON2.out.cell c hcl (rowFn_length _ _), nth_rowFn _ _ c hcl, if_neg (Nat.lt_irrefl _), if_pos rfl]
           have q6 : w7.frozen? ⟨w4.heap.size, c, none⟩ = false := HON2.out.free c
           have hst : (shAt so i).2.size = wd := (HSZ.out _ (shAt_mem hil3)).2.2
           have hidx := run_idx (shAt so i).2 c (by rw [hst]; exact hcl)
           have lx := Gf.shareOf_lt (atsN so) i j
           have ly := bytesOf_lt (shAt so i).2 c
           have ls : rsumN (invN (atsN so)) (txtN so) j c i < 256 := rsumN_lt (invN_lt _) j c i
           have lm := Gf.mul_lt lx (Gf.nth (bytesOf (shAt so i).2) c)
           have HXS : Hid (bits .xor .u8 ((rsumN (invN (atsN so)) (txtN so) j c i : Nat) : Int) ((Gf.mul (Gf.shareOf (atsN so) i j) (Gf.nth (bytesOf (shAt so i).2) c) : Nat) : Int) = ((rsumN (invN (atsN so)) (txtN so) j c (i + 1) : Nat) : Int)) := by
            show _ = _
            rw [u8_xor_nat _ _ ls lm]
            rfl
           have n1 : w4.heap.size ≠ bb := by omega
           have n2 : w4.heap.size ≠ b1 := by omega
           have HON2' : Hid (OwnN w7 w4.heap.size 5 w4.heap.size wd (rowFn wd (fun d => if d < c then rsumN (invN (atsN so)) (txtN so) j d k else if d = c then rsumN (invN (atsN so)) (txtN so) j c i else 0))) := HON2.out
           clear hst hil3
           generalize rsumN (invN (atsN so)) (txtN so) j c i = sacc at q5 ls HXS HON2'
           generalize Gf.shareOf (atsN so) i j = x at q2 lx lm HXS
           generalize (shAt so i).2 = tt at q3 hidx ly lm HXS
           generalize Gf.nth (bytesOf tt) c = y at hidx ly lm HXS
           go_wp2
           refine wp_region_still_tail 20 (by kernel_rfl) (by kernel_rfl) ?_
           simp only [List.take_succ_cons, List.take_zero, List.drop_succ_cons, List.drop_zero]
           repeat still_step
           still_call (rmul_any x y _ lx ly)
           repeat still_step
           refine wpStill_nil ?_
           rw [HXS.out]
           have HO7 : Hid (OwnN (w7.drewN 1) w4.heap.size 5 w4.heap.size wd (rowFn wd (fun d => if d < c then rsumN (invN (atsN so)) (txtN so) j d k else if d = c then sacc else 0))) := HON2'.out.drewN 1
           have HB7 : Hid (Below w4.heap.size w4 (w7.drewN 1)) := below_drewN HBq2.out 1
           have q5' : (w7.drewN 1).cell? ⟨w4.heap.size, c, none⟩ = some (.int .u8 (sacc : Int)) := q5
           have q6' : (w7.drewN 1).frozen? ⟨w4.heap.size, c, none⟩ = false := q6
           change wpList _ _ _ _ _ (w7.drewN 1)
           generalize w7.drewN 1 = w8 at HO7 HB7 q5' q6' ⊢
           clear q2 q3 q5 q6 HON2 HON2' HBq2 hidx
           go_wp2
           go_roundw
           case rel =>
            refine ⟨i + 1, by omega, by go_num, ?_, HB7.out.setCell (Nat.le_refl _) _⟩
            have := HO7.out.set c (rsumN (invN (atsN so)) (txtN so) j c (i + 1))
            rw [rowFn_congr wd (fun d => if d < c then rsumN (invN (atsN so)) (txtN so) j d k else if d = c then rsumN (invN (atsN so)) (txtN so) j c (i + 1) else 0) (fun d => if d = c then rsumN (invN (atsN so)) (txtN so) j c (i + 1) else if d < c then rsumN (invN (atsN so)) (txtN so) j d k else if d = c then sacc else 0) (fun d _ => by
             by_cases e : d = c
             ·subst e; rw [if_neg (Nat.lt_irrefl _), if_pos rfl, if_pos rfl]
             ·rw [if_neg e, if_neg e, if_neg e])]
            exact this
           case measure => simp [intOf]; omega
          ·have hie : k = i := by omega
           subst hie
           go_wp2
           go_roundw
           case rel =>
            refine ⟨c + 1, by omega, by go_num, ?_, HBq2.out⟩
            rw [rowFn_congr wd _ (fun d => if d < c then rsumN (invN (atsN so)) (txtN so) j d k else if d = c then rsumN (invN (atsN so)) (txtN so) j c k else 0) (fun d _ => by
             by_cases e : d < c
             ·rw [if_pos (by omega), if_pos e]
             ·by_cases e' : d = c
              ·subst e'; rw [if_pos (by omega), if_neg e, if_pos rfl]
              ·rw [if_neg (by omega), if_neg e, if_neg e'])]
            exact HON2.out
           case measure => simp [intOf]; omega
        ·have hce : wd = c := by omega
         subst hce
         have hN6 : OwnN w6 w4.heap.size 5 w4.heap.size wd (rowFn wd fun c => rsumN (invN (atsN so)) (txtN so) j c k) := by
          rw [rowFn_congr wd _ (fun d => if d < wd then rsumN (invN (atsN so)) (txtN so) j d k else 0) (fun d hd => by rw [if_pos hd])]
          exact HON.out
         have hcv : Sem.run Tryz.prog (convert 133 9 (.slice (some ⟨w4.heap.size, 0, none⟩) wd wd)) w6 = .ok (.string (strOf (rowFn wd fun c => rsumN (invN (atsN so)) (txtN so) j c k))) w6 := by
          have hsg : Seg w6 (some ⟨w4.heap.size, 0, none⟩) (rowFn wd fun c => rsumN (invN (atsN so)) (txtN so) j c k) := ⟨rowFn_bytes _ _ (fun d => rsumN_lt (invN_lt _) _ _ _), Or.inr ⟨w4.heap.size, 0, rfl, hN6.lt.2, fun d hd => by
           rw [rowFn_length] at hd
           rw [Nat.zero_add]
           exact hN6.cell d hd (rowFn_length _ _)⟩⟩
          have := conv_seg hsg wd
          rw [rowFn_length] at this
          exact this
         have HCT : Hid (strOf (catN (fun q c => rsumN (invN (atsN so)) (txtN so) q c k) wd j) ++ strOf (rowFn wd fun c => rsumN (invN (atsN so)) (txtN so) j c k) = strOf (catN (fun q c => rsumN (invN (atsN so)) (txtN so) q c k) wd (j + 1))) := by
          show _ = _
          rw [strOf_append, catN_succ]
         have hjw : j * wd <= 12 * 1000 := Nat.mul_le_mul (by omega) (by omega)
         have hs1 : (strOf (catN (fun q c => rsumN (invN (atsN so)) (txtN so) q c k) wd j)).size <= 12000 := by rw [strOf_size, catN_length]; omega
         have hs2 : (strOf (rowFn wd fun c => rsumN (invN (atsN so)) (txtN so) j c k)).size <= 1000 := by rw [strOf_size, rowFn_length]; omega
         have HB6 : Hid (Below w2.heap.size w2 w6) := HB3.out.trans ((HB4.out.trans (HBq.out.mono hz4)).mono hz3)
         clear hN6 HON HBq hjw
         generalize strOf (rowFn wd fun c => rsumN (invN (atsN so)) (txtN so) j c k) = s2 at hcv HCT hs2
         generalize strOf (catN (fun q c => rsumN (invN (atsN so)) (txtN so) q c k) wd j) = s1 at *
         go_wp2
         go_roundw
         case rel => exact ⟨j + 1, by omega, by go_num, by rw [<- HCT.out], HB6.out⟩
         case measure => simp [intOf]; omega
    ·have hje : k = j := by omega
     subst hje
     have hsl : ∀ W, Sem.run Tryz.prog (Instr.slice 9 (.string (strOf (catN (fun q c => rsumN (invN (atsN so)) (txtN so) q c k) wd k))) none (some (.int .i64 (size : Int))) none) W = .ok (.string dt) W := fun W => by
      rw [run_slice_string_h W 9 _ Tryz.underlying9 .i64 (size : Int) (by omega) (by
       rw [strOf_size, catN_length]
       have := HMUL.out
       omega), Int.toNat_natCast, strOf_mk, strOf_take, catN_take _ _ _ _ HMUL.out, HDT.out]
     have HBF : Hid (Below w.heap.size w w3) := HB1.out.trans ((HB.out.trans (HB3.out.mono hz2)).mono HB1.out.size)
     clear HDT HMUL
     generalize strOf (catN (fun q c => rsumN (invN (atsN so)) (txtN so) q c k) wd k) = st at hsl ⊢
     go_wp2
     go_ret2
     exact ⟨rfl, HBF.out⟩
structure ShFine (n k : Nat) (S : Int × List (Int × ByteArray)) : Prop where
 some_ : S.2 = [] ∨ 0 <= S.1
 le : S.1 <= 1000
 each : ∀ x ∈ S.2, 0 <= x.1 /\ x.1 < n /\ x.2.size = wideN k S.1.toNat
 one : (S.2.map Prod.fst).Nodup
theorem shStep_fine {n k : Nat} {t : Int × Int} {S : Int × List (Int × ByteArray)} (v : Ver) (h : ShFine n k S) : ShFine n k (shStep n k t S v) := by
 by_cases hy : v.n = t.1 /\ v.who = t.2 /\ canB n k v = true
 ·have hc := hy.2.2
  unfold canB at hc
  rw [Bool.and_eq_true] at hc
  obtain ⟨c1, c2, c3, c4, c5⟩ := of_decide_eq_true hc.2
  by_cases hz : S.1 < 0
  ·have h0 : S.2 = [] := by
    rcases h.some_ with e | e
    ·exact e
    ·omega
   rw [shStep_yes (z := v.size) hy (by rw [if_pos hz]), h0]
   refine ⟨Or.inr c1, c2, fun x hx => ?_, ?_⟩
   ·simp at hx
    subst hx
    exact ⟨c3, c4, c5⟩
   ·simp
  ·rw [shStep_yes (z := S.1) hy (by rw [if_neg hz])]
   by_cases hq : v.size = S.1 /\ S.2.any (fun y => y.1 == v.at_) = false
   ·rw [if_pos hq]
    refine ⟨Or.inr (by show 0 <= S.1; omega), h.le, fun x hx => ?_, ?_⟩
    ·rcases List.mem_append.1 hx with e | e
     ·exact h.each x e
     ·simp at e
      subst e
      exact ⟨c3, c4, by show v.text.size = wideN k S.1.toNat; rw [<- hq.1]; exact c5⟩
    ·show ((S.2 ++ [(v.at_, v.text)]).map Prod.fst).Nodup
     rw [List.map_append]
     refine List.nodup_append.2 ⟨h.one, by simp, fun a ha b hb e => ?_⟩
     simp at hb
     subst hb e
     obtain ⟨y, hy1, hy2⟩ := List.mem_map.1 ha
     have := List.any_eq_false.1 hq.2 y hy1
     exact this (by simp [hy2])
   ·rw [if_neg hq]
    exact ⟨h.some_, h.le, h.each, h.one⟩
 ·rw [shStep_no hy]
  exact h
theorem shOf_fine (n k : Nat) (t : Int × Int) (L : List Ver) : ShFine n k (shOf n k t L) := by
 have go : ∀ (L : List Ver) (S : Int × List (Int × ByteArray)), ShFine n k S -> ShFine n k (L.foldl (shStep n k t) S) := by
  intro L
  induction L with
  | nil => intro S h; exact h
  | cons v L ih => intro S h; exact ih _ (shStep_fine v h)
 exact go L _ ⟨Or.inl rfl, by show (-1 : Int) <= 1000; decide, fun x hx => (by cases hx), List.nodup_nil⟩
theorem pickN_take (k : Nat) (l : List (Int × ByteArray)) (hd : (l.map Prod.fst).Nodup) : ∀ i, i <= l.length -> pickN k l i = l.take (min k i)
 | 0, _ => by simp [pickN]
 | i + 1, hi => by
  have ih := pickN_take k l hd i (by omega)
  have hsh : shAt l i = l[i] := by
   unfold shAt
   rw [List.getD_eq_getElem?_getD, List.getElem?_eq_getElem (by omega)]
   rfl
  by_cases hk : i < k
  ·have e1 : min k i = i := by omega
   have e2 : min k (i + 1) = i + 1 := by omega
   rw [e1] at ih
   rw [e2, pickN_yes (by rw [ih, List.length_take]; omega) (by
    rw [ih, List.any_eq_false]
    intro y hy hyx
    obtain ⟨j, hj, hjy⟩ := List.mem_take_iff_getElem.1 hy
    have hji : j < i := by omega
    have e : l[j].1 = l[i].1 := by rw [hjy, <- hsh]; simpa using hyx
    have := (List.getElem_inj (h₀ := by rw [List.length_map]; omega) (h₁ := by rw [List.length_map]; omega) hd).1 (show (l.map Prod.fst)[j]'(by rw [List.length_map]; omega) = (l.map Prod.fst)[i]'(by rw [List.length_map]; omega) by rw [List.getElem_map, List.getElem_map]; exact e)
    omega), ih, hsh]
   exact (List.take_succ_eq_append_getElem (by omega)).symm
  ·have e1 : min k i = k := by omega
   have e2 : min k (i + 1) = k := by omega
   rw [e1] at ih
   rw [e2, pickN_full (by rw [ih, List.length_take]; omega), ih]
theorem shOf_fits {n k : Nat} {t : Int × Int} {L : List Ver} (hk1 : 1 <= k) (h : ¬ (shOf n k t L).2.length < k) : (((shOf n k t L).1.toNat : Nat) : Int) = (shOf n k t L).1 /\ (shOf n k t L).1.toNat <= 1000 /\ Fits n k (shOf n k t L).1.toNat (shOf n k t L).2 /\ ∀ i, (shAt (shOf n k t L).2 i).2.size <= 100000 := by
 have hf := shOf_fine n k t L
 generalize shOf n k t L = S at *
 have h0 : 0 <= S.1 := by
  rcases hf.some_ with e | e
  ·rw [e] at h; simp at h; omega
  ·exact e
 have hle := hf.le
 have hwd := wideN_le (size := S.1.toNat) hk1
 refine ⟨by omega, by omega, ⟨?_, ?_⟩, fun i => ?_⟩
 ·rw [List.any_eq_false]
  intro x hx hb
  obtain ⟨a1, a2, a3⟩ := hf.each x hx
  unfold badB at hb
  simp only [Bool.or_eq_true, decide_eq_true_eq, Bool.not_eq_true', decide_eq_false_iff_not] at hb
  omega
 ·rw [pickN_take k S.2 hf.one _ (Nat.le_refl _), List.length_take]
  omega
 ·by_cases hi : i < S.2.length
  ·have e : shAt S.2 i = S.2[i] := by
    unfold shAt
    rw [List.getD_eq_getElem?_getD, List.getElem?_eq_getElem hi]
    rfl
   have := (hf.each _ (List.getElem_mem hi)).2.2
   rw [e, this]
   omega
  ·unfold shAt
   rw [List.getD_eq_getElem?_getD, List.getElem?_eq_none (by omega)]
   show (0 : Nat) <= _
   omega
def bestStep (n k : Nat) (all : List Ver) (S : (Int × Int) × ByteArray × Bool) (v : Ver) : (Int × Int) × ByteArray × Bool :=
 if S.2.2 = true /\ lessB S.1 (v.n, v.who) = false then S
 else if (shOf n k (v.n, v.who) all).2.length < k then S
 else ((v.n, v.who), decT k (shOf n k (v.n, v.who) all).1.toNat (pickN k (shOf n k (v.n, v.who) all).2 (shOf n k (v.n, v.who) all).2.length), true)
def bestF (n k : Nat) (all L : List Ver) : (Int × Int) × ByteArray × Bool := L.foldl (bestStep n k all) ((0, 0), ⟨#[]⟩, false)
theorem bestF_succ {n k : Nat} {all L : List Ver} {i : Nat} (hi : i < L.length) : bestF n k all (L.take (i + 1)) = bestStep n k all (bestF n k all (L.take i)) (verAt L i) := by
 unfold bestF
 rw [List.take_add_one, verAt_get hi, List.foldl_append]
 rfl
theorem bestStep_old {n k : Nat} {all : List Ver} {S : (Int × Int) × ByteArray × Bool} {v : Ver} (h : S.2.2 = true /\ lessB S.1 (v.n, v.who) = false) : bestStep n k all S v = S := if_pos h
theorem bestStep_few {n k : Nat} {all : List Ver} {S : (Int × Int) × ByteArray × Bool} {v : Ver} (h : ¬ (S.2.2 = true /\ lessB S.1 (v.n, v.who) = false)) (h2 : (shOf n k (v.n, v.who) all).2.length < k) : bestStep n k all S v = S := by unfold bestStep; rw [if_neg h, if_pos h2]
theorem bestStep_new {n k : Nat} {all : List Ver} {S : (Int × Int) × ByteArray × Bool} {v : Ver} (h : ¬ (S.2.2 = true /\ lessB S.1 (v.n, v.who) = false)) (h2 : ¬ (shOf n k (v.n, v.who) all).2.length < k) : bestStep n k all S v = ((v.n, v.who), decT k (shOf n k (v.n, v.who) all).1.toNat (pickN k (shOf n k (v.n, v.who) all).2 (shOf n k (v.n, v.who) all).2.length), true) := by unfold bestStep; rw [if_neg h, if_neg h2]
def Vss (w : World) (p : Option Addr) (LL : List (List Ver)) : Prop :=
 LL = [] ∨ ∃ b o, p = some ⟨b, o, none⟩ /\ b < w.heap.size /\ ∀ i, i < LL.length -> ∃ q c, w.cell? ⟨b, o + i, none⟩ = some (.slice q (LL.getD i []).length c) /\ Rec verE w q (LL.getD i []) /\ (LL.getD i []).length <= c /\ (q = none -> LL.getD i [] = [] /\ c = 0)
theorem Vss.below {w w' : World} {p : Option Addr} {LL : List (List Ver)} (h : Vss w p LL) (hb : Below w.heap.size w w') : Vss w' p LL := by
 rcases h with h | ⟨b, o, hp, hlt, hc⟩
 ·exact Or.inl h
 ·refine Or.inr ⟨b, o, hp, Nat.lt_of_lt_of_le hlt hb.size, fun i hi => ?_⟩
  obtain ⟨q, c, h1, h2, h3, h4⟩ := hc i hi
  exact ⟨q, c, (hb.cell (p := ⟨b, o + i, none⟩) hlt).trans h1, h2.below hb, h3, h4⟩
structure TagAt (w : World) (b : Nat) (a : Int × Int) : Prop where
 n : w.cell? ⟨b, 0, none⟩ = some (.int .i64 a.1)
 who : w.cell? ⟨b, 1, none⟩ = some (.int .i64 a.2)
 f0 : w.frozen? ⟨b, 0, none⟩ = false
 f1 : w.frozen? ⟨b, 1, none⟩ = false
theorem TagAt.below {w w' : World} {b : Nat} {a : Int × Int} (h : TagAt w b a) (hb : Below w.heap.size w w') : TagAt w' b a :=
 have hlt := lt_of_cellH h.n
 ⟨(hb.cell (p := ⟨b, 0, none⟩) hlt).trans h.n, (hb.cell (p := ⟨b, 1, none⟩) hlt).trans h.who, (hb.frozen (p := ⟨b, 0, none⟩) hlt).trans h.f0, (hb.frozen (p := ⟨b, 1, none⟩) hlt).trans h.f1⟩
theorem TagAt.set {w : World} {b : Nat} {a : Int × Int} (h : TagAt w b a) (x y : Int) : TagAt ((w.setCell ⟨b, 0, none⟩ (.int .i64 x)).setCell ⟨b, 1, none⟩ (.int .i64 y)) b (x, y) := by
 refine ⟨?_, ?_, by simp [h.f0], by simp [h.f1]⟩
 ·rw [World.cell?_setCell_other _ _ _ _ (fun e => by have h2 : (1 : Nat) = 0 := congrArg Addr.off e; omega)]
  exact World.cell?_setCell_same _ _ _ h.n
 ·refine World.cell?_setCell_same _ _ _ (u := .int .i64 a.2) ?_
  rw [World.cell?_setCell_other _ _ _ _ (fun e => by have h2 : (0 : Nat) = 1 := congrArg Addr.off e; omega)]
  exact h.who
theorem TagAt.alloc (w : World) (x y : Int) (T : TypeId) : TagAt (w.alloc (.cells #[.int .i64 x, .int .i64 y] T)) w.heap.size (x, y) := by
 exact ⟨by rw [World.cell?_alloc_at _ _ _ _ rfl]; rfl, by rw [World.cell?_alloc_at _ _ _ _ rfl]; rfl, World.frozen?_alloc_at _ _ _ _ rfl, World.frozen?_alloc_at _ _ _ _ rfl⟩
theorem flatten_take_succ {LL : List (List Ver)} {i : Nat} (hi : i < LL.length) : (LL.take (i + 1)).flatten = (LL.take i).flatten ++ LL.getD i [] := by
 rw [List.take_succ_eq_append_getElem hi, List.flatten_append, List.getD_eq_getElem?_getD, List.getElem?_eq_getElem hi]
 simp
theorem flatten_take_le (LL : List (List Ver)) (i : Nat) : (LL.take i).flatten.length <= LL.flatten.length := by
 have h : LL.flatten = (LL.take i).flatten ++ (LL.drop i).flatten := by rw [<- List.flatten_append, List.take_append_drop]
 rw [h, List.length_append]
 omega
theorem flatten_at_le (LL : List (List Ver)) {i : Nat} (hi : i < LL.length) : (LL.take i).flatten.length + (LL.getD i []).length <= LL.flatten.length := by
 have h := flatten_take_le LL (i + 1)
 rw [flatten_take_succ hi, List.length_append] at h
 exact h
set_option maxRecDepth 10000 in
set_option maxHeartbeats 8000000 in
theorem rbest_any (n k : Nat) (p0 : Option Addr) (l0 c0 : Nat) (p : Option Addr) (LL : List (List Ver)) (cap : Nat) (w : World) (hk1 : 1 <= k) (hkn : k <= n) (hn : n <= 12) (hl : LL.length <= 1000) (hl2 : LL.flatten.length <= 1000) (hL : Vss w p LL) :
 Calls Tryz.prog 46 #[.agg #[.int .i64 (n : Int), .int .i64 (k : Int), .slice p0 l0 c0], .slice p LL.length cap] w fun e w' => e = .returned (.tuple #[.agg #[.int .i64 (bestF n k LL.flatten LL.flatten).1.1, .int .i64 (bestF n k LL.flatten LL.flatten).1.2], .string (bestF n k LL.flatten LL.flatten).2.1, .bool (bestF n k LL.flatten LL.flatten).2.2]) /\ Below w.heap.size w w' := by
 obtain ⟨wc, hwc⟩ : ∃ wc, wc = w.alloc (.cells #[.int .i64 (n : Int), .int .i64 (k : Int), .slice p0 l0 c0] 24) := ⟨_, rfl⟩
 have e1 : wc.heap.size = w.heap.size + 1 := by rw [hwc]; simp
 obtain ⟨w0, hw0⟩ : ∃ w0, w0 = wc.alloc (.cells #[.int .i64 0, .int .i64 0] 46) := ⟨_, rfl⟩
 have hbc : Below w.heap.size w wc := by rw [hwc]; exact (Below.refl _ _).alloc (Nat.le_refl _) _
 have hb0c : Below wc.heap.size wc w0 := by rw [hw0]; exact (Below.refl _ _).alloc (Nat.le_refl _) _
 have HB0 : Hid (Below w.heap.size w w0) := hbc.trans (hb0c.mono hbc.size)
 have a0 : w0.cell? ⟨w.heap.size, 0, none⟩ = some (.int .i64 (n : Int)) := (hb0c.cell (p := ⟨w.heap.size, 0, none⟩) (by show w.heap.size < _; omega)).trans (by rw [hwc, World.cell?_alloc_at _ _ _ _ rfl]; rfl)
 have a1 : w0.cell? ⟨w.heap.size, 1, none⟩ = some (.int .i64 (k : Int)) := (hb0c.cell (p := ⟨w.heap.size, 1, none⟩) (by show w.heap.size < _; omega)).trans (by rw [hwc, World.cell?_alloc_at _ _ _ _ rfl]; rfl)
 have a2 : w0.cell? ⟨w.heap.size, 2, none⟩ = some (.slice p0 l0 c0) := (hb0c.cell (p := ⟨w.heap.size, 2, none⟩) (by show w.heap.size < _; omega)).trans (by rw [hwc, World.cell?_alloc_at _ _ _ _ rfl]; rfl)
 have tg : TagAt w0 (w.heap.size + 1) (0, 0) := by rw [hw0, <- e1]; exact TagAt.alloc _ _ _ _
 have HALL : Hid (∀ W, Below w0.heap.size w0 W -> (W.cell? ⟨w.heap.size, 0, none⟩ = some (.int .i64 (n : Int)) /\ W.cell? ⟨w.heap.size, 1, none⟩ = some (.int .i64 (k : Int)) /\ W.cell? ⟨w.heap.size, 2, none⟩ = some (.slice p0 l0 c0)) /\ TagAt W (w.heap.size + 1) (0, 0) /\ Vss W p LL /\ Below w.heap.size w W) := fun W hW => by
  have hy : w.heap.size < w0.heap.size := lt_of_cellH a0
  exact ⟨⟨(hW.cell (p := ⟨w.heap.size, 0, none⟩) hy).trans a0, (hW.cell (p := ⟨w.heap.size, 1, none⟩) hy).trans a1, (hW.cell (p := ⟨w.heap.size, 2, none⟩) hy).trans a2⟩, tg.below hW, (hL.below HB0.out).below hW, HB0.out.trans (hW.mono HB0.out.size)⟩
 have HW0 : Hid (w0 = (w.alloc (.cells #[.int .i64 (n : Int), .int .i64 (k : Int), .slice p0 l0 c0] 24)).alloc (.cells #[.int .i64 0, .int .i64 0] 46)) := by rw [<- hwc]; exact hw0
 have HFS : Hid (∀ i, i < LL.length -> (LL.take (i + 1)).flatten = (LL.take i).flatten ++ LL.getD i []) := fun i hi => flatten_take_succ hi
 have HFL : Hid (∀ i, i < LL.length -> (LL.take i).flatten.length + (LL.getD i []).length <= 1000) := fun i hi => Nat.le_trans (flatten_at_le LL hi) hl2
 have HFN : Hid ((LL.take LL.length).flatten = LL.flatten) := by show _ = _; rw [List.take_length]
 have HF0 : Hid ((LL.take 0).flatten = []) := by show _ = _; rfl
 have HSO : Hid (∀ (t : Int × Int) (q : Option Addr) (A : List Ver) (c : Nat) (W : World), A.length <= 1000 -> Rec verE W q A -> Calls Tryz.prog 73 #[.agg #[.int .i64 (n : Int), .int .i64 (k : Int), .slice p0 l0 c0], .slice q A.length c, .agg #[.int .i64 t.1, .int .i64 t.2]] W fun e w' => (∃ v, e = .returned (.tuple #[.int .i64 (shOf n k t A).1, v]) /\ w'.ownsRow W.heap.size 67 2 v (shOf n k t A).2.length (shVals (shOf n k t A).2)) /\ Below W.heap.size W w') := fun t q A c W hA hr => shardsOf_any n k p0 l0 c0 q A c t W hk1 (by omega) (by omega) hr
 clear hwc hw0 hbc hb0c e1 a0 a1 a2 tg hL
 generalize LL.flatten = A at *
 go_enter Tryz.func46, Tryz.ntmps46
 go_wp2_with (rw [<- HW0.out])
 go_loopw [7, 8] (fun v x wr => ∃ i : Nat, i <= LL.length /\ x = .int .i64 i /\ OwnR verE 69 wr w0.heap.size v (LL.take i).flatten /\ Below w0.heap.size w0 wr) (fun _ x _ => LL.length - (intOf x).toNat)
 case atStart => exact ⟨0, Nat.zero_le _, rfl, by rw [HF0.out]; exact OwnR.nil _ _ _, Below.refl _ _⟩
 case round =>
  obtain ⟨i, hi, rfl, hO, hB⟩ := hrel
  obtain ⟨w1, rfl⟩ : ∃ w1, w1 = wr := ⟨_, rfl⟩
  obtain ⟨⟨k0, k1, k2⟩, htg, hvs, hbw⟩ := HALL.out w1 hB
  have HO : Hid (OwnR verE 69 w1 w0.heap.size u7 (LL.take i).flatten) := hO
  have HB : Hid (Below w0.heap.size w0 w1) := hB
  have HVS : Hid (Vss w1 p LL) := hvs
  have hz1 : w0.heap.size <= w1.heap.size := hB.size
  clear hO hB hvs hbw
  by_cases hil : i < LL.length
  ·rcases HVS.out with h0 | ⟨b, o, rfl, hblt, hc⟩
   ·rw [h0] at hil; simp at hil
   obtain ⟨q, c, hcell, hrec, hlc, hqn⟩ := hc i hil
   have HR : Hid (Rec verE w1 q (LL.getD i [])) := hrec
   have HQN : Hid (q = none -> LL.getD i [] = [] /\ c = 0) := hqn
   have hfl := HFL.out i hil
   have HNX : Hid ((LL.take (i + 1)).flatten = (LL.take i).flatten ++ LL.getD i []) := HFS.out i hil
   clear hc hrec hqn htg k0 k1 k2
   generalize LL.getD i [] = ri at *
   generalize (LL.take i).flatten = li at *
   go_wp2_with (first | (at_builtin; refine wpList_append_recs (E := verE) rfl (.tmp 24) (.tmp 28) 55 69 rfl (.agg #[.int .i64 0, .int .i64 0, .int .i64 0, .int .i64 0, .string ⟨#[]⟩]) 48 Tryz.underlying55 verinfo rfl w0.heap.size u7 li rfl HO.out q ri c rfl HR.out HQN.out (by unfold maxLen; omega) (by omega) hz1 ?_; intro v' w3 hO3 hb3))
   go_roundw
   case rel => exact ⟨i + 1, by omega, by go_num, by rw [HNX.out]; exact hO3, HB.out.trans hb3⟩
   case measure => simp [intOf]; omega
  ·have hie : i = LL.length := by omega
   have HOA : Hid (OwnR verE 69 w1 w0.heap.size u7 A) := by
    show OwnR _ _ _ _ _ _
    rw [<- HFN.out, <- hie]
    exact HO.out
   clear HO HFS HFL HFN HF0 HVS hie
   obtain ⟨pa, ca, rfl, hra, hlca, hnca, hbca⟩ := HOA.out.form
   have HRA : Hid (Rec verE w1 pa A) := hra
   clear HOA hra hnca hbca
   obtain ⟨w2, hw2⟩ : ∃ w2, w2 = w1.alloc (.cells #[.int .i64 0, .int .i64 0] 46) := ⟨_, rfl⟩
   have HW2 : Hid (w2 = w1.alloc (.cells #[.int .i64 0, .int .i64 0] 46)) := hw2
   have hb2 : Below w1.heap.size w1 w2 := by rw [hw2]; exact (Below.refl _ _).alloc (Nat.le_refl _) _
   have HT2 : Hid (TagAt w2 w1.heap.size (0, 0)) := by show TagAt _ _ _; rw [hw2]; exact TagAt.alloc _ _ _ _
   have HB2 : Hid (Below w1.heap.size w1 w2) := hb2
   have hlt2 : w1.heap.size < w2.heap.size := lt_of_cellH HT2.out.n
   have HI0 : Hid (bestF n k A (A.take 0) = ((0, 0), ⟨#[]⟩, false)) := by show _ = _; rfl
   have HSU : Hid (∀ i, i < A.length -> bestF n k A (A.take (i + 1)) = bestStep n k A (bestF n k A (A.take i)) (verAt A i)) := fun i hi => bestF_succ hi
   have HFI : Hid (bestF n k A (A.take A.length) = bestF n k A A) := by show _ = _; rw [List.take_length]
   have H1 : Hid (∀ W, Below w1.heap.size w1 W -> (W.cell? ⟨w.heap.size, 0, none⟩ = some (.int .i64 (n : Int)) /\ W.cell? ⟨w.heap.size, 1, none⟩ = some (.int .i64 (k : Int)) /\ W.cell? ⟨w.heap.size, 2, none⟩ = some (.slice p0 l0 c0)) /\ TagAt W (w.heap.size + 1) (0, 0) /\ Rec verE W pa A /\ Below w.heap.size w W) := fun W hW => by
    obtain ⟨q1, q2, _, q4⟩ := HALL.out W (HB.out.trans (hW.mono hz1))
    exact ⟨q1, q2, HRA.out.below hW, q4⟩
   clear hw2 hb2 HALL HRA HB HW0 htg k0 k1 k2
   go_wp2
   rw [<- HW2.out]
   go_loopw [10, 11, 12] (fun tx fo x wr => ∃ i : Nat, i <= A.length /\ x = .int .i64 i /\ tx = .string (bestF n k A (A.take i)).2.1 /\ fo = .bool (bestF n k A (A.take i)).2.2 /\ TagAt wr w1.heap.size (bestF n k A (A.take i)).1 /\ w1.heap.size < wr.heap.size /\ Below w1.heap.size w1 wr) (fun _ _ x _ => A.length - (intOf x).toNat)
   case atStart => exact ⟨0, Nat.zero_le _, rfl, by rw [HI0.out], by rw [HI0.out], by rw [HI0.out]; exact HT2.out, hlt2, HB2.out⟩
   case round =>
    obtain ⟨i, hi, rfl, rfl, rfl, hT, hlt, hB⟩ := hrel
    obtain ⟨w3, rfl⟩ : ∃ w3, w3 = wr := ⟨_, rfl⟩
    obtain ⟨⟨k0, k1, k2⟩, htg, hra, hbw⟩ := H1.out w3 hB
    have HB : Hid (Below w1.heap.size w1 w3) := hB
    have HT : Hid (TagAt w3 w1.heap.size (bestF n k A (A.take i)).1) := hT
    have HRA : Hid (Rec verE w3 pa A) := hra
    have HTG : Hid (TagAt w3 (w.heap.size + 1) (0, 0)) := htg
    have HBW : Hid (Below w.heap.size w w3) := hbw
    have hsu := HSU.out i
    have HFIN : Hid (i = A.length -> bestF n k A A = bestF n k A (A.take i)) := fun h => by rw [<- HFI.out, h]
    have HNXT : Hid (∀ (S' : (Int × Int) × ByteArray × Bool) (W : World), bestF n k A (A.take (i + 1)) = S' -> TagAt W w1.heap.size S'.1 -> w1.heap.size < W.heap.size -> Below w1.heap.size w1 W -> i + 1 <= A.length -> ∃ j : Nat, j <= A.length /\ (.int .i64 ((i : Int) + 1) : Value) = .int .i64 j /\ (.string S'.2.1 : Value) = .string (bestF n k A (A.take j)).2.1 /\ (.bool S'.2.2 : Value) = .bool (bestF n k A (A.take j)).2.2 /\ TagAt W w1.heap.size (bestF n k A (A.take j)).1 /\ w1.heap.size < W.heap.size /\ Below w1.heap.size w1 W) := fun S' W hS hT hl hb hlt => ⟨i + 1, hlt, by rw [Int.natCast_add]; rfl, by rw [hS], by rw [hS], by rw [hS]; exact hT, hl, hb⟩
    generalize bestF n k A (A.take (i + 1)) = S1 at *
    generalize bestF n k A (A.take i) = S at *
    obtain ⟨⟨sn, sw⟩, stx, sf⟩ := S
    dsimp only at hsu HT
    clear hB hT hra htg hbw HSU HI0 HFI HT2 HB2
    by_cases hil : i < A.length
    ·obtain ⟨b, o, hpp, hblt, d0, d1, _, _, _⟩ := ver_cells HRA.out hil
     subst hpp
     have hs1 := hsu hil
     clear hsu HFIN
     generalize verAt A i = x at *
     obtain ⟨xn, xw, xs, xa, xt⟩ := x
     dsimp only at d0 d1
     obtain ⟨w4, hw4⟩ : ∃ w4, w4 = w3.alloc (.cells #[.int .i64 xn, .int .i64 xw] 46) := ⟨_, rfl⟩
     have HW4 : Hid (w4 = w3.alloc (.cells #[.int .i64 xn, .int .i64 xw] 46)) := hw4
     have hb4 : Below w3.heap.size w3 w4 := by rw [hw4]; exact (Below.refl _ _).alloc (Nat.le_refl _) _
     have HX4 : Hid (TagAt w4 w3.heap.size (xn, xw)) := by show TagAt _ _ _; rw [hw4]; exact TagAt.alloc _ _ _ _
     have H4 : Hid (∀ W, Below w4.heap.size w4 W -> (W.cell? ⟨w.heap.size, 0, none⟩ = some (.int .i64 (n : Int)) /\ W.cell? ⟨w.heap.size, 1, none⟩ = some (.int .i64 (k : Int)) /\ W.cell? ⟨w.heap.size, 2, none⟩ = some (.slice p0 l0 c0)) /\ TagAt W w3.heap.size (xn, xw) /\ TagAt W w1.heap.size (sn, sw) /\ Rec verE W (some ⟨b, o, none⟩) A /\ w1.heap.size < W.heap.size /\ Below w1.heap.size w1 W) := fun W hW => by
      have h3W : Below w3.heap.size w3 W := hb4.trans (hW.mono hb4.size)
      have h1W : Below w1.heap.size w1 W := HB.out.trans (h3W.mono HB.out.size)
      obtain ⟨q1, _, q3, _⟩ := H1.out W h1W
      exact ⟨q1, HX4.out.below hW, HT.out.below h3W, q3, Nat.lt_of_lt_of_le hlt h3W.size, h1W⟩
     clear hw4 hb4 k0 k1 k2 HT HRA HTG HBW HB H1
     obtain ⟨⟨k0, k1, k2⟩, x4, t4, r4, hl4, b4⟩ := H4.out w4 (Below.refl _ _)
     have x0 := x4.n
     have x1 := x4.who
     have t0 := t4.n
     have t1 := t4.who
     have HT4 : Hid (TagAt w4 w1.heap.size (sn, sw)) := t4
     have HB4 : Hid (Below w1.heap.size w1 w4) := b4
     dsimp only at x0 x1 t0 t1
     clear x4 t4 r4 b4
     cases sf with
     | true =>
      go_wp2_with (rw [<- HW4.out])
      refine (rless_any (sn, sw) (xn, xw) _).mono ?_
      rintro e w5 ⟨rfl, hb5⟩
      have H5 : Hid (∀ W, Below w5.heap.size w5 W -> (W.cell? ⟨w.heap.size, 0, none⟩ = some (.int .i64 (n : Int)) /\ W.cell? ⟨w.heap.size, 1, none⟩ = some (.int .i64 (k : Int)) /\ W.cell? ⟨w.heap.size, 2, none⟩ = some (.slice p0 l0 c0)) /\ TagAt W w3.heap.size (xn, xw) /\ TagAt W w1.heap.size (sn, sw) /\ Rec verE W (some ⟨b, o, none⟩) A /\ w1.heap.size < W.heap.size /\ Below w1.heap.size w1 W) := fun W hW => H4.out W (hb5.trans (hW.mono hb5.size))
      clear hb5 H4 HT4 HB4 k0 k1 k2 x0 x1 t0 t1 hl4
      by_cases hless : lessB (sn, sw) (xn, xw) = false
      ·have HN : Hid (S1 = ((sn, sw), stx, true)) := by show _ = _; rw [hs1]; exact bestStep_old ⟨rfl, hless⟩
       rw [hless]
       obtain ⟨_, _, t5, _, hl5, b5⟩ := H5.out w5 (Below.refl _ _)
       have HT5 : Hid (TagAt w5 w1.heap.size (sn, sw)) := t5
       have HB5 : Hid (Below w1.heap.size w1 w5) := b5
       clear hless hs1 t5 b5
       go_wp2
       go_roundw
       case rel => exact HNXT.out _ _ HN.out HT5.out hl5 HB5.out hil
       case measure => simp [intOf]; omega
      ·have HFEW : Hid ((shOf n k (xn, xw) A).2.length < k -> S1 = ((sn, sw), stx, true)) := fun h => by rw [hs1]; exact bestStep_few (fun h2 => hless h2.2) h
       have HNEW : Hid (¬ (shOf n k (xn, xw) A).2.length < k -> S1 = ((xn, xw), decT k (shOf n k (xn, xw) A).1.toNat (pickN k (shOf n k (xn, xw) A).2 (shOf n k (xn, xw) A).2.length), true)) := fun h => by rw [hs1]; exact bestStep_new (fun h2 => hless h2.2) h
       rw [Bool.not_eq_false] at hless
       rw [hless]
       clear hless
       obtain ⟨⟨k0, k1, k2⟩, x5, t5, r5, hl5, b5⟩ := H5.out w5 (Below.refl _ _)
       have x0 := x5.n
       have x1 := x5.who
       dsimp only at x0 x1
       clear x5 t5 b5 hl5
       have HC := HSO.out (xn, xw) (some ⟨b, o, none⟩) A ca w5 (by omega) r5
       have HC' := HC
       dsimp only at HC
       clear r5 HC'
       go_wp2_with fail
       refine HC.mono ?_
       rintro e w6 ⟨⟨v6, rfl, ho6⟩, hb6⟩
       clear HC
       obtain ⟨p6, c6, rfl, hsh6⟩ := shs_of_own ho6
       have H6 : Hid (∀ W, Below w6.heap.size w6 W -> (W.cell? ⟨w.heap.size, 0, none⟩ = some (.int .i64 (n : Int)) /\ W.cell? ⟨w.heap.size, 1, none⟩ = some (.int .i64 (k : Int)) /\ W.cell? ⟨w.heap.size, 2, none⟩ = some (.slice p0 l0 c0)) /\ TagAt W w3.heap.size (xn, xw) /\ TagAt W w1.heap.size (sn, sw) /\ Rec verE W (some ⟨b, o, none⟩) A /\ w1.heap.size < W.heap.size /\ Below w1.heap.size w1 W) := fun W hW => H5.out W (hb6.trans (hW.mono hb6.size))
       clear k0 k1 k2 x0 x1 H5 hb6 ho6
       obtain ⟨⟨k0, k1, k2⟩, _, t6, _, hl6, b6⟩ := H6.out w6 (Below.refl _ _)
       have HT6 : Hid (TagAt w6 w1.heap.size (sn, sw)) := t6
       have HB6 : Hid (Below w1.heap.size w1 w6) := b6
       have HSH6 : Hid (Shs w6 p6 (shOf n k (xn, xw) A).2) := hsh6
       clear t6 b6 hsh6
       by_cases hfew : (shOf n k (xn, xw) A).2.length < k
       ·have HN : Hid (S1 = ((sn, sw), stx, true)) := HFEW.out hfew
        clear hs1 HFEW HNEW HSH6
        generalize shOf n k (xn, xw) A = Z at *
        go_wp2
        go_roundw
        case rel => exact HNXT.out _ _ HN.out HT6.out hl6 HB6.out hil
        case measure => simp [intOf]; omega
       ·have HN : Hid (S1 = ((xn, xw), decT k (shOf n k (xn, xw) A).1.toNat (pickN k (shOf n k (xn, xw) A).2 (shOf n k (xn, xw) A).2.length), true)) := HNEW.out hfew
        obtain ⟨z1, z2, z3, z4⟩ := shOf_fits hk1 hfew
        have hlen : (shOf n k (xn, xw) A).2.length <= A.length := by have := shOf_le (n := n) (k := k) (t := (xn, xw)) A A.length; rw [List.take_length] at this; exact this
        clear hs1 HFEW HNEW
        generalize shOf n k (xn, xw) A = Z at *
        obtain ⟨zs, zl⟩ := Z
        dsimp only at hfew z1 z2 z3 z4 hlen HSH6 HN
        have HD := rdecode_ok n k zs.toNat p6 zl c6 w6 hk1 hkn hn z2 (by omega) z4 z3 HSH6.out
        rw [z1] at HD
        generalize decT k zs.toNat (pickN k zl zl.length) = dt at *
        clear z1 z2 z3 z4 HSH6
        go_wp2_with fail
        refine HD.mono ?_
        rintro e w7 ⟨rfl, hb7⟩
        clear HD k0 k1 k2 HT6 HB6 hl6
        obtain ⟨_, x7, t7, _, hl7, b7⟩ := H6.out w7 hb7
        have x0 := x7.n
        have x1 := x7.who
        have t0 := t7.n
        have t1 := t7.who
        have t2 := t7.f0
        have t3 := t7.f1
        have HT7 : Hid (TagAt w7 w1.heap.size (sn, sw)) := t7
        have HB7 : Hid (Below w1.heap.size w1 w7) := b7
        dsimp only at x0 x1 t0 t1
        clear x7 t7 b7 hb7 H6
        go_wp2
        go_roundw
        case rel => exact HNXT.out _ _ HN.out (HT7.out.set xn xw) (by simpa using hl7) ((HB7.out.setCell (Nat.le_refl _) _).setCell (Nat.le_refl _) _) hil
        case measure => simp [intOf]; omega
     | false =>
      have HFEW : Hid ((shOf n k (xn, xw) A).2.length < k -> S1 = ((sn, sw), stx, false)) := fun h => by rw [hs1]; exact bestStep_few (fun h2 => by cases h2.1) h
      have HNEW : Hid (¬ (shOf n k (xn, xw) A).2.length < k -> S1 = ((xn, xw), decT k (shOf n k (xn, xw) A).1.toNat (pickN k (shOf n k (xn, xw) A).2 (shOf n k (xn, xw) A).2.length), true)) := fun h => by rw [hs1]; exact bestStep_new (fun h2 => by cases h2.1) h
      have H5 : Hid (∀ W, Below w4.heap.size w4 W -> (W.cell? ⟨w.heap.size, 0, none⟩ = some (.int .i64 (n : Int)) /\ W.cell? ⟨w.heap.size, 1, none⟩ = some (.int .i64 (k : Int)) /\ W.cell? ⟨w.heap.size, 2, none⟩ = some (.slice p0 l0 c0)) /\ TagAt W w3.heap.size (xn, xw) /\ TagAt W w1.heap.size (sn, sw) /\ Rec verE W (some ⟨b, o, none⟩) A /\ w1.heap.size < W.heap.size /\ Below w1.heap.size w1 W) := H4.out
      clear H4 HT4 HB4 hl4
      obtain ⟨_, _, _, r5, _, _⟩ := H5.out w4 (Below.refl _ _)
      have HC := HSO.out (xn, xw) (some ⟨b, o, none⟩) A ca w4 (by omega) r5
      have HC' := HC
      dsimp only at HC
      clear r5 HC'
      go_wp2_with (rw [<- HW4.out])
      refine HC.mono ?_
      rintro e w6 ⟨⟨v6, rfl, ho6⟩, hb6⟩
      clear HC
      obtain ⟨p6, c6, rfl, hsh6⟩ := shs_of_own ho6
      have H6 : Hid (∀ W, Below w6.heap.size w6 W -> (W.cell? ⟨w.heap.size, 0, none⟩ = some (.int .i64 (n : Int)) /\ W.cell? ⟨w.heap.size, 1, none⟩ = some (.int .i64 (k : Int)) /\ W.cell? ⟨w.heap.size, 2, none⟩ = some (.slice p0 l0 c0)) /\ TagAt W w3.heap.size (xn, xw) /\ TagAt W w1.heap.size (sn, sw) /\ Rec verE W (some ⟨b, o, none⟩) A /\ w1.heap.size < W.heap.size /\ Below w1.heap.size w1 W) := fun W hW => H5.out W (hb6.trans (hW.mono hb6.size))
      clear k0 k1 k2 x0 x1 t0 t1 H5 hb6 ho6
      obtain ⟨⟨k0, k1, k2⟩, _, t6, _, hl6, b6⟩ := H6.out w6 (Below.refl _ _)
      have HT6 : Hid (TagAt w6 w1.heap.size (sn, sw)) := t6
      have HB6 : Hid (Below w1.heap.size w1 w6) := b6
      have HSH6 : Hid (Shs w6 p6 (shOf n k (xn, xw) A).2) := hsh6
      clear t6 b6 hsh6
      by_cases hfew : (shOf n k (xn, xw) A).2.length < k
      ·have HN : Hid (S1 = ((sn, sw), stx, false)) := HFEW.out hfew
       clear hs1 HFEW HNEW HSH6
       generalize shOf n k (xn, xw) A = Z at *
       go_wp2
       go_roundw
       case rel => exact HNXT.out _ _ HN.out HT6.out hl6 HB6.out hil
       case measure => simp [intOf]; omega
      ·have HN : Hid (S1 = ((xn, xw), decT k (shOf n k (xn, xw) A).1.toNat (pickN k (shOf n k (xn, xw) A).2 (shOf n k (xn, xw) A).2.length), true)) := HNEW.out hfew
       obtain ⟨z1, z2, z3, z4⟩ := shOf_fits hk1 hfew
       have hlen : (shOf n k (xn, xw) A).2.length <= A.length := by have := shOf_le (n := n) (k := k) (t := (xn, xw)) A A.length; rw [List.take_length] at this; exact this
       clear hs1 HFEW HNEW
       generalize shOf n k (xn, xw) A = Z at *
       obtain ⟨zs, zl⟩ := Z
       dsimp only at hfew z1 z2 z3 z4 hlen HSH6 HN
       have HD := rdecode_ok n k zs.toNat p6 zl c6 w6 hk1 hkn hn z2 (by omega) z4 z3 HSH6.out
       rw [z1] at HD
       generalize decT k zs.toNat (pickN k zl zl.length) = dt at *
       clear z1 z2 z3 z4 HSH6
       go_wp2_with fail
       refine HD.mono ?_
       rintro e w7 ⟨rfl, hb7⟩
       clear HD k0 k1 k2 HT6 HB6 hl6
       obtain ⟨_, x7, t7, _, hl7, b7⟩ := H6.out w7 hb7
       have x0 := x7.n
       have x1 := x7.who
       have t0 := t7.n
       have t1 := t7.who
       have t2 := t7.f0
       have t3 := t7.f1
       have HT7 : Hid (TagAt w7 w1.heap.size (sn, sw)) := t7
       have HB7 : Hid (Below w1.heap.size w1 w7) := b7
       dsimp only at x0 x1 t0 t1
       clear x7 t7 b7 hb7 H6
       go_wp2
       go_roundw
       case rel => exact HNXT.out _ _ HN.out (HT7.out.set xn xw) (by simpa using hl7) ((HB7.out.setCell (Nat.le_refl _) _).setCell (Nat.le_refl _) _) hil
       case measure => simp [intOf]; omega
    ·have hie : i = A.length := by omega
     have HE : Hid (bestF n k A A = ((sn, sw), stx, sf)) := HFIN.out hie
     have t0 := HT.out.n
     have t1 := HT.out.who
     have g0 := HTG.out.n
     have g1 := HTG.out.who
     have g2 := HTG.out.f0
     have g3 := HTG.out.f1
     dsimp only at t0 t1 g0 g1
     clear hsu HFIN HNXT hie k0 k1 k2
     have HF : Hid (TagAt ((w3.setCell ⟨w.heap.size + 1, 0, none⟩ (.int .i64 sn)).setCell ⟨w.heap.size + 1, 1, none⟩ (.int .i64 sw)) (w.heap.size + 1) (sn, sw)) := HTG.out.set sn sw
     have HBF : Hid (Below w.heap.size w ((w3.setCell ⟨w.heap.size + 1, 0, none⟩ (.int .i64 sn)).setCell ⟨w.heap.size + 1, 1, none⟩ (.int .i64 sw))) := (HBW.out.setCell (p := ⟨w.heap.size + 1, 0, none⟩) (by show w.heap.size <= w.heap.size + 1; omega) _).setCell (p := ⟨w.heap.size + 1, 1, none⟩) (by show w.heap.size <= w.heap.size + 1; omega) _
     go_wp2
     generalize (w3.setCell ⟨w.heap.size + 1, 0, none⟩ (.int .i64 sn)).setCell ⟨w.heap.size + 1, 1, none⟩ (.int .i64 sw) = wf at HF HBF ⊢
     have c1 := HF.out.n
     have c2 := HF.out.who
     dsimp only at c1 c2
     refine bodyPost_ret (v := .tuple #[.agg #[.int .i64 sn, .int .i64 sw], .string stx, .bool sf]) (by simp [results, Tryz.results46, go_sem, c1, c2]) rfl ⟨by rw [HE.out], HBF.out⟩
end Go.Proofs.YtobmckfcipeanaaGreatDoor
