/- Texts laid together. -/
import Derived.Test.YtaaahibncffcmaaDoorHb3
namespace Go.Proofs.YtaaahibncffcmaaDoor
open Go.RowKit
/-- The factor of row j in shard i. -/
def facN (k : Nat) : Nat → Nat → Nat := fun i j => Gf.shareOf (upToL k) j i
theorem facN_lt (k i j : Nat) : facN k i j < 256 := Gf.shareOf_lt _ _ _
theorem encT_bytes (k : Nat) (s : ByteArray) (i : Nat) : bytesOf (encT k s i) = rowT (facN k) (objN s (wideN k s.size)) k (wideN k s.size) i :=
  bytesOf_strOf (rowFn_bytes _ _ fun _ => rsumN_lt (fun _ _ => Gf.shareOf_lt _ _ _) _ _ _)
theorem encT_size (k : Nat) (s : ByteArray) (i : Nat) : (encT k s i).size = wideN k s.size := by
  rw [← bytesOf_length, encT_bytes]
  exact rowFn_length _ _
theorem encT_nth (k : Nat) (s : ByteArray) (i c : Nat) (hc : c < wideN k s.size) : Gf.nth (bytesOf (encT k s i)) c = rsumN (facN k) (objN s (wideN k s.size)) i c k := by
  rw [encT_bytes]
  exact nth_rowFn _ _ c hc
theorem rsumN_xor (f u v x : Nat → Nat → Nat) (i c : Nat) : ∀ k, (∀ j, j < k → x j c = u j c ^^^ v j c) → rsumN f x i c k = rsumN f u i c k ^^^ rsumN f v i c k
  | 0, _ => by show 0 = 0 ^^^ 0; rfl
  | k + 1, h => by
    show rsumN f x i c k ^^^ _ = (rsumN f u i c k ^^^ _) ^^^ (rsumN f v i c k ^^^ _)
    rw [rsumN_xor f u v x i c k (fun j hj => h j (by omega)), h k (by omega), Gf.mul_right, Gf.xor_left_comm]
/-- The sum of two texts, byte by byte. -/
def sumT (a b : ByteArray) : List Nat := rowFn a.size fun i => Gf.nth (bytesOf a) i ^^^ Gf.nth (bytesOf b) i
theorem sumT_bytes (a b : ByteArray) : Gf.Bytes (sumT a b) := rowFn_bytes _ _ fun i => Gf.xlt (bytesOf_lt a i) (bytesOf_lt b i)
theorem sumT_size (a b : ByteArray) : (strOf (sumT a b)).size = a.size := by rw [strOf_size]; exact rowFn_length _ _
theorem enc_sum (k : Nat) (a b : ByteArray) (hab : b.size = a.size) (i c : Nat) (hc : c < wideN k a.size) :
    Gf.nth (bytesOf (encT k (strOf (sumT a b)) i)) c = Gf.nth (bytesOf (encT k a i)) c ^^^ Gf.nth (bytesOf (encT k b i)) c := by
  rw [encT_nth k _ i c (by rw [sumT_size]; exact hc), encT_nth k a i c hc, encT_nth k b i c (by rw [hab]; exact hc), sumT_size, hab]
  refine rsumN_xor _ _ _ _ i c k (fun j _ => ?_)
  unfold objN
  rw [bytesOf_strOf (sumT_bytes a b)]
  by_cases h : j * wideN k a.size + c < a.size
  · exact nth_rowFn _ _ _ h
  · rw [nth_past (l := sumT a b) (by unfold sumT; rw [rowFn_length]; omega), nth_past (l := bytesOf a) (by rw [bytesOf_length]; omega), nth_past (l := bytesOf b) (by rw [bytesOf_length]; omega)]
    rfl
set_option maxRecDepth 10000 in
set_option maxHeartbeats 1000000 in
theorem upTo_any (k : Nat) (w : World) (hk : k ≤ 100) :
    Calls Tryd.prog 32 #[.int .i64 (k : Int)] w fun e w' => (∃ v, e = .returned v ∧ Own w' w.heap.size 5 v (upToL k)) ∧ Below w.heap.size w w' := by
  obtain ⟨i0, hi0, hz0, hz1, hz2⟩ := info_parts u8info
  go_enter Tryd.func32, Tryd.ntmps32
  go_wp2
  go_loopw [3, 4] (fun v j wr => ∃ n : Nat, n ≤ k ∧ j = .int .i64 n ∧ Own wr w.heap.size 5 v (upToL n) ∧ Below w.heap.size w wr) (fun _ j _ => k - (intOf j).toNat)
  case atStart => exact ⟨0, by omega, rfl, Own.nil _ _ _, Below.refl _ _⟩
  case round =>
    obtain ⟨n, hn, rfl, hown, hb⟩ := hrel
    have HO : Hid (Own wr w.heap.size 5 u3 (upToL n)) := hown
    have HB : Hid (Below w.heap.size w wr) := hb
    have hbz : w.heap.size ≤ wr.heap.size := hb.size
    have hul : (upToL n).length = n := by simp [upToL]
    clear hown hb
    by_cases hlt : n < k
    · have HU : Hid (upToL (n + 1) = upToL n ++ [n]) := by show _ = _; simp [upToL, List.range_succ]
      go_wp2_with (first | (at_builtin; refine wpList_append_byte rfl (.tmp 10) (.tmp 13) 32 rfl w.heap.size 5 i0 Tryd.underlying32 hi0 hz0 hz1 hz2 u3 (upToL n) rfl (HO.out.kept (World.grownBy_alloc wr _ none) (by cases hv : u3.ownBlock <;> simp)) ⟨wr.heap.size, 0, none⟩ 1 n rfl (by simp [byteV]) (by omega) (by simp; omega) ?_; intro v1 w1 hX hgX hwX))
      have hb1 : Below w.heap.size w w1 := (HB.out.alloc hbz _).grown hgX (by simp; omega) (fun k' hk' => (HO.out.block hk').1)
      go_roundw
      case rel => exact ⟨n + 1, by omega, by go_num, by rw [HU.out]; exact hX, hb1⟩
      case measure => simp [intOf]; omega
    · have hne : n = k := by omega
      subst hne
      go_wp2
      go_ret
      exact ⟨⟨u3, rfl, HO.out⟩, HB.out⟩
set_option maxRecDepth 10000 in
set_option maxHeartbeats 4000000 in
theorem rspread_any (n k : Nat) (w : World) (hn : n ≤ 100) (hk1 : 1 ≤ k) (hk : k ≤ 100) :
    Calls Tryd.prog 15 #[.int .i64 (n : Int), .int .i64 (k : Int)] w fun e w' => (∃ p' c', e = .returned (.slice p' n c') ∧ Mat w' p' (spreadM k n)) ∧ Below w.heap.size w w' := by
  obtain ⟨i1, hi1, hy0, hy1, hy2⟩ := info_parts rowinfo
  obtain ⟨i0, hi0, hz0, hz1, hzb⟩ := info_parts u8info
  go_enter Tryd.func15, Tryd.ntmps15
  go_wp2_with fail
  refine (upTo_any k _ hk).mono ?_
  rintro e w2 ⟨⟨vx, rfl, hox⟩, hb2⟩
  obtain ⟨px, cx, hvx, hsx⟩ := hox.seg (upToL_bytes k (by omega))
  rw [upToL_length] at hvx
  subst hvx
  have HSX : Hid (Seg w2 px (upToL k)) := hsx
  have HB2 : Hid (Below w.heap.size w w2) := hb2
  have hzw : w.heap.size ≤ w2.heap.size := hb2.size
  clear hox hsx hb2
  go_wp2
  go_loopw [6, 7] (fun v x wr => ∃ i : Nat, i ≤ n ∧ x = .int .i64 i ∧ OwnMat w2.heap.size wr 32 v (spreadM k i) ∧ Below w2.heap.size w2 wr) (fun _ x _ => n - (intOf x).toNat)
  case atStart => exact ⟨0, by omega, rfl, OwnMat.nil _ _ _, Below.refl _ _⟩
  case round =>
    obtain ⟨i, hi, rfl, hO, hBr⟩ := hrel
    have HO : Hid (OwnMat w2.heap.size wr 32 u6 (spreadM k i)) := hO
    have HBr : Hid (Below w2.heap.size w2 wr) := hBr
    have hz2 : w2.heap.size ≤ wr.heap.size := hBr.size
    clear hO hBr
    by_cases hil : i < n
    · go_wp2_with (first | (at_make; refine wpList_make_row _ rfl (.tmp 17) (.tmp 17) 32 rfl 5 i0 (byteV 0) Tryd.underlying32 hi0 hz0 hz1 rfl .i64 .i64 k rfl rfl (by rw [hzb]; omega) (by omega) ?_))
      obtain ⟨w3, rfl⟩ : ∃ w3, w3 = wr := ⟨_, rfl⟩
      have hmk : OwnN (w3.alloc (.cells (madeCells #[byteV 0] k) 5)) w3.heap.size 5 w3.heap.size k (rowFn k (fun c => if c < 0 then Gf.shareOf (upToL k) c i else 0)) := by
        have := OwnN.made w3 w3.heap.size 5 k (Nat.le_refl _) (by omega)
        rw [rowFn_congr k _ (fun c => if c < 0 then Gf.shareOf (upToL k) c i else 0) (fun c _ => by rw [if_neg (Nat.not_lt_zero _)])] at this
        exact this
      have hbk : Below w3.heap.size w3 (w3.alloc (.cells (madeCells #[byteV 0] k) 5)) := (Below.refl _ _).alloc (Nat.le_refl _) _
      generalize w3.alloc (.cells (madeCells #[byteV 0] k) 5) = w4 at hmk hbk ⊢
      have HMK : Hid (OwnN w4 w3.heap.size 5 w3.heap.size k (rowFn k (fun c => if c < 0 then Gf.shareOf (upToL k) c i else 0))) := hmk
      have HBK : Hid (Below w3.heap.size w3 w4) := hbk
      clear hmk hbk
      go_loopw [9] (fun x wq => ∃ j : Nat, j ≤ k ∧ x = .int .i64 j ∧ OwnN wq w3.heap.size 5 w3.heap.size k (rowFn k (fun c => if c < j then Gf.shareOf (upToL k) c i else 0)) ∧ Below w3.heap.size w3 wq) (fun x _ => k - (intOf x).toNat)
      case atStart => exact ⟨0, by omega, rfl, HMK.out, HBK.out⟩
      case round =>
        obtain ⟨j, hj, rfl, hON, hBq⟩ := hrel
        obtain ⟨w5, rfl⟩ : ∃ w5, w5 = wr := ⟨_, rfl⟩
        have HON : Hid (OwnN w5 w3.heap.size 5 w3.heap.size k (rowFn k (fun c => if c < j then Gf.shareOf (upToL k) c i else 0))) := hON
        have HBq : Hid (Below w3.heap.size w3 w5) := hBq
        have hz5 : w3.heap.size ≤ w5.heap.size := hBq.size
        clear hON hBq HMK HBK
        by_cases hjl : j < k
        · have HS5 : Hid (Seg w5 px (upToL k)) := (HSX.out.below HBr.out).below HBq.out
          go_wp2_with fail
          refine (basis_told px k cx j i _ (by omega) hk hjl HS5.out).mono ?_
          rintro e w6 ⟨rfl, m, hw6⟩
          have HO6 : Hid (OwnN w6 w3.heap.size 5 w3.heap.size k (rowFn k (fun c => if c < j then Gf.shareOf (upToL k) c i else 0))) := by rw [hw6]; exact HON.out.drewN m
          have HB6 : Hid (Below w3.heap.size w3 w6) := by rw [hw6]; exact below_drewN HBq.out m
          have q5 : w6.cell? ⟨w3.heap.size, j, none⟩ = some (.int .u8 ((0 : Nat) : Int)) := by rw [HO6.out.cell j hjl (rowFn_length _ _), nth_rowFn _ _ j hjl, if_neg (Nat.lt_irrefl _)]
          have q6 : w6.frozen? ⟨w3.heap.size, j, none⟩ = false := HO6.out.free j
          have HT : Hid (OwnN (w6.setCell ⟨w3.heap.size, j, none⟩ (.int .u8 ((Gf.shareOf (upToL k) j i : Nat) : Int))) w3.heap.size 5 w3.heap.size k (rowFn k (fun c => if c < j + 1 then Gf.shareOf (upToL k) c i else 0))) := by
            have := HO6.out.set j (Gf.shareOf (upToL k) j i)
            rw [rowFn_congr k (fun c => if c < j + 1 then Gf.shareOf (upToL k) c i else 0) (fun c => if c = j then Gf.shareOf (upToL k) j i else if c < j then Gf.shareOf (upToL k) c i else 0) (fun c _ => by
              by_cases e : c = j
              · subst e; rw [if_pos (by omega), if_pos rfl]
              · rw [if_neg e]
                by_cases e' : c < j
                · rw [if_pos (by omega), if_pos e']
                · rw [if_neg (by omega), if_neg e'])]
            exact this
          clear hw6 HON HBq HS5 HO6
          generalize Gf.shareOf (upToL k) j i = sh at HT ⊢
          go_wp2
          go_roundw
          case rel => exact ⟨j + 1, by omega, by go_num, HT.out, HB6.out.setCell (Nat.le_refl _) _⟩
          case measure => simp [intOf]; omega
        · have hje : j = k := by omega
          subst hje
          obtain ⟨vs, hmv⟩ := HO.out
          have HMV : Hid (OwnMatV w2.heap.size w3 32 u6 vs (spreadM j i)) := hmv
          have HV : Hid (OwnV w3 w2.heap.size 32 u6 vs) := hmv.1
          have HVL : Hid (vs.length = i) := hmv.2.1.trans (spreadM_length j i)
          have hr : Hid (Own w5 w3.heap.size 5 (.slice (some ⟨w3.heap.size, 0, none⟩) j j) (rowFn j fun c => Gf.shareOf (upToL j) c i)) := by
            refine OwnN.own ?_ (rowFn_length _ _)
            rw [rowFn_congr j _ (fun c => if c < j then Gf.shareOf (upToL j) c i else 0) (fun c hc => by rw [if_pos hc])]
            exact HON.out
          clear hmv HON
          go_wp2_with (first | (at_builtin; refine wpList_append_val rfl (.tmp 32) (.tmp 34) 23 rfl w2.heap.size 32 i1 (.slice none 0 0) 24 Tryd.underlying23 hi1 hy0 rfl hy1 hy2 (by decide) u6 vs rfl (((HV.out.kept (row := none) ⟨HBq.out.os, HBq.out.tape, HBq.out.output, HBq.out.size, fun k hk _ => HBq.out.block k hk⟩ (by cases hv : u6.ownBlock <;> simp))).kept (World.grownBy_alloc w5 _ none) (by cases hv : u6.ownBlock <;> simp)) ⟨w5.heap.size, 0, none⟩ 1 (.slice (some ⟨w3.heap.size, 0, none⟩) j j) rfl rfl (by simp) (by have := HVL.out; omega) (by simp; omega) ?_; intro v' w8 hV' hg' hw'))
          have hmv3 := HMV.out.snoc hz2 hr.out (rowFn_bytes _ _ fun c => Gf.shareOf_lt _ c _) HBq.out hV' hg' hw'
          have hb8 : Below w2.heap.size w2 w8 := ((HBr.out.trans (HBq.out.mono hz2)).alloc (by omega) _).grown hg' (by simp; omega) (fun k' hk' => (HV.out.block hk').1)
          go_roundw
          case rel => exact ⟨i + 1, by omega, by go_num, ⟨_, by rw [spreadM_succ]; exact hmv3⟩, hb8⟩
          case measure => simp [intOf]; omega
    · have hie : i = n := by omega
      subst hie
      obtain ⟨p', c', hv, hmat⟩ := HO.out.mat
      rw [spreadM_length] at hv
      subst hv
      clear HO
      go_wp2
      go_ret
      exact ⟨⟨p', c', rfl, hmat⟩, HB2.out.trans (HBr.out.mono hzw)⟩
set_option maxRecDepth 10000 in
set_option maxHeartbeats 4000000 in
theorem rencode_any (n k : Nat) (s : ByteArray) (w : World) (hk1 : 1 ≤ k) (hkn : k ≤ n) (hn : n ≤ 12) (hs : s.size ≤ 3000) :
    Calls Tryd.prog 22 #[.int .i64 (n : Int), .int .i64 (k : Int), .string s] w fun e w' => (∃ v, e = .returned v ∧ OwnSh w' w.heap.size v ((List.range n).map fun i => (i, encRow (bytesOf s) k (wideN k s.size) i))) ∧ Below w.heap.size w w' := by
  obtain ⟨i1, hi1, hy0, hy1, hy2⟩ := info_parts shinfo
  obtain ⟨i0, hi0, hz0, hz1, hzb⟩ := info_parts u8info
  have hwd := wideN_le (size := s.size) hk1
  go_enter Tryd.func22, Tryd.ntmps22
  go_wp2_with fail
  refine (rwide_any k s.size _ hk1 (by omega) (by omega)).mono ?_
  rintro e w' ⟨rfl, hww⟩
  rw [hww]
  clear hww w'
  go_wp2_with fail
  refine (rspread_any n k _ (by omega) hk1 (by omega)).mono ?_
  rintro e w2 ⟨⟨p2, c2, rfl, hm2⟩, hb2⟩
  have HM2 : Hid (Mat w2 p2 (spreadM k n)) := hm2
  have HB2 : Hid (Below w.heap.size w w2) := hb2
  have hs2 : w.heap.size ≤ w2.heap.size := hb2.size
  clear hm2 hb2
  generalize hwe : wideN k s.size = wd at *
  have HWE : Hid (wideN k s.size = wd) := hwe
  clear hwe
  go_wp2
  have hsz : (bytesOf s).length = s.size := by simp [bytesOf]
  go_loopw [9, 10] (fun v x wr => ∃ i : Nat, i ≤ n ∧ x = .int .i64 i ∧ OwnSh wr w2.heap.size v ((List.range i).map fun i => (i, encRow (bytesOf s) k wd i)) ∧ Below w2.heap.size w2 wr) (fun _ x _ => n - (intOf x).toNat)
  case atStart => exact ⟨0, by omega, rfl, World.ownsRow_nil _ _ _ _, Below.refl _ _⟩
  case round =>
    obtain ⟨i, hi, rfl, hO, hB⟩ := hrel
    obtain ⟨w3, rfl⟩ : ∃ w3, w3 = wr := ⟨_, rfl⟩
    have HO : Hid (OwnSh w3 w2.heap.size u9 ((List.range i).map fun i => (i, encRow (bytesOf s) k wd i))) := hO
    have HB : Hid (Below w2.heap.size w2 w3) := hB
    have hz3 : w2.heap.size ≤ w3.heap.size := hB.size
    clear hO hB
    by_cases hil : i < n
    · go_wp2_with (first | (at_make; refine wpList_make_row _ rfl (.tmp 26) (.tmp 26) 32 rfl 5 i0 (byteV 0) Tryd.underlying32 hi0 hz0 hz1 rfl .i64 .i64 wd rfl rfl (by rw [hzb]; omega) (by omega) ?_))
      have hmk : OwnN (w3.alloc (.cells (madeCells #[byteV 0] wd) 5)) w3.heap.size 5 w3.heap.size wd (rowFn wd (fun c => if c < 0 then encN (bytesOf s) k wd i c k else 0)) := by
        have := OwnN.made w3 w3.heap.size 5 wd (Nat.le_refl _) (by omega)
        rw [rowFn_congr wd _ (fun c => if c < 0 then encN (bytesOf s) k wd i c k else 0) (fun c _ => by rw [if_neg (Nat.not_lt_zero _)])] at this
        exact this
      have hbk : Below w3.heap.size w3 (w3.alloc (.cells (madeCells #[byteV 0] wd) 5)) := (Below.refl _ _).alloc (Nat.le_refl _) _
      generalize w3.alloc (.cells (madeCells #[byteV 0] wd) 5) = w4 at hmk hbk ⊢
      have HMK : Hid (OwnN w4 w3.heap.size 5 w3.heap.size wd (rowFn wd (fun c => if c < 0 then encN (bytesOf s) k wd i c k else 0))) := hmk
      have HBK : Hid (Below w3.heap.size w3 w4) := hbk
      clear hmk hbk
      go_loopw [12] (fun x wq => ∃ c : Nat, c ≤ wd ∧ x = .int .i64 c ∧ OwnN wq w3.heap.size 5 w3.heap.size wd (rowFn wd (fun d => if d < c then encN (bytesOf s) k wd i d k else 0)) ∧ Below w3.heap.size w3 wq) (fun x _ => wd - (intOf x).toNat)
      case atStart => exact ⟨0, by omega, rfl, HMK.out, HBK.out⟩
      case round =>
        obtain ⟨c, hc, rfl, hON, hBq⟩ := hrel
        obtain ⟨w5, rfl⟩ : ∃ w5, w5 = wr := ⟨_, rfl⟩
        have HON : Hid (OwnN w5 w3.heap.size 5 w3.heap.size wd (rowFn wd (fun d => if d < c then encN (bytesOf s) k wd i d k else 0))) := hON
        have HBq : Hid (Below w3.heap.size w3 w5) := hBq
        clear hON hBq HMK HBK
        by_cases hcl : c < wd
        · go_wp2
          go_loopw [13] (fun x wq => ∃ j : Nat, j ≤ k ∧ x = .int .i64 j ∧ OwnN wq w3.heap.size 5 w3.heap.size wd (rowFn wd (fun d => if d < c then encN (bytesOf s) k wd i d k else if d = c then encN (bytesOf s) k wd i c j else 0)) ∧ Below w3.heap.size w3 wq) (fun x _ => k - (intOf x).toNat)
          case atStart =>
            refine ⟨0, by omega, rfl, ?_, HBq.out⟩
            rw [rowFn_congr wd _ (fun d => if d < c then encN (bytesOf s) k wd i d k else 0) (fun d _ => by by_cases e : d = c <;> simp [e, encN])]
            exact HON.out
          case round =>
            obtain ⟨j, hjk, rfl, hON2, hBq2⟩ := hrel
            obtain ⟨w6, rfl⟩ : ∃ w6, w6 = wr := ⟨_, rfl⟩
            have HON2 : Hid (OwnN w6 w3.heap.size 5 w3.heap.size wd (rowFn wd (fun d => if d < c then encN (bytesOf s) k wd i d k else if d = c then encN (bytesOf s) k wd i c j else 0))) := hON2
            have HBq2 : Hid (Below w3.heap.size w3 w6) := hBq2
            clear hON2 hBq2 HON HBq
            by_cases hjl : j < k
            · have hb : j * wd ≤ 12 * 3000 := Nat.mul_le_mul (by omega) (by omega)
              have hp0 : (0 : Int) ≤ (j : Int) * (wd : Int) := by rw [← Int.natCast_mul]; omega
              have hp1 : (j : Int) * (wd : Int) ≤ 36000 := by rw [← Int.natCast_mul]; omega
              by_cases hin : j * wd + c < s.size
              · have h2 : (j : Int) * (wd : Int) + (c : Int) < (s.size : Int) := by rw [← Int.natCast_mul]; omega
                have hlr : (rowOf (spreadM k n) i).length = k := by rw [spreadM_row k n i hil, rowFn_length]
                obtain ⟨bm, om, b1, o1, c1, hpm, hbm, hb1, hcM, hdM⟩ := HM2.out.row (i := i) (by rw [spreadM_length]; exact hil) (by rw [hlr]; omega)
                subst hpm
                rw [hlr] at hcM hdM
                have toW6 : ∀ b o, b < w2.heap.size → w6.cell? ⟨b, o, none⟩ = w2.cell? ⟨b, o, none⟩ := fun b o hb => (HBq2.out.cell (p := ⟨b, o, none⟩) (by show b < _; omega)).trans (HB.out.cell (p := ⟨b, o, none⟩) hb)
                have q1 : w6.cell? ⟨bm, om + i, none⟩ = some (.slice (some ⟨b1, o1, none⟩) k c1) := (toW6 _ _ hbm).trans hcM
                have q2 : w6.cell? ⟨b1, o1 + j, none⟩ = some (.int .u8 ((Gf.shareOf (upToL k) j i : Nat) : Int)) := by rw [toW6 _ _ hb1, hdM j hjl, spreadM_row k n i hil, nth_rowFn _ _ j hjl]
                have q5 : w6.cell? ⟨w3.heap.size, c, none⟩ = some (.int .u8 ((encN (bytesOf s) k wd i c j : Nat) : Int)) := by rw [HON2.out.cell c hcl (rowFn_length _ _), nth_rowFn _ _ c hcl, if_neg (Nat.lt_irrefl _), if_pos rfl]
                have q6 : w6.frozen? ⟨w3.heap.size, c, none⟩ = false := HON2.out.free c
                have lx := Gf.shareOf_lt (upToL k) j i
                have ly := bytesOf_lt s (j * wd + c)
                have ls := encN_lt (bytesOf s) k wd i c j
                have lm := Gf.mul_lt lx (Gf.nth (bytesOf s) (j * wd + c))
                have h0 : (0 : Int) ≤ (j : Int) * (wd : Int) + (c : Int) := by omega
                have hidx : ∀ W, Sem.run Tryd.prog (Instr.index 9 (.string s) (.int .i64 ((j : Int) * (wd : Int) + (c : Int)))) W = .ok (.int .u8 ((Gf.nth (bytesOf s) (j * wd + c) : Nat) : Int)) W := fun W => by
                  rw [run_index_string W 9 s .i64 _ Tryd.underlying9, dif_pos ⟨h0, h2⟩]
                  rw [bytesOf_nth s (j * wd + c) hin]
                  congr 3
                have HX : Hid (bits .xor .u8 ((encN (bytesOf s) k wd i c j : Nat) : Int) ((Gf.mul (Gf.shareOf (upToL k) j i) (Gf.nth (bytesOf s) (j * wd + c)) : Nat) : Int) = ((encN (bytesOf s) k wd i c (j + 1) : Nat) : Int)) := by
                  show _ = _
                  rw [u8_xor_nat _ _ ls lm]
                  show _ = (((if j * wd + c < (bytesOf s).length then _ else _) : Nat) : Int)
                  rw [if_pos (by omega)]
                have hw1 : IntKind.i64.wrap ((j : Int) * (wd : Int)) = (j : Int) * (wd : Int) := by rw [IntKind.wrap_i64]; omega
                have hw2 : IntKind.i64.wrap ((j : Int) * (wd : Int) + (c : Int)) = (j : Int) * (wd : Int) + (c : Int) := by rw [IntKind.wrap_i64]; omega
                have n1 : w3.heap.size ≠ bm := by omega
                have n2 : w3.heap.size ≠ b1 := by omega
                clear toW6 hcM hdM hin hb
                generalize Gf.shareOf (upToL k) j i = x at q2 lx lm HX
                generalize Gf.nth (bytesOf s) (j * wd + c) = y at hidx ly lm HX
                have HON2' : Hid (OwnN w6 w3.heap.size 5 w3.heap.size wd (rowFn wd (fun d => if d < c then encN (bytesOf s) k wd i d k else if d = c then encN (bytesOf s) k wd i c j else 0))) := HON2.out
                generalize encN (bytesOf s) k wd i c j = sacc at q5 ls HX HON2'
                go_wp2
                refine wp_region_still_tail 23 (by kernel_rfl) (by kernel_rfl) ?_
                simp only [List.take_succ_cons, List.take_zero, List.drop_succ_cons, List.drop_zero]
                repeat still_step
                still_call (rmul_any x y _ lx ly)
                repeat still_step
                refine wpStill_nil ?_
                rw [HX.out]
                have HO7 : Hid (OwnN (w6.drewN 1) w3.heap.size 5 w3.heap.size wd (rowFn wd (fun d => if d < c then encN (bytesOf s) k wd i d k else if d = c then sacc else 0))) := HON2'.out.drewN 1
                have HB7 : Hid (Below w3.heap.size w3 (w6.drewN 1)) := below_drewN HBq2.out 1
                have q5' : (w6.drewN 1).cell? ⟨w3.heap.size, c, none⟩ = some (.int .u8 (sacc : Int)) := q5
                have q6' : (w6.drewN 1).frozen? ⟨w3.heap.size, c, none⟩ = false := q6
                change wpList _ _ _ _ _ (w6.drewN 1)
                generalize w6.drewN 1 = w7 at HO7 HB7 q5' q6' ⊢
                clear q1 q2 q5 q6 HON2 HON2' HBq2 hidx hw1 hw2 h0 h2
                go_wp2
                go_roundw
                case rel =>
                  refine ⟨j + 1, by omega, by go_num, ?_, HB7.out.setCell (Nat.le_refl _) _⟩
                  have := HO7.out.set c (encN (bytesOf s) k wd i c (j + 1))
                  rw [rowFn_congr wd (fun d => if d < c then encN (bytesOf s) k wd i d k else if d = c then encN (bytesOf s) k wd i c (j + 1) else 0) (fun d => if d = c then encN (bytesOf s) k wd i c (j + 1) else if d < c then encN (bytesOf s) k wd i d k else if d = c then sacc else 0) (fun d _ => by
                    by_cases e : d = c
                    · subst e; rw [if_neg (Nat.lt_irrefl _), if_pos rfl, if_pos rfl]
                    · rw [if_neg e, if_neg e, if_neg e])]
                  exact this
                case measure => simp [intOf]; omega
              · have h2 : ¬ (j : Int) * (wd : Int) + (c : Int) < (s.size : Int) := by rw [← Int.natCast_mul]; omega
                have HE : Hid (encN (bytesOf s) k wd i c (j + 1) = encN (bytesOf s) k wd i c j) := by
                  show (if j * wd + c < (bytesOf s).length then _ else _) = _
                  rw [if_neg (by omega)]
                clear hb hin
                go_wp2
                go_roundw
                case rel => exact ⟨j + 1, by omega, by go_num, by rw [HE.out]; exact HON2.out, HBq2.out⟩
                case measure => simp [intOf]; omega
            · have hke : j = k := by omega
              subst hke
              go_wp2
              go_roundw
              case rel =>
                refine ⟨c + 1, by omega, by go_num, ?_, HBq2.out⟩
                rw [rowFn_congr wd _ (fun d => if d < c then encN (bytesOf s) j wd i d j else if d = c then encN (bytesOf s) j wd i c j else 0) (fun d _ => by
                  by_cases e : d < c
                  · rw [if_pos (by omega), if_pos e]
                  · by_cases e' : d = c
                    · subst e'; rw [if_pos (by omega), if_neg e, if_pos rfl]
                    · rw [if_neg (by omega), if_neg e, if_neg e'])]
                exact HON2.out
              case measure => simp [intOf]; omega
        · have hce : c = wd := by omega
          subst hce
          have hN5 : OwnN w5 w3.heap.size 5 w3.heap.size c (encRow (bytesOf s) k c i) := by
            unfold encRow
            rw [rowFn_congr c _ (fun d => if d < c then encN (bytesOf s) k c i d k else 0) (fun d hd => by rw [if_pos hd])]
            exact HON.out
          have hcv : Sem.run Tryd.prog (convert 32 9 (.slice (some ⟨w3.heap.size, 0, none⟩) c c)) w5 = .ok (.string (strOf (encRow (bytesOf s) k c i))) w5 := by
            have hsg : Seg w5 (some ⟨w3.heap.size, 0, none⟩) (encRow (bytesOf s) k c i) := ⟨rowFn_bytes _ _ (fun d => encN_lt _ _ _ _ _ _), Or.inr ⟨w3.heap.size, 0, rfl, hN5.lt.2, fun d hd => by
              have hd' : d < c := by unfold encRow at hd; rw [rowFn_length] at hd; exact hd
              rw [Nat.zero_add]
              exact hN5.cell d hd' (rowFn_length _ _)⟩⟩
            have := conv_seg hsg c
            rw [show (encRow (bytesOf s) k c i).length = c from rowFn_length _ _] at this
            exact this
          have hz5 : w3.heap.size ≤ w5.heap.size := HBq.out.size
          have HO5 : Hid (OwnSh w5 w2.heap.size u9 ((List.range i).map fun i => (i, encRow (bytesOf s) k c i))) := World.ownsRow.kept HO.out (⟨HBq.out.os, HBq.out.tape, HBq.out.output, HBq.out.size, fun k hk _ => HBq.out.block k hk⟩ : w3.grownBy w5 none) (by cases hv : u9.ownBlock <;> simp)
          have HW5 : Hid (Below w2.heap.size w2 w5) := HB.out.trans (HBq.out.mono hz3)
          have HL : Hid (((List.range i).map fun i => (i, encRow (bytesOf s) k c i)).length = i) := by show _ = _; simp
          clear hN5 HON
          have HR : Hid ((List.range (i + 1)).map (fun i => (i, encRow (bytesOf s) k c i)) = ((List.range i).map fun i => (i, encRow (bytesOf s) k c i)) ++ [(i, encRow (bytesOf s) k c i)]) := by show _ = _; simp [List.range_succ]
          generalize encRow (bytesOf s) k c i = row at hcv HR
          generalize ((List.range i).map fun i => (i, encRow (bytesOf s) k c i)) = pre at HO5 HL HR
          go_wp2_with (first | (at_builtin; refine wpList_append_own _ rfl (.tmp 69) (.tmp 74) 41 rfl w2.heap.size 48 i1 (.agg #[.int .i64 0, .string ⟨#[]⟩]) 2 24 Tryd.underlying41 hi1 hy0 hy1 hy2 rfl (by decide) u9 pre.length (shCells pre) rfl (World.ownsRow.alloc HO5.out _) ⟨w5.heap.size, 0, none⟩ 1 1 [.int .i64 (i : Int), .string (strOf row)] rfl rfl (fun j u hj => by match j, hj with | 0, hj => (simp at hj; subst hj; simp [Addr.add]) | 1, hj => (simp at hj; subst hj; simp [Addr.add])) (fun u hu => by simp at hu; rcases hu with rfl | rfl <;> rfl) (by rw [HL.out]; unfold maxLen; omega) (by rw [HL.out]; omega) (by simp; omega) ?_; intro v' w8 hown' hg' _))
          have hb8 : Below w2.heap.size w2 w8 := (HW5.out.alloc (by omega) _).grown hg' (by simp; omega) (fun g hg => (World.ownsRow.lt HO5.out g hg).1)
          have hO8 := OwnSh.snoc hown' rfl
          go_roundw
          case rel => exact ⟨i + 1, by omega, by go_num, by rw [HR.out]; exact hO8, hb8⟩
          case measure => simp [intOf]; omega
    · have hie : i = n := by omega
      subst hie
      have HF : Hid (OwnSh w3 w.heap.size u9 ((List.range i).map fun j => (j, encRow (bytesOf s) k (wideN k s.size) j))) := by
        show OwnSh _ _ _ _
        rw [HWE.out]
        obtain ⟨h1, h2⟩ := HO.out
        refine ⟨h1, ?_⟩
        rcases h2 with h2 | ⟨g', cap, cur, e, hbb, rest⟩
        · exact Or.inl h2
        · exact Or.inr ⟨g', cap, cur, e, Nat.le_trans hs2 hbb, rest⟩
      have HBF : Hid (Below w.heap.size w w3) := HB2.out.trans (HB.out.mono hs2)
      clear HO HB
      go_wp2
      go_ret
      exact ⟨⟨_, rfl, HF.out⟩, HBF.out⟩
set_option maxRecDepth 10000 in
theorem encode1_any (pw ps wd j c : Nat) (s : ByteArray) (w : World) (hj : j ≤ 1000) (hc : c ≤ 100000) (hwd : wd ≤ 100000) (hw : w.cell? ⟨pw, 0, none⟩ = some (.int .i64 (wd : Int))) (hs : w.cell? ⟨ps, 0, none⟩ = some (.string s)) :
    Calls Tryd.prog 44 (#[.int .i64 (j : Int), .int .i64 (c : Int)] ++ #[.pointer (some ⟨pw, 0, none⟩), .pointer (some ⟨ps, 0, none⟩)]) w fun e w2 => e = .returned (.int .u8 ((objN s wd j c : Nat) : Int)) ∧ w2 = w := by
  have hb : j * wd ≤ 1000 * 100000 := Nat.mul_le_mul hj hwd
  have hp0 : (0 : Int) ≤ (j : Int) * (wd : Int) := by rw [← Int.natCast_mul]; omega
  have hp1 : (j : Int) * (wd : Int) ≤ 100000000 := by rw [← Int.natCast_mul]; omega
  have hw1 : IntKind.i64.wrap ((j : Int) * (wd : Int)) = (j : Int) * (wd : Int) := by rw [IntKind.wrap_i64]; omega
  have hw2 : IntKind.i64.wrap ((j : Int) * (wd : Int) + (c : Int)) = (j : Int) * (wd : Int) + (c : Int) := by rw [IntKind.wrap_i64]; omega
  by_cases hin : j * wd + c < s.size
  · have h2 : (j : Int) * (wd : Int) + (c : Int) < (s.size : Int) := by rw [← Int.natCast_mul]; omega
    have h0 : (0 : Int) ≤ (j : Int) * (wd : Int) + (c : Int) := by omega
    have hidx : ∀ W, Sem.run Tryd.prog (Instr.index 9 (.string s) (.int .i64 ((j : Int) * (wd : Int) + (c : Int)))) W = .ok (.int .u8 ((objN s wd j c : Nat) : Int)) W := fun W => by
      rw [run_index_string W 9 s .i64 _ Tryd.underlying9, dif_pos ⟨h0, h2⟩]
      unfold objN
      rw [bytesOf_nth s (j * wd + c) hin]
      congr 3
    clear hin hb
    generalize objN s wd j c = y at hidx ⊢
    go_enter Tryd.func44, Tryd.ntmps44
    go_wp2
    go_ret
    exact ⟨rfl, rfl⟩
  · have h2 : ¬ (j : Int) * (wd : Int) + (c : Int) < (s.size : Int) := by rw [← Int.natCast_mul]; omega
    rw [objN_past hin]
    clear hin hb
    go_enter Tryd.func44, Tryd.ntmps44
    go_wp2
    go_ret
    exact ⟨rfl, rfl⟩
set_option maxRecDepth 10000 in
set_option maxHeartbeats 2000000 in
theorem encode_ok (n k : Nat) (s : ByteArray) (z : Addr) (w : World) (hk1 : 1 ≤ k) (hkn : k ≤ n) (hn : n ≤ 12) (hs : s.size ≤ 1000) (hz : w.cell? ⟨2, 0, none⟩ = some (.iface 136 (.pointer (some z)))) :
    Calls Tryd.prog 20 #[.int .i64 (n : Int), .int .i64 (k : Int), .string s] w fun e w' => (∃ g, w.heap.size ≤ g ∧ e = .returned (.tuple #[.slice (some ⟨g, 0, none⟩) n n, .nilIface]) ∧ ShRow w' g n (encS k s)) ∧ Below w.heap.size w w' := by
  have hwd := wideN_le (size := s.size) hk1
  obtain ⟨w1, hw1⟩ : ∃ w1, w1 = w.alloc (.cells #[.string s] 9) := ⟨_, rfl⟩
  have hb1 : Below w.heap.size w w1 := by rw [hw1]; exact (Below.refl _ _).alloc (Nat.le_refl _) _
  have hs1 : w1.heap.size = w.heap.size + 1 := by rw [hw1]; simp
  have hp1 : w1.cell? ⟨w.heap.size, 0, none⟩ = some (.string s) := by rw [hw1, World.cell?_alloc_at _ _ _ _ rfl]; rfl
  have HS := spreadOf_ok n k s.size z w1 hk1 hkn hn hs ((hb1.cell (p := ⟨2, 0, none⟩) (lt_of_cell hz)).trans hz)
  have HW1 : Hid (w1 = w.alloc (.cells #[.string s] 9)) := hw1
  have HB1 : Hid (Below w.heap.size w w1) := hb1
  have hmk := run_make_shards n (by omega)
  clear hw1 hb1 hz
  go_enter Tryd.func20, Tryd.ntmps20
  go_wp2_with fail
  rw [← HW1.out]
  refine HS.mono ?_
  rintro e w2 ⟨⟨gm, rfl, hm2⟩, hb2⟩
  have hs2 : w1.heap.size ≤ w2.heap.size := hb2.size
  have hp2 : w2.cell? ⟨w.heap.size, 0, none⟩ = some (.string s) := (hb2.cell (p := ⟨w.heap.size, 0, none⟩) (by show w.heap.size < _; omega)).trans hp1
  have HM2 : Hid (Mat w2 (some ⟨gm, 0, none⟩) (spreadM k n)) := hm2
  have HB2 : Hid (Below w.heap.size w w2) := HB1.out.trans (hb2.mono (by omega))
  clear HS hm2 hb2 HB1 HW1 hp1
  have HWD := fun W => width_any s.size k W hk1 (by omega) (by omega)
  have HES : Hid (∀ i, encS k s i = ((i : Int), strOf (rowT (fun i j => Gf.shareOf (upToL k) j i) (objN s (wideN k s.size)) k (wideN k s.size) i))) := fun i => rfl
  generalize wideN k s.size = wd at *
  go_wp2_with fail
  refine (HWD _).mono ?_
  rintro e w2' ⟨rfl, hww⟩
  rw [hww]
  clear hww w2' HWD
  obtain ⟨w3, hw3⟩ : ∃ w3, w3 = w2.alloc (.cells #[.int .i64 (wd : Int)] 3) := ⟨_, rfl⟩
  have hb3 : Below w2.heap.size w2 w3 := by rw [hw3]; exact (Below.refl _ _).alloc (Nat.le_refl _) _
  have hs3 : w3.heap.size = w2.heap.size + 1 := by rw [hw3]; simp
  have hp3 : w3.cell? ⟨w.heap.size, 0, none⟩ = some (.string s) := (hb3.cell (p := ⟨w.heap.size, 0, none⟩) (by show w.heap.size < _; omega)).trans hp2
  have hv3 : w3.cell? ⟨w2.heap.size, 0, none⟩ = some (.int .i64 (wd : Int)) := by rw [hw3, World.cell?_alloc_at _ _ _ _ rfl]; rfl
  have HB3 : Hid (Below w.heap.size w w3) := HB2.out.trans (hb3.mono (by omega))
  have HT : Tells w3 44 #[.pointer (some ⟨w2.heap.size, 0, none⟩), .pointer (some ⟨w.heap.size, 0, none⟩)] (objN s wd) k wd := fun j c hj hc w4 h4 =>
    encode1_any w2.heap.size w.heap.size wd j c s w4 (by omega) (by omega) (by omega) ((h4.cell (p := ⟨w2.heap.size, 0, none⟩) (by show w2.heap.size < _; omega)).trans hv3) ((h4.cell (p := ⟨w.heap.size, 0, none⟩) (by show w.heap.size < _; omega)).trans hp3)
  have HR := rows_any (some ⟨gm, 0, none⟩) n k wd n (fun i j => Gf.shareOf (upToL k) j i) (objN s wd) 44 #[.pointer (some ⟨w2.heap.size, 0, none⟩), .pointer (some ⟨w.heap.size, 0, none⟩)] w3 (by omega) (by omega) hk1 (by omega) (by omega) (fun i j => Gf.shareOf_lt _ _ _) (fun j c => objN_lt s wd j c) (HM2.out.below hb3) (enters_of Tryd.func44 (by kernel_rfl) rfl) HT
  have HW3 : Hid (w3 = w2.alloc (.cells #[.int .i64 (wd : Int)] 3)) := hw3
  have hs3' : w2.heap.size < w3.heap.size := by omega
  have hs1' : w.heap.size < w1.heap.size := by omega
  clear hw3 hb3 HT HM2 HB2 hp2 hs3 hs1
  go_wp2_with fail
  rw [← HW3.out]
  refine HR.mono ?_
  rintro e w4 ⟨rfl, hr4, hb4⟩
  have HR4 : Hid (w4.rowIs w3.heap.size 9 n (fun i => .string (strOf (rowT (fun i j => Gf.shareOf (upToL k) j i) (objN s wd) k wd i)))) := hr4
  have HB4 : Hid (Below w.heap.size w w4) := HB3.out.trans (hb4.mono (by omega))
  have hz4 : w3.heap.size < w4.heap.size := hr4.lt
  clear HR hr4 hb4 HB3 HW3 hp3 hv3
  go_wp2
  have hS0 := ShRow.made w4 n
  have hB0 : Below w4.heap.size w4 (w4.alloc (.cells (madeCells #[.int .i64 0, .string ⟨#[]⟩] (n * 2)) 48)) := (Below.refl _ _).alloc (Nat.le_refl _) _
  generalize w4.alloc (.cells (madeCells #[.int .i64 0, .string ⟨#[]⟩] (n * 2)) 48) = w5 at hS0 hB0 ⊢
  have HS0 : Hid (ShRow w5 w4.heap.size n (fun _ => (0, ⟨#[]⟩))) := hS0
  have HB0 : Hid (Below w4.heap.size w4 w5) := hB0
  clear hS0 hB0 hmk
  go_loopw [38] (fun x wr => ∃ i : Nat, i ≤ n ∧ x = .int .i64 i ∧ ShRow wr w4.heap.size n (fun q => if q < i then encS k s q else (0, ⟨#[]⟩)) ∧ Below w4.heap.size w4 wr) (fun x _ => n - (intOf x).toNat)
  case atStart => exact ⟨0, by omega, rfl, HS0.out.congr (fun q _ => by simp), HB0.out⟩
  case round =>
    obtain ⟨i, hi, rfl, hS, hB⟩ := hrel
    obtain ⟨w6, rfl⟩ : ∃ w6, w6 = wr := ⟨_, rfl⟩
    have HSR : Hid (ShRow w6 w4.heap.size n (fun q => if q < i then encS k s q else (0, ⟨#[]⟩))) := hS
    have HB : Hid (Below w4.heap.size w4 w6) := hB
    have hgt : w4.heap.size < w6.heap.size := World.rowIs.lt hS
    clear hS hB HS0 HB0
    by_cases hil : i < n
    · have q0 : w6.cell? ⟨w3.heap.size, i, none⟩ = some (.string (encT k s i)) := by
        rw [HB.out.cell (p := ⟨w3.heap.size, i, none⟩) hz4, HR4.out.cell hil]
        exact congrArg (fun x : Int × ByteArray => some (Value.string x.2)) (HES.out i).symm
      have q1 : w6.cell? ⟨w4.heap.size, i * 2, none⟩ = some (.int .i64 0) := by rw [HSR.out.at_ hil, if_neg (Nat.lt_irrefl _)]
      have q2 : w6.cell? ⟨w4.heap.size, i * 2 + 1, none⟩ = some (.string ⟨#[]⟩) := by rw [HSR.out.text hil, if_neg (Nat.lt_irrefl _)]
      have f1 : w6.frozen? ⟨w4.heap.size, i * 2, none⟩ = false := World.rowIs.frozen HSR.out _
      have f2 : w6.frozen? ⟨w4.heap.size, i * 2 + 1, none⟩ = false := World.rowIs.frozen HSR.out _
      go_wp2
      go_roundw
      case rel =>
        refine ⟨i + 1, by omega, by go_num, ?_, ?_⟩
        · refine (HSR.out.set i (i : Int) (encT k s i)).congr (fun q _ => ?_)
          by_cases e : q = i
          · rw [if_pos e, if_pos (by omega), e]
            rfl
          · rw [if_neg e]
            by_cases e' : q < i
            · rw [if_pos e', if_pos (by omega)]
            · rw [if_neg e', if_neg (by omega)]
        · exact (HB.out.setCell (Nat.le_refl _) _).setCell (Nat.le_refl _) _
      case measure => simp [intOf]; omega
    · have hie : i = n := by omega
      subst hie
      go_wp2
      go_ret2
      exact ⟨⟨w4.heap.size, by have := HB4.out.size; omega, rfl, HSR.out.congr (fun q hq => by rw [if_pos hq])⟩, HB4.out.trans (HB.out.mono (HB4.out.size))⟩
set_option maxRecDepth 10000 in
theorem encode_bad (n k : Int) (s : ByteArray) (z : Addr) (w : World) (hsz : s.size ≤ 1000000) (h : ¬ (1 ≤ k ∧ k ≤ n ∧ n ≤ 12 ∧ s.size ≤ 1000)) (hz : w.cell? ⟨0, 0, none⟩ = some (.iface 136 (.pointer (some z)))) :
    Calls Tryd.prog 20 #[.int .i64 n, .int .i64 k, .string s] w fun e w' => e = .returned (.tuple #[.slice none 0 0, .iface 136 (.pointer (some z))]) ∧ Below w.heap.size w w' := by
  obtain ⟨w1, hw1⟩ : ∃ w1, w1 = w.alloc (.cells #[.string s] 9) := ⟨_, rfl⟩
  have hb1 : Below w.heap.size w w1 := by rw [hw1]; exact (Below.refl _ _).alloc (Nat.le_refl _) _
  have HS := spreadOf_bad n k (s.size : Int) z w1 (by omega) ((hb1.cell (p := ⟨0, 0, none⟩) (lt_of_cell hz)).trans hz)
  have HW1 : Hid (w1 = w.alloc (.cells #[.string s] 9)) := hw1
  have HB1 : Hid (Below w.heap.size w w1) := hb1
  clear hw1 hb1 hz h
  go_enter Tryd.func20, Tryd.ntmps20
  go_wp2_with fail
  rw [← HW1.out]
  refine HS.mono ?_
  rintro e w2 ⟨rfl, hb2⟩
  clear HS
  go_wp2
  go_ret2
  exact ⟨rfl, HB1.out.trans (hb2.mono HB1.out.size)⟩
theorem encT_single : encT 1 ⟨#[97, 98]⟩ 0 = ⟨#[97, 98]⟩ := by decide +kernel
set_option maxRecDepth 10000 in
set_option maxHeartbeats 1000000 in
theorem single_any (z : Addr) (w : World) (hz : w.cell? ⟨2, 0, none⟩ = some (.iface 136 (.pointer (some z)))) :
    Calls Tryd.prog 19 #[] w fun e w' => e = .returned (.bool true) ∧ Below w.heap.size w w' := by
  have HC := encode_ok 1 1 ⟨#[97, 98]⟩ z w (by decide) (by decide) (by decide) (by decide) hz
  clear hz
  go_enter Tryd.func19, Tryd.ntmps19
  go_wp2_with fail
  refine HC.mono ?_
  rintro e w1 ⟨⟨g, hg, rfl, hs⟩, hb⟩
  have q1 : w1.cell? ⟨g, 0, none⟩ = some (.int .i64 0) := hs.at_ (i := 0) (by decide)
  have q2 : w1.cell? ⟨g, 1, none⟩ = some (.string ⟨#[97, 98]⟩) := by
    have := hs.text (i := 0) (by decide)
    rw [show (encS 1 ⟨#[97, 98]⟩ 0).2 = ⟨#[97, 98]⟩ from encT_single] at this
    exact this
  have HB : Hid (Below w.heap.size w w1) := hb
  clear hs hb HC
  go_wp2
  go_ret
  exact ⟨rfl, HB.out⟩
set_option maxRecDepth 10000 in
set_option maxHeartbeats 2000000 in
theorem sumLaw_pass (n k : Int) (a b : ByteArray) (z : Addr) (w : World) (ha : a.size ≤ maxLen) (_hb : b.size ≤ maxLen) (h : ¬ (1 ≤ k ∧ k ≤ n ∧ n ≤ 12 ∧ a.size ≤ 100 ∧ b.size = a.size)) (hz : w.cell? ⟨2, 0, none⟩ = some (.iface 136 (.pointer (some z)))) :
    Calls Tryd.prog 6 #[.int .i64 n, .int .i64 k, .string a, .string b] w fun e w' => e = .returned (.bool true) ∧ Below w.heap.size w w' := by
  unfold maxLen at ha
  have HU := single_any z w hz
  clear hz
  have HH : Hid (¬ (1 ≤ k ∧ k ≤ n ∧ n ≤ 12 ∧ a.size ≤ 100 ∧ b.size = a.size)) := h
  clear h
  by_cases h1 : k < 1
  · go_enter Tryd.func6, Tryd.ntmps6
    go_wp2_with fail
    refine HU.mono ?_
    rintro e w1 ⟨rfl, hb1⟩
    clear HU
    go_wp2
    go_ret
    exact ⟨rfl, hb1⟩
  by_cases h2 : k > n
  · go_enter Tryd.func6, Tryd.ntmps6
    go_wp2_with fail
    refine HU.mono ?_
    rintro e w1 ⟨rfl, hb1⟩
    clear HU
    go_wp2
    go_ret
    exact ⟨rfl, hb1⟩
  by_cases h3 : n > 12
  · go_enter Tryd.func6, Tryd.ntmps6
    go_wp2_with fail
    refine HU.mono ?_
    rintro e w1 ⟨rfl, hb1⟩
    clear HU
    go_wp2
    go_ret
    exact ⟨rfl, hb1⟩
  by_cases h4 : 100 < a.size
  · go_enter Tryd.func6, Tryd.ntmps6
    go_wp2_with fail
    refine HU.mono ?_
    rintro e w1 ⟨rfl, hb1⟩
    clear HU
    go_wp2
    go_ret
    exact ⟨rfl, hb1⟩
  have h5 : b.size ≠ a.size := fun e => HH.out ⟨by omega, by omega, by omega, by omega, e⟩
  have h6 : ((b.size : Int) != (a.size : Int)) = true := by rw [bne_iff_ne]; omega
  clear h5
  go_enter Tryd.func6, Tryd.ntmps6
  go_wp2_with fail
  refine HU.mono ?_
  rintro e w1 ⟨rfl, hb1⟩
  clear HU
  go_wp2
  go_ret
  exact ⟨rfl, hb1⟩
set_option maxRecDepth 10000 in
set_option maxHeartbeats 8000000 in
theorem sumLaw_in (n k : Nat) (a b : ByteArray) (z : Addr) (w : World) (hk1 : 1 ≤ k) (hkn : k ≤ n) (hn : n ≤ 12) (ha : a.size ≤ 100) (hab : b.size = a.size) (hz : w.cell? ⟨2, 0, none⟩ = some (.iface 136 (.pointer (some z)))) :
    Calls Tryd.prog 6 #[.int .i64 (n : Int), .int .i64 (k : Int), .string a, .string b] w fun e w' => e = .returned (.bool true) ∧ Below w.heap.size w w' := by
  have HU := single_any z w hz
  obtain ⟨i0, hi0, hz0, hz1, hzb⟩ := info_parts u8info
  have hmk : ∀ W : World, Sem.run Tryd.prog (Instr.makeSlice 32 (.int .i64 (a.size : Int)) (.int .i64 (a.size : Int))) W = .ok (.slice (some ⟨W.heap.size, 0, none⟩) a.size a.size) (W.alloc (.cells (madeCells #[byteV 0] a.size) 5)) := fun W => run_make_row (P := Tryd.prog) 32 5 i0 (byteV 0) Tryd.underlying32 hi0 hz0 hz1 rfl .i64 .i64 a.size (by rw [hzb]; omega) (by omega) W
  have HZ : Hid (w.cell? ⟨2, 0, none⟩ = some (.iface 136 (.pointer (some z)))) := hz
  have HAB : Hid (b.size = a.size) := hab
  have HIA : Hid (∀ i, i < a.size → ∀ W, Sem.run Tryd.prog (Instr.index 9 (.string a) (.int .i64 (i : Int))) W = .ok (.int .u8 ((Gf.nth (bytesOf a) i : Nat) : Int)) W) := fun i hi => run_idx a i hi
  have HIB : Hid (∀ i, i < a.size → ∀ W, Sem.run Tryd.prog (Instr.index 9 (.string b) (.int .i64 (i : Int))) W = .ok (.int .u8 ((Gf.nth (bytesOf b) i : Nat) : Int)) W) := fun i hi => run_idx b i (by omega)
  have hab1 : ((b.size : Int) != (a.size : Int)) = false := by rw [hab]; simp
  have g1 : decide ((k : Int) < 1) = false := decide_eq_false (by omega)
  have g2 : decide (n < k) = false := decide_eq_false (by omega)
  have g3 : decide (12 < (n : Int)) = false := decide_eq_false (by omega)
  have g4 : decide (100 < (a.size : Int)) = false := decide_eq_false (by omega)
  clear hz hab hi0 hz0 hz1 hzb
  go_enter Tryd.func6, Tryd.ntmps6
  go_wp2_with fail
  refine HU.mono ?_
  rintro e w1 ⟨rfl, hb1⟩
  have HB1 : Hid (Below w.heap.size w w1) := hb1
  have HZ1 : Hid (w1.cell? ⟨2, 0, none⟩ = some (.iface 136 (.pointer (some z)))) := (hb1.cell (p := ⟨2, 0, none⟩) (lt_of_cell HZ.out)).trans HZ.out
  clear HU hb1 HZ
  go_wp2
  have hmkN : OwnN (w1.alloc (.cells (madeCells #[byteV 0] a.size) 5)) w1.heap.size 5 w1.heap.size a.size (rowFn a.size (fun c => if c < 0 then Gf.nth (bytesOf a) c ^^^ Gf.nth (bytesOf b) c else 0)) := by
    have := OwnN.made w1 w1.heap.size 5 a.size (Nat.le_refl _) (by omega)
    rw [rowFn_congr a.size _ (fun c => if c < 0 then Gf.nth (bytesOf a) c ^^^ Gf.nth (bytesOf b) c else 0) (fun c _ => by rw [if_neg (Nat.not_lt_zero _)])] at this
    exact this
  have hbk : Below w1.heap.size w1 (w1.alloc (.cells (madeCells #[byteV 0] a.size) 5)) := (Below.refl _ _).alloc (Nat.le_refl _) _
  generalize w1.alloc (.cells (madeCells #[byteV 0] a.size) 5) = w2 at hmkN hbk ⊢
  have HMK : Hid (OwnN w2 w1.heap.size 5 w1.heap.size a.size (rowFn a.size (fun c => if c < 0 then Gf.nth (bytesOf a) c ^^^ Gf.nth (bytesOf b) c else 0))) := hmkN
  have HBK : Hid (Below w1.heap.size w1 w2) := hbk
  clear hmkN hbk hmk
  go_loopw [11] (fun x wq => ∃ c : Nat, c ≤ a.size ∧ x = .int .i64 c ∧ OwnN wq w1.heap.size 5 w1.heap.size a.size (rowFn a.size (fun d => if d < c then Gf.nth (bytesOf a) d ^^^ Gf.nth (bytesOf b) d else 0)) ∧ Below w1.heap.size w1 wq) (fun x _ => a.size - (intOf x).toNat)
  case atStart => exact ⟨0, by omega, rfl, HMK.out, HBK.out⟩
  case round =>
    obtain ⟨c, hc, rfl, hON, hBq⟩ := hrel
    obtain ⟨w3, rfl⟩ : ∃ w3, w3 = wr := ⟨_, rfl⟩
    have HON : Hid (OwnN w3 w1.heap.size 5 w1.heap.size a.size (rowFn a.size (fun d => if d < c then Gf.nth (bytesOf a) d ^^^ Gf.nth (bytesOf b) d else 0))) := hON
    have HBq : Hid (Below w1.heap.size w1 w3) := hBq
    clear hON hBq HMK HBK
    by_cases hcl : c < a.size
    · have hia := HIA.out c hcl
      have hib := HIB.out c hcl
      have hx : bits .xor .u8 ((Gf.nth (bytesOf a) c : Nat) : Int) ((Gf.nth (bytesOf b) c : Nat) : Int) = ((Gf.nth (bytesOf a) c ^^^ Gf.nth (bytesOf b) c : Nat) : Int) := u8_xor_nat _ _ (bytesOf_lt a c) (bytesOf_lt b c)
      have HX : Hid (bits .xor .u8 ((Gf.nth (bytesOf a) c : Nat) : Int) ((Gf.nth (bytesOf b) c : Nat) : Int) = ((Gf.nth (bytesOf a) c ^^^ Gf.nth (bytesOf b) c : Nat) : Int)) := hx
      have q5 : w3.cell? ⟨w1.heap.size, c, none⟩ = some (.int .u8 ((0 : Nat) : Int)) := by rw [HON.out.cell c hcl (rowFn_length _ _), nth_rowFn _ _ c hcl, if_neg (Nat.lt_irrefl _)]
      have q6 : w3.frozen? ⟨w1.heap.size, c, none⟩ = false := HON.out.free c
      have HE : Hid (Gf.nth (bytesOf a) c ^^^ Gf.nth (bytesOf b) c = Gf.nth (bytesOf a) c ^^^ Gf.nth (bytesOf b) c) := by show _ = _; rfl
      clear hx
      have HON' : Hid (OwnN (w3.drewN 1) w1.heap.size 5 w1.heap.size a.size (rowFn a.size (fun d => if d < c then Gf.nth (bytesOf a) d ^^^ Gf.nth (bytesOf b) d else 0))) := HON.out.drewN 1
      generalize hxa : Gf.nth (bytesOf a) c = xa at hia HX
      generalize hxb : Gf.nth (bytesOf b) c = xb at hib HX
      have HXA : Hid (Gf.nth (bytesOf a) c = xa) := hxa
      have HXB : Hid (Gf.nth (bytesOf b) c = xb) := hxb
      clear hxa hxb HE
      go_wp2
      refine wp_region_still_tail 10 (by kernel_rfl) (by kernel_rfl) ?_
      simp only [List.take_succ_cons, List.take_zero, List.drop_succ_cons, List.drop_zero]
      repeat still_step
      refine wpStill_nil ?_
      rw [HX.out]
      have q5' : (w3.drewN 1).cell? ⟨w1.heap.size, c, none⟩ = some (.int .u8 ((0 : Nat) : Int)) := q5
      have q6' : (w3.drewN 1).frozen? ⟨w1.heap.size, c, none⟩ = false := q6
      have HB7 : Hid (Below w1.heap.size w1 (w3.drewN 1)) := below_drewN HBq.out 1
      change wpList _ _ _ _ _ (w3.drewN 1)
      generalize w3.drewN 1 = w7 at HON' HB7 q5' q6' ⊢
      clear q5 q6 HON HBq hia hib
      go_wp2
      go_roundw
      case rel =>
        refine ⟨c + 1, by omega, by go_num, ?_, HB7.out.setCell (Nat.le_refl _) _⟩
        have := HON'.out.set c (xa ^^^ xb)
        rw [rowFn_congr a.size (fun d => if d < c + 1 then Gf.nth (bytesOf a) d ^^^ Gf.nth (bytesOf b) d else 0) (fun d => if d = c then xa ^^^ xb else if d < c then Gf.nth (bytesOf a) d ^^^ Gf.nth (bytesOf b) d else 0) (fun d _ => by
          by_cases e : d = c
          · subst e; rw [if_pos (by omega), if_pos rfl, HXA.out, HXB.out]
          · rw [if_neg e]
            by_cases e' : d < c
            · rw [if_pos e', if_pos (by omega)]
            · rw [if_neg e', if_neg (by omega)])]
        exact this
      case measure => simp [intOf]; omega
    · have hce : c = a.size := by omega
      subst hce
      have hN5 : OwnN w3 w1.heap.size 5 w1.heap.size a.size (sumT a b) := by
        unfold sumT
        rw [rowFn_congr a.size _ (fun d => if d < a.size then Gf.nth (bytesOf a) d ^^^ Gf.nth (bytesOf b) d else 0) (fun d hd => by rw [if_pos hd])]
        exact HON.out
      have HN5 : Hid (OwnN w3 w1.heap.size 5 w1.heap.size a.size (sumT a b)) := hN5
      have HB3 : Hid (Below w.heap.size w w3) := HB1.out.trans (HBq.out.mono HB1.out.size)
      have HZ3 : Hid (w3.cell? ⟨2, 0, none⟩ = some (.iface 136 (.pointer (some z)))) := (HBq.out.cell (p := ⟨2, 0, none⟩) (lt_of_cell HZ1.out)).trans HZ1.out
      clear hN5 HON HBq HB1 HZ1
      go_wp2_with fail
      refine (encode_ok n k a z _ hk1 hkn hn (by omega) HZ3.out).mono ?_
      rintro e w4 ⟨⟨ga, hga, rfl, hra⟩, hb4⟩
      have HB4 : Hid (Below w.heap.size w w4) := HB3.out.trans (hb4.mono HB3.out.size)
      have HZ4 : Hid (w4.cell? ⟨2, 0, none⟩ = some (.iface 136 (.pointer (some z)))) := (hb4.cell (p := ⟨2, 0, none⟩) (lt_of_cell HZ3.out)).trans HZ3.out
      have HN4 : Hid (OwnN w4 w1.heap.size 5 w1.heap.size a.size (sumT a b)) := HN5.out.below hb4
      have HRA : Hid (ShRow w4 ga n (encS k a)) := hra
      clear hb4 hra hga HB3 HZ3 HN5
      go_wp2_with fail
      refine (encode_ok n k b z _ hk1 hkn hn (by rw [HAB.out]; omega) HZ4.out).mono ?_
      rintro e w5 ⟨⟨gb, hgb, rfl, hrb⟩, hb5⟩
      have HB5 : Hid (Below w.heap.size w w5) := HB4.out.trans (hb5.mono HB4.out.size)
      have HZ5 : Hid (w5.cell? ⟨2, 0, none⟩ = some (.iface 136 (.pointer (some z)))) := (hb5.cell (p := ⟨2, 0, none⟩) (lt_of_cell HZ4.out)).trans HZ4.out
      have hN5 : OwnN w5 w1.heap.size 5 w1.heap.size a.size (sumT a b) := HN4.out.below hb5
      have HRA5 : Hid (ShRow w5 ga n (encS k a)) := HRA.out.below hb5
      have HRB5 : Hid (ShRow w5 gb n (encS k b)) := hrb
      have hcv : Sem.run Tryd.prog (convert 32 9 (.slice (some ⟨w1.heap.size, 0, none⟩) a.size a.size)) w5 = .ok (.string (strOf (sumT a b))) w5 := by
        have hsl : (sumT a b).length = a.size := rowFn_length _ _
        have hsg : Seg w5 (some ⟨w1.heap.size, 0, none⟩) (sumT a b) := ⟨sumT_bytes a b, Or.inr ⟨w1.heap.size, 0, rfl, hN5.lt.2, fun d hd => by
          rw [hsl] at hd
          rw [Nat.zero_add]
          exact hN5.cell d hd hsl⟩⟩
        have := conv_seg hsg a.size
        rw [hsl] at this
        exact this
      have HEN := encode_ok n k (strOf (sumT a b)) z w5 hk1 hkn hn (by rw [sumT_size]; omega) HZ5.out
      have HSE : Hid (∀ i c, c < wideN k a.size → Gf.nth (bytesOf (encS k (strOf (sumT a b)) i).2) c = Gf.nth (bytesOf (encS k a i).2) c ^^^ Gf.nth (bytesOf (encS k b i).2) c) := fun i c hc => enc_sum k a b HAB.out i c hc
      have HSZ : Hid (∀ i, (encS k (strOf (sumT a b)) i).2.size = wideN k a.size) := fun i => by
        have h := encT_size k (strOf (sumT a b)) i
        rw [sumT_size] at h
        exact h
      have HSA : Hid (∀ i, (encS k a i).2.size = wideN k a.size) := fun i => encT_size k a i
      have HSB : Hid (∀ i, (encS k b i).2.size = wideN k a.size) := fun i => by
        have h := encT_size k b i
        rw [HAB.out] at h
        exact h
      clear hb5 hrb hgb HB4 HZ4 HN4 HRA hN5
      have hwd := wideN_le (size := a.size) hk1
      generalize strOf (sumT a b) = st at hcv HEN HSE HSZ
      generalize wideN k a.size = wd at HSE HSZ HSA HSB hwd
      go_wp2_with fail
      refine HEN.mono ?_
      rintro e w6 ⟨⟨gx, hgx, rfl, hrx⟩, hb6⟩
      have HB6 : Hid (Below w.heap.size w w6) := HB5.out.trans (hb6.mono HB5.out.size)
      have HRA6 : Hid (ShRow w6 ga n (encS k a)) := HRA5.out.below hb6
      have HRB6 : Hid (ShRow w6 gb n (encS k b)) := HRB5.out.below hb6
      have HRX6 : Hid (ShRow w6 gx n (encS k st)) := hrx
      clear hb6 hrx hgx HB5 HZ5 HRA5 HRB5 HEN hcv
      go_wp2
      go_loopw [18] (fun x wr => ∃ i : Nat, i ≤ n ∧ x = .int .i64 i ∧ Below w6.heap.size w6 wr) (fun x _ => n - (intOf x).toNat)
      case atStart => exact ⟨0, by omega, rfl, Below.refl _ _⟩
      case round =>
        obtain ⟨i, hi, rfl, hB⟩ := hrel
        have HB : Hid (Below w6.heap.size w6 wr) := hB
        clear hB
        by_cases hil : i < n
        · have qa : wr.cell? ⟨ga, i * 2 + 1, none⟩ = some (.string (encS k a i).2) := (HRA6.out.below HB.out).text hil
          have qb : wr.cell? ⟨gb, i * 2 + 1, none⟩ = some (.string (encS k b i).2) := (HRB6.out.below HB.out).text hil
          have qx : wr.cell? ⟨gx, i * 2 + 1, none⟩ = some (.string (encS k st i).2) := (HRX6.out.below HB.out).text hil
          have sa := HSA.out i
          have sb := HSB.out i
          have sx := HSZ.out i
          have HQ : Hid (∀ c, c < wd → Gf.nth (bytesOf (encS k st i).2) c = Gf.nth (bytesOf (encS k a i).2) c ^^^ Gf.nth (bytesOf (encS k b i).2) c) := fun c hc => HSE.out i c hc
          generalize (encS k a i).2 = ta at qa sa HQ
          generalize (encS k b i).2 = tb at qb sb HQ
          generalize (encS k st i).2 = tx at qx sx HQ
          have HSIZ : Hid (ta.size = wd ∧ tb.size = wd ∧ tx.size = wd) := ⟨sa, sb, sx⟩
          have HQA : Hid (∀ W, Below w6.heap.size w6 W → W.cell? ⟨ga, i * 2 + 1, none⟩ = some (.string ta) ∧ W.cell? ⟨gb, i * 2 + 1, none⟩ = some (.string tb) ∧ W.cell? ⟨gx, i * 2 + 1, none⟩ = some (.string tx)) := fun W hW => by
            have la : ga < w6.heap.size := World.rowIs.lt HRA6.out
            have lb : gb < w6.heap.size := World.rowIs.lt HRB6.out
            have lx : gx < w6.heap.size := World.rowIs.lt HRX6.out
            exact ⟨by rw [hW.cell (p := ⟨ga, i * 2 + 1, none⟩) la, ← HB.out.cell (p := ⟨ga, i * 2 + 1, none⟩) la]; exact qa, by rw [hW.cell (p := ⟨gb, i * 2 + 1, none⟩) lb, ← HB.out.cell (p := ⟨gb, i * 2 + 1, none⟩) lb]; exact qb, by rw [hW.cell (p := ⟨gx, i * 2 + 1, none⟩) lx, ← HB.out.cell (p := ⟨gx, i * 2 + 1, none⟩) lx]; exact qx⟩
          go_wp2
          go_quiet (fail)
          have HBn : Hid (Below w6.heap.size w6 (wr.drewN nq)) := below_drewN HB.out _
          clear qa qb qx sa sb sx HB
          generalize wr.drewN nq = w8 at HBn ⊢
          go_wp2
          go_loopw [19] (fun x wq => ∃ c : Nat, c ≤ wd ∧ x = .int .i64 c ∧ Below w6.heap.size w6 wq) (fun x _ => wd - (intOf x).toNat)
          case atStart => exact ⟨0, by omega, rfl, HBn.out⟩
          case round =>
            obtain ⟨c, hc, rfl, hB⟩ := hrel
            have HB : Hid (Below w6.heap.size w6 wr) := hB
            clear hB
            obtain ⟨qa, qb, qx⟩ := HQA.out wr HB.out
            by_cases hcl : c < wd
            · have ia := run_idx ta c (by rw [HSIZ.out.1]; exact hcl)
              have ib := run_idx tb c (by rw [HSIZ.out.2.1]; exact hcl)
              have ix := run_idx tx c (by rw [HSIZ.out.2.2]; exact hcl)
              have hsx : (c : Int) < (tx.size : Int) := by rw [HSIZ.out.2.2]; omega
              have he : bits .xor .u8 ((Gf.nth (bytesOf ta) c : Nat) : Int) ((Gf.nth (bytesOf tb) c : Nat) : Int) = ((Gf.nth (bytesOf tx) c : Nat) : Int) := by
                rw [u8_xor_nat _ _ (bytesOf_lt ta c) (bytesOf_lt tb c), HQ.out c hcl]
              generalize Gf.nth (bytesOf ta) c = xa at ia he
              generalize Gf.nth (bytesOf tb) c = xb at ib he
              generalize Gf.nth (bytesOf tx) c = xx at ix he
              go_wp2
              go_quiet (fail)
              go_wp2
              go_roundw
              case rel => exact ⟨c + 1, by omega, by go_num, below_drewN HB.out _⟩
              case measure => simp [intOf]; omega
            · have hsx : ¬ (c : Int) < (tx.size : Int) := by rw [HSIZ.out.2.2]; omega
              go_wp2
              go_roundw
              case rel => exact ⟨i + 1, by omega, by go_num, HB.out⟩
              case measure => simp [intOf]; omega
        · go_wp2
          go_ret
          exact ⟨rfl, HB6.out.trans (HB.out.mono HB6.out.size)⟩
theorem sumLaw_any (n k : Int) (a b : ByteArray) (z : Addr) (w : World) (ha : a.size ≤ maxLen) (hb : b.size ≤ maxLen) (hz : w.cell? ⟨2, 0, none⟩ = some (.iface 136 (.pointer (some z)))) :
    Calls Tryd.prog 6 #[.int .i64 n, .int .i64 k, .string a, .string b] w fun e w' => e = .returned (.bool true) ∧ Below w.heap.size w w' := by
  by_cases h : 1 ≤ k ∧ k ≤ n ∧ n ≤ 12 ∧ a.size ≤ 100 ∧ b.size = a.size
  · obtain ⟨k', rfl⟩ := Int.eq_ofNat_of_zero_le (show 0 ≤ k by omega)
    obtain ⟨n', rfl⟩ := Int.eq_ofNat_of_zero_le (show 0 ≤ n by omega)
    exact sumLaw_in n' k' a b z w (by omega) (by omega) (by omega) h.2.2.2.1 h.2.2.2.2 hz
  · exact sumLaw_pass n k a b z w ha hb h hz
end Go.Proofs.YtaaahibncffcmaaDoor
