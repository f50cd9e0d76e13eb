/- The document's own Spread: Lagrange's polynomials at the places 0 to n - 1; new memory. -/
import Derived.Test.YthokfjkgmopeoaaDoorG2
import Derived.Test.YthokfjkgmopeoaaDoorUpToW
import Derived.Test.YthokfjkgmopeoaaDoorRefMulW
import Derived.StillTailTactics
import Derived.Test.YthokfjkgmopeoaaDoorRefBasisW
namespace Go.Proofs.YthokfjkgmopeoaaDoor
open Go.RowKit
/-- Row i, column j: what the polynomial that is 1 at j has at i. -/
def spreadM (k n : Nat) : List (List Nat) := (List.range n).map fun i => rowFn k fun j => Gf.shareOf (upToL k) j i
theorem spreadM_succ (k n : Nat) : spreadM k (n + 1) = spreadM k n ++ [rowFn k fun j => Gf.shareOf (upToL k) j n] := by simp [spreadM, List.range_succ]
theorem spreadM_length (k n : Nat) : (spreadM k n).length = n := by simp [spreadM]
theorem upToL_nodup (k : Nat) : (upToL k).Nodup := List.nodup_range
theorem upToL_length (k : Nat) : (upToL k).length = k := by simp [upToL]
theorem upToL_bytes (k : Nat) (h : k ≤ 256) : Gf.Bytes (upToL k) := fun i => by
  by_cases hi : i < k
  · rw [Gf.nth_getElem _ _ (by rw [upToL_length]; exact hi)]; simp [upToL]; omega
  · unfold Gf.nth; rw [List.getD_eq_getElem?_getD, List.getElem?_eq_none (by rw [upToL_length]; omega)]; decide
theorem basis_told (p : Option Addr) (k cap j x : Nat) (w : World) (hx : x < 256) (hk : k ≤ 100) (hj : j < k) (hs : Seg w p (upToL k)) :
    Calls Tryd.prog 34 #[.slice p k cap, .int .i64 (j : Int), .int .u8 (x : Int)] w fun e w' => e = .returned (.int .u8 ((Gf.shareOf (upToL k) j x : Nat) : Int)) ∧ ∃ n, w' = w.drewN n := by
  have h := basis_any p (upToL k) cap j x w hx (by rw [upToL_length]; omega) (by rw [upToL_length]; exact hj) (upToL_nodup k) hs
  rw [upToL_length] at h
  exact h
set_option maxRecDepth 10000 in
set_option maxHeartbeats 4000000 in
theorem rspread_any (n k : Nat) (w : World) (hn : n ≤ 100) (hk1 : 1 ≤ k) (hk : k ≤ 100) :
    Calls Tryd.prog 25 #[.int .i64 (n : Int), .int .i64 (k : Int)] w fun e w' => (∃ p' c', e = .returned (.slice p' n c') ∧ Mat w' p' (spreadM k n)) ∧ Below w.heap.size w w' := by
  obtain ⟨i1, hi1, hy0, hy1, hy2⟩ := info_parts rowinfo
  obtain ⟨i0, hi0, hz0, hz1, hzb⟩ := info_parts u8info
  go_enter Tryd.func25, Tryd.ntmps25
  go_wp2_with fail
  refine (upTo_any k _ hk).mono ?_
  rintro e w2 ⟨⟨vx, rfl, hox⟩, hb2⟩
  obtain ⟨px, cx, hvx, hsx⟩ := hox.seg (upToL_bytes k (by omega))
  rw [upToL_length] at hvx
  subst hvx
  have HSX : Hid (Seg w2 px (upToL k)) := hsx
  have HB2 : Hid (Below w.heap.size w w2) := hb2
  have hzw : w.heap.size ≤ w2.heap.size := hb2.size
  clear hox hsx hb2
  go_wp2
  go_loopw [6, 7] (fun v x wr => ∃ i : Nat, i ≤ n ∧ x = .int .i64 i ∧ OwnMat w2.heap.size wr 48 v (spreadM k i) ∧ Below w2.heap.size w2 wr) (fun _ x _ => n - (intOf x).toNat)
  case atStart => exact ⟨0, by omega, rfl, OwnMat.nil _ _ _, Below.refl _ _⟩
  case round =>
    obtain ⟨i, hi, rfl, hO, hBr⟩ := hrel
    have HO : Hid (OwnMat w2.heap.size wr 48 u6 (spreadM k i)) := hO
    have HBr : Hid (Below w2.heap.size w2 wr) := hBr
    have hz2 : w2.heap.size ≤ wr.heap.size := hBr.size
    clear hO hBr
    by_cases hil : i < n
    · go_wp2_with (first | (at_make; refine wpList_make_row _ rfl (.tmp 17) (.tmp 17) 48 rfl 5 i0 (byteV 0) Tryd.underlying48 hi0 hz0 hz1 rfl .i64 .i64 k rfl rfl (by rw [hzb]; omega) (by omega) ?_))
      obtain ⟨w3, rfl⟩ : ∃ w3, w3 = wr := ⟨_, rfl⟩
      have hmk : OwnN (w3.alloc (.cells (madeCells #[byteV 0] k) 5)) w3.heap.size 5 w3.heap.size k (rowFn k (fun c => if c < 0 then Gf.shareOf (upToL k) c i else 0)) := by
        have := OwnN.made w3 w3.heap.size 5 k (Nat.le_refl _) (by omega)
        rw [rowFn_congr k _ (fun c => if c < 0 then Gf.shareOf (upToL k) c i else 0) (fun c _ => by rw [if_neg (Nat.not_lt_zero _)])] at this
        exact this
      have hbk : Below w3.heap.size w3 (w3.alloc (.cells (madeCells #[byteV 0] k) 5)) := (Below.refl _ _).alloc (Nat.le_refl _) _
      generalize w3.alloc (.cells (madeCells #[byteV 0] k) 5) = w4 at hmk hbk ⊢
      have HMK : Hid (OwnN w4 w3.heap.size 5 w3.heap.size k (rowFn k (fun c => if c < 0 then Gf.shareOf (upToL k) c i else 0))) := hmk
      have HBK : Hid (Below w3.heap.size w3 w4) := hbk
      clear hmk hbk
      go_loopw [9] (fun x wq => ∃ j : Nat, j ≤ k ∧ x = .int .i64 j ∧ OwnN wq w3.heap.size 5 w3.heap.size k (rowFn k (fun c => if c < j then Gf.shareOf (upToL k) c i else 0)) ∧ Below w3.heap.size w3 wq) (fun x _ => k - (intOf x).toNat)
      case atStart => exact ⟨0, by omega, rfl, HMK.out, HBK.out⟩
      case round =>
        obtain ⟨j, hj, rfl, hON, hBq⟩ := hrel
        obtain ⟨w5, rfl⟩ : ∃ w5, w5 = wr := ⟨_, rfl⟩
        have HON : Hid (OwnN w5 w3.heap.size 5 w3.heap.size k (rowFn k (fun c => if c < j then Gf.shareOf (upToL k) c i else 0))) := hON
        have HBq : Hid (Below w3.heap.size w3 w5) := hBq
        have hz5 : w3.heap.size ≤ w5.heap.size := hBq.size
        clear hON hBq HMK HBK
        by_cases hjl : j < k
        · have HS5 : Hid (Seg w5 px (upToL k)) := (HSX.out.below HBr.out).below HBq.out
          go_wp2_with fail
          refine (basis_told px k cx j i _ (by omega) hk hjl HS5.out).mono ?_
          rintro e w6 ⟨rfl, m, hw6⟩
          have HO6 : Hid (OwnN w6 w3.heap.size 5 w3.heap.size k (rowFn k (fun c => if c < j then Gf.shareOf (upToL k) c i else 0))) := by rw [hw6]; exact HON.out.drewN m
          have HB6 : Hid (Below w3.heap.size w3 w6) := by rw [hw6]; exact below_drewN HBq.out m
          have q5 : w6.cell? ⟨w3.heap.size, j, none⟩ = some (.int .u8 ((0 : Nat) : Int)) := by rw [HO6.out.cell j hjl (rowFn_length _ _), nth_rowFn _ _ j hjl, if_neg (Nat.lt_irrefl _)]
          have q6 : w6.frozen? ⟨w3.heap.size, j, none⟩ = false := HO6.out.free j
          have HT : Hid (OwnN (w6.setCell ⟨w3.heap.size, j, none⟩ (.int .u8 ((Gf.shareOf (upToL k) j i : Nat) : Int))) w3.heap.size 5 w3.heap.size k (rowFn k (fun c => if c < j + 1 then Gf.shareOf (upToL k) c i else 0))) := by
            have := HO6.out.set j (Gf.shareOf (upToL k) j i)
            rw [rowFn_congr k (fun c => if c < j + 1 then Gf.shareOf (upToL k) c i else 0) (fun c => if c = j then Gf.shareOf (upToL k) j i else if c < j then Gf.shareOf (upToL k) c i else 0) (fun c _ => by
              by_cases e : c = j
              · subst e; rw [if_pos (by omega), if_pos rfl]
              · rw [if_neg e]
                by_cases e' : c < j
                · rw [if_pos (by omega), if_pos e']
                · rw [if_neg (by omega), if_neg e'])]
            exact this
          clear hw6 HON HBq HS5 HO6
          generalize Gf.shareOf (upToL k) j i = sh at HT ⊢
          go_wp2
          go_roundw
          case rel => exact ⟨j + 1, by omega, by go_num, HT.out, HB6.out.setCell (Nat.le_refl _) _⟩
          case measure => simp [intOf]; omega
        · have hje : j = k := by omega
          subst hje
          obtain ⟨vs, hmv⟩ := HO.out
          have HMV : Hid (OwnMatV w2.heap.size w3 48 u6 vs (spreadM j i)) := hmv
          have HV : Hid (OwnV w3 w2.heap.size 48 u6 vs) := hmv.1
          have HVL : Hid (vs.length = i) := hmv.2.1.trans (spreadM_length j i)
          have hr : Hid (Own w5 w3.heap.size 5 (.slice (some ⟨w3.heap.size, 0, none⟩) j j) (rowFn j fun c => Gf.shareOf (upToL j) c i)) := by
            refine OwnN.own ?_ (rowFn_length _ _)
            rw [rowFn_congr j _ (fun c => if c < j then Gf.shareOf (upToL j) c i else 0) (fun c hc => by rw [if_pos hc])]
            exact HON.out
          clear hmv HON
          go_wp2_with (first | (at_builtin; refine wpList_append_val rfl (.tmp 32) (.tmp 34) 51 rfl w2.heap.size 48 i1 (.slice none 0 0) 24 Tryd.underlying51 hi1 hy0 rfl hy1 hy2 (by decide) u6 vs rfl (((HV.out.kept (row := none) ⟨HBq.out.os, HBq.out.tape, HBq.out.output, HBq.out.size, fun k hk _ => HBq.out.block k hk⟩ (by cases hv : u6.ownBlock <;> simp))).kept (World.grownBy_alloc w5 _ none) (by cases hv : u6.ownBlock <;> simp)) ⟨w5.heap.size, 0, none⟩ 1 (.slice (some ⟨w3.heap.size, 0, none⟩) j j) rfl rfl (by simp) (by have := HVL.out; omega) (by simp; omega) ?_; intro v' w8 hV' hg' hw'))
          have hmv3 := HMV.out.snoc hz2 hr.out (rowFn_bytes _ _ fun c => Gf.shareOf_lt _ c _) HBq.out hV' hg' hw'
          have hb8 : Below w2.heap.size w2 w8 := ((HBr.out.trans (HBq.out.mono hz2)).alloc (by omega) _).grown hg' (by simp; omega) (fun k' hk' => (HV.out.block hk').1)
          go_roundw
          case rel => exact ⟨i + 1, by omega, by go_num, ⟨_, by rw [spreadM_succ]; exact hmv3⟩, hb8⟩
          case measure => simp [intOf]; omega
    · have hie : i = n := by omega
      subst hie
      obtain ⟨p', c', hv, hmat⟩ := HO.out.mat
      rw [spreadM_length] at hv
      subst hv
      clear HO
      go_wp2
      go_ret
      exact ⟨⟨p', c', rfl, hmat⟩, HB2.out.trans (HBr.out.mono hzw)⟩
end Go.Proofs.YthokfjkgmopeoaaDoor
