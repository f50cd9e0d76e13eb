import Derived.Test.YtobmckfcipeanaaGreatDoorYF
import Derived.Test.YtobmckfcipeanaaGreatDoorZM
import Derived.StillTailTactics
import Derived.BigQuiet
import Derived.Test.YtobmckfcipeanaaGreatDoorRAkW
import Derived.Test.YtobmckfcipeanaaGreatDoorZA
namespace Go.Proofs.YtobmckfcipeanaaGreatDoor
open Go.RowKit
variable {w w' : World} {B : Nat} {S : Nat -> Prop} {ab : Nat} {a : MAsk} {mv nv fv lv : Value} {vs : List Value}
theorem toldL_append (f : List ByteArray) (L : List (List Ver)) : ∀ (l m : List ByteArray), toldL f L (l ++ m) = toldL f L l ++ toldL f L m
 | [], _ => rfl
 | x :: l, m => by
  have ih := toldL_append f L l m
  rw [List.cons_append]
  by_cases h : inL f x = true
  ·have e1 : ∀ r, toldL f L (x :: r) = L.getD (idxN f x) [] :: toldL f L r := fun r => if_pos h
   rw [e1, e1, ih, List.cons_append]
  ·have e1 : ∀ r, toldL f L (x :: r) = toldL f L r := fun r => if_neg h
   rw [e1, e1, ih]
theorem toldL_succ {f : List ByteArray} {L : List (List Ver)} {m : List ByteArray} {i : Nat} (h : i < m.length) : toldL f L (m.take (i + 1)) = toldL f L (m.take i) ++ (if inL f (txt m i) then [L.getD (idxN f (txt m i)) []] else []) := by
 rw [List.take_succ_eq_append_getElem h, toldL_append, txt_getElem m i h]
 congr 1
theorem toldL_len (f : List ByteArray) (L : List (List Ver)) : ∀ m : List ByteArray, (toldL f L m).length <= m.length
 | [] => Nat.le_refl _
 | x :: m => by
  have := toldL_len f L m
  unfold toldL
  split
  ·simp; exact this
  ·simp; omega
theorem idxN_lt' {l : List ByteArray} {s : ByteArray} (h : s ∈ l) : idxN l s < l.length := by
 unfold idxN
 exact List.findIdx_lt_length_of_exists ⟨s, h, by simp⟩
def VsVals (w : World) (vals : List Value) (LL : List (List Ver)) : Prop := vals.length = LL.length /\ ∀ i, i < LL.length -> ∃ q c, vals[i]? = some (.slice q (LL.getD i []).length c) /\ Rec verE w q (LL.getD i []) /\ (LL.getD i []).length <= c /\ (q = none -> LL.getD i [] = [] /\ c = 0)
theorem VsVals.snoc {w : World} {vals : List Value} {LL : List (List Ver)} {row : List Ver} {q : Option Addr} {c : Nat} (h : VsVals w vals LL) (h2 : Rec verE w q row) (h3 : row.length <= c) (h4 : q = none -> row = [] /\ c = 0) : VsVals w (vals ++ [.slice q row.length c]) (LL ++ [row]) := by
 refine ⟨by simp [h.1], fun i hi => ?_⟩
 rw [List.length_append, List.length_singleton] at hi
 by_cases hlt : i < LL.length
 ·obtain ⟨q', c', g1, g2, g3, g4⟩ := h.2 i hlt
  have e : (LL ++ [row]).getD i [] = LL.getD i [] := by rw [List.getD_eq_getElem?_getD, List.getD_eq_getElem?_getD, List.getElem?_append_left hlt]
  rw [e]
  exact ⟨q', c', by rw [List.getElem?_append_left (by rw [h.1]; exact hlt)]; exact g1, g2, g3, g4⟩
 ·obtain rfl : i = LL.length := by omega
  have e : (LL ++ [row]).getD LL.length [] = row := by rw [List.getD_eq_getElem?_getD, List.getElem?_append_right (Nat.le_refl _), Nat.sub_self]; rfl
  rw [e]
  exact ⟨q, c, by rw [List.getElem?_append_right (by rw [h.1]; exact Nat.le_refl _), h.1, Nat.sub_self]; rfl, h2, h3, h4⟩
theorem VsVals.vss {w w' : World} {B : Nat} {T : TypeId} {v : Value} {vals : List Value} {LL : List (List Ver)} (h : VsVals w vals LL) (hb : Below w.heap.size w w') (ho : OwnV w' B T v vals) : ∃ p c, v = .slice p LL.length c /\ Vss w' p LL := by
 rcases ho.cells with ⟨rfl, rfl⟩ | ⟨g, cap, rfl, hB, hg, hcell⟩
 ·have : LL = [] := List.length_eq_zero_iff.1 h.1.symm
  subst this
  exact ⟨none, 0, rfl, Or.inl rfl⟩
 ·refine ⟨some ⟨g, 0, none⟩, cap, by rw [h.1], Or.inr ⟨g, 0, rfl, hg, fun i hi => ?_⟩⟩
  obtain ⟨q, c, h1, h2, h3, h4⟩ := h.2 i hi
  exact ⟨q, c, by rw [Nat.zero_add]; exact hcell i _ h1, h2.below hb, h3, h4⟩
set_option maxRecDepth 10000 in
set_option maxHeartbeats 8000000 in
theorem rtold_any (h : RAk w B S ab a mv nv fv lv vs) (hl : a.c.L.length <= 1000) (hfl : a.from_.length <= 1000) (hboth : a.from_.length = a.L.length) : Calls Tryz.prog 47 #[.pointer (some ⟨ab, 0, none⟩)] w fun e w' => (∃ p c, e = .returned (.slice p (toldL a.from_ a.L a.c.L).length c) /\ Vss w' p (toldL a.from_ a.L a.c.L)) /\ Below w.heap.size w w' := by
 obtain ⟨i0, hi0, hy0, hy1, hyb⟩ := info_parts versinfo
 have HRA : Hid (RAk w B S ab a mv nv fv lv vs) := h
 obtain ⟨mp, mc, hmv, hms, hmc, hmn, hmb⟩ := h.mem.at_
 obtain ⟨fp, fc, hfv, hfs, hfc, hfn, _⟩ := h.from_.form
 obtain ⟨lp, lc, hlv, hls⟩ := h.told.vss
 subst hmv hfv hlv
 have hab : ab < w.heap.size := (h.inB ab h.self).2
 have HALL : Hid (∀ W, Below w.heap.size w W -> (W.cell? ⟨ab, 7, none⟩ = some (.slice mp a.c.L.length mc) /\ W.cell? ⟨ab, 14, none⟩ = some (.slice fp a.from_.length fc) /\ W.cell? ⟨ab, 15, none⟩ = some (.slice lp a.L.length lc)) /\ Strs W mp a.c.L /\ Strs W fp a.from_ /\ Vss W lp a.L) := fun W hW => by
  have hh := HRA.out.below hW
  exact ⟨⟨hh.cell 7, hh.cell 14, hh.cell 15⟩, hms.below hW, hfs.below hW, hls.below hW⟩
 have HV0 : Hid (Vss w lp a.L) := hls
 have HBO : Hid (a.from_.length = a.L.length) := hboth
 have HTS : Hid (∀ i, i < a.c.L.length -> toldL a.from_ a.L (a.c.L.take (i + 1)) = toldL a.from_ a.L (a.c.L.take i) ++ (if inL a.from_ (txt a.c.L i) then [a.L.getD (idxN a.from_ (txt a.c.L i)) []] else [])) := fun i hi => toldL_succ hi
 have HTL : Hid (∀ i, (toldL a.from_ a.L (a.c.L.take i)).length <= a.c.L.length) := fun i => Nat.le_trans (toldL_len _ _ _) (by rw [List.length_take]; omega)
 have HTN : Hid (a.c.L.take a.c.L.length = a.c.L) := List.take_length
 have HIH : Hid (∀ (s : ByteArray) W, Below w.heap.size w W -> s ∈ a.from_ -> Calls Tryz.prog 44 #[.slice fp a.from_.length fc, .string s] W fun e w' => e = .returned (.int .i64 ((idxN a.from_ s : Nat) : Int)) /\ w' = W) := fun s W hW hs => index_hit fp a.from_ fc s W (by omega) (hfs.below hW) hs
 have HIM : Hid (∀ (s : ByteArray) W, Below w.heap.size w W -> s ∉ a.from_ -> Calls Tryz.prog 44 #[.slice fp a.from_.length fc, .string s] W fun e w' => e = .returned (.int .i64 (-1)) /\ w' = W) := fun s W hW hs => index_miss fp a.from_ fc s W (by omega) (hfs.below hW) hs
 clear h hms hmb hfs hls hfn hmn hboth
 obtain ⟨⟨c7, c14, c15⟩, _⟩ := HALL.out w (Below.refl _ _)
 go_enter Tryz.func47, Tryz.ntmps47
 go_wp2
 go_loopw [3, 4] (fun v x wr => ∃ i : Nat, i <= a.c.L.length /\ x = .int .i64 i /\ (∃ vals, OwnV wr w.heap.size 55 v vals /\ VsVals w vals (toldL a.from_ a.L (a.c.L.take i))) /\ Below w.heap.size w wr) (fun _ x _ => a.c.L.length - (intOf x).toNat)
 case atStart => exact ⟨0, Nat.zero_le _, rfl, ⟨[], OwnV.nil _ _ _, rfl, fun i hi => absurd hi (Nat.not_lt_zero _)⟩, Below.refl _ _⟩
 case round =>
  obtain ⟨i, hi, rfl, ⟨vals, hO, hvv⟩, hB⟩ := hrel
  obtain ⟨w1, rfl⟩ : ∃ w1, w1 = wr := ⟨_, rfl⟩
  obtain ⟨v, rfl⟩ : ∃ v, v = u3 := ⟨_, rfl⟩
  have HO : Hid (OwnV w1 w.heap.size 55 v vals) := hO
  have HVV : Hid (VsVals w vals (toldL a.from_ a.L (a.c.L.take i))) := hvv
  have HB : Hid (Below w.heap.size w w1) := hB
  have hvl : vals.length <= 1000 := by rw [hvv.1]; have := HTL.out i; omega
  obtain ⟨⟨d7, d14, d15⟩, hst, _, _⟩ := HALL.out w1 hB
  have hz1 : w.heap.size <= w1.heap.size := hB.size
  clear hO hvv c7 c14 c15
  by_cases hil : i < a.c.L.length
  ·rcases hst with h0 | ⟨b, o, hpp, hblt, hcs⟩
   ·rw [h0] at hil; exact absurd hil (Nat.not_lt_zero _)
   have q1 := hcs i hil
   have HTI := HTS.out i hil
   have HIH1 := HIH.out (txt a.c.L i)
   have HIM1 := HIM.out (txt a.c.L i)
   subst hpp
   clear hcs hB
   generalize txt a.c.L i = t at *
   by_cases hin : t ∈ a.from_
   ·rw [if_pos (inL_iff.2 hin)] at HTI
    have hix : idxN a.from_ t < a.L.length := by rw [<- HBO.out]; exact idxN_lt' hin
    have HIX : Hid (∀ W, Below w.heap.size w W -> Calls Tryz.prog 44 #[.slice fp a.from_.length fc, .string t] W fun e w' => e = .returned (.int .i64 ((idxN a.from_ t : Nat) : Int)) /\ w' = W) := fun W hW => HIH1 W hW hin
    rcases HV0.out with h0 | ⟨vb, vo, hvp, hvlt, hvc⟩
    ·rw [h0] at hix; exact absurd hix (Nat.not_lt_zero _)
    obtain ⟨rq, rc, hrcell, hrrec, hrle, hrn⟩ := hvc _ hix
    have HTJ : Hid (toldL a.from_ a.L (a.c.L.take (i + 1)) = toldL a.from_ a.L (a.c.L.take i) ++ [a.L.getD (idxN a.from_ t) []]) := HTI
    have HNV : Hid (VsVals w (vals ++ [.slice rq (a.L.getD (idxN a.from_ t) []).length rc]) (toldL a.from_ a.L (a.c.L.take i) ++ [a.L.getD (idxN a.from_ t) []])) := HVV.out.snoc hrrec hrle hrn
    have r1 : w1.cell? ⟨vb, vo + idxN a.from_ t, none⟩ = some (.slice rq (a.L.getD (idxN a.from_ t) []).length rc) := (HB.out.cell (p := ⟨vb, vo + idxN a.from_ t, none⟩) hvlt).trans hrcell
    subst hvp
    clear hvc hrcell hrrec HIH1 HIM1 HTI HIH HIM HTS
    generalize a.L.getD (idxN a.from_ t) [] = row at *
    generalize idxN a.from_ t = ix at *
    go_wp2
    refine wp_region_still_tail 12 (by kernel_rfl) (by kernel_rfl) ?_
    simp only [List.take_succ_cons, List.take_zero, List.drop_succ_cons, List.drop_zero]
    still_step
    still_step
    still_step
    still_step
    still_step
    still_step
    still_step
    still_step
    still_step
    still_step
    still_step
    still_step
    refine wpStill_nil ?_
    obtain ⟨w2, hw2⟩ : ∃ w2, w2 = w1.drewN 1 := ⟨_, rfl⟩
    have hb12 : Below w1.heap.size w1 w2 := by rw [hw2]; exact below_drewN (Below.refl _ _) 1
    have HIX2 := HIX.out w2 (HB.out.trans (hb12.mono HB.out.size))
    have HW2 : Hid (w2 = w1.drewN 1) := hw2
    have HO2 : Hid (OwnV w2 w.heap.size 55 v vals) := OwnV.kept (row := none) HO.out ⟨hb12.os, hb12.tape, hb12.output, hb12.size, fun k hk _ => hb12.block k hk⟩ (by cases v.ownBlock <;> simp)
    have HB2 : Hid (Below w.heap.size w w2) := HB.out.trans (hb12.mono HB.out.size)
    obtain ⟨⟨e7, e14, e15⟩, _⟩ := HALL.out w2 HB2.out
    have r2 : w2.cell? ⟨vb, vo + ix, none⟩ = some (.slice rq row.length rc) := (hb12.cell (p := ⟨vb, vo + ix, none⟩) (Nat.lt_of_lt_of_le hvlt hz1)).trans r1
    have hz2 : w.heap.size <= w2.heap.size := HB2.out.size
    clear hw2 hb12 HO HB d7 d14 d15 q1 r1 HIX
    change wpList _ _ _ _ _ (w1.drewN 1)
    rw [<- HW2.out]
    go_wp2_with (first | (go_at_call 44; refine HIX2.mono ?_; rintro e w3 ⟨rfl, hw3⟩; rw [hw3]; clear hw3 w3) | (at_builtin; refine wpList_append_val rfl (.tmp 31) (.tmp 39) 44 rfl w.heap.size 55 i0 (.slice none 0 0) 24 Tryz.underlying44 hi0 hy0 rfl hy1 hyb (by decide) v vals rfl (OwnV.kept (row := none) HO2.out ⟨rfl, rfl, rfl, by simp, fun k hk _ => Below.heap_alloc _ _ k hk⟩ (by cases v.ownBlock <;> simp)) ⟨w2.heap.size, 0, none⟩ 1 (.slice rq row.length rc) rfl rfl (by rw [World.cell?_alloc_at _ _ _ _ rfl]; rfl) (by omega) (by simp; omega) ?_; intro v4 w4 hO4 hg4 _))
    have HO4 : Hid (OwnV w4 w.heap.size 55 v4 (vals ++ [.slice rq row.length rc])) := hO4
    have HB4 : Hid (Below w.heap.size w w4) := (HB2.out.alloc hz2 _).grown hg4 (by simp; omega) (fun k hk => (HO2.out.block hk).1)
    clear hO4 hg4 HO2 HB2 e7 e14 e15 r2
    go_wp2
    go_roundw
    case rel => exact ⟨i + 1, by omega, by go_num, ⟨_, HO4.out, by rw [HTJ.out]; exact HNV.out⟩, HB4.out⟩
    case measure => simp [intOf]; omega
   ·rw [if_neg (fun h => hin (inL_iff.1 h)), List.append_nil] at HTI
    have HIX : Hid (∀ W, Below w.heap.size w W -> Calls Tryz.prog 44 #[.slice fp a.from_.length fc, .string t] W fun e w' => e = .returned (.int .i64 (-1)) /\ w' = W) := fun W hW => HIM1 W hW hin
    have HTJ : Hid (toldL a.from_ a.L (a.c.L.take (i + 1)) = toldL a.from_ a.L (a.c.L.take i)) := HTI
    clear HIH1 HIM1 HTI HIH HIM HTS
    go_wp2
    refine wp_region_still_tail 12 (by kernel_rfl) (by kernel_rfl) ?_
    simp only [List.take_succ_cons, List.take_zero, List.drop_succ_cons, List.drop_zero]
    still_step
    still_step
    still_step
    still_step
    still_step
    still_step
    still_step
    still_step
    still_step
    still_step
    still_step
    still_step
    refine wpStill_nil ?_
    obtain ⟨w2, hw2⟩ : ∃ w2, w2 = w1.drewN 1 := ⟨_, rfl⟩
    have hb12 : Below w1.heap.size w1 w2 := by rw [hw2]; exact below_drewN (Below.refl _ _) 1
    have HIX2 := HIX.out w2 (HB.out.trans (hb12.mono HB.out.size))
    have HW2 : Hid (w2 = w1.drewN 1) := hw2
    have HO2 : Hid (OwnV w2 w.heap.size 55 v vals) := OwnV.kept (row := none) HO.out ⟨hb12.os, hb12.tape, hb12.output, hb12.size, fun k hk _ => hb12.block k hk⟩ (by cases v.ownBlock <;> simp)
    have HB2 : Hid (Below w.heap.size w w2) := HB.out.trans (hb12.mono HB.out.size)
    clear hw2 hb12 HO HB d7 d14 d15 q1 HIX
    change wpList _ _ _ _ _ (w1.drewN 1)
    rw [<- HW2.out]
    go_wp2_with (go_at_call 44; refine HIX2.mono ?_; rintro e w3 ⟨rfl, hw3⟩; rw [hw3]; clear hw3 w3)
    go_roundw
    case rel => exact ⟨i + 1, by omega, by go_num, ⟨_, HO2.out, by rw [HTJ.out]; exact HVV.out⟩, HB2.out⟩
    case measure => simp [intOf]; omega
  ·have hie : a.c.L.take i = a.c.L := List.take_of_length_le (by omega)
   have HVW : Hid (VsVals w vals (toldL a.from_ a.L a.c.L)) := by have := HVV.out; rw [hie] at this; exact this
   obtain ⟨pw, cw, hvw, hvss⟩ := HVW.out.vss HB.out HO.out
   subst hvw
   have HVS : Hid (Vss w1 pw (toldL a.from_ a.L a.c.L)) := hvss
   clear hie hvss HO HVV HVW
   go_wp2
   go_ret
   exact ⟨⟨pw, cw, rfl, HVS.out⟩, HB.out⟩
end Go.Proofs.YtobmckfcipeanaaGreatDoor
namespace Go.Proofs.YtobmckfcipeanaaGreatDoor
open Go.RowKit
variable {w w' : World} {B : Nat} {S : Nat -> Prop} {ab : Nat} {a : MAsk} {mv nv fv lv : Value} {vs : List Value}
set_option maxRecDepth 10000 in
theorem rbegin_any (h : RAk w B S ab a mv nv fv lv vs) (hl : a.c.L.length <= 1000) : Calls Tryz.prog 16 #[.pointer (some ⟨ab, 0, none⟩)] w fun e w' => (∃ p c, e = .returned (.slice p a.begin.length c) /\ MsgsAt w' p a.begin) /\ Below w.heap.size w w' := by
 have c12 : w.cell? ⟨ab, 12, none⟩ = some (.bool a.moves) := h.cell 12
 have c13 : w.cell? ⟨ab, 13, none⟩ = some (.string a.st.word) := h.cell 13
 have HS1 := send_plain h wSeal hl
 have HS2 := send_plain h wLook hl
 have e1 : wSeal = ⟨#[115, 101, 97, 108]⟩ := rfl
 have e2 : wLook = ⟨#[108, 111, 111, 107]⟩ := rfl
 have HB : Hid (a.begin = if a.moves then (if a.st = .sealing then a.send wSeal false else []) else a.send wLook false) := by show _ = _; rfl
 rw [HB.out]
 clear HB
 generalize hA : a.send wSeal false = l1 at *
 generalize hC : a.send wLook false = l2 at *
 rw [e1] at HS1
 rw [e2] at HS2
 clear h hA hC e1 e2
 generalize a.moves = mo at *
 generalize a.st = st at *
 cases mo with
 | false =>
  rw [if_neg (by decide)]
  clear HS1
  go_enter Tryz.func16, Tryz.ntmps16
  go_wp2_with fail
  refine HS2.mono ?_
  rintro e w1 ⟨⟨p, c, rfl, hm⟩, hb⟩
  clear HS2
  go_wp2
  go_ret
  exact ⟨⟨p, c, rfl, hm⟩, hb⟩
 | true =>
  rw [if_pos rfl]
  by_cases hs : st = .sealing
  ·rw [if_pos hs]
   have q : w.cell? ⟨ab, 13, none⟩ = some (.string ⟨#[115, 101, 97, 108, 105, 110, 103]⟩) := by rw [c13, hs]; rfl
   clear c13 HS2
   go_enter Tryz.func16, Tryz.ntmps16
   go_wp2_with fail
   refine HS1.mono ?_
   rintro e w1 ⟨⟨p, c, rfl, hm⟩, hb⟩
   clear HS1
   go_wp2
   go_ret
   exact ⟨⟨p, c, rfl, hm⟩, hb⟩
  ·rw [if_neg hs]
   have hne : ¬ st.word.toList = [115, 101, 97, 108, 105, 110, 103] := by cases st <;> first | exact absurd rfl hs | decide +kernel
   have hbq : (st.word.toList == [115, 101, 97, 108, 105, 110, 103]) = false := by cases st <;> first | exact absurd rfl hs | decide +kernel
   clear HS1 HS2
   generalize st.word = sw at *
   go_enter Tryz.func16, Tryz.ntmps16
   go_wp2
   go_ret
   exact ⟨⟨none, 0, rfl, MsgsAt.nil _ _⟩, Below.refl _ _⟩
end Go.Proofs.YtobmckfcipeanaaGreatDoor
