import Derived.Test.YtobmckfcipeanaaGreatDoorPB
import Derived.Test.YtobmckfcipeanaaGreatDoorYF
import Derived.Deep.RegionHeld3
import Derived.BigQuiet
import Derived.Test.YtobmckfcipeanaaGreatDoorYI
import Derived.Deep.RegionWith
namespace Go.Proofs.YtobmckfcipeanaaGreatDoor
open Go.RowKit
structure AskWr (h : Nat) (cs : Array Value) (w w' : World) : Prop where
 os : w'.os = w.os
 tape : w'.tape = w.tape
 output : w'.output = w.output
 size : w.heap.size <= w'.heap.size
 blk : w'.heap[h]? = some (.cells cs 79 (0, 0))
 oth : ∀ k, k < w.heap.size -> k ≠ h -> w'.heap[k]? = w.heap[k]?
theorem AskWr.lt {h : Nat} {cs : Array Value} {w w' : World} (hw : AskWr h cs w w') : h < w'.heap.size := by
 rcases Nat.lt_or_ge h w'.heap.size with h' | h'
 ·exact h'
 ·have := hw.blk
  rw [Array.getElem?_eq_none h'] at this
  cases this
theorem AskWr.refl {h : Nat} {cs : Array Value} {w : World} (hb : w.heap[h]? = some (.cells cs 79 (0, 0))) : AskWr h cs w w := ⟨rfl, rfl, rfl, Nat.le_refl _, hb, fun _ _ _ => rfl⟩
theorem AskWr.set {h : Nat} {cs : Array Value} {w w' : World} (hw : AskWr h cs w w') (i : Nat) (v : Value) : AskWr h (cs.setIfInBounds i v) w (w'.setCell ⟨h, i, none⟩ v) := ⟨hw.os, hw.tape, hw.output, by simpa [World.setCell] using hw.size, blk_set hw.blk i v, fun k hk hne => (Below.heap_setCell w' _ v k hne).trans (hw.oth k hk hne)⟩
theorem AskWr.below {h : Nat} {cs : Array Value} {w w1 w2 : World} (hw : AskWr h cs w w1) (hb : Below w1.heap.size w1 w2) : AskWr h cs w w2 := ⟨hb.os.trans hw.os, hb.tape.trans hw.tape, hb.output.trans hw.output, Nat.le_trans hw.size hb.size, (hb.block h hw.lt).trans hw.blk, fun k hk hne => (hb.block k (Nat.lt_of_lt_of_le hk hw.size)).trans (hw.oth k hk hne)⟩
theorem AskWr.trans {h : Nat} {cs cs' : Array Value} {w w1 w2 : World} (h1 : AskWr h cs w w1) (h2 : AskWr h cs' w1 w2) : AskWr h cs' w w2 := ⟨h2.os.trans h1.os, h2.tape.trans h1.tape, h2.output.trans h1.output, Nat.le_trans h1.size h2.size, h2.blk, fun k hk hne => (h2.oth k (Nat.lt_of_lt_of_le hk h1.size) hne).trans (h1.oth k hk hne)⟩
theorem AskWr.upd {h : Nat} {cs : Array Value} {w w' : World} {S S' : Nat -> Prop} (hw : AskWr h cs w w') (hs : S h) (hn : ∀ k, S' k -> S k ∨ w.heap.size <= k) : Upd S S' w w' := ⟨hw.os, hw.tape, hw.output, hw.size, fun k hk hk' => hw.oth k hk (fun e => hk' (e ▸ hs)), hn⟩
theorem blk_cell {w : World} {h : Nat} {cs : Array Value} {T : TypeId} (hb : w.heap[h]? = some (.cells cs T (0, 0))) (i : Nat) : w.cell? ⟨h, i, none⟩ = cs[i]? /\ w.frozen? ⟨h, i, none⟩ = false := ⟨by simp [World.cell?, hb], by simp [World.frozen?, hb]⟩
theorem run_store1 {P : Program} {W : World} {a : Addr} {u v : Value} (hc : W.cell? a = some u) (hf : W.frozen? a = false) (hv : v.oneCell' = true) : Sem.run P (store a v) W = .ok () (W.setCell a v) := by
 rw [run_store _ _ _ _ _ hv, hc]
 simp [hf]
set_option maxRecDepth 10000 in
theorem pstop_any {w : World} {h : Nat} {cs : Array Value} (hb : w.heap[h]? = some (.cells cs 79 (0, 0))) (hc : ∃ v, cs[9]? = some v) : Calls Tryz.prog 67 #[.pointer (some ⟨h, 0, none⟩)] w fun e w' => e = .returned (.tuple #[]) /\ AskWr h (cs.setIfInBounds 9 (.map none)) w w' := by
 obtain ⟨v, hv⟩ := hc
 have c9 : w.cell? ⟨h, 9, none⟩ = some v := by rw [(blk_cell hb 9).1, hv]
 have f9 := (blk_cell hb 9).2
 have HW : Hid (AskWr h (cs.setIfInBounds 9 (.map none)) w (w.setCell ⟨h, 9, none⟩ (.map none))) := (AskWr.refl hb).set 9 _
 clear hb hv
 go_enter Tryz.func67, Tryz.ntmps67
 go_wp2
 go_end0
 exact ⟨rfl, HW.out⟩
set_option maxRecDepth 10000 in
theorem pawait_any {w : World} {h : Nat} {cs : Array Value} (kind : ByteArray) (hb : w.heap[h]? = some (.cells cs 79 (0, 0))) (hc8 : ∃ v, cs[8]? = some v) (hc9 : ∃ v, cs[9]? = some v) : Calls Tryz.prog 52 #[.pointer (some ⟨h, 0, none⟩), .string kind] w fun e w' => e = .returned (.tuple #[]) /\ AskWr h ((cs.setIfInBounds 8 (.string kind)).setIfInBounds 9 (.map (some w.heap.size))) w w' /\ w'.heap[w.heap.size]? = some (.map #[] 0) := by
 obtain ⟨v8, hv8⟩ := hc8
 obtain ⟨v9, hv9⟩ := hc9
 have hlt : h < w.heap.size := (AskWr.refl hb).lt
 have c8 : w.cell? ⟨h, 8, none⟩ = some v8 := by rw [(blk_cell hb 8).1, hv8]
 have f8 := (blk_cell hb 8).2
 obtain ⟨w1, hw1⟩ : ∃ w1, w1 = w.setCell ⟨h, 8, none⟩ (.string kind) := ⟨_, rfl⟩
 have hz1 : w1.heap.size = w.heap.size := by rw [hw1]; simp [World.setCell]
 have hW1 : AskWr h (cs.setIfInBounds 8 (.string kind)) w w1 := by rw [hw1]; exact (AskWr.refl hb).set 8 _
 have hba : Below w1.heap.size w1 (w1.alloc (.map #[] 0)) := (Below.refl _ _).alloc (Nat.le_refl _) _
 have c9 : w1.cell? ⟨h, 9, none⟩ = some v9 := by rw [(blk_cell hW1.blk 9).1]; simpa using hv9
 have f9 := (blk_cell hW1.blk 9).2
 have c9a : (w1.alloc (.map #[] 0)).cell? ⟨h, 9, none⟩ = some v9 := (hba.cell (p := ⟨h, 9, none⟩) hW1.lt).trans c9
 have f9a : (w1.alloc (.map #[] 0)).frozen? ⟨h, 9, none⟩ = false := (hba.frozen (p := ⟨h, 9, none⟩) hW1.lt).trans f9
 have hmk : (Instr.makeMap 75 none).run Tryz.prog w1 = .ok (.map (some w1.heap.size)) (w1.alloc (.map #[] 0)) := by kernel_rfl
 have HW1 : Hid (w1 = w.setCell ⟨h, 8, none⟩ (.string kind)) := hw1
 have HZ1 : Hid (w1.heap.size = w.heap.size) := hz1
 have HWR : Hid (AskWr h ((cs.setIfInBounds 8 (.string kind)).setIfInBounds 9 (.map (some w1.heap.size))) w ((w1.alloc (.map #[] 0)).setCell ⟨h, 9, none⟩ (.map (some w1.heap.size)))) := (hW1.below hba).set 9 _
 have HMP : Hid (((w1.alloc (.map #[] 0)).setCell ⟨h, 9, none⟩ (.map (some w1.heap.size))).heap[w1.heap.size]? = some (.map #[] 0)) := by
  show _ = _
  rw [Below.heap_setCell _ _ _ _ (by show w1.heap.size ≠ h; have := hW1.lt; omega)]
  show (w1.heap.push _)[w1.heap.size]? = _
  simp
 rw [<- HZ1.out]
 clear hb hv8 hv9 hw1 hW1 hba hz1
 go_enter Tryz.func52, Tryz.ntmps52
 go_wp2_with (first | rw [<- HW1.out] | fail)
 go_end0
 exact ⟨rfl, HWR.out, HMP.out⟩
set_option maxRecDepth 10000 in
set_option maxHeartbeats 4000000 in
theorem pend_any {w : World} {h : Nat} {cs : Array Value} (st : ByteArray) (o1 o2 : Int) (o3 : ByteArray) (o4 : Bool) (hb : w.heap[h]? = some (.cells cs 79 (0, 0))) (hs : cs.size = 16) : Calls Tryz.prog 40 #[.pointer (some ⟨h, 0, none⟩), .string st, .agg #[.int .i64 o1, .int .i64 o2, .string o3, .bool o4]] w fun e w' => e = .returned (.tuple #[]) /\ AskWr h (((((((cs.setIfInBounds 10 (.string st)).setIfInBounds 12 (.int .i64 o1)).setIfInBounds 13 (.int .i64 o2)).setIfInBounds 14 (.string o3)).setIfInBounds 15 (.bool o4)).setIfInBounds 11 .nilFunc).setIfInBounds 9 (.map none)) w w' := by
 obtain ⟨w1, hw1⟩ : ∃ w1, w1 = w.alloc (.cells #[.int .i64 o1, .int .i64 o2, .string o3, .bool o4] 72) := ⟨_, rfl⟩
 have hb1 : Below w.heap.size w w1 := by rw [hw1]; exact (Below.refl _ _).alloc (Nat.le_refl _) _
 have hlt : h < w.heap.size := (AskWr.refl hb).lt
 have hW1 : AskWr h cs w w1 := (AskWr.refl hb).below hb1
 have hne : h ≠ w.heap.size := by omega
 have hne' : w.heap.size ≠ h := by omega
 have d0 : w1.cell? ⟨w.heap.size, 0, none⟩ = some (.int .i64 o1) := by rw [hw1, World.cell?_alloc_at _ _ _ _ rfl]; rfl
 have d1 : w1.cell? ⟨w.heap.size, 1, none⟩ = some (.int .i64 o2) := by rw [hw1, World.cell?_alloc_at _ _ _ _ rfl]; rfl
 have d2 : w1.cell? ⟨w.heap.size, 2, none⟩ = some (.string o3) := by rw [hw1, World.cell?_alloc_at _ _ _ _ rfl]; rfl
 have d3 : w1.cell? ⟨w.heap.size, 3, none⟩ = some (.bool o4) := by rw [hw1, World.cell?_alloc_at _ _ _ _ rfl]; rfl
 have hcell : ∀ i, i < 16 -> ∃ v, w1.cell? ⟨h, i, none⟩ = some v := fun i hi => ⟨cs[i]'(by omega), by rw [(blk_cell hW1.blk i).1]; exact Array.getElem?_eq_getElem (by omega)⟩
 obtain ⟨v10, c10⟩ := hcell 10 (by decide)
 obtain ⟨v11, c11⟩ := hcell 11 (by decide)
 obtain ⟨v12, c12⟩ := hcell 12 (by decide)
 obtain ⟨v13, c13⟩ := hcell 13 (by decide)
 obtain ⟨v14, c14⟩ := hcell 14 (by decide)
 obtain ⟨v15, c15⟩ := hcell 15 (by decide)
 have f10 := (blk_cell hW1.blk 10).2
 have f11 := (blk_cell hW1.blk 11).2
 have f12 := (blk_cell hW1.blk 12).2
 have f13 := (blk_cell hW1.blk 13).2
 have f14 := (blk_cell hW1.blk 14).2
 have f15 := (blk_cell hW1.blk 15).2
 have HW1 : Hid (w1 = w.alloc (.cells #[.int .i64 o1, .int .i64 o2, .string o3, .bool o4] 72)) := hw1
 have hW5 : AskWr h (((((cs.setIfInBounds 10 (.string st)).setIfInBounds 12 (.int .i64 o1)).setIfInBounds 13 (.int .i64 o2)).setIfInBounds 14 (.string o3)).setIfInBounds 15 (.bool o4)) w (((((w1.setCell ⟨h, 10, none⟩ (.string st)).setCell ⟨h, 12, none⟩ (.int .i64 o1)).setCell ⟨h, 13, none⟩ (.int .i64 o2)).setCell ⟨h, 14, none⟩ (.string o3)).setCell ⟨h, 15, none⟩ (.bool o4)).drew := (((((hW1.set 10 _).set 12 _).set 13 _).set 14 _).set 15 _).below (Below.refl _ _).drew
 have hc11 : ∃ u, ((((((w1.setCell ⟨h, 10, none⟩ (.string st)).setCell ⟨h, 12, none⟩ (.int .i64 o1)).setCell ⟨h, 13, none⟩ (.int .i64 o2)).setCell ⟨h, 14, none⟩ (.string o3)).setCell ⟨h, 15, none⟩ (.bool o4)).drew).cell? ⟨h, 11, none⟩ = some u := ⟨cs[11]'(by omega), by rw [(blk_cell hW5.blk 11).1]; simp⟩
 obtain ⟨u11, hu11⟩ := hc11
 have hst11 : Sem.run Tryz.prog (store ⟨h, 11, none⟩ .nilFunc) ((((((w1.setCell ⟨h, 10, none⟩ (.string st)).setCell ⟨h, 12, none⟩ (.int .i64 o1)).setCell ⟨h, 13, none⟩ (.int .i64 o2)).setCell ⟨h, 14, none⟩ (.string o3)).setCell ⟨h, 15, none⟩ (.bool o4)).drew) = .ok () (((((((w1.setCell ⟨h, 10, none⟩ (.string st)).setCell ⟨h, 12, none⟩ (.int .i64 o1)).setCell ⟨h, 13, none⟩ (.int .i64 o2)).setCell ⟨h, 14, none⟩ (.string o3)).setCell ⟨h, 15, none⟩ (.bool o4)).drew).setCell ⟨h, 11, none⟩ .nilFunc) := run_store1 hu11 (blk_cell hW5.blk 11).2 rfl
 have hW6 := hW5.set 11 .nilFunc
 obtain ⟨w6, hw6⟩ : ∃ w6, w6 = ((((((w1.setCell ⟨h, 10, none⟩ (.string st)).setCell ⟨h, 12, none⟩ (.int .i64 o1)).setCell ⟨h, 13, none⟩ (.int .i64 o2)).setCell ⟨h, 14, none⟩ (.string o3)).setCell ⟨h, 15, none⟩ (.bool o4)).drew).setCell ⟨h, 11, none⟩ .nilFunc := ⟨_, rfl⟩
 rw [<- hw6] at hW6 hst11
 have HSTP : Hid (Calls Tryz.prog 67 #[.pointer (some ⟨h, 0, none⟩)] w6 fun e w' => e = .returned (.tuple #[]) /\ AskWr h ((((((((cs.setIfInBounds 10 (.string st)).setIfInBounds 12 (.int .i64 o1)).setIfInBounds 13 (.int .i64 o2)).setIfInBounds 14 (.string o3)).setIfInBounds 15 (.bool o4)).setIfInBounds 11 .nilFunc)).setIfInBounds 9 (.map none)) w w') := (pstop_any hW6.blk ⟨cs[9]'(by omega), by simp⟩).mono fun e w' hp => ⟨hp.1, hW6.trans hp.2⟩
 clear hb hs hw1 hb1 hW1 hcell hW5 hW6 hu11 hw6
 go_enter Tryz.func40, Tryz.ntmps40
 go_wp2
 rw [<- HW1.out]
 go_region
 go_wp2_with fail
 refine HSTP.out.mono ?_
 rintro e w7 ⟨rfl, hw7⟩
 have HW7 : Hid (AskWr h _ w w7) := hw7
 clear hw7 HSTP
 go_wp2
 go_end0
 exact ⟨rfl, HW7.out⟩
theorem setCell_self {w : World} {b o : Nat} {v : Value} (hc : w.cell? ⟨b, o, none⟩ = some v) : w.setCell ⟨b, o, none⟩ v = w := by
 have hh : (w.setCell ⟨b, o, none⟩ v).heap = w.heap := by
  refine Array.ext (by simp [World.setCell]) fun i h1 h2 => ?_
  have hg : (w.setCell ⟨b, o, none⟩ v).heap[i]? = w.heap[i]? := by
   by_cases e : i = b
   ·subst e
    have hb : w.heap[i]? = some w.heap[i] := Array.getElem?_eq_getElem h2
    have hf : ∀ o', w.heap[i] = o' -> (match o' with | .cells c elem frozen => Obj.cells (c.setIfInBounds o v) elem frozen | o'' => o'') = o' := fun o' ho => by
     cases o' with
     | cells c t f =>
      have hc' : c[o]? = some v := by
       unfold World.cell? at hc
       simpa [hb, ho] using hc
      have hs : c.setIfInBounds o v = c := by
       obtain ⟨h3, h4⟩ := Array.getElem?_eq_some_iff.1 hc'
       refine Array.ext_getElem? fun j => ?_
       rw [Array.getElem?_setIfInBounds]
       by_cases ej : o = j
       ·subst ej
        rw [if_pos rfl, if_pos h3, hc']
       ·rw [if_neg ej]
      show Obj.cells (c.setIfInBounds o v) t f = _
      rw [hs]
     | _ => rfl
    have := hf _ rfl
    simp only [World.setCell, Array.getElem?_modify, hb, if_true, Option.map_some]
    exact congrArg some this
   ·exact Below.heap_setCell w _ v i e
  have a1 := Array.getElem?_eq_getElem h1
  have a2 := Array.getElem?_eq_getElem h2
  rw [a1, a2] at hg
  exact Option.some.inj hg
 cases w
 unfold World.setCell at hh ⊢
 simp only at hh ⊢
 rw [hh]
variable {w w' : World} {B h : Nat} {S S0 : Nat -> Prop} {a : MAsk} {mv cv : Value} {aw : ByteArray} {m : Option Nat} {D : DataW Value} {row : ByteArray -> Value}
set_option maxRecDepth 10000 in
theorem pfull_any {b : Nat} {F : List ByteArray} (en : Nat) (hd : HeardAt w b F D row) (c9 : w.cell? ⟨h, 9, none⟩ = some (.map (some b))) (c7 : w.cell? ⟨h, 7, none⟩ = some (.int .i64 (en : Int))) : Calls Tryz.prog 69 #[.pointer (some ⟨h, 0, none⟩)] w fun e w' => e = .returned (.bool (decide (en <= F.length))) /\ Below w.heap.size w w' := by
 have hlen : ∀ n ty, (Builtin.len_ #[75] ty #[.map (some b)]).run Tryz.prog (w.drewN n) = .ok (.int .i64 (F.length : Nat)) (w.drewN n) := fun n ty => (hd.same (w' := w.drewN n) rfl).len ty
 clear hd
 go_enter Tryz.func69, Tryz.ntmps69
 go_wp2
 go_quiet (fail)
 go_wp2
 go_ret
 exact ⟨rfl, below_drewN (Below.refl _ _) _⟩
set_option maxRecDepth 10000 in
theorem vclone_nil (w : World) : Calls Tryz.prog 104 #[.slice none 0 0] w fun e w' => e = .returned (.slice none 0 0) /\ w' = w := by
 have hn : ∀ W, Sem.run Tryz.prog (binOp .eql 55 (.slice none 0 0) (.slice none 0 0)) W = .ok (.bool true) W := fun W => by kernel_rfl
 go_enter Tryz.func104, Tryz.ntmps104
 go_wp2
 go_ret
 exact ⟨rfl, rfl⟩
set_option maxRecDepth 10000 in
theorem vclone_none (ad : Addr) (c : Nat) (w : World) : Calls Tryz.prog 104 #[.slice (some ad) 0 c] w fun e w' => (∃ v', e = .returned v' /\ OwnR verE 69 w' w.heap.size v' []) /\ Below w.heap.size w w' := by
 have hn : ∀ W, Sem.run Tryz.prog (binOp .eql 55 (.slice (some ad) 0 c) (.slice none 0 0)) W = .ok (.bool false) W := fun W => by kernel_rfl
 go_enter Tryz.func104, Tryz.ntmps104
 go_wp2
 go_ret
 refine ⟨⟨_, rfl, rfl, Or.inr ⟨w.heap.size, 0, #[], rfl, Nat.le_refl _, ?_, Nat.le_refl _, by unfold maxLen; omega, rfl, rfl⟩⟩, (Below.refl _ _).alloc (Nat.le_refl _) _⟩
 show (w.heap.push _)[w.heap.size]? = _
 simp
theorem vclone_any (q : Option Addr) (l : List Ver) (c : Nat) (w : World) (hr : Rec verE w q l) (hq : q = none -> l = [] /\ c = 0) (hl : l.length <= 1000) : Calls Tryz.prog 104 #[.slice q l.length c] w fun e w' => (∃ v', e = .returned v' /\ OwnR verE 69 w' w.heap.size v' l) /\ Below w.heap.size w w' := by
 cases q with
 | none =>
  obtain ⟨h1, h2⟩ := hq rfl
  subst h1 h2
  exact (vclone_nil w).mono fun e w' hp => ⟨⟨_, hp.1, OwnR.nil _ _ _⟩, by rw [hp.2]; exact Below.refl _ _⟩
 | some ad =>
  by_cases h0 : l = []
  ·subst h0
   exact (vclone_none ad c w).mono fun e w' hp => ⟨hp.1, hp.2⟩
  ·rcases hr with h1 | ⟨b, o, hp, hlt, hc⟩
   ·exact absurd h1 h0
   obtain rfl : ad = ⟨b, o, none⟩ := Option.some.inj hp
   obtain ⟨i0, hi0, hz0, hz1, hzb⟩ := info_parts verinfo
   have hcell : ∀ j u, (recVals verE l)[j]? = some u -> w.cell? ⟨b, o + j, none⟩ = some u := fun j u hj => by
    have := Rec.cells (E := verE) hc j u hj
    by_cases e0 : j = 0
    ·subst e0; simpa [Addr.add] using this
    ·simpa [Addr.add, e0] using this
   exact (Tryz.slices_Clone i0 _ 5 48 hi0 hz0 hz1 hzb rfl (by decide) (fun W => by kernel_rfl) b o l.length c (recVals verE l) w (recVals_length verE l) (by unfold maxLen; omega) (by omega) hcell (recVals_one' verE l)).mono fun e w' ⟨v', h1, h2, _, h4⟩ => ⟨⟨v', h1, h2⟩, h4⟩
set_option maxRecDepth 10000 in
set_option maxHeartbeats 4000000 in
theorem pnote_any {b n : Nat} (frm : ByteArray) (q : Option Addr) (l : List Ver) (c : Nat) (hlt : h < w.heap.size) (c9 : w.cell? ⟨h, 9, none⟩ = some (.map (some b))) (hown : OwnM w b n D) (hn : n < maxLen) (hf : frm.size <= 1000000) (hr : Rec verE w q l) (hq : q = none -> l = [] /\ c = 0) (hl : l.length <= 1000) (hts : ∀ v ∈ l, v.text.size <= 1000000) :
 Calls Tryz.prog 68 #[.pointer (some ⟨h, 0, none⟩), .string frm, .slice q l.length c] w fun e w' => e = .returned (.tuple #[]) /\ ∃ v' w1, OwnR verE 69 w1 w.heap.size v' l /\ Below w.heap.size w w1 /\ SetOk w1 w' b D frm v' := by
 have HCL := vclone_any q l c w hr hq hl
 have HQ : Hid (∀ W, Below w.heap.size w W -> W.cell? ⟨h, 9, none⟩ = some (.map (some b))) := fun W hW => (hW.cell (p := ⟨h, 9, none⟩) hlt).trans c9
 have hblt : b < w.heap.size := World.ownsMap.lt hown
 have HUP : Hid (∀ W1, Below w.heap.size w W1 -> ∀ v W, Below W1.heap.size W1 W -> ∃ w', (Instr.mapUpdate 75 (.map (some b)) (.string frm) v).run Tryz.prog W = .ok () w' /\ SetOk W1 w' b D frm v) := fun W1 hW1 v W hW => set_step (hown.same (hW1.block b hblt)) hn (by unfold maxLen; omega) hW
 have HSC : Hid (∀ s : ByteArray, s.size <= 1000000 -> ∀ W, Calls Tryz.prog 24 #[.string s] W fun e w' => e = .returned (.string s) /\ Below W.heap.size W w') := fun s hs W => sclone_any s W hs
 have HTS : Hid (∀ v ∈ l, v.text.size <= 1000000) := hts
 clear hown hr hq hts c9
 go_enter Tryz.func68, Tryz.ntmps68
 go_wp2_with fail
 refine HCL.mono ?_
 rintro e w1 ⟨⟨v1, rfl, hO1⟩, hb1⟩
 obtain ⟨p1, c1, hv1, hr1, _, _, _⟩ := hO1.form
 subst hv1
 have HO1 : Hid (OwnR verE 69 w1 w.heap.size (.slice p1 l.length c1) l) := hO1
 have HR1 : Hid (Rec verE w1 p1 l) := hr1
 have HB1 : Hid (Below w.heap.size w w1) := hb1
 clear hO1 hr1 hb1 HCL
 go_wp2
 go_loopw [12] (fun x wr => ∃ i : Nat, i <= l.length /\ x = .int .i64 i /\ Below w1.heap.size w1 wr) (fun x _ => l.length - (intOf x).toNat)
 case atStart => exact ⟨0, Nat.zero_le _, rfl, Below.refl _ _⟩
 case round =>
  obtain ⟨i, hi, rfl, hB⟩ := hrel
  obtain ⟨w2, rfl⟩ : ∃ w2, w2 = wr := ⟨_, rfl⟩
  have HB : Hid (Below w1.heap.size w1 w2) := hB
  by_cases hil : i < l.length
  ·obtain ⟨vb, vo, hvp, hvlt, v0, v1, v2, v3, v4⟩ := ver_cells (HR1.out.below hB) hil
   have hsz : (verAt l i).text.size <= 1000000 := HTS.out _ (List.mem_of_getElem? (verAt_get hil))
   have HSX := HSC.out _ hsz w2
   obtain ⟨g, cap, cur, hgv, hgb, hgh⟩ : ∃ g cap cur, Value.slice p1 l.length c1 = .slice (some ⟨g, 0, none⟩) l.length cap /\ g < w1.heap.size /\ w1.heap[g]? = some (.cells cur 69 (0, 0)) := by
    rcases HO1.out.2 with ⟨h1, h2⟩ | ⟨g, cap, cur, h1, h2, h3, _⟩
    ·omega
    ·refine ⟨g, cap, cur, h1, ?_, h3⟩
     rcases Nat.lt_or_ge g w1.heap.size with h' | h'
     ·exact h'
     ·rw [Array.getElem?_eq_none h'] at h3; cases h3
   have hpe : p1 = some ⟨g, 0, none⟩ := by injection hgv
   rw [hpe] at hvp
   obtain ⟨rfl, rfl⟩ : g = vb /\ 0 = vo := by injection hvp with h1; injection h1 with h2 h3; exact ⟨h2, h3⟩
   rw [Nat.zero_add] at v4
   have hfz : ∀ W, Below w1.heap.size w1 W -> ∀ o, W.frozen? ⟨g, o, none⟩ = false := fun W hW o => by simp [World.frozen?, (hW.block g hgb).trans hgh]
   have HFZ : Hid (∀ W, Below w1.heap.size w1 W -> ∀ o, W.frozen? ⟨g, o, none⟩ = false) := hfz
   subst hpe
   clear hgv hgh v0 v1 v2 v3 hB hvp hfz
   generalize (verAt l i).text = tx at *
   go_wp2_with fail
   refine HSX.mono ?_
   rintro e w3 ⟨rfl, hb3⟩
   have hB3 : Below w1.heap.size w1 w3 := HB.out.trans (hb3.mono HB.out.size)
   have HB3 : Hid (Below w1.heap.size w1 w3) := hB3
   have k4 : w3.cell? ⟨g, i * 5 + 4, none⟩ = some (.string tx) := (hb3.cell (p := ⟨g, i * 5 + 4, none⟩) hvlt).trans v4
   have f4 := HFZ.out w3 hB3 (i * 5 + 4)
   have HSF : Hid (w3.setCell ⟨g, i * 5 + 4, none⟩ (.string tx) = w3) := setCell_self k4
   clear hb3 hB3 HSX v4
   go_wp2_with (first | rw [HSF.out] | fail)
   go_roundw
   case rel => exact ⟨i + 1, by omega, by go_num, HB3.out⟩
   case measure => simp [intOf]; omega
  ·have hq2 := HQ.out w2 (HB1.out.trans (hB.mono HB1.out.size))
   have HQ2 : Hid (∀ W, Below w2.heap.size w2 W -> W.cell? ⟨h, 9, none⟩ = some (.map (some b))) := fun W hW => (hW.cell (p := ⟨h, 9, none⟩) (by have := HB.out.size; have := HB1.out.size; show h < w2.heap.size; omega)).trans hq2
   have HUP2 : Hid (∀ W, Below w2.heap.size w2 W -> ∃ w', (Instr.mapUpdate 75 (.map (some b)) (.string frm) (.slice p1 l.length c1)).run Tryz.prog W = .ok () w' /\ SetOk w1 w' b D frm (.slice p1 l.length c1)) := fun W hW => HUP.out w1 HB1.out _ W (HB.out.trans (hW.mono HB.out.size))
   have HSX := HSC.out _ hf
   have HSY : Hid (∀ W, Calls Tryz.prog 24 #[.string frm] W fun e w' => e = .returned (.string frm) /\ Below W.heap.size W w') := HSX
   clear hB HUP HSX HSC HQ
   go_wp2
   go_region_with (go_at_call 24; refine (HSY.out _).mono ?_; rintro e w5 ⟨rfl, hb5⟩; have hb6 := below_drew' hb5; have q5 := HQ2.out w5 hb6; obtain ⟨w9, hrun9, hset9⟩ := HUP2.out w5 hb6; clear hb5 hb6)
   all_goals
    go_wp2
    go_end0
    exact ⟨rfl, _, w1, HO1.out, HB1.out, hset9⟩
def toldP (a : MAsk) (l : List ByteArray) : List (List Ver) := l.map fun x => if inL a.from_ x then rowL a x else []
theorem toldP_succ {a : MAsk} {l : List ByteArray} {i : Nat} (h : i < l.length) : toldP a (l.take (i + 1)) = toldP a (l.take i) ++ [if inL a.from_ (txt l i) then rowL a (txt l i) else []] := by
 unfold toldP
 rw [List.take_succ_eq_append_getElem h, List.map_append, txt_getElem l i h]
 rfl
theorem toldP_flat (a : MAsk) : ∀ l : List ByteArray, (toldP a l).flatten = (toldL a.from_ a.L l).flatten
 | [] => rfl
 | x :: l => by
  have ih := toldP_flat a l
  unfold toldP at ih ⊢
  rw [List.map_cons, List.flatten_cons, ih]
  by_cases h : inL a.from_ x = true
  ·have e1 : toldL a.from_ a.L (x :: l) = a.L.getD (idxN a.from_ x) [] :: toldL a.from_ a.L l := if_pos h
   rw [if_pos h, e1, List.flatten_cons]
   rfl
  ·have e1 : toldL a.from_ a.L (x :: l) = toldL a.from_ a.L l := if_neg h
   rw [if_neg h, e1, List.nil_append]
set_option maxRecDepth 10000 in
set_option maxHeartbeats 4000000 in
theorem ptold_any (hp : PAk w B h S S0 a mv cv aw m D row) (hst : a.st = .looking) : Calls Tryz.prog 70 #[.pointer (some ⟨h, 0, none⟩)] w fun e w' => (∃ p c, e = .returned (.slice p (toldP a a.c.L).length c) /\ Vss w' p (toldP a a.c.L)) /\ Below w.heap.size w w' := by
 obtain ⟨i0, hi0, hy0, hy1, hyb⟩ := info_parts versinfo
 obtain ⟨b, hmb, _, _, hH⟩ := hp.open_ (Or.inl hst)
 subst hmb
 obtain ⟨mp, mc, hmv, hms, _, _, _⟩ := hp.stat.mem
 subst hmv
 obtain ⟨⟨_, _, hn12⟩, hln, _, hnm, _⟩ := cfgF_fine hp.fine.cfg
 have hLl : a.c.L.length <= 12 := by omega
 have HSM : Hid (∀ W, Below w.heap.size w W -> Strs W mp a.c.L) := fun W hW => hms.below hW
 have HCE : Hid (∀ W, Below w.heap.size w W -> W.cell? ⟨h, 9, none⟩ = some (.map (some b))) := fun W hW => (hp.below hW).cell 9
 have c6 : w.cell? ⟨h, 6, none⟩ = some (.slice mp a.c.L.length mc) := hp.cell 6
 have HLK : Hid (∀ i, i < a.c.L.length -> ∃ q c, (∀ W, Below w.heap.size w W -> (Instr.lookup 75 (.map (some b)) (.string (txt a.c.L i)) false).run Tryz.prog W = .ok (.slice q (if inL a.from_ (txt a.c.L i) then rowL a (txt a.c.L i) else []).length c) W) /\ Rec verE w q (if inL a.from_ (txt a.c.L i) then rowL a (txt a.c.L i) else []) /\ (if inL a.from_ (txt a.c.L i) then rowL a (txt a.c.L i) else []).length <= c /\ (q = none -> (if inL a.from_ (txt a.c.L i) then rowL a (txt a.c.L i) else []) = [] /\ c = 0)) := fun i hi => by
  have hsz : (txt a.c.L i).size <= maxLen := by
   rw [txt_getElem _ _ hi]
   have := isN_size (hnm _ (List.getElem_mem hi))
   unfold maxLen
   omega
  have hlk : ∀ W, Below w.heap.size w W -> _ := fun W hW => (hH.same (hW.block b (by obtain ⟨n, hn⟩ := hH.own; exact World.ownsMap.lt hn))).look hsz
  by_cases hin : inL a.from_ (txt a.c.L i) = true
  ·obtain ⟨q, c, h1, h2, h3, h4, _⟩ := hp.stat.rows hst _ (inL_iff.1 hin)
   refine ⟨q, c, fun W hW => ?_, ?_, ?_, ?_⟩
   ·rw [hlk W hW, if_pos hin, if_pos hin, h1]
   ·rw [if_pos hin]; exact h2
   ·rw [if_pos hin]; exact h3
   ·rw [if_pos hin]; exact h4
  ·refine ⟨none, 0, fun W hW => ?_, ?_, ?_, ?_⟩
   ·rw [hlk W hW, if_neg hin, if_neg hin]; rfl
   ·rw [if_neg hin]; exact Rec.nil _ _
   ·rw [if_neg hin]; exact Nat.le_refl _
   ·rw [if_neg hin]; exact fun _ => ⟨rfl, rfl⟩
 have HTS : Hid (∀ i, i < a.c.L.length -> toldP a (a.c.L.take (i + 1)) = toldP a (a.c.L.take i) ++ [if inL a.from_ (txt a.c.L i) then rowL a (txt a.c.L i) else []]) := fun i hi => toldP_succ hi
 have HTL : Hid (∀ i, (toldP a (a.c.L.take i)).length <= 12) := fun i => by unfold toldP; rw [List.length_map, List.length_take]; omega
 clear hp hms hH hnm
 go_enter Tryz.func70, Tryz.ntmps70
 go_wp2
 go_loopw [3, 12] (fun v x wr => ∃ i : Nat, i <= a.c.L.length /\ x = .int .i64 i /\ (∃ vals, OwnV wr w.heap.size 55 v vals /\ VsVals w vals (toldP a (a.c.L.take i))) /\ Below w.heap.size w wr) (fun _ x _ => a.c.L.length - (intOf x).toNat)
 case atStart => exact ⟨0, Nat.zero_le _, rfl, ⟨[], OwnV.nil _ _ _, rfl, fun i hi => absurd hi (Nat.not_lt_zero _)⟩, Below.refl _ _⟩
 case round =>
  obtain ⟨i, hi, rfl, ⟨vals, hO, hvv⟩, hB⟩ := hrel
  obtain ⟨w1, rfl⟩ : ∃ w1, w1 = wr := ⟨_, rfl⟩
  obtain ⟨v, rfl⟩ : ∃ v, v = u3 := ⟨_, rfl⟩
  have HO : Hid (OwnV w1 w.heap.size 55 v vals) := hO
  have HVV : Hid (VsVals w vals (toldP a (a.c.L.take i))) := hvv
  have HB : Hid (Below w.heap.size w w1) := hB
  have hvl : vals.length <= 12 := by rw [hvv.1]; exact HTL.out i
  have hz1 : w.heap.size <= w1.heap.size := hB.size
  by_cases hil : i < a.c.L.length
  ·rcases HSM.out w1 hB with h0 | ⟨bs, os, hpp, hblt, hcs⟩
   ·rw [h0] at hil; exact absurd hil (Nat.not_lt_zero _)
   have q1 := hcs i hil
   obtain ⟨rq, rc, hlk, hrr, hrl, hrn⟩ := HLK.out i hil
   have HTI : Hid (toldP a (a.c.L.take (i + 1)) = toldP a (a.c.L.take i) ++ [if inL a.from_ (txt a.c.L i) then rowL a (txt a.c.L i) else []]) := HTS.out i hil
   have d9 := HCE.out w1 hB
   have hlk1 := hlk w1 hB
   have HNV : Hid (VsVals w (vals ++ [.slice rq (if inL a.from_ (txt a.c.L i) then rowL a (txt a.c.L i) else []).length rc]) (toldP a (a.c.L.take i) ++ [if inL a.from_ (txt a.c.L i) then rowL a (txt a.c.L i) else []])) := hvv.snoc hrr hrl hrn
   subst hpp
   clear hcs hlk hrr hrl hrn hO hvv hB HLK HTS
   generalize (if inL a.from_ (txt a.c.L i) then rowL a (txt a.c.L i) else []) = rw_ at *
   generalize txt a.c.L i = t at *
   go_wp2_with (at_builtin; refine wpList_append_val rfl (.tmp 16) (.tmp 23) 44 rfl w.heap.size 55 i0 (.slice none 0 0) 24 Tryz.underlying44 hi0 hy0 rfl hy1 hyb (by decide) v vals rfl (OwnV.kept (row := none) HO.out ⟨rfl, rfl, rfl, by simp, fun k hk _ => Below.heap_alloc _ _ k hk⟩ (by cases v.ownBlock <;> simp)) ⟨w1.heap.size, 0, none⟩ 1 (.slice rq rw_.length rc) rfl rfl (by rw [World.cell?_alloc_at _ _ _ _ rfl]; rfl) (by omega) (by simp; omega) ?_; intro v4 w4 hO4 hg4 _)
   have HO4 : Hid (OwnV w4 w.heap.size 55 v4 (vals ++ [.slice rq rw_.length rc])) := hO4
   have HB4 : Hid (Below w.heap.size w w4) := (HB.out.alloc hz1 _).grown hg4 (by simp; omega) (fun k hk => (HO.out.block hk).1)
   clear hO4 hg4
   go_wp2
   go_roundw
   case rel => exact ⟨i + 1, by omega, by go_num, ⟨_, HO4.out, by rw [HTI.out]; exact HNV.out⟩, HB4.out⟩
   case measure => simp [intOf]; omega
  ·have hie : a.c.L.take i = a.c.L := List.take_of_length_le (by omega)
   have HVW : VsVals w vals (toldP a a.c.L) := by rw [hie] at hvv; exact hvv
   obtain ⟨pw, cw, hvw, hvss⟩ := HVW.vss hB hO
   subst hvw
   have HVS : Hid (Vss w1 pw (toldP a a.c.L)) := hvss
   clear hie hvss HO HVV HVW hO hvv hB
   go_wp2
   go_ret
   exact ⟨⟨pw, cw, rfl, HVS.out⟩, HB.out⟩
end Go.Proofs.YtobmckfcipeanaaGreatDoor
