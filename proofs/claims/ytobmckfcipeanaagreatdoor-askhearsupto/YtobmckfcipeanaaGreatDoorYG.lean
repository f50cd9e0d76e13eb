import Derived.Test.YtobmckfcipeanaaGreatDoorRAkW
import Derived.Test.YtobmckfcipeanaaGreatDoorZM
import Derived.BigQuiet
namespace Go.Proofs.YtobmckfcipeanaaGreatDoor
open Go.RowKit
variable {w w' : World} {B : Nat} {S : Nat -> Prop} {ab : Nat} {a : MAsk} {mv nv fv lv : Value} {vs : List Value}
set_option maxRecDepth 10000 in
set_option maxHeartbeats 16000000 in
theorem rhear_no (h : RAk w B S ab a mv nv fv lv vs) (x : Msg × Lv) (hl : a.c.L.length <= 1000) (hfl : a.from_.length <= 1000) (hno : a.takes x.1 = false) : Calls Tryz.prog 19 #[.pointer (some ⟨ab, 0, none⟩), .agg #[.string x.1.from_, .string x.1.to_, .string x.1.kind, .string x.1.key, .int .i64 x.1.op, .int .i64 x.1.config, .bool x.1.shut, .slice x.2.1 x.2.2.1 x.2.2.2]] w fun e w' => e = .returned (.slice none 0 0) /\ Below w.heap.size w w' := by
 obtain ⟨mp, mc, hmv, hms, hmc, hmn, hmb⟩ := h.mem.at_
 obtain ⟨fp, fc, hfv, hfs, hfc, hfn, _⟩ := h.from_.form
 subst hmv hfv
 obtain ⟨⟨m1, m2, m3, m4, m5, m6, m7, mL⟩, lp, ln, lc⟩ := x
 dsimp only at *
 obtain ⟨w1, hw1⟩ : ∃ w1, w1 = w.alloc (.cells #[.string m1, .string m2, .string m3, .string m4, .int .i64 m5, .int .i64 m6, .bool m7, .slice lp ln lc] 59) := ⟨_, rfl⟩
 have hb1 : Below w.heap.size w w1 := by rw [hw1]; exact (Below.refl _ _).alloc (Nat.le_refl _) _
 have hR1 := h.below hb1
 have HWT := waits_any hR1
 have c0 : w1.cell? ⟨ab, 0, none⟩ = some (.string a.name) := hR1.cell 0
 have c1 : w1.cell? ⟨ab, 1, none⟩ = some (.string a.key) := hR1.cell 1
 have c3 : w1.cell? ⟨ab, 3, none⟩ = some (.int .i64 a.op) := hR1.cell 3
 have c4 : w1.cell? ⟨ab, 4, none⟩ = some (.int .i64 a.config) := hR1.cell 4
 have c7 : w1.cell? ⟨ab, 7, none⟩ = some (.slice mp a.c.L.length mc) := hR1.cell 7
 have c14 : w1.cell? ⟨ab, 14, none⟩ = some (.slice fp a.from_.length fc) := hR1.cell 14
 have d0 : w1.cell? ⟨w.heap.size, 0, none⟩ = some (.string m1) := by rw [hw1, World.cell?_alloc_at _ _ _ _ rfl]; rfl
 have d1 : w1.cell? ⟨w.heap.size, 1, none⟩ = some (.string m2) := by rw [hw1, World.cell?_alloc_at _ _ _ _ rfl]; rfl
 have d2 : w1.cell? ⟨w.heap.size, 2, none⟩ = some (.string m3) := by rw [hw1, World.cell?_alloc_at _ _ _ _ rfl]; rfl
 have d3 : w1.cell? ⟨w.heap.size, 3, none⟩ = some (.string m4) := by rw [hw1, World.cell?_alloc_at _ _ _ _ rfl]; rfl
 have d4 : w1.cell? ⟨w.heap.size, 4, none⟩ = some (.int .i64 m5) := by rw [hw1, World.cell?_alloc_at _ _ _ _ rfl]; rfl
 have d5 : w1.cell? ⟨w.heap.size, 5, none⟩ = some (.int .i64 m6) := by rw [hw1, World.cell?_alloc_at _ _ _ _ rfl]; rfl
 have HSM : Hid (∀ W, Below w1.heap.size w1 W -> Strs W mp a.c.L) := fun W hW => (hms.below hb1).below hW
 have HSF : Hid (∀ W, Below w1.heap.size w1 W -> Strs W fp a.from_) := fun W hW => (hfs.below hb1).below hW
 have HW1 : Hid (w1 = w.alloc (.cells #[.string m1, .string m2, .string m3, .string m4, .int .i64 m5, .int .i64 m6, .bool m7, .slice lp ln lc] 59)) := hw1
 have HB1 : Hid (Below w.heap.size w w1) := hb1
 have HNO : a.st.waits = ⟨#[]⟩ ∨ m3 ≠ a.st.waits ∨ m2 ≠ a.name ∨ m4 ≠ a.key ∨ m5 ≠ a.op ∨ m6 ≠ a.config ∨ m1 ∉ a.c.L ∨ m1 ∈ a.from_ := by
  unfold MAsk.takes at hno
  by_cases g0 : a.st.waits = ⟨#[]⟩
  ·exact Or.inl g0
  by_cases g1 : m3 = a.st.waits
  ·by_cases g2 : m2 = a.name
   ·by_cases g3 : m4 = a.key
    ·by_cases g4 : m5 = a.op
     ·by_cases g5 : m6 = a.config
      ·rw [decide_eq_true ⟨g0, g1, g2, g3, g4, g5⟩, Bool.true_and] at hno
       by_cases g6 : m1 ∈ a.c.L
       ·rw [inL_iff.2 g6, Bool.true_and] at hno
        right; right; right; right; right; right; right
        cases hq : inL a.from_ m1 with
        | true => exact inL_iff.1 hq
        | false => rw [hq] at hno; cases hno
       ·right; right; right; right; right; right; left; exact g6
      ·right; right; right; right; right; left; exact g5
     ·right; right; right; right; left; exact g4
    ·right; right; right; left; exact g3
   ·right; right; left; exact g2
  ·right; left; exact g1
 clear h hms hmb hfs hfn hmn hb1 hw1 hR1 hno
 generalize a.st.waits = wt at *
 generalize a.name = nm at *
 generalize a.key = ky at *
 generalize a.op = aop at *
 generalize a.config = acf at *
 by_cases g0 : wt = ⟨#[]⟩
 ·subst g0
  clear HNO
  go_enter Tryz.func19, Tryz.ntmps19
  go_wp2_with (first | rw [<- HW1.out] | fail)
  refine HWT.mono ?_
  rintro e w2 ⟨rfl, hw2⟩
  rw [hw2]
  clear hw2 w2 HWT
  go_wp2
  go_quiet (fail)
  go_wp2
  go_ret
  exact ⟨rfl, below_drewN HB1.out _⟩
 ·skip
  have t0 := toList_ne g0
  have u0 := toList_beq g0
  have v0 := bytes_beq g0
  have e0 : (⟨#[]⟩ : ByteArray).toList = [] := by decide +kernel
  rw [e0] at t0 u0
  by_cases g1 : m3 = wt
  ·subst g1
   by_cases g2 : m2 = nm
   ·subst g2
    by_cases g3 : m4 = ky
    ·subst g3
     by_cases g4 : m5 = aop
     ·subst g4
      by_cases g5 : m6 = acf
      ·subst g5
       have HN2 : m1 ∉ a.c.L ∨ m1 ∈ a.from_ := by
        rcases HNO with h | h | h | h | h | h | h
        ·exact absurd h g0
        ·exact absurd rfl h
        ·exact absurd rfl h
        ·exact absurd rfl h
        ·exact absurd rfl h
        ·exact absurd rfl h
        ·exact h
       by_cases g6 : m1 ∈ a.c.L
       ·have g7 : m1 ∈ a.from_ := by rcases HN2 with h | h; exact absurd g6 h; exact h
        have HI1 : Hid (∀ W, Below w1.heap.size w1 W -> Calls Tryz.prog 44 #[.slice mp a.c.L.length mc, .string m1] W fun e w' => e = .returned (.int .i64 ((idxN a.c.L m1 : Nat) : Int)) /\ w' = W) := fun W hW => index_hit mp a.c.L mc m1 W (by omega) (HSM.out W hW) g6
        have HI2 : Hid (∀ W, Below w1.heap.size w1 W -> Calls Tryz.prog 44 #[.slice fp a.from_.length fc, .string m1] W fun e w' => e = .returned (.int .i64 ((idxN a.from_ m1 : Nat) : Int)) /\ w' = W) := fun W hW => index_hit fp a.from_ fc m1 W (by omega) (HSF.out W hW) g7
        clear HNO HN2 g6 g7 HSM HSF
        generalize idxN a.c.L m1 = j1 at *
        generalize idxN a.from_ m1 = j2 at *
        have n1 : decide ((j1 : Int) < 0) = false := decide_eq_false (by omega)
        have n2 : decide ((0 : Int) <= (j2 : Int)) = true := decide_eq_true (by omega)
        go_enter Tryz.func19, Tryz.ntmps19
        go_wp2_with (first | rw [<- HW1.out] | fail)
        refine HWT.mono ?_
        rintro e w2 ⟨rfl, hw2⟩
        rw [hw2]
        clear hw2 w2 HWT
        go_wp2
        go_quiet (fail)
        generalize hwq : World.drewN w1 _ = wq
        have c7q : wq.cell? ⟨ab, 7, none⟩ = some (.slice mp a.c.L.length mc) := by rw [<- hwq]; exact c7
        have c14q : wq.cell? ⟨ab, 14, none⟩ = some (.slice fp a.from_.length fc) := by rw [<- hwq]; exact c14
        have d0q : wq.cell? ⟨w.heap.size, 0, none⟩ = some (.string m1) := by rw [<- hwq]; exact d0
        have hbq0 : Below w1.heap.size w1 wq := by rw [<- hwq]; exact below_drewN (Below.refl _ _) _
        have HBQ : Hid (Below w1.heap.size w1 wq) := hbq0
        have hbq := HBQ.out
        clear hwq c0 c1 c3 c4 c7 c14 d0 d1 d2 d3 d4 d5 hbq0
        go_wp2
        go_quiet (first | (go_at_call 44; with_reducible exact Calls.quiet_of_same (HI1.out _ (below_drewN hbq _))) | (go_at_call 44; with_reducible exact Calls.quiet_of_same (HI2.out _ (below_drewN hbq _))))
        go_wp2
        go_ret
        exact ⟨rfl, below_drewN (HB1.out.trans (HBQ.out.mono HB1.out.size)) _⟩
       ·have HI1 : Hid (∀ W, Below w1.heap.size w1 W -> Calls Tryz.prog 44 #[.slice mp a.c.L.length mc, .string m1] W fun e w' => e = .returned (.int .i64 (-1)) /\ w' = W) := fun W hW => index_miss mp a.c.L mc m1 W (by omega) (HSM.out W hW) g6
        clear HNO HN2 g6 HSM HSF
        go_enter Tryz.func19, Tryz.ntmps19
        go_wp2_with (first | rw [<- HW1.out] | fail)
        refine HWT.mono ?_
        rintro e w2 ⟨rfl, hw2⟩
        rw [hw2]
        clear hw2 w2 HWT
        go_wp2
        go_quiet (fail)
        generalize hwq : World.drewN w1 _ = wq
        have c7q : wq.cell? ⟨ab, 7, none⟩ = some (.slice mp a.c.L.length mc) := by rw [<- hwq]; exact c7
        have c14q : wq.cell? ⟨ab, 14, none⟩ = some (.slice fp a.from_.length fc) := by rw [<- hwq]; exact c14
        have d0q : wq.cell? ⟨w.heap.size, 0, none⟩ = some (.string m1) := by rw [<- hwq]; exact d0
        have hbq0 : Below w1.heap.size w1 wq := by rw [<- hwq]; exact below_drewN (Below.refl _ _) _
        have HBQ : Hid (Below w1.heap.size w1 wq) := hbq0
        have hbq := HBQ.out
        clear hwq c0 c1 c3 c4 c7 c14 d0 d1 d2 d3 d4 d5 hbq0
        go_wp2
        go_quiet ((go_at_call 44; exact Calls.quiet_of_same (HI1.out _ (below_drewN hbq _))))
        go_wp2
        go_ret
        exact ⟨rfl, below_drewN (HB1.out.trans (HBQ.out.mono HB1.out.size)) _⟩
      ·have b5 : (m6 == acf) = false := by rw [beq_eq_false_iff_ne]; exact g5
       clear HNO
       go_enter Tryz.func19, Tryz.ntmps19
       go_wp2_with (first | rw [<- HW1.out] | fail)
       refine HWT.mono ?_
       rintro e w2 ⟨rfl, hw2⟩
       rw [hw2]
       clear hw2 w2 HWT
       go_wp2
       go_quiet (fail)
       go_wp2
       go_ret
       exact ⟨rfl, below_drewN HB1.out _⟩
     ·have b4 : (m5 == aop) = false := by rw [beq_eq_false_iff_ne]; exact g4
      clear HNO
      go_enter Tryz.func19, Tryz.ntmps19
      go_wp2_with (first | rw [<- HW1.out] | fail)
      refine HWT.mono ?_
      rintro e w2 ⟨rfl, hw2⟩
      rw [hw2]
      clear hw2 w2 HWT
      go_wp2
      go_quiet (fail)
      go_wp2
      go_ret
      exact ⟨rfl, below_drewN HB1.out _⟩
    ·skip
     have t3 := toList_ne g3
     have u3 := toList_beq g3
     have v3 := bytes_beq g3
     clear HNO
     go_enter Tryz.func19, Tryz.ntmps19
     go_wp2_with (first | rw [<- HW1.out] | fail)
     refine HWT.mono ?_
     rintro e w2 ⟨rfl, hw2⟩
     rw [hw2]
     clear hw2 w2 HWT
     go_wp2
     go_quiet (fail)
     go_wp2
     go_ret
     exact ⟨rfl, below_drewN HB1.out _⟩
   ·skip
    have t2 := toList_ne g2
    have u2 := toList_beq g2
    have v2 := bytes_beq g2
    clear HNO
    go_enter Tryz.func19, Tryz.ntmps19
    go_wp2_with (first | rw [<- HW1.out] | fail)
    refine HWT.mono ?_
    rintro e w2 ⟨rfl, hw2⟩
    rw [hw2]
    clear hw2 w2 HWT
    go_wp2
    go_quiet (fail)
    go_wp2
    go_ret
    exact ⟨rfl, below_drewN HB1.out _⟩
  ·skip
   have t1 := toList_ne g1
   have u1 := toList_beq g1
   have v1 := bytes_beq g1
   clear HNO
   go_enter Tryz.func19, Tryz.ntmps19
   go_wp2_with (first | rw [<- HW1.out] | fail)
   refine HWT.mono ?_
   rintro e w2 ⟨rfl, hw2⟩
   rw [hw2]
   clear hw2 w2 HWT
   go_wp2
   go_quiet (fail)
   go_wp2
   go_ret
   exact ⟨rfl, below_drewN HB1.out _⟩
end Go.Proofs.YtobmckfcipeanaaGreatDoor
namespace Go.Proofs.YtobmckfcipeanaaGreatDoor
open Go.RowKit
variable {w w' : World} {B : Nat} {S : Nat -> Prop} {ab : Nat} {a : MAsk} {mv nv fv lv : Value} {vs : List Value}
set_option maxRecDepth 10000 in
set_option maxHeartbeats 16000000 in
theorem rhear_refused (h : RAk w B S ab a mv nv fv lv vs) (x : Msg × Lv) (hl : a.c.L.length <= 1000) (hfl : a.from_.length <= 1000) (hta : a.takes x.1 = true) (hsh : x.1.shut = true) (hst : a.st ≠ .sealing) : Calls Tryz.prog 19 #[.pointer (some ⟨ab, 0, none⟩), .agg #[.string x.1.from_, .string x.1.to_, .string x.1.kind, .string x.1.key, .int .i64 x.1.op, .int .i64 x.1.config, .bool x.1.shut, .slice x.2.1 x.2.2.1 x.2.2.2]] w fun e w' => e = .returned (.slice none 0 0) /\ RAk w' B S ab { a with st := .refused } mv nv fv lv vs /\ Upd S S w w' := by
 obtain ⟨mp, mc, hmv, hms, hmc, hmn, hmb⟩ := h.mem.at_
 obtain ⟨fp, fc, hfv, hfs, hfc, hfn, _⟩ := h.from_.form
 have HRA : Hid (RAk w B S ab a mv nv fv lv vs) := h
 subst hmv hfv
 obtain ⟨⟨m1, m2, m3, m4, m5, m6, m7, mL⟩, lp, ln, lc⟩ := x
 dsimp only at *
 subst hsh
 obtain ⟨w1, hw1⟩ : ∃ w1, w1 = w.alloc (.cells #[.string m1, .string m2, .string m3, .string m4, .int .i64 m5, .int .i64 m6, .bool true, .slice lp ln lc] 59) := ⟨_, rfl⟩
 have hb1 : Below w.heap.size w w1 := by rw [hw1]; exact (Below.refl _ _).alloc (Nat.le_refl _) _
 have hR1 := h.below hb1
 have HWT := waits_any hR1
 have c0 : w1.cell? ⟨ab, 0, none⟩ = some (.string a.name) := hR1.cell 0
 have c1 : w1.cell? ⟨ab, 1, none⟩ = some (.string a.key) := hR1.cell 1
 have c3 : w1.cell? ⟨ab, 3, none⟩ = some (.int .i64 a.op) := hR1.cell 3
 have c4 : w1.cell? ⟨ab, 4, none⟩ = some (.int .i64 a.config) := hR1.cell 4
 have c7 : w1.cell? ⟨ab, 7, none⟩ = some (.slice mp a.c.L.length mc) := hR1.cell 7
 have c14 : w1.cell? ⟨ab, 14, none⟩ = some (.slice fp a.from_.length fc) := hR1.cell 14
 have d0 : w1.cell? ⟨w.heap.size, 0, none⟩ = some (.string m1) := by rw [hw1, World.cell?_alloc_at _ _ _ _ rfl]; rfl
 have d1 : w1.cell? ⟨w.heap.size, 1, none⟩ = some (.string m2) := by rw [hw1, World.cell?_alloc_at _ _ _ _ rfl]; rfl
 have d2 : w1.cell? ⟨w.heap.size, 2, none⟩ = some (.string m3) := by rw [hw1, World.cell?_alloc_at _ _ _ _ rfl]; rfl
 have d3 : w1.cell? ⟨w.heap.size, 3, none⟩ = some (.string m4) := by rw [hw1, World.cell?_alloc_at _ _ _ _ rfl]; rfl
 have d4 : w1.cell? ⟨w.heap.size, 4, none⟩ = some (.int .i64 m5) := by rw [hw1, World.cell?_alloc_at _ _ _ _ rfl]; rfl
 have d5 : w1.cell? ⟨w.heap.size, 5, none⟩ = some (.int .i64 m6) := by rw [hw1, World.cell?_alloc_at _ _ _ _ rfl]; rfl
 have HSM : Hid (∀ W, Below w1.heap.size w1 W -> Strs W mp a.c.L) := fun W hW => (hms.below hb1).below hW
 have HSF : Hid (∀ W, Below w1.heap.size w1 W -> Strs W fp a.from_) := fun W hW => (hfs.below hb1).below hW
 have HW1 : Hid (w1 = w.alloc (.cells #[.string m1, .string m2, .string m3, .string m4, .int .i64 m5, .int .i64 m6, .bool true, .slice lp ln lc] 59)) := hw1
 have HB1 : Hid (Below w.heap.size w w1) := hb1
 have d6 : w1.cell? ⟨w.heap.size, 6, none⟩ = some (.bool true) := by rw [hw1, World.cell?_alloc_at _ _ _ _ rfl]; rfl
 have c13 : w1.cell? ⟨ab, 13, none⟩ = some (.string a.st.word) := hR1.cell 13
 have f13 : w1.frozen? ⟨ab, 13, none⟩ = false := hR1.free 13
 have hne : ¬ a.st.word.toList = [115, 101, 97, 108, 105, 110, 103] := by cases hq : a.st <;> first | exact absurd hq hst | decide +kernel
 have hbq' : (a.st.word.toList == [115, 101, 97, 108, 105, 110, 103]) = false := by cases hq : a.st <;> first | exact absurd hq hst | decide +kernel
 have HFIN : Hid (∀ W, Below w1.heap.size w1 W -> RAk (W.setCell ⟨ab, 13, none⟩ (.string ⟨#[114, 101, 102, 117, 115, 101, 100]⟩)) B S ab { a with st := .refused } (.slice mp a.c.L.length mc) nv (.slice fp a.from_.length fc) lv vs /\ Upd S S w (W.setCell ⟨ab, 13, none⟩ (.string ⟨#[114, 101, 102, 117, 115, 101, 100]⟩))) := fun W hW => by
  have hRW := hR1.below hW
  have hbW : Below w.heap.size w W := hb1.trans (hW.mono hb1.size)
  refine ⟨hRW.set 13 _ rfl rfl rfl rfl rfl rfl rfl, ⟨hbW.os, hbW.tape, hbW.output, by simpa [World.setCell] using hbW.size, fun k hk hs => ?_, fun k hk => Or.inl hk⟩⟩
  exact (Below.heap_setCell W _ _ k (fun e => hs (by rw [e]; exact HRA.out.self))).trans (hbW.block k hk)
 obtain ⟨g0, g1, g2, g3, g4, g5, g6, g7⟩ : a.st.waits ≠ ⟨#[]⟩ /\ m3 = a.st.waits /\ m2 = a.name /\ m4 = a.key /\ m5 = a.op /\ m6 = a.config /\ m1 ∈ a.c.L /\ m1 ∉ a.from_ := by
  unfold MAsk.takes at hta
  rw [Bool.and_eq_true, Bool.and_eq_true] at hta
  obtain ⟨q1, q2, q3⟩ := hta
  have q1' := of_decide_eq_true q1
  exact ⟨q1'.1, q1'.2.1, q1'.2.2.1, q1'.2.2.2.1, q1'.2.2.2.2.1, q1'.2.2.2.2.2, inL_iff.1 q2, fun hm => by rw [inL_iff.2 hm] at q3; cases q3⟩
 have HI1 : Hid (∀ W, Below w1.heap.size w1 W -> Calls Tryz.prog 44 #[.slice mp a.c.L.length mc, .string m1] W fun e w' => e = .returned (.int .i64 ((idxN a.c.L m1 : Nat) : Int)) /\ w' = W) := fun W hW => index_hit mp a.c.L mc m1 W (by omega) (HSM.out W hW) g6
 have HI2 : Hid (∀ W, Below w1.heap.size w1 W -> Calls Tryz.prog 44 #[.slice fp a.from_.length fc, .string m1] W fun e w' => e = .returned (.int .i64 (-1)) /\ w' = W) := fun W hW => index_miss fp a.from_ fc m1 W (by omega) (HSF.out W hW) g7
 clear h hms hmb hfs hfn hmn hb1 hw1 hR1 hta hst HRA g6 g7 HSM HSF
 generalize idxN a.c.L m1 = j1 at *
 have n1 : decide ((j1 : Int) < 0) = false := decide_eq_false (by omega)
 have t0 := toList_ne g0
 have u0 := toList_beq g0
 have v0 := bytes_beq g0
 have e0 : (⟨#[]⟩ : ByteArray).toList = [] := by decide +kernel
 rw [e0] at t0 u0
 subst g1 g2 g3 g4 g5
 generalize a.st.waits = wt at *
 generalize a.st.word = sw at *
 clear g0
 go_enter Tryz.func19, Tryz.ntmps19
 go_wp2_with (first | rw [<- HW1.out] | fail)
 refine HWT.mono ?_
 rintro e w2 ⟨rfl, hw2⟩
 rw [hw2]
 clear hw2 w2 HWT
 go_wp2
 go_quiet (fail)
 generalize hwq : World.drewN w1 _ = wq
 have c7q : wq.cell? ⟨ab, 7, none⟩ = some (.slice mp a.c.L.length mc) := by rw [<- hwq]; exact c7
 have c13q : wq.cell? ⟨ab, 13, none⟩ = some (.string sw) := by rw [<- hwq]; exact c13
 have c14q : wq.cell? ⟨ab, 14, none⟩ = some (.slice fp a.from_.length fc) := by rw [<- hwq]; exact c14
 have d0q : wq.cell? ⟨w.heap.size, 0, none⟩ = some (.string m1) := by rw [<- hwq]; exact d0
 have d6q : wq.cell? ⟨w.heap.size, 6, none⟩ = some (.bool true) := by rw [<- hwq]; exact d6
 have hbq : Below w1.heap.size w1 wq := by rw [<- hwq]; exact below_drewN (Below.refl _ _) _
 have HBQ : Hid (Below w1.heap.size w1 wq) := hbq
 have f13q : wq.frozen? ⟨ab, 13, none⟩ = false := by rw [<- hwq]; exact f13
 clear hwq c0 c1 c3 c4 c7 c13 c14 d0 d1 d2 d3 d4 d5 d6 f13
 go_wp2
 go_quiet (first | (go_at_call 44; with_reducible exact Calls.quiet_of_same (HI1.out _ (below_drewN hbq _))) | (go_at_call 44; with_reducible exact Calls.quiet_of_same (HI2.out _ (below_drewN hbq _))))
 generalize hwr : World.drewN wq _ = wr
 have c13qr : wr.cell? ⟨ab, 13, none⟩ = some (.string sw) := by rw [<- hwr]; exact c13q
 have d6qr : wr.cell? ⟨w.heap.size, 6, none⟩ = some (.bool true) := by rw [<- hwr]; exact d6q
 have f13r : wr.frozen? ⟨ab, 13, none⟩ = false := by rw [<- hwr]; exact f13q
 have HBR : Hid (Below w1.heap.size w1 wr) := by rw [<- hwr]; exact below_drewN hbq _
 clear hwr c7q c13q c14q d0q d6q f13q hbq
 go_wp2
 go_ret
 exact ⟨rfl, HFIN.out wr HBR.out⟩
end Go.Proofs.YtobmckfcipeanaaGreatDoor
