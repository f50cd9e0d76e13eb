import Derived.Test.YtobmckfcipeanaaGreatDoorPB
import Derived.Test.YtobmckfcipeanaaGreatDoorZO
import Derived.BigQuiet
namespace Go.Proofs.YtobmckfcipeanaaGreatDoor
open Go.RowKit
theorem takes_parts (a : MAsk) (m : Msg) (h : a.st.waits ≠ ⟨#[]⟩) : a.takes m = (decide (m.to_ = a.name /\ m.kind = a.st.waits /\ m.key = a.key /\ m.op = a.op /\ m.config = a.config) && (inL a.c.L m.from_ && !inL a.from_ m.from_)) := by
 unfold MAsk.takes
 congr 1
 exact decide_eq_decide.2 ⟨fun g => ⟨g.2.2.1, g.2.1, g.2.2.2.1, g.2.2.2.2.1, g.2.2.2.2.2⟩, fun g => ⟨h, g.2.1, g.1, g.2.2.1, g.2.2.2.1, g.2.2.2.2⟩⟩
variable {w w' : World} {B h : Nat} {S S0 : Nat -> Prop} {a : MAsk} {mv cv : Value} {aw : ByteArray} {m : Option Nat} {D : DataW Value} {row : ByteArray -> Value}
set_option maxRecDepth 10000 in
set_option maxHeartbeats 16000000 in
theorem counts_any (hp : PAk w B h S S0 a mv cv aw m D row) (x : Msg × Lv) (hfs : x.1.from_.size <= maxLen) : Calls Tryz.prog 39 #[.pointer (some ⟨h, 0, none⟩), .agg #[.string x.1.from_, .string x.1.to_, .string x.1.kind, .string x.1.key, .int .i64 x.1.op, .int .i64 x.1.config, .bool x.1.shut, .slice x.2.1 x.2.2.1 x.2.2.2]] w fun e w' => e = .returned (.bool (a.takes x.1)) /\ Below w.heap.size w w' := by
 obtain ⟨mp, mc, hmv, hms, hmc, hmn, hmb⟩ := hp.stat.mem
 have hLl : a.c.L.length <= 1000 := by
  obtain ⟨⟨_, _, h3⟩, h4, _⟩ := cfgF_fine hp.fine.cfg
  omega
 have HTK : Hid (a.st.waits ≠ ⟨#[]⟩ -> a.takes x.1 = (decide (x.1.to_ = a.name /\ x.1.kind = a.st.waits /\ x.1.key = a.key /\ x.1.op = a.op /\ x.1.config = a.config) && (inL a.c.L x.1.from_ && !inL a.from_ x.1.from_))) := fun hw => takes_parts a x.1 hw
 obtain ⟨⟨m1, m2, m3, m4, m5, m6, m7, mL⟩, lp, ln, lc⟩ := x
 dsimp only at *
 subst hmv
 obtain ⟨w1, hw1⟩ : ∃ w1, w1 = w.alloc (.cells #[.string m1, .string m2, .string m3, .string m4, .int .i64 m5, .int .i64 m6, .bool m7, .slice lp ln lc] 57) := ⟨_, rfl⟩
 have hb1 : Below w.heap.size w w1 := by rw [hw1]; exact (Below.refl _ _).alloc (Nat.le_refl _) _
 have hP1 := hp.below hb1
 have c0 : w1.cell? ⟨h, 0, none⟩ = some (.string a.name) := hP1.cell 0
 have c1 : w1.cell? ⟨h, 1, none⟩ = some (.string a.key) := hP1.cell 1
 have c2 : w1.cell? ⟨h, 2, none⟩ = some (.int .i64 a.op) := hP1.cell 2
 have c3 : w1.cell? ⟨h, 3, none⟩ = some (.int .i64 a.config) := hP1.cell 3
 have c6 : w1.cell? ⟨h, 6, none⟩ = some (.slice mp a.c.L.length mc) := hP1.cell 6
 have c8 : w1.cell? ⟨h, 8, none⟩ = some (.string aw) := hP1.cell 8
 have c9 : w1.cell? ⟨h, 9, none⟩ = some (.map m) := hP1.cell 9
 have d0 : w1.cell? ⟨w.heap.size, 0, none⟩ = some (.string m1) := by rw [hw1, World.cell?_alloc_at _ _ _ _ rfl]; rfl
 have d1 : w1.cell? ⟨w.heap.size, 1, none⟩ = some (.string m2) := by rw [hw1, World.cell?_alloc_at _ _ _ _ rfl]; rfl
 have d2 : w1.cell? ⟨w.heap.size, 2, none⟩ = some (.string m3) := by rw [hw1, World.cell?_alloc_at _ _ _ _ rfl]; rfl
 have d3 : w1.cell? ⟨w.heap.size, 3, none⟩ = some (.string m4) := by rw [hw1, World.cell?_alloc_at _ _ _ _ rfl]; rfl
 have d4 : w1.cell? ⟨w.heap.size, 4, none⟩ = some (.int .i64 m5) := by rw [hw1, World.cell?_alloc_at _ _ _ _ rfl]; rfl
 have d5 : w1.cell? ⟨w.heap.size, 5, none⟩ = some (.int .i64 m6) := by rw [hw1, World.cell?_alloc_at _ _ _ _ rfl]; rfl
 have HW1 : Hid (w1 = w.alloc (.cells #[.string m1, .string m2, .string m3, .string m4, .int .i64 m5, .int .i64 m6, .bool m7, .slice lp ln lc] 57)) := hw1
 have HB1 : Hid (Below w.heap.size w w1) := hb1
 have HCT : Hid (∀ W, Below w1.heap.size w1 W -> Calls Tryz.prog 66 #[.slice mp a.c.L.length mc, .string m1] W fun e w' => e = .returned (.bool (inL a.c.L m1)) /\ w' = W) := fun W hW => scont_any mp a.c.L mc m1 W (by omega) ((hms.below hb1).below hW)
 by_cases hop : a.st = .looking ∨ a.st = .keeping
 ·obtain ⟨b, hmb', _, _, hH⟩ := hP1.open_ hop
  subst hmb'
  have hwt : a.st.waits = aw := by
   rcases hop with e | e
   ·rw [hP1.aw1 e, e]; rfl
   ·rw [hP1.aw2 e, e]; rfl
  have hwn : a.st.waits ≠ ⟨#[]⟩ := by
   rcases hop with e | e <;> rw [e] <;> decide +kernel
  have HTK2 := HTK.out hwn
  rw [hwt] at HTK2
  obtain ⟨lkv, hlkv⟩ : ∃ lkv, lkv = (if inL a.from_ m1 then row m1 else .slice none 0 0) := ⟨_, rfl⟩
  have HLK : Hid (∀ W : World, W.heap[b]? = w1.heap[b]? -> (Instr.lookup 75 (.map (some b)) (.string m1) true).run Tryz.prog W = .ok (.tuple #[lkv, .bool (inL a.from_ m1)]) W) := fun W hW => by rw [hlkv]; exact (hH.same hW).look2 hfs
  have HTK3 : Hid (a.takes ⟨m1, m2, m3, m4, m5, m6, m7, mL⟩ = (decide (m2 = a.name /\ m3 = aw /\ m4 = a.key /\ m5 = a.op /\ m6 = a.config) && (inL a.c.L m1 && !inL a.from_ m1))) := HTK2
  have hmn0 := map_not_nil b
  clear hp hP1 hms hmb hb1 hw1 HTK HTK2 hwt hwn hop hH hlkv hmn hfs
  generalize a.takes ⟨m1, m2, m3, m4, m5, m6, m7, mL⟩ = R at *
  generalize a.name = nm at *
  generalize a.key = ky at *
  generalize a.op = aop at *
  generalize a.config = acf at *
  by_cases g1 : m2 = nm
  ·subst g1
   by_cases g2 : m3 = aw
   ·subst g2
    by_cases g3 : m4 = ky
    ·subst g3
     by_cases g4 : m5 = aop
     ·subst g4
      by_cases g5 : m6 = acf
      ·subst g5
       have HR : Hid (R = (inL a.c.L m1 && !inL a.from_ m1)) := by show _ = _; rw [HTK3.out, decide_eq_true ⟨rfl, rfl, rfl, rfl, rfl⟩, Bool.true_and]
       clear HTK3
       generalize inL a.c.L m1 = q1 at *
       generalize inL a.from_ m1 = q2 at *
       cases q2 with
       | true =>
        go_enter Tryz.func39, Tryz.ntmps39
        go_wp2
        rw [<- HW1.out]
        go_quiet (fail)
        generalize hwq : World.drewN w1 _ = wq
        have c6q : wq.cell? ⟨h, 6, none⟩ = some (.slice mp a.c.L.length mc) := by rw [<- hwq]; exact c6
        have c9q : wq.cell? ⟨h, 9, none⟩ = some (.map (some b)) := by rw [<- hwq]; exact c9
        have d0q : wq.cell? ⟨w.heap.size, 0, none⟩ = some (.string m1) := by rw [<- hwq]; exact d0
        have hbq0 : Below w1.heap.size w1 wq := by rw [<- hwq]; exact below_drewN (Below.refl _ _) _
        have HBQ : Hid (Below w1.heap.size w1 wq) := hbq0
        have hheap : wq.heap = w1.heap := by rw [<- hwq]; rfl
        have hlk : ∀ n, (Instr.lookup 75 (.map (some b)) (.string m1) true).run Tryz.prog (wq.drewN n) = .ok (.tuple #[lkv, .bool true]) (wq.drewN n) := fun n => HLK.out (wq.drewN n) (by show wq.heap[b]? = _; rw [hheap])
        clear hwq c0 c1 c2 c3 c6 c8 c9 d0 d1 d2 d3 d4 d5 hbq0 hheap
        go_wp2
        go_quiet (fail)
        generalize hwr : World.drewN wq _ = wr
        have c6r : wr.cell? ⟨h, 6, none⟩ = some (.slice mp a.c.L.length mc) := by rw [<- hwr]; exact c6q
        have d0r : wr.cell? ⟨w.heap.size, 0, none⟩ = some (.string m1) := by rw [<- hwr]; exact d0q
        have hbr : Below w1.heap.size w1 wr := by rw [<- hwr]; exact below_drewN HBQ.out _
        have HBR : Hid (Below w1.heap.size w1 wr) := hbr
        clear hwr c6q c9q d0q hlk HBQ
        go_wp2
        go_quiet (fail)
        go_wp2
        go_ret
        exact ⟨by rw [HR.out]; simp, below_drewN (HB1.out.trans (HBR.out.mono HB1.out.size)) _⟩
       | false =>
        go_enter Tryz.func39, Tryz.ntmps39
        go_wp2
        rw [<- HW1.out]
        go_quiet (fail)
        generalize hwq : World.drewN w1 _ = wq
        have c6q : wq.cell? ⟨h, 6, none⟩ = some (.slice mp a.c.L.length mc) := by rw [<- hwq]; exact c6
        have c9q : wq.cell? ⟨h, 9, none⟩ = some (.map (some b)) := by rw [<- hwq]; exact c9
        have d0q : wq.cell? ⟨w.heap.size, 0, none⟩ = some (.string m1) := by rw [<- hwq]; exact d0
        have hbq0 : Below w1.heap.size w1 wq := by rw [<- hwq]; exact below_drewN (Below.refl _ _) _
        have HBQ : Hid (Below w1.heap.size w1 wq) := hbq0
        have hheap : wq.heap = w1.heap := by rw [<- hwq]; rfl
        have hlk : ∀ n, (Instr.lookup 75 (.map (some b)) (.string m1) true).run Tryz.prog (wq.drewN n) = .ok (.tuple #[lkv, .bool false]) (wq.drewN n) := fun n => HLK.out (wq.drewN n) (by show wq.heap[b]? = _; rw [hheap])
        clear hwq c0 c1 c2 c3 c6 c8 c9 d0 d1 d2 d3 d4 d5 hbq0 hheap
        go_wp2
        go_quiet (fail)
        generalize hwr : World.drewN wq _ = wr
        have c6r : wr.cell? ⟨h, 6, none⟩ = some (.slice mp a.c.L.length mc) := by rw [<- hwr]; exact c6q
        have d0r : wr.cell? ⟨w.heap.size, 0, none⟩ = some (.string m1) := by rw [<- hwr]; exact d0q
        have hbr : Below w1.heap.size w1 wr := by rw [<- hwr]; exact below_drewN HBQ.out _
        have HBR : Hid (Below w1.heap.size w1 wr) := hbr
        clear hwr c6q c9q d0q hlk HBQ
        go_wp2
        go_quiet ((go_at_call 66; with_reducible exact Calls.quiet_of_same (HCT.out _ (below_drewN hbr _))))
        go_wp2
        go_ret
        exact ⟨by rw [HR.out]; simp, below_drewN (HB1.out.trans (HBR.out.mono HB1.out.size)) _⟩
      ·skip
       have HR : Hid (R = false) := by show _ = _; rw [HTK3.out, decide_eq_false (fun hq => g5 hq.2.2.2.2), Bool.false_and]
       clear HTK3 HCT HLK
       have b5 : (m6 == acf) = false := by rw [beq_eq_false_iff_ne]; exact g5
       go_enter Tryz.func39, Tryz.ntmps39
       go_wp2
       rw [<- HW1.out]
       go_quiet (fail)
       go_wp2
       go_ret
       exact ⟨by rw [HR.out]; rfl, below_drewN HB1.out _⟩
     ·skip
      have HR : Hid (R = false) := by show _ = _; rw [HTK3.out, decide_eq_false (fun hq => g4 hq.2.2.2.1), Bool.false_and]
      clear HTK3 HCT HLK
      have b4 : (m5 == aop) = false := by rw [beq_eq_false_iff_ne]; exact g4
      go_enter Tryz.func39, Tryz.ntmps39
      go_wp2
      rw [<- HW1.out]
      go_quiet (fail)
      go_wp2
      go_ret
      exact ⟨by rw [HR.out]; rfl, below_drewN HB1.out _⟩
    ·skip
     have HR : Hid (R = false) := by show _ = _; rw [HTK3.out, decide_eq_false (fun hq => g3 hq.2.2.1), Bool.false_and]
     clear HTK3 HCT HLK
     have t3 := toList_ne g3
     have u3 := toList_beq g3
     have v3 := bytes_beq g3
     go_enter Tryz.func39, Tryz.ntmps39
     go_wp2
     rw [<- HW1.out]
     go_quiet (fail)
     go_wp2
     go_ret
     exact ⟨by rw [HR.out]; rfl, below_drewN HB1.out _⟩
   ·skip
    have HR : Hid (R = false) := by show _ = _; rw [HTK3.out, decide_eq_false (fun hq => g2 hq.2.1), Bool.false_and]
    clear HTK3 HCT HLK
    have t2 := toList_ne g2
    have u2 := toList_beq g2
    have v2 := bytes_beq g2
    go_enter Tryz.func39, Tryz.ntmps39
    go_wp2
    rw [<- HW1.out]
    go_quiet (fail)
    go_wp2
    go_ret
    exact ⟨by rw [HR.out]; rfl, below_drewN HB1.out _⟩
  ·skip
   have HR : Hid (R = false) := by show _ = _; rw [HTK3.out, decide_eq_false (fun hq => g1 hq.1), Bool.false_and]
   clear HTK3 HCT HLK
   have t1 := toList_ne g1
   have u1 := toList_beq g1
   have v1 := bytes_beq g1
   go_enter Tryz.func39, Tryz.ntmps39
   go_wp2
   rw [<- HW1.out]
   go_quiet (fail)
   go_wp2
   go_ret
   exact ⟨by rw [HR.out]; rfl, below_drewN HB1.out _⟩
 ·have hm0 : m = none := hP1.shut (by
   have h1 := hP1.fine.st
   cases hs : a.st with
   | looking => exact absurd (Or.inl hs) hop
   | sealing => exact absurd hs h1
   | keeping => exact absurd (Or.inr hs) hop
   | done => exact Or.inl rfl
   | refused => exact Or.inr rfl)
  have HR : Hid (a.takes ⟨m1, m2, m3, m4, m5, m6, m7, mL⟩ = false) := by
   have h1 := hP1.fine.st
   show _ = _
   unfold MAsk.takes
   have e : a.st.waits = ⟨#[]⟩ := by
    cases hs : a.st with
    | looking => exact absurd (Or.inl hs) hop
    | sealing => exact absurd hs h1
    | keeping => exact absurd (Or.inr hs) hop
    | done => rfl
    | refused => rfl
   rw [decide_eq_false (fun hq => hq.1 e), Bool.false_and]
  subst hm0
  have hmn0 := map_is_nil
  clear hp hP1 hms hmb hb1 hw1 HTK hop hmn HCT
  generalize a.takes ⟨m1, m2, m3, m4, m5, m6, m7, mL⟩ = R at *
  go_enter Tryz.func39, Tryz.ntmps39
  go_wp2
  rw [<- HW1.out]
  go_quiet (fail)
  go_wp2
  go_ret
  exact ⟨by rw [HR.out]; rfl, below_drewN HB1.out _⟩
end Go.Proofs.YtobmckfcipeanaaGreatDoor
