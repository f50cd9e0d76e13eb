/- Package ring: firstNodes: from a number on, around. -/
import Derived.Test.YtakfjkphmfblaaaGreatDoorRgPtsW
import Derived.Test.YtakfjkphmfblaaaGreatDoorRgConW
import Derived.Test.YtakfjkphmfblaaaGreatDoorRgSlW
import Derived.Test.YtakfjkphmfblaaaGreatDoorOwnTB
import Derived.Deep.OwnRows
namespace Go.Proofs.YtakfjkphmfblaaaGreatDoor
open Go.RowKit Ring Go.Sort
set_option maxRecDepth 10000 in
theorem sclone_any (s : ByteArray) (w : World) (hs : s.size ≤ 1000000) : Calls Tryz.prog 28 #[.string s] w fun e w' => e = .returned (.string s) ∧ Below w.heap.size w w' := by
  have HC := Tryz.stringslite_Clone s w (by omega)
  go_enter Tryz.func28, Tryz.ntmps28
  go_wp2_with fail
  refine HC.mono ?_
  rintro e w1 ⟨rfl, hb1⟩
  clear HC
  go_wp2
  go_ret
  exact ⟨rfl, hb1⟩
set_option maxRecDepth 10000 in
theorem atleast_any (h B : Nat) (w : World) (hB : B < w.heap.size) (hcell : w.cell? ⟨B, 0, none⟩ = some (.int .u32 (h : Int))) :
    PredBelow Tryz.prog 55 #[.pointer (some ⟨B, 0, none⟩)] (fun x => .agg (pEnc x).toArray) (fun x : Pt => decide (h ≤ x.1)) w := fun W x hb => by
  have hc : W.cell? ⟨B, 0, none⟩ = some (.int .u32 (h : Int)) := (hb.cell (p := ⟨B, 0, none⟩) hB).trans hcell
  have hBW : B < W.heap.size := Nat.lt_of_lt_of_le hB hb.size
  have hne : B ≠ W.heap.size := by omega
  obtain ⟨a, y, i⟩ := x
  have HB2 : Hid (Below w.heap.size w (W.alloc (.cells #[.int .u32 (a : Int), .string y, .int .i64 (i : Int)] 92))) := hb.alloc hb.size _
  show Calls Tryz.prog 55 #[.agg #[.int .u32 (a : Int), .string y, .int .i64 (i : Int)], .pointer (some ⟨B, 0, none⟩)] W fun e w' => e = .returned (.bool (decide (h ≤ a))) ∧ _
  clear hb hcell
  by_cases hle : h ≤ a
  · have HE : Hid (decide (h ≤ a) = true) := decide_eq_true hle
    have d1 : decide ((h : Int) ≤ (a : Int)) = true := decide_eq_true (by omega)
    rw [HE.out]
    go_enter Tryz.func55, Tryz.ntmps55
    go_wp2
    go_ret
    exact ⟨rfl, HB2.out⟩
  · have HE : Hid (decide (h ≤ a) = false) := decide_eq_false hle
    have d1 : decide ((h : Int) ≤ (a : Int)) = false := decide_eq_false (by omega)
    rw [HE.out]
    go_enter Tryz.func55, Tryz.ntmps55
    go_wp2
    go_ret
    exact ⟨rfl, HB2.out⟩
/-- Where the first point stands that is not below h: f (M: none), as Go tells it r, from which one begins f'. -/
theorem first_cases (h : Nat) (nodes : List ByteArray) (ps : List Pt) (hr : RingP nodes ps) (h1 : 1 ≤ nodes.length) :
    ∃ f f' : Nat, ∃ r : Int, Lib.idxBy (fun _ y : Pt => decide (h ≤ y.1)) (ps.take ps.length) default = r ∧ (r = -1 ∧ f' = 0 ∨ r = (f' : Int)) ∧ f' ≤ ps.length ∧ RingR h nodes (turned h f ps.length (qOf ps)) ps.length ∧ ∀ j, j < ps.length → (turned h f ps.length (qOf ps) j).2 = (qOf ps ((f' + j) % ps.length)).2 := by
  have hM : 0 < ps.length := by rw [hr.len]; omega
  have hlt : ∀ i, i < ps.length → (qOf ps i).1 < 4294967296 := fun i hi => by
    obtain ⟨_, k, _, e⟩ := hr.mem i hi
    rw [e]
    exact hashOf_lt _
  have hget : ∀ i, i < ps.length → (ps[i]!).1 = (qOf ps i).1 := fun i hi => by rw [qOf_get hi, getElem!_pos ps i hi]; rfl
  by_cases hex : ∃ i, i < ps.length ∧ h ≤ (qOf ps i).1
  · -- the least such
    obtain ⟨f, hf, hle, hmin⟩ : ∃ f, f < ps.length ∧ h ≤ (qOf ps f).1 ∧ ∀ i, i < f → (qOf ps i).1 < h := by
      obtain ⟨i, hi⟩ := hex
      induction i using Nat.strongRecOn with
      | ind i ih =>
        by_cases hs : ∃ j, j < i ∧ h ≤ (qOf ps j).1
        · obtain ⟨j, hj, hle⟩ := hs
          exact ih j hj ⟨by omega, hle⟩
        · refine ⟨i, hi.1, hi.2, fun j hj => ?_⟩
          rcases Nat.lt_or_ge (qOf ps j).1 h with h3 | h3
          · exact h3
          · exact absurd ⟨j, hj, h3⟩ hs
    refine ⟨f, f, (f : Int), ?_, Or.inr rfl, by omega, ringR_of hM (by omega) hlt hr.sorted hmin (fun i h2 h3 => ?_) hr.mem hr.all, fun j _ => rfl⟩
    · have := Lib.idxBy_hit (fun _ y : Pt => decide (h ≤ y.1)) ps ps.length f default hf (Nat.le_refl _) (decide_eq_true (by rw [hget f hf]; exact hle)) (fun j hj => decide_eq_false (by rw [hget j (by omega)]; have := hmin j hj; omega))
      exact this
    · by_cases e : i = f
      · rw [e]; exact hle
      · have h4 := hr.sorted f i (by omega) h3
        rcases Nat.lt_or_ge (qOf ps i).1 (qOf ps f).1 with h5 | h5
        · exact absurd (Or.inl h5) h4
        · omega
  · have hall : ∀ i, i < ps.length → (qOf ps i).1 < h := fun i hi => by
      rcases Nat.lt_or_ge (qOf ps i).1 h with h3 | h3
      · exact h3
      · exact absurd ⟨i, hi, h3⟩ hex
    refine ⟨ps.length, 0, -1, ?_, Or.inl ⟨rfl, rfl⟩, Nat.zero_le _, ringR_of hM (Nat.le_refl _) hlt hr.sorted hall (fun i h2 h3 => by omega) hr.mem hr.all, fun j hj => ?_⟩
    · exact Lib.idxBy_miss (fun _ y : Pt => decide (h ≤ y.1)) ps ps.length default (fun j hj => decide_eq_false (by rw [hget j hj]; have := hall j hj; omega))
    · unfold turned
      rw [Nat.zero_add, Nat.add_mod_left]
/-- Points from f' on, around. -/
theorem around_at (ps : List Pt) (f j : Nat) (hf : f ≤ ps.length) (hj : j < ps.length) : (ps.drop f ++ ps.take f)[j]? = ps[(f + j) % ps.length]? := by
  rcases Nat.lt_or_ge (f + j) ps.length with h | h
  · rw [List.getElem?_append_left (by rw [List.length_drop]; omega), List.getElem?_drop, Nat.mod_eq_of_lt h]
  · rw [List.getElem?_append_right (by rw [List.length_drop]; omega), List.length_drop, List.getElem?_take_of_lt (by omega), Nat.mod_eq_sub_mod h, Nat.mod_eq_of_lt (by omega)]
    congr 1
    omega
theorem run_pts_from (p : Option Addr) (l : List Pt) (c k : Nat) (hk : k ≤ l.length) (W : World) : Sem.run Tryz.prog (Instr.slice 71 (.slice p l.length c) (some (.int .i64 (k : Int))) none none) W = .ok (.slice (if c = k then p else p.map (·.add (k * 3))) (l.drop k).length (c - k)) W := by
  have hsz : (sizeOf (Tryz.prog.elem 71)).run Tryz.prog W = .ok 3 W := by kernel_rfl
  have hel : Tryz.prog.elem 71 = 92 := by kernel_rfl
  have hun : Tryz.prog.underlying 71 = some (.slice (Tryz.prog.elem 71)) := by rw [hel]; exact Tryz.underlying71
  rw [run_slice_l W 71 p l.length c hun .i64 (k : Int) (by omega) (by omega), hsz]
  simp [Result.andThen, sliced]
theorem run_pts_to (p : Option Addr) (l : List Pt) (c k : Nat) (hk : k ≤ l.length) (hc : l.length ≤ c) (W : World) : Sem.run Tryz.prog (Instr.slice 71 (.slice p l.length c) none (some (.int .i64 (k : Int))) none) W = .ok (.slice p (l.take k).length c) W := by
  have hsz : (sizeOf (Tryz.prog.elem 71)).run Tryz.prog W = .ok 3 W := by kernel_rfl
  have hel : Tryz.prog.elem 71 = 92 := by kernel_rfl
  have hun : Tryz.prog.underlying 71 = some (.slice (Tryz.prog.elem 71)) := by rw [hel]; exact Tryz.underlying71
  have hl : (l.take k).length = k := by rw [List.length_take]; omega
  rw [run_slice_h W 71 p l.length c hun .i64 (k : Int) (by omega) (by omega), hsz, hl]
  simp [Result.andThen, sliced, Addr.add]
theorem strinfo : (Tryz.prog.info? 9).map (fun i => (i.zero, i.size, i.bytes)) = some (some (.string ⟨#[]⟩), 1, 16) := by kernel_rfl
theorem run_make_strs (n : Nat) (hn : n ≤ 1000) (W : World) : Sem.run Tryz.prog (Instr.makeSlice 22 (.int .i64 0) (.int .i64 (n : Int))) W = .ok (.slice (some ⟨W.heap.size, 0, none⟩) 0 n) (W.alloc (.cells (madeCells #[.string ⟨#[]⟩] n) 9)) := by
  obtain ⟨i0, hi0, hz0, hz1, hzb⟩ := info_parts strinfo
  have hr := run_make (P := Tryz.prog) W 22 9 i0 (.string ⟨#[]⟩) Tryz.underlying22 hi0 hz0 .i64 .i64 0 n (by omega) (by omega) (by rw [hzb]; omega) (by omega)
  simp only [Int.toNat_natCast, hz1, Nat.mul_one] at hr
  exact hr
theorem made_strs (n : Nat) (hn : n ≤ 1000) (W : World) : OwnT (W.alloc (.cells (madeCells #[.string ⟨#[]⟩] n) 9)) W.heap.size (.slice (some ⟨W.heap.size, 0, none⟩) 0 n) [] := by
  refine ⟨rfl, Or.inr ⟨W.heap.size, n, madeCells #[.string ⟨#[]⟩] n, rfl, Nat.le_refl _, ?_, Nat.zero_le _, by unfold maxLen; omega, by simp [madeCells], by simp⟩⟩
  rw [heap_alloc_new]
/-- Since w4 nothing that lay there was written but block b; v lies in b or behind. -/
structure Side (b : Nat) (w4 : World) (v : Value) (w : World) : Prop where
  os : w.os = w4.os
  tape : w.tape = w4.tape
  output : w.output = w4.output
  size : w4.heap.size ≤ w.heap.size
  block : ∀ k, k < w4.heap.size → k ≠ b → w.heap[k]? = w4.heap[k]?
  own : ∀ k, v.ownBlock = some k → k = b ∨ w4.heap.size ≤ k
theorem Side.start {b : Nat} {w4 : World} {v : Value} (h : v.ownBlock = some b) : Side b w4 v w4 := ⟨rfl, rfl, rfl, Nat.le_refl _, fun _ _ _ => rfl, fun k hk => Or.inl (by rw [h] at hk; exact (Option.some.inj hk).symm)⟩
theorem Side.below {b : Nat} {w4 w w' : World} {v : Value} (h : Side b w4 v w) (hb : Below w.heap.size w w') : Side b w4 v w' := ⟨hb.os.trans h.os, hb.tape.trans h.tape, hb.output.trans h.output, Nat.le_trans h.size hb.size, fun k hk hne => (hb.block k (Nat.lt_of_lt_of_le hk h.size)).trans (h.block k hk hne), h.own⟩
theorem Side.app {b : Nat} {w4 w w' : World} {v v' : Value} (h : Side b w4 v w) (hg : w.grownBy w' v.ownBlock) (hv : v'.ownBlock = v.ownBlock ∨ v'.ownBlock = some w.heap.size) : Side b w4 v' w' := by
  obtain ⟨h1, h2, h3, h4, h5⟩ := hg
  refine ⟨h1.trans h.os, h2.trans h.tape, h3.trans h.output, Nat.le_trans h.size h4, fun k hk hne => (h5 k (Nat.lt_of_lt_of_le hk h.size) (fun e => ?_)).trans (h.block k hk hne), fun k hk => ?_⟩
  · rcases h.own k e.symm with h6 | h6
    · exact hne h6
    · omega
  · rcases hv with h6 | h6
    · exact h.own k (by rw [← h6]; exact hk)
    · rw [h6] at hk
      exact Or.inr (by rw [← Option.some.inj hk]; exact h.size)
theorem Side.toBelow {b : Nat} {w4 w : World} {v : Value} (h : Side b w4 v w) (hb : b ≤ w4.heap.size) : Below b w4 w := ⟨h.os, h.tape, h.output, h.size, fun k hk => h.block k (by omega) (by omega)⟩
theorem Side.cell {b : Nat} {w4 w : World} {v : Value} (h : Side b w4 v w) {p : Addr} (hp : p.block < w4.heap.size) (hne : p.block ≠ b) : w.cell? p = w4.cell? p := by
  unfold World.cell?
  rw [h.block p.block hp hne]
theorem wpList_append_strW {w : World} {ops : Array Oper} {rest : List Oper} {o : Oper} {a : Act} {Q : Exit → Act → World → Prop} (hgd : o.guard = none) (s x : Operand)
    (ho : o.op = .call { callee := .builtin .append, args := #[s, x], argTypes := #[22, 22] })
    (B : Nat) (v : Value) (l : List ByteArray) (hs : a.eval s = v) (hown : OwnT w B v l) (ad : Addr) (t : ByteArray) (c : Nat) (hx : a.eval x = .slice (some ad) 1 c) (hq : w.cell? ad = some (.string t)) (hl : l.length + 1 ≤ 1000000) (hbase : B ≤ w.heap.size)
    (h : ∀ v' w', OwnT w' B v' (l ++ [t]) → w.grownBy w' v.ownBlock → (v'.ownBlock = v.ownBlock ∨ v'.ownBlock = some w.heap.size) → wpList Tryz.prog ops Q rest (a.put o.dst v') w') : wpList Tryz.prog ops Q (o :: rest) a w := by
  obtain ⟨i0, hi0, hz0, hz1, hzb⟩ := info_parts strinfo
  refine wpList_append_val hgd s x _ ho B 9 i0 (.string ⟨#[]⟩) 16 Tryz.underlying22 hi0 hz0 rfl hz1 hzb (by decide) v (l.map Value.string) hs hown ad c (.string t) rfl hx hq (by rw [List.length_map]; exact hl) hbase fun v' w' h1 h2 h3 => h v' w' ?_ h2 h3
  unfold OwnT
  rw [List.map_append]
  exact h1
end Go.Proofs.YtakfjkphmfblaaaGreatDoor
