/- Texts laid together. -/
import Derived.Test.YtmbpfbhpmafheaaGreatDoorHs4
import Derived.Lib.AppendZerosOnto
import Derived.Lib.Overlaps
import Derived.Laws.CopyRow
import Derived.Deep.RegionLaw
import Derived.Deep.Heap
import Derived.Sort.Grow
import Derived.StillTailTactics
namespace Go.Proofs.YtmbpfbhpmafheaaGreatDoor
open Go.RowKit
/-- copy of records of k cells into a row that is known whole. -/
theorem run_copy_k {P : Program} (w : World) (dT sT ty elem : TypeId) (g o dLen dCap : Nat) (a : Addr) (sLen sCap : Nat) (cur : Array Value) (t : TypeId) (cs : List Value) (k : Nat)
    (hu : P.underlying dT = some (.slice elem)) (hs : (P.info? elem).map (·.size) = some k) (hg : w.heap[g]? = some (.cells cur t (0, 0))) (hn : cs.length = Nat.min sLen dLen * k)
    (hsrc : ∀ j v, cs[j]? = some v → w.cell? (a.add j) = some v) (hfit : o + cs.length ≤ cur.size) (h1 : ∀ v ∈ cs, v.oneCell' = true) :
    (Builtin.copy_ #[dT, sT] ty #[.slice (some ⟨g, o, none⟩) dLen dCap, .slice (some a) sLen sCap]).run P w = .ok (goInt (Nat.min sLen dLen)) (w.setRow g (cur.toList.take o ++ cs ++ cur.toList.drop (o + cs.length)).toArray) := by
  have hl := run_loadCells_list (P := P) w a cs hsrc
  have hst := run_storeCells_at P g o t cs 0 cur w hg (by simpa using hfit) h1
  cases hq : P.info? elem with
  | none => simp [hq] at hs
  | some i =>
    have hi : i.size = k := by simpa [hq] using hs
    simp [Builtin.copy_, run_underlying hu, Builtin.lenOf, Builtin.firstCells, sizeOf, typeInfo, hq, hi, ← hn, hl, hst]
theorem step_copy_k {P : Program} {ops : Array Oper} {o : Oper} {a : Act} {w : World} {K : Act → World → Prop} {Q : Exit → Act → World → Prop} {E : Prop} (hgd : o.guard = none) (d s : Operand) (dT sT : TypeId)
    (ho : o.op = .call { callee := .builtin .copy, args := #[d, s], argTypes := #[dT, sT] }) (v u : Value) (hd : a.eval d = v) (hs : a.eval s = u) {v' : Value} {w' : World} (hr : ∀ ty, (Builtin.copy_ #[dT, sT] ty #[v, u]).run P w = .ok v' w') (hK : K (a.put o.dst v') w') :
    if Region.wanted o (yielded ops a.tmps) = true then Oper.wp P o a w K Q else E := by
  rw [if_pos (by simp [Region.wanted, hgd])]
  unfold Oper.wp
  simp [execOp, ho, resolve, invoke, builtin, hd, hs, hr, Result.andThen]
  exact hK
theorem wpList_copy_k {P : Program} {w : World} {ops : Array Oper} {rest : List Oper} {o : Oper} {a : Act} {Q : Exit → Act → World → Prop} (hgd : o.guard = none) (d s : Operand) (dT sT : TypeId)
    (ho : o.op = .call { callee := .builtin .copy, args := #[d, s], argTypes := #[dT, sT] }) (v u : Value) (hd : a.eval d = v) (hs : a.eval s = u) {v' : Value} {w' : World} (hr : ∀ ty, (Builtin.copy_ #[dT, sT] ty #[v, u]).run P w = .ok v' w')
    (h : wpList P ops Q rest (a.put o.dst v') w') : wpList P ops Q (o :: rest) a w := by
  refine wpList_plain hgd fun K hK => ?_
  unfold Oper.wp
  simp [execOp, ho, resolve, invoke, builtin, hd, hs, hr, Result.andThen]
  exact hK _ _ h
theorem plain_block {w : World} {b : Nat} {cs : Array Value} {t : TypeId} (h : w.heap[b]? = some (.cells cs t (0, 0))) : w.shape? b = some (t, cs.size) ∧ ∀ o, w.frozen? ⟨b, o, none⟩ = false := by
  constructor
  · simp [World.shape?, h]
  · intro o
    simp [World.frozen?, h]
theorem versize : (Tryz.prog.info? 49).map (·.size) = some 5 := by
  obtain ⟨i0, hi0, h0, h1, h2⟩ := info_parts verinfo
  rw [hi0]
  simp [h1]
/-- One put between. -/
def insV (l : List Ver) (i : Nat) (x : Ver) : List Ver := l.take i ++ [x] ++ l.drop i
theorem insV_length {l : List Ver} {i : Nat} (hi : i ≤ l.length) (x : Ver) : (insV l i x).length = l.length + 1 := by
  unfold insV
  simp
  omega
theorem recVals_ins (l : List Ver) (i : Nat) (x : Ver) : recVals verE (insV l i x) = recVals verE (l.take i) ++ (verC x ++ recVals verE (l.drop i)) := by
  unfold insV
  rw [recVals_append, recVals_append, recVals_one, List.append_assoc]
  rfl
theorem len5 (l : List Ver) : (recVals verE l).length = l.length * 5 := recVals_length verE l
/-- What a call of Insert leaves. -/
def InsOk (w w' : World) (v : Value) (l : List Ver) (i : Nat) (x : Ver) (e : Ending) : Prop :=
  ∃ v', e = .returned v' ∧ OwnR verE 49 w' 0 v' (insV l i x) ∧ w.grownBy w' v.ownBlock ∧ ((v'.ownBlock = v.ownBlock ∧ v.ownBlock ≠ none) ∨ ∃ k, v'.ownBlock = some k ∧ w.heap.size ≤ k)
theorem splice_shift {α : Type} (A B R X : List α) (k : Nat) (hX : X.length = k) (hR : k ≤ R.length) (cur : List α) (hc : cur = A ++ (B ++ R)) :
    (((cur.take (A.length + k) ++ B ++ cur.drop (A.length + k + B.length)).take A.length) ++ X ++ ((cur.take (A.length + k) ++ B ++ cur.drop (A.length + k + B.length)).drop (A.length + X.length))).take (A.length + k + B.length) = A ++ (X ++ B) := by
  subst hc
  have e1 : (A ++ (B ++ R)).take (A.length + k) = A ++ (B ++ R).take k := by rw [List.take_append, List.take_of_length_le (Nat.le_add_right _ _), Nat.add_sub_cancel_left]
  have e2 : ((B ++ R).take k).length = k := by rw [List.length_take, List.length_append]; omega
  rw [e1]
  have e3 : (A ++ (B ++ R).take k ++ B ++ (A ++ (B ++ R)).drop (A.length + k + B.length)).take A.length = A := by
    rw [List.append_assoc, List.append_assoc, List.take_left]
  have e4 : (A ++ (B ++ R).take k ++ B ++ (A ++ (B ++ R)).drop (A.length + k + B.length)).drop (A.length + X.length) = B ++ (A ++ (B ++ R)).drop (A.length + k + B.length) := by
    rw [List.append_assoc (A ++ (B ++ R).take k)]
    exact List.drop_left' (by rw [List.length_append, e2, hX])
  rw [e3, e4, ← List.append_assoc, List.take_append_of_le_length (by simp only [List.length_append]; omega), List.take_of_length_le (by simp only [List.length_append]; omega), List.append_assoc]
theorem splice_grow {α : Type} (A B Z X : List α) (k : Nat) (hX : X.length = k) :
    ((((A ++ Z).take A.length ++ X ++ (A ++ Z).drop (A.length + X.length)).take (A.length + k)) ++ B ++ (((A ++ Z).take A.length ++ X ++ (A ++ Z).drop (A.length + X.length)).drop (A.length + k + B.length))).take (A.length + k + B.length) = A ++ (X ++ B) := by
  have e1 : (A ++ Z).take A.length = A := by rw [List.take_left]
  rw [e1]
  have e2 : (A ++ X ++ (A ++ Z).drop (A.length + X.length)).take (A.length + k) = A ++ X := List.take_left' (by rw [List.length_append, hX])
  rw [e2, List.take_append_of_le_length (by simp only [List.length_append]; omega), List.take_of_length_le (by simp only [List.length_append]; omega), List.append_assoc]
/-- append of one version, and where the row lies then. -/
theorem append_at (w : World) (v : Value) (l : List Ver) (x : Ver) (hl : l.length ≤ 1000) (hO : OwnR verE 49 w 0 v l) (vb vc : Nat) (hx : ∀ j u, (verC x)[j]? = some u → w.cell? ⟨vb, j, none⟩ = some u) :
    ∃ v' w', (∀ ty, (Builtin.append_ #[57, 57] ty #[v, .slice (some ⟨vb, 0, none⟩) 1 vc]).run Tryz.prog w = .ok v' w') ∧ OwnR verE 49 w' 0 v' (l ++ [x]) ∧ w.grownBy w' v.ownBlock ∧ ((v'.ownBlock = v.ownBlock ∧ v.ownBlock ≠ none) ∨ ∃ k, v'.ownBlock = some k ∧ w.heap.size ≤ k) := by
  obtain ⟨i0, hi0, hz0, hz1, hzb⟩ := info_parts verinfo
  have hnl : (verC x).length = 1 * 5 := rfl
  have hne : ∀ j u, (verC x)[j]? = some u → w.cell? ((⟨vb, 0, none⟩ : Addr).add j) = some u := fun j u hj => by rw [Addr.add_lit, Nat.zero_add]; exact hx j u hj
  have h1 : ∀ u ∈ verC x, u.oneCell' = true := verE.one x
  obtain ⟨v', w', hr, ho, hg, hnil⟩ := run_append_own (P := Tryz.prog) w 0 57 0 49 i0 _ 5 48 Tryz.underlying57 hi0 hz0 hz1 hzb rfl (by decide) v l.length (recVals verE l) hO ⟨vb, 0, none⟩ 1 vc (verC x) hnl hne h1 (by unfold maxLen; omega) (by omega) (Nat.zero_le _)
  refine ⟨v', w', fun ty => ?_, ?_, hg, ?_⟩
  · have : ∀ ty, (Builtin.append_ #[57, 57] ty #[v, .slice (some ⟨vb, 0, none⟩) 1 vc]).run Tryz.prog w = (Builtin.append_ #[57, 57] 0 #[v, .slice (some ⟨vb, 0, none⟩) 1 vc]).run Tryz.prog w := fun _ => rfl
    rw [this, hr]
  · show World.ownsRow _ _ _ _ _ _ _
    rw [recVals_append, recVals_one, List.length_append]
    exact ho
  · rcases hO.2 with ⟨rfl, hz⟩ | ⟨g, cap, cur, rfl, hbg, hgb, hnc, hcm, hcs, htake⟩
    · refine Or.inr ?_
      have hl0 : l = [] := List.length_eq_zero_iff.1 hz
      subst hl0
      have hr2 := run_append_nil (P := Tryz.prog) w 57 0 49 i0 _ Tryz.underlying57 hi0 hz0 ⟨vb, 0, none⟩ 1 vc (verC x) (by rw [hz1]; rfl) hne (by omega) (by omega) (by rw [hzb]; omega)
      rw [hr] at hr2
      injection hr2 with h2 _
      rw [h2]
      exact ⟨_, rfl, Nat.le_refl _⟩
    · by_cases hroom : l.length + 1 ≤ cap
      · have hr2 := run_append_room (P := Tryz.prog) w 57 0 49 i0 Tryz.underlying57 hi0 g l.length cap cur hgb ⟨vb, 0, none⟩ 1 vc (verC x) (by rw [hz1]; rfl) hne h1 hroom (by rw [hz1, hcs]; show l.length * 5 + 5 ≤ cap * verE.k; have : verE.k = 5 := rfl; rw [this]; omega)
        rw [hr] at hr2
        injection hr2 with h2 _
        rw [h2]
        exact Or.inl ⟨rfl, by simp [Value.ownBlock]⟩
      · refine Or.inr ?_
        have hr2 := run_append_grow (P := Tryz.prog) w 57 0 49 i0 _ Tryz.underlying57 hi0 hz0 ⟨g, 0, none⟩ l.length cap (recVals verE l) (by rw [hz1]; exact recVals_length verE l) (World.ownsRow.cells hO rfl) ⟨vb, 0, none⟩ 1 vc (verC x) (by rw [hz1]; rfl) hne (by omega) (by omega) (by rw [hzb]; exact growslice_fits (by omega) (by omega))
        rw [hr] at hr2
        injection hr2 with h2 _
        rw [h2]
        exact ⟨_, rfl, Nat.le_refl _⟩
theorem wpList_append_runV {P : Program} {w : World} {ops : Array Oper} {rest : List Oper} {o : Oper} {a : Act} {Q : Exit → Act → World → Prop} (hgd : o.guard = none) (s x : Operand) (t t2 : TypeId)
    (ho : o.op = .call { callee := .builtin .append, args := #[s, x], argTypes := #[t, t2] }) (v u : Value) (hs : a.eval s = v) (hx : a.eval x = u) {v' : Value} {w' : World} (hr : ∀ ty, (Builtin.append_ #[t, t2] ty #[v, u]).run P w = .ok v' w')
    (h : wpList P ops Q rest (a.put o.dst v') w') : wpList P ops Q (o :: rest) a w := by
  refine wpList_plain hgd fun K hK => ?_
  unfold Oper.wp
  simp [execOp, ho, resolve, invoke, builtin, hs, hx, hr, Result.andThen]
  exact hK _ _ h
set_option maxRecDepth 10000 in
set_option maxHeartbeats 4000000 in
/-- At the end. -/
theorem insert_end (v : Value) (l : List Ver) (x : Ver) (vb vc : Nat) (w : World) (hl : l.length ≤ 1000) (hO : OwnR verE 49 w 0 v l) (hx : ∀ j u, (verC x)[j]? = some u → w.cell? ⟨vb, j, none⟩ = some u) :
    Calls Tryz.prog 41 #[v, .int .i64 (l.length : Int), .slice (some ⟨vb, 0, none⟩) 1 vc] w fun e w' => InsOk w w' v l l.length x e := by
  obtain ⟨v', w', hr, ho, hg, hwh⟩ := append_at w v l x hl hO vb vc hx
  have HI : Hid (InsOk w w' v l l.length x (.returned v')) := ⟨v', rfl, by unfold insV; rw [List.take_length, List.drop_length, List.append_nil]; exact ho, hg, hwh⟩
  obtain ⟨p, c, hv, _, hlc, hpn, _⟩ := hO.form
  clear ho hg hwh hx hO
  generalize l.length = n at *
  subst hv
  have HPN : Hid (p = none → n = 0 ∧ c = 0) := fun h => ⟨by have := (hpn h).2; omega, (hpn h).2⟩
  clear hpn
  have hb1 : (0 : Int) ≤ (n : Int) := by omega
  cases p with
  | none =>
    obtain ⟨h1, h2⟩ := HPN.out rfl
    subst h1 h2
    go_enter Tryz.func41, Tryz.ntmps41
    go_wp2_with (at_builtin; refine wpList_append_runV rfl _ _ _ _ rfl _ _ rfl rfl hr ?_)
    go_ret
    exact HI.out
  | some a =>
    obtain ⟨ab, ao, asp⟩ := a
    go_enter Tryz.func41, Tryz.ntmps41
    go_wp2_with (at_builtin; refine wpList_append_runV rfl _ _ _ _ rfl _ _ rfl rfl hr ?_)
    all_goals (go_ret; exact HI.out)
set_option maxRecDepth 10000 in
set_option maxHeartbeats 4000000 in
/-- Between, where there is room. -/
theorem insert_shift (g c i : Nat) (l : List Ver) (x : Ver) (vb vc : Nat) (vcs : Array Value) (vt : TypeId) (w : World) (hl : l.length ≤ 1000) (hi : i < l.length) (hroom : l.length + 1 ≤ c) (hO : OwnR verE 49 w 0 (.slice (some ⟨g, 0, none⟩) l.length c) l) (hx : ∀ j u, (verC x)[j]? = some u → w.cell? ⟨vb, j, none⟩ = some u)
    (hvb : vb ≠ g) (hvh : w.heap[vb]? = some (.cells vcs vt (0, 0))) :
    Calls Tryz.prog 41 #[.slice (some ⟨g, 0, none⟩) l.length c, .int .i64 (i : Int), .slice (some ⟨vb, 0, none⟩) 1 vc] w fun e w' => InsOk w w' (.slice (some ⟨g, 0, none⟩) l.length c) l i x e := by
  obtain ⟨n, hn⟩ : ∃ n, n = l.length := ⟨_, rfl⟩
  rcases hO.2 with ⟨h0, _⟩ | ⟨g', cap, cur, hv, hbg, hgb, hnc, hcm, hcs, htake⟩
  · cases h0
  obtain ⟨h1, _, h3⟩ := Value.slice.inj hv
  obtain rfl : g = g' := congrArg Addr.block (Option.some.inj h1)
  subst h3
  have hk5 : verE.k = 5 := rfl
  rw [hk5] at hcs htake
  rw [← hn] at hi hroom hl hnc htake
  have hA : (recVals verE (l.take i)).length = i * 5 := by rw [len5, List.length_take]; congr 1; omega
  have hB : (recVals verE (l.drop i)).length = (n - i) * 5 := by rw [len5, List.length_drop, ← hn]
  have hcur : cur.toList = recVals verE (l.take i) ++ (recVals verE (l.drop i) ++ cur.toList.drop (n * 5)) := by
    conv => lhs; rw [← List.take_append_drop (n * 5) cur.toList, htake, ← List.take_append_drop i l, recVals_append, List.append_assoc]
  have hcl : cur.toList.length = c * 5 := by rw [Array.length_toList]; exact hcs
  have hR : 5 ≤ (cur.toList.drop (n * 5)).length := by rw [List.length_drop, hcl]; omega
  have hX : (verC x).length = 5 := rfl
  obtain ⟨cur1, hc1⟩ : ∃ cur1, cur1 = (cur.toList.take ((i + 1) * 5) ++ recVals verE (l.drop i) ++ cur.toList.drop ((i + 1) * 5 + (recVals verE (l.drop i)).length)).toArray := ⟨_, rfl⟩
  have hs1 : cur1.size = c * 5 := by
    rw [hc1]
    simp only [List.size_toArray, List.length_append, List.length_take, List.length_drop, hcl, hB]
    omega
  obtain ⟨cur2, hc2⟩ : ∃ cur2, cur2 = (cur1.toList.take (i * 5) ++ verC x ++ cur1.toList.drop (i * 5 + (verC x).length)).toArray := ⟨_, rfl⟩
  have hs2 : cur2.size = c * 5 := by
    rw [hc2]
    simp only [List.size_toArray, List.length_append, List.length_take, List.length_drop, Array.length_toList, hs1, hX]
    omega
  have hfin : cur2.toList.take ((n + 1) * 5) = recVals verE (insV l i x) := by
    have := splice_shift (recVals verE (l.take i)) (recVals verE (l.drop i)) (cur.toList.drop (n * 5)) (verC x) 5 hX hR cur.toList hcur
    rw [hA, hB] at this
    rw [recVals_ins, ← this, hc2, hc1, hB]
    have e1 : (i + 1) * 5 = i * 5 + 5 := by omega
    have e2 : (n + 1) * 5 = i * 5 + 5 + (n - i) * 5 := by omega
    rw [e1, e2]
  have hcell : ∀ j u, (recVals verE l)[j]? = some u → w.cell? ⟨g, j, none⟩ = some u := fun j u hj => by
    have := World.ownsRow.cells (g := g) hO rfl j u hj
    rw [Addr.add_lit, Nat.zero_add] at this
    exact this
  have hsrc1 : ∀ j u, (recVals verE (l.drop i))[j]? = some u → w.drew.cell? ((⟨g, i * 5, none⟩ : Addr).add j) = some u := fun j u hj => by
    rw [Addr.add_lit]
    refine hcell (i * 5 + j) u ?_
    rw [← List.take_append_drop i l, recVals_append, List.getElem?_append_right (by rw [hA]; omega), hA, Nat.add_sub_cancel_left]
    exact hj
  have hcp1 : ∀ ty dc sc, (Builtin.copy_ #[57, 57] ty #[.slice (some ⟨g, (i + 1) * 5, none⟩) (n - i) dc, .slice (some ⟨g, i * 5, none⟩) (n + 1 - i) sc]).run Tryz.prog w.drew = .ok (goInt (n - i)) (w.drew.setRow g cur1) := fun ty dc sc => by
    have := run_copy_k (P := Tryz.prog) w.drew 57 57 ty 49 g ((i + 1) * 5) (n - i) dc ⟨g, i * 5, none⟩ (n + 1 - i) sc cur 49 (recVals verE (l.drop i)) 5 Tryz.underlying57 versize hgb (by rw [hB]; congr 1; simp only [Nat.min_def]; split <;> omega) hsrc1 (by rw [hB, hcs]; omega) (recVals_one' verE _)
    rw [this, hc1]
    congr 2
    simp only [Nat.min_def]; split <;> omega
  have hgb1 : (w.drew.setRow g cur1).heap[g]? = some (.cells cur1 49 (0, 0)) := setRow_heap w.drew g cur _ 49 _ hgb
  obtain ⟨W1, hW1⟩ : ∃ W1, W1 = w.drew.setRow g cur1 := ⟨_, rfl⟩
  rw [← hW1] at hcp1 hgb1
  have hsrc2 : ∀ j u, (verC x)[j]? = some u → W1.cell? ((⟨vb, 0, none⟩ : Addr).add j) = some u := fun j u hj => by
    rw [Addr.add_lit, Nat.zero_add, ← hx j u hj]
    have : W1.heap[vb]? = w.heap[vb]? := by rw [hW1]; exact setRow_other w.drew g vb _ hvb
    exact World.cell?_of_block (a := ⟨vb, j, none⟩) this
  have hcp2 : ∀ ty dc, (Builtin.copy_ #[57, 57] ty #[.slice (some ⟨g, i * 5, none⟩) (n + 1 - i) dc, .slice (some ⟨vb, 0, none⟩) 1 vc]).run Tryz.prog W1 = .ok (goInt 1) (W1.setRow g cur2) := fun ty dc => by
    have := run_copy_k (P := Tryz.prog) W1 57 57 ty 49 g (i * 5) (n + 1 - i) dc ⟨vb, 0, none⟩ 1 vc cur1 49 (verC x) 5 Tryz.underlying57 versize hgb1 (by rw [hX]; simp only [Nat.min_def]; split <;> omega) hsrc2 (by rw [hX, hs1]; omega) (verE.one x)
    rw [this, hc2]
    congr 2
    simp only [Nat.min_def]; split <;> omega
  have HI : Hid (InsOk w (W1.setRow g cur2) (.slice (some ⟨g, 0, none⟩) n c) l i x (.returned (.slice (some ⟨g, 0, none⟩) (n + 1) c))) := by
    have hlen : (insV l i x).length = n + 1 := by rw [insV_length (by omega), hn]
    refine ⟨_, rfl, ⟨by rw [len5]; rfl, Or.inr ⟨g, c, cur2, by rw [hlen], Nat.zero_le _, setRow_heap W1 g cur1 _ 49 _ hgb1, by rw [hlen]; exact hroom, hcm, by rw [hk5]; exact hs2, by rw [hlen, hk5]; exact hfin⟩⟩, ?_, Or.inl ⟨rfl, by simp [Value.ownBlock]⟩⟩
    rw [hW1]
    refine ⟨rfl, rfl, rfl, by simp [World.setRow], fun k hk hne => ?_⟩
    have hkg : k ≠ g := fun e => hne (by rw [e]; rfl)
    rw [setRow_other _ g k _ hkg, setRow_other _ g k _ hkg]
    rfl
  have hov : ∀ lb cb, (callFunc 66 #[.slice (some ⟨vb, 0, none⟩) 1 vc, .slice (some ⟨g, (i + 1) * 5, none⟩) lb cb]).run Tryz.prog w = .ok (.value (.bool false)) w := fun lb cb => by
    obtain ⟨hsa, hfa⟩ := plain_block hvh
    obtain ⟨hsb, _⟩ := plain_block hgb
    rw [run_callFunc_extern Tryz.func66 (by kernel_rfl) (by kernel_rfl) (by kernel_rfl) (e := Extern.SlicesOverlaps.overlaps #[57, 57] #[4]) (by kernel_rfl),
      Lib.run_overlaps_apart w 57 4 49 Tryz.underlying57 5 (fun w => by kernel_rfl) ⟨vb, 0, none⟩ ⟨g, (i + 1) * 5, none⟩ 1 vc lb cb hvb _ _ _ _ hsa hsb (by rw [hcs]; omega) (hfa 0) (hfa _)]
    rfl
  rw [← hn]
  clear hW1 hn hfin hs2 hc2 hs1 hc1 hX hR hcl hcur hB hA htake hcs hgb hgb1 hsrc1 hsrc2 hcell hv h1 hO hx hvh hnc hk5 hbg
  have hz2 : ¬ ((i : Int) = (n : Int)) := by omega
  have hw1 : IntKind.i64.wrap ((i : Int) + 1) = (i : Int) + 1 := by rw [IntKind.wrap_i64]; omega
  have hb0 : (0 : Int) ≤ (i : Int) := by omega
  have hb1 : (0 : Int) ≤ (i : Int) + 1 := by omega
  have hin : i ≤ n := by omega
  have htn : ((i : Int) + 1).toNat = i + 1 := by omega
  have hb2 : ¬ (c = i + 1) := by omega
  have hb3 : (i : Int) ≤ (n : Int) + 1 := by omega
  have hb4 : ¬ (c = i) := by omega
  have hb5 : (i : Int) + 1 ≤ (n : Int) + 1 := by omega
  have hb6 : ((n : Int) + 1).toNat = n + 1 := by omega
  have hb7 : (0 : Int) ≤ (n : Int) + 1 := by omega
  have hb8 : (n : Int) + 1 ≤ (c : Int) := by omega
  have hb9 : ¬ ((c : Int) < (n : Int) + 1) := by omega
  have hb10 : IntKind.i64.wrap ((n : Int) + 1) = (n : Int) + 1 := by rw [IntKind.wrap_i64]; omega
  have hb11 : (i : Int) ≤ (n : Int) := by omega
  go_enter Tryz.func41, Tryz.ntmps41
  go_wp2_with (simp only [hov])
  go_region_law (refine step_copy_k rfl _ _ 57 57 rfl _ _ (by simp [Act.eval, Act.put]; rfl) (by simp [Act.eval, Act.put]; rfl) (fun ty => hcp1 ty _ _) ?_)
  go_wp2_with (at_builtin; refine wpList_copy_k rfl _ _ 57 57 rfl _ _ rfl rfl (fun ty => hcp2 ty _) ?_)
  go_ret
  exact HI.out
set_option maxRecDepth 10000 in
set_option maxHeartbeats 4000000 in
/-- Between, where there is no room. -/
theorem insert_grow (g c i : Nat) (l : List Ver) (x : Ver) (vb vc : Nat) (w : World) (hl : l.length ≤ 1000) (hi : i < l.length) (hroom : ¬ l.length + 1 ≤ c) (hO : OwnR verE 49 w 0 (.slice (some ⟨g, 0, none⟩) l.length c) l) (hx : ∀ j u, (verC x)[j]? = some u → w.cell? ⟨vb, j, none⟩ = some u) (hvb : vb < w.heap.size) :
    Calls Tryz.prog 41 #[.slice (some ⟨g, 0, none⟩) l.length c, .int .i64 (i : Int), .slice (some ⟨vb, 0, none⟩) 1 vc] w fun e w' => InsOk w w' (.slice (some ⟨g, 0, none⟩) l.length c) l i x e := by
  obtain ⟨n, hn⟩ : ∃ n, n = l.length := ⟨_, rfl⟩
  have hglt : g < w.heap.size := (hO.block (k := g) rfl).2
  obtain ⟨i0, hi0, hz0, hz1, hzb⟩ := info_parts verinfo
  have hnc : n ≤ c := by
    obtain ⟨_, _, hvf, _, hnc, _, _⟩ := hO.form
    obtain ⟨_, _, hvf3⟩ := Value.slice.inj hvf
    rw [← hvf3, ← hn] at hnc
    exact hnc
  have hk5 : verE.k = 5 := rfl
  have hcell : ∀ j u, (recVals verE l)[j]? = some u → w.cell? ⟨g, j, none⟩ = some u := fun j u hj => by
    have := World.ownsRow.cells (g := g) hO rfl j u hj
    rw [Addr.add_lit, Nat.zero_add] at this
    exact this
  rw [← hn] at hi hroom hl
  have hA : (recVals verE (l.take i)).length = i * 5 := by rw [len5, List.length_take]; congr 1; omega
  have hB : (recVals verE (l.drop i)).length = (n - i) * 5 := by rw [len5, List.length_drop, ← hn]
  have hX : (verC x).length = 5 := rfl
  have hcA : ∀ j u, (recVals verE (l.take i))[j]? = some u → w.drew.cell? ((⟨g, 0, none⟩ : Addr).add j) = some u := fun j u hj => by
    rw [Addr.add_lit, Nat.zero_add]
    refine hcell j u ?_
    rw [← List.take_append_drop i l, recVals_append, List.getElem?_append_left (List.getElem?_eq_some_iff.1 hj).1]
    exact hj
  have hold : (Builtin.firstCells i0.size i (.slice (some ⟨g, 0, none⟩) i c)).run Tryz.prog w.drew = .ok (recVals verE (l.take i)).toArray w.drew := by
    rw [hz1]
    exact run_firstCells_some w.drew 5 i ⟨g, 0, none⟩ i c _ hA hcA
  have hik : i + (n + 1 - i) = n + 1 := by omega
  have hrz : ∀ ty, (Builtin.append_ #[57, 3] ty #[.slice (some ⟨g, 0, none⟩) i c, .int .i64 (((n + 1 - i : Nat)) : Int)]).run Tryz.prog w = _ := fun ty =>
    Lib.run_append_grow_zeros w 57 3 ty 49 i0 _ .i64 .i64 Tryz.underlying57 Tryz.underlying3 hi0 hz0 (some ⟨g, 0, none⟩) i c (recVals verE (l.take i)) hold (n + 1 - i) (by omega) (by rw [hz1]; decide) (by omega) (by omega) (by rw [hzb]; omega) (by rw [hzb]; exact growslice_fits (by omega) (by omega))
  rw [hik] at hrz
  have hGn : n + 1 ≤ grownCap w (n + 1) c 49 := grownCap_ge w _ _ _
  have hGm : grownCap w (n + 1) c 49 ≤ maxLen := grownCap_le_maxLen w (n + 1) c 49 (by unfold maxLen; omega)
  generalize hG : grownCap w (n + 1) c 49 = G at *
  clear hG
  have hG63 : G ≤ 9223372036854775807 := by unfold maxLen at hGm; omega
  obtain ⟨Z, hZ⟩ : ∃ Z : List Value, Z = (Builtin.zeroCells (Value.agg #[.int .i64 0, .int .i64 0, .int .i64 0, .int .i64 0, .string ⟨#[]⟩]).cells (n + 1 - i) ++ Builtin.zeroCells (Value.agg #[.int .i64 0, .int .i64 0, .int .i64 0, .int .i64 0, .string ⟨#[]⟩]).cells (G - (n + 1))).toList := ⟨_, rfl⟩
  have hZl : Z.length = (G - i) * 5 := by
    have e5 : (Value.agg #[.int .i64 0, .int .i64 0, .int .i64 0, .int .i64 0, .string ⟨#[]⟩]).cells.size = 5 := rfl
    rw [hZ]
    simp [size_zeroCells, e5]
    omega
  obtain ⟨cur, hcur⟩ : ∃ cur : Array Value, cur = (recVals verE (l.take i) ++ Z).toArray := ⟨_, rfl⟩
  have hcs : cur.size = G * 5 := by rw [hcur]; simp only [List.size_toArray, List.length_append, hA, hZl]; omega
  have hrz2 : ∀ ty, (Builtin.append_ #[57, 3] ty #[.slice (some ⟨g, 0, none⟩) i c, .int .i64 (((n + 1 - i : Nat)) : Int)]).run Tryz.prog w = .ok (.slice (some ⟨w.heap.size, 0, none⟩) (n + 1) G) (w.drew.alloc (.cells cur 49)) := fun ty => by
    rw [hrz ty, hcur, hZ]
    congr 3
    simp
  clear hrz hold hZ
  obtain ⟨W0, hW0⟩ : ∃ W0, W0 = w.drew.alloc (.cells cur 49) := ⟨_, rfl⟩
  rw [← hW0] at hrz2
  have hg0 : W0.heap[w.heap.size]? = some (.cells cur 49 (0, 0)) := by rw [hW0]; exact heap_alloc_new w.drew _
  have hold0 : ∀ k, k < w.heap.size → W0.heap[k]? = w.heap[k]? := fun k hk => by rw [hW0]; exact heap_alloc_old w.drew _ hk
  have hsz0 : W0.heap.size = w.heap.size + 1 := by rw [hW0]; simp
  obtain ⟨cur1, hc1⟩ : ∃ cur1, cur1 = (cur.toList.take (i * 5) ++ verC x ++ cur.toList.drop (i * 5 + (verC x).length)).toArray := ⟨_, rfl⟩
  have hs1 : cur1.size = G * 5 := by
    rw [hc1]
    simp only [List.size_toArray, List.length_append, List.length_take, List.length_drop, Array.length_toList, hcs, hX]
    omega
  have hsrc1 : ∀ j u, (verC x)[j]? = some u → W0.cell? ((⟨vb, 0, none⟩ : Addr).add j) = some u := fun j u hj => by
    rw [Addr.add_lit, Nat.zero_add, ← hx j u hj]
    exact World.cell?_of_block (a := ⟨vb, j, none⟩) (hold0 vb hvb)
  have hcp1 : ∀ ty dc, (Builtin.copy_ #[57, 57] ty #[.slice (some ⟨w.heap.size, i * 5, none⟩) (n + 1 - i) dc, .slice (some ⟨vb, 0, none⟩) 1 vc]).run Tryz.prog W0 = .ok (goInt 1) (W0.setRow w.heap.size cur1) := fun ty dc => by
    have := run_copy_k (P := Tryz.prog) W0 57 57 ty 49 w.heap.size (i * 5) (n + 1 - i) dc ⟨vb, 0, none⟩ 1 vc cur 49 (verC x) 5 Tryz.underlying57 versize hg0 (by rw [hX]; simp only [Nat.min_def]; split <;> omega) hsrc1 (by rw [hX, hcs]; omega) (verE.one x)
    rw [this, hc1]
    congr 2
    simp only [Nat.min_def]; split <;> omega
  have hg1 : (W0.setRow w.heap.size cur1).heap[w.heap.size]? = some (.cells cur1 49 (0, 0)) := setRow_heap W0 w.heap.size cur _ 49 _ hg0
  obtain ⟨W1, hW1⟩ : ∃ W1, W1 = W0.setRow w.heap.size cur1 := ⟨_, rfl⟩
  rw [← hW1] at hcp1 hg1
  have hold1 : ∀ k, k < w.heap.size → W1.heap[k]? = w.heap[k]? := fun k hk => by rw [hW1, setRow_other _ _ _ _ (by omega)]; exact hold0 k hk
  obtain ⟨cur2, hc2⟩ : ∃ cur2, cur2 = (cur1.toList.take ((i + 1) * 5) ++ recVals verE (l.drop i) ++ cur1.toList.drop ((i + 1) * 5 + (recVals verE (l.drop i)).length)).toArray := ⟨_, rfl⟩
  have hs2 : cur2.size = G * 5 := by
    rw [hc2]
    simp only [List.size_toArray, List.length_append, List.length_take, List.length_drop, Array.length_toList, hs1, hB]
    omega
  have hsrc2 : ∀ j u, (recVals verE (l.drop i))[j]? = some u → W1.drew.cell? ((⟨g, i * 5, none⟩ : Addr).add j) = some u := fun j u hj => by
    rw [Addr.add_lit]
    have h1 := hcell (i * 5 + j) u (by
      rw [← List.take_append_drop i l, recVals_append, List.getElem?_append_right (by rw [hA]; omega), hA, Nat.add_sub_cancel_left]
      exact hj)
    rw [← h1]
    exact World.cell?_of_block (a := ⟨g, i * 5 + j, none⟩) (w' := W1.drew) (hold1 g hglt)
  have hcp2 : ∀ ty dc sc, (Builtin.copy_ #[57, 57] ty #[.slice (some ⟨w.heap.size, (i + 1) * 5, none⟩) (n - i) dc, .slice (some ⟨g, i * 5, none⟩) (n - i) sc]).run Tryz.prog W1.drew = .ok (goInt ((n - i : Nat) : Int)) (W1.drew.setRow w.heap.size cur2) := fun ty dc sc => by
    have := run_copy_k (P := Tryz.prog) W1.drew 57 57 ty 49 w.heap.size ((i + 1) * 5) (n - i) dc ⟨g, i * 5, none⟩ (n - i) sc cur1 49 (recVals verE (l.drop i)) 5 Tryz.underlying57 versize hg1 (by rw [hB]; congr 1; simp only [Nat.min_def]; split <;> omega) hsrc2 (by rw [hB, hs1]; omega) (recVals_one' verE _)
    rw [this, hc2]
    congr 3
    simp only [Nat.min_def]; split <;> omega
  have hfin : cur2.toList.take ((n + 1) * 5) = recVals verE (insV l i x) := by
    have := splice_grow (recVals verE (l.take i)) (recVals verE (l.drop i)) Z (verC x) 5 hX
    rw [hA, hB] at this
    rw [recVals_ins, ← this, hc2, hc1, hcur, hB]
    have e1 : (i + 1) * 5 = i * 5 + 5 := by omega
    have e2 : (n + 1) * 5 = i * 5 + 5 + (n - i) * 5 := by omega
    rw [e1, e2]
  have HI : Hid (InsOk w (W1.drew.setRow w.heap.size cur2) (.slice (some ⟨g, 0, none⟩) n c) l i x (.returned (.slice (some ⟨w.heap.size, 0, none⟩) (n + 1) G))) := by
    have hlen : (insV l i x).length = n + 1 := by rw [insV_length (by omega), hn]
    refine ⟨_, rfl, ⟨by rw [len5]; rfl, Or.inr ⟨w.heap.size, G, cur2, by rw [hlen], Nat.zero_le _, setRow_heap W1.drew w.heap.size cur1 _ 49 _ hg1, by rw [hlen]; exact hGn, hGm, by rw [hk5]; exact hs2, by rw [hlen, hk5]; exact hfin⟩⟩, ?_, Or.inr ⟨_, rfl, Nat.le_refl _⟩⟩
    refine ⟨by rw [hW1, hW0]; rfl, by rw [hW1, hW0]; rfl, by rw [hW1, hW0]; rfl, ?_, fun k hk hne => ?_⟩
    · rw [hW1]
      show w.heap.size ≤ _
      simp [World.setRow]
      omega
    · rw [setRow_other _ _ k _ (by omega)]
      exact hold1 k hk
  rw [← hn]
  clear hold0 hold1 hW0 hsz0 hg0 hcs hZl hcur hcA hglt hi0 hz0 hz1 hzb hvb hW1 hn hfin hs2 hc2 hs1 hc1 hX hB hA hg1 hsrc1 hsrc2 hcell hO hx hk5 hGm
  have hz2 : ¬ ((i : Int) = (n : Int)) := by omega
  have hw1 : IntKind.i64.wrap ((i : Int) + 1) = (i : Int) + 1 := by rw [IntKind.wrap_i64]; omega
  have hb0 : (0 : Int) ≤ (i : Int) := by omega
  have hb1 : (0 : Int) ≤ (i : Int) + 1 := by omega
  have hin : i ≤ n := by omega
  have htn : ((i : Int) + 1).toNat = i + 1 := by omega
  have hb2 : ¬ (G = i + 1) := by omega
  have hb3 : (i : Int) ≤ (n : Int) + 1 := by omega
  have hb4 : ¬ (c = i) := by omega
  have hb4' : ¬ (G = i) := by omega
  have hb5 : (i : Int) + 1 ≤ (n : Int) + 1 := by omega
  have hb9 : decide ((c : Int) < (n : Int) + 1) = true := decide_eq_true (by omega)
  have hb10 : IntKind.i64.wrap ((n : Int) + 1) = (n : Int) + 1 := by rw [IntKind.wrap_i64]; omega
  have hb11 : (i : Int) ≤ (n : Int) := by omega
  have hb12 : (i : Int) ≤ (c : Int) := by omega
  have eK : (((n + 1 - i : Nat)) : Int) = (n : Int) + 1 - (i : Int) := by omega
  rw [eK] at hrz2
  clear eK
  go_enter Tryz.func41, Tryz.ntmps41
  go_wp2_with (first | (at_builtin; refine wpList_append_runV rfl _ _ _ _ rfl _ _ rfl rfl hrz2 ?_) | (at_builtin; refine wpList_copy_k rfl _ _ 57 57 rfl _ _ rfl rfl (fun ty => hcp1 ty _) ?_))
  go_region_law (refine step_copy_k rfl _ _ 57 57 rfl _ _ (by simp [Act.eval, Act.put]; rfl) (by simp [Act.eval, Act.put]; rfl) (fun ty => hcp2 ty _ _) ?_)
  go_wp2
  go_ret
  exact HI.out
/-- One version put into a row that the caller owns, wherever. -/
theorem insert_any (v : Value) (l : List Ver) (i : Nat) (x : Ver) (vb vc : Nat) (vcs : Array Value) (vt : TypeId) (w : World) (hl : l.length ≤ 1000) (hi : i ≤ l.length) (hO : OwnR verE 49 w 0 v l) (hx : ∀ j u, (verC x)[j]? = some u → w.cell? ⟨vb, j, none⟩ = some u)
    (hvb : ∀ k, v.ownBlock = some k → vb ≠ k) (hvh : w.heap[vb]? = some (.cells vcs vt (0, 0))) :
    Calls Tryz.prog 41 #[v, .int .i64 (i : Int), .slice (some ⟨vb, 0, none⟩) 1 vc] w fun e w' => InsOk w w' v l i x e := by
  by_cases he : i = l.length
  · subst he
    exact insert_end v l x vb vc w hl hO hx
  · have hi' : i < l.length := by omega
    rcases hO.2 with ⟨_, h0⟩ | ⟨g, cap, cur, rfl, _⟩
    · omega
    · by_cases hroom : l.length + 1 ≤ cap
      · exact insert_shift g cap i l x vb vc vcs vt w hl hi' hroom hO hx (hvb g rfl) hvh
      · exact insert_grow g cap i l x vb vc w hl hi' hroom hO hx (Array.getElem?_eq_some_iff.1 hvh).1
section
variable {w w1 w2 w3 : World} {h : Nat} {S : Nat → Prop} {L : List Kep} {s : Bool} {m : Option Nat} {D : DataW Value} {row : ByteArray → Value} {blk : ByteArray → Nat}
/-- The blocks of a hold behind a call: what it had, and what is new. -/
def grownS (S : Nat → Prop) (w w' : World) : Nat → Prop := fun k => k < w'.heap.size ∧ (S k ∨ w.heap.size ≤ k)
/-- What set leaves: its map is b', all other blocks are as they were. -/
structure SetAt (w2 w3 : World) (h b' : Nat) (s : Bool) (D0 : DataW Value) (key : ByteArray) (v : Value) : Prop where
  os : w3.os = w2.os
  tape : w3.tape = w2.tape
  output : w3.output = w2.output
  size : w2.heap.size ≤ w3.heap.size
  ptr : w3.cell? ⟨h, 0, none⟩ = some (.map (some b'))
  shut : w3.cell? ⟨h, 1, none⟩ = some (.bool s)
  free0 : w3.frozen? ⟨h, 0, none⟩ = false
  free1 : w3.frozen? ⟨h, 1, none⟩ = false
  own : ∃ n, OwnM w3 b' n (D0.put (litK key) (.held v))
  ne : b' ≠ h
  block : ∀ k, k < w2.heap.size → k ≠ b' → k ≠ h → w3.heap[k]? = w2.heap[k]?
theorem insV_put {L : List Kep} (hs : SortedK L) (key : ByteArray) (v : Ver) : getL (putL L key v) key = insV (getL L key) (placeV (getL L key) (tagOf v)) v := getL_putL hs key v
/-- A key's row is another one: the hold holds L'. -/
theorem HdAt.repl (hd : HdAt w h S L s m D row blk) (key : ByteArray) {L' : List Kep} (hG : GoodL L') (hnk : getL L' key ≠ []) (hot : ∀ x, x ≠ key → getL L' x = getL L x) (hb : Below w.heap.size w w1) {v' : Value} (hO : OwnR verE 49 w2 0 v' (getL L' key)) (hg : w1.grownBy w2 (row key).ownBlock) (hwh : (v'.ownBlock = (row key).ownBlock ∧ (row key).ownBlock ≠ none) ∨ ∃ k, v'.ownBlock = some k ∧ w1.heap.size ≤ k)
    {b' : Nat} {D0 : DataW Value} (hst : SetAt w2 w3 h b' s D0 key v') (hb' : (m = some b' ∨ (m = none ∧ w2.heap.size ≤ b'))) (hI : Maps.IsMap D0) (hhas : ∀ x, x.size ≤ maxLen → Maps.has D0 (litK x) = decide (getL L x ≠ [])) (hat : ∀ x, getL L x ≠ [] → ∀ z, D0.atKey (litK x) z = .held (row x)) :
    HdOf w3 h (grownS S w w3) L' s ∧ Upd S (grownS S w w3) w w3 := by
  have hsz1 := hb.size
  have hsz2 := hg.size
  have hsz3 := hst.size
  have hS1 : ∀ k, S k → k < w.heap.size := hd.inS
  -- the row's block
  obtain ⟨g', hg'⟩ : ∃ g', v'.ownBlock = some g' := by
    rcases hwh with ⟨e, hne⟩ | ⟨k, e, _⟩
    · cases hr : (row key).ownBlock with
      | none => exact absurd hr hne
      | some k => exact ⟨k, by rw [e, hr]⟩
    · exact ⟨k, e⟩
  have hgS : S g' ∧ (row key).ownBlock = some g' ∨ w1.heap.size ≤ g' := by
    rcases hwh with ⟨e, _⟩ | ⟨k, e, hk⟩
    · have hr : (row key).ownBlock = some g' := by rw [← e]; exact hg'
      exact Or.inl ⟨(hd.rowS hr).1, hr⟩
    · rw [hg'] at e
      injection e with e
      exact Or.inr (e ▸ hk)
  have hglt : g' < w2.heap.size := (OwnR.block hO hg').2
  have hgh : g' ≠ h := by
    rcases hgS with ⟨_, h2⟩ | h2
    · obtain ⟨_, hne, e⟩ := hd.rowS h2
      rw [e]
      exact (hd.inB key hne).2.2.1
    · have := hS1 h hd.self
      omega
  have hgb : g' ≠ b' := by
    rcases hb' with e | ⟨_, e⟩
    · rcases hgS with ⟨_, h2⟩ | h2
      · obtain ⟨_, hne, e2⟩ := hd.rowS h2
        rw [e2]
        exact (hd.inB key hne).2.2.2 b' e
      · have := hS1 b' (hd.mapS b' e).1
        omega
    · omega
  -- other keys' rows are as they were
  have hoth : ∀ x, x ≠ key → ∀ k, (row x).ownBlock = some k → w3.heap[k]? = w.heap[k]? := fun x hx k hk => by
    obtain ⟨h1, h2, h3⟩ := hd.rowS hk
    obtain ⟨_, _, h6, h7⟩ := hd.inB x h2
    have hkw := hS1 k h1
    have e1 : k ≠ h := by rw [h3]; exact h6
    have e2 : k ≠ b' := by
      rcases hb' with e | ⟨_, e⟩
      · rw [h3]; exact h7 b' e
      · omega
    have e3 : some k ≠ (row key).ownBlock := fun e => by
      obtain ⟨_, h8, h9⟩ := hd.rowS e.symm
      exact hd.apart x key h2 h8 hx (by rw [← h3, ← h9])
    rw [hst.block k (by omega) e2 e1, hg.block k (by omega) e3]
    exact hb.block k hkw
  have hSb : grownS S w w3 b' := by
    obtain ⟨n, hn⟩ := hst.own
    refine ⟨World.ownsMap.lt hn, ?_⟩
    rcases hb' with e | ⟨_, e⟩
    · exact Or.inl (hd.mapS b' e).1
    · exact Or.inr (by omega)
  refine ⟨⟨some b', D0.put (litK key) (.held v'), fun x => if x = key then v' else row x, fun x => if x = key then g' else blk x, ?_⟩, ⟨hst.os.trans (hg.os.trans hb.os), hst.tape.trans (hg.tape.trans hb.tape), hst.output.trans (hg.output.trans hb.output), by omega, fun k hk hn => ?_, fun k hk => hk.2⟩⟩
  · refine ⟨hG.sorted, hG.few, hG.fits, fun k hk => hk.1, ⟨by have := hS1 h hd.self; omega, Or.inl hd.self⟩, hst.ptr, hst.shut, hst.free0, hst.free1, (fun e => by cases e), fun b hb0 => ?_, fun x => ?_, fun x hx => ?_, fun x hx => ?_, fun x y hx hy hxy => ?_⟩
    · injection hb0 with hb0
      subst hb0
      refine ⟨hSb, hst.ne, hst.own, fun x hx => ?_, fun x hx z => ?_⟩
      · by_cases e : x = key
        · subst e
          rw [Maps.has_put_same hI (litK_key x)]
          simpa using hnk
        · rw [Maps.has_put_other (fun e2 => e (litK_inj e2)), hhas x hx, hot x e]
      · by_cases e : x = key
        · subst e
          rw [Maps.atKey_put_same hI (litK_key x), if_pos rfl]
        · rw [Maps.atKey_put_other (fun e2 => e (litK_inj e2)), if_neg e]
          exact hat x (by rw [← hot x e]; exact hx) z
    · show OwnR verE _ w3 0 (if x = key then v' else row x) _
      by_cases e : x = key
      · subst e
        rw [if_pos rfl]
        refine hO.same fun k hk => ?_
        rw [hg'] at hk
        injection hk with hk
        subst hk
        exact hst.block g' hglt hgb hgh
      · rw [if_neg e, hot x e]
        exact (hd.own x).same (hoth x e)
    · by_cases e : x = key
      · subst e
        exact absurd hx hnk
      · show (if x = key then v' else row x) = _
        rw [if_neg e]
        exact hd.nilrow x (by rw [← hot x e]; exact hx)
    · show (if x = key then v' else row x).ownBlock = some (if x = key then g' else blk x) ∧ _
      by_cases e : x = key
      · subst e
        rw [if_pos rfl, if_pos rfl]
        refine ⟨hg', ⟨by omega, ?_⟩, hgh, fun b hb0 => by injection hb0 with hb0; rw [← hb0]; exact hgb⟩
        rcases hgS with ⟨h1, _⟩ | h1
        · exact Or.inl h1
        · exact Or.inr (by omega)
      · rw [if_neg e, if_neg e]
        rw [hot x e] at hx
        obtain ⟨h1, h2, h3, h4⟩ := hd.inB x hx
        have := hS1 _ h2
        refine ⟨h1, ⟨by omega, Or.inl h2⟩, h3, fun b hb0 => ?_⟩
        injection hb0 with hb0
        subst hb0
        rcases hb' with e2 | ⟨_, e2⟩
        · exact h4 _ e2
        · omega
    · show (if x = key then g' else blk x) ≠ (if y = key then g' else blk y)
      have aux : ∀ z, z ≠ key → getL L z ≠ [] → blk z ≠ g' := fun z hz hne e => by
        obtain ⟨h1, h2, _, _⟩ := hd.inB z hne
        rcases hgS with ⟨_, h4⟩ | h4
        · obtain ⟨_, h5, h6⟩ := hd.rowS h4
          exact hd.apart z key hne h5 hz (by rw [e, ← h6])
        · have := hS1 _ h2
          omega
      by_cases ex : x = key
      · by_cases ey : y = key
        · exact absurd (ex.trans ey.symm) hxy
        · rw [if_pos ex, if_neg ey]
          exact fun e => aux y ey (by rw [← hot y ey]; exact hy) e.symm
      · by_cases ey : y = key
        · rw [if_neg ex, if_pos ey]
          exact aux x ex (by rw [← hot x ex]; exact hx)
        · rw [if_neg ex, if_neg ey]
          exact hd.apart x y (by rw [← hot x ex]; exact hx) (by rw [← hot y ey]; exact hy) hxy
  · have e1 : k ≠ h := fun e => hn (e ▸ hd.self)
    have e2 : k ≠ b' := fun e => by
      rcases hb' with e3 | ⟨_, e3⟩
      · exact hn (e ▸ (hd.mapS b' e3).1)
      · omega
    have e3 : some k ≠ (row key).ownBlock := fun e => hn (hd.rowS e.symm).1
    rw [hst.block k (by omega) e2 e1, hg.block k (by omega) e3]
    exact hb.block k hk
theorem HdAt.put (hd : HdAt w h S L s m D row blk) (key : ByteArray) (v : Ver) (hG : GoodL (putL L key v)) (hb : Below w.heap.size w w1) {v' : Value} (hO : OwnR verE 49 w2 0 v' (insV (getL L key) (placeV (getL L key) (tagOf v)) v)) (hg : w1.grownBy w2 (row key).ownBlock) (hwh : (v'.ownBlock = (row key).ownBlock ∧ (row key).ownBlock ≠ none) ∨ ∃ k, v'.ownBlock = some k ∧ w1.heap.size ≤ k)
    {b' : Nat} {D0 : DataW Value} (hst : SetAt w2 w3 h b' s D0 key v') (hb' : (m = some b' ∨ (m = none ∧ w2.heap.size ≤ b'))) (hI : Maps.IsMap D0) (hhas : ∀ x, x.size ≤ maxLen → Maps.has D0 (litK x) = decide (getL L x ≠ [])) (hat : ∀ x, getL L x ≠ [] → ∀ z, D0.atKey (litK x) z = .held (row x)) :
    HdOf w3 h (grownS S w w3) (putL L key v) s ∧ Upd S (grownS S w w3) w w3 :=
  hd.repl key hG (by rw [insV_put hd.sorted]; unfold insV; simp) (fun x hx => getL_putL_other L v hx) hb (by rw [insV_put hd.sorted]; exact hO) hg hwh hst hb' hI hhas hat
theorem setAt_some {b : Nat} {key : ByteArray} {v : Value} (hne : b ≠ h) (q0 : w2.cell? ⟨h, 0, none⟩ = some (.map (some b))) (q1 : w2.cell? ⟨h, 1, none⟩ = some (.bool s)) (f0 : w2.frozen? ⟨h, 0, none⟩ = false) (f1 : w2.frozen? ⟨h, 1, none⟩ = false) (hs : SetOk w2 w3 b D key v) : SetAt w2 w3 h b s D key v := by
  have hlt : h < w2.heap.size := lt_of_cellH q0
  have hh := hs.grown.block h hlt (fun e => hne (Option.some.inj e).symm)
  exact ⟨hs.grown.os, hs.grown.tape, hs.grown.output, hs.grown.size, (cell_same hh 0).1.trans q0, (cell_same hh 1).1.trans q1, (cell_same hh 0).2.trans f0, (cell_same hh 1).2.trans f1, hs.own, hne, fun k hk h1 _ => hs.grown.block k hk (fun e => h1 (Option.some.inj e))⟩
theorem setAt_none {key : ByteArray} {v : Value} (q0 : w2.cell? ⟨h, 0, none⟩ = some (.map none)) (q1 : w2.cell? ⟨h, 1, none⟩ = some (.bool s)) (f0 : w2.frozen? ⟨h, 0, none⟩ = false) (f1 : w2.frozen? ⟨h, 1, none⟩ = false) (hs : SetOk ((w2.setCell ⟨h, 0, none⟩ (.map (some w2.heap.size))).alloc (.map #[] 0)) w3 w2.heap.size (.map []) key v) : SetAt w2 w3 h w2.heap.size s (.map []) key v := by
  have hlt : h < w2.heap.size := lt_of_cellH q0
  obtain ⟨W0, hW0⟩ : ∃ W0, W0 = (w2.setCell ⟨h, 0, none⟩ (.map (some w2.heap.size))).alloc (.map #[] 0) := ⟨_, rfl⟩
  rw [← hW0] at hs
  have hsz : (w2.setCell ⟨h, 0, none⟩ (.map (some w2.heap.size))).heap.size = w2.heap.size := by simp
  have hsz0 : W0.heap.size = w2.heap.size + 1 := by rw [hW0]; simp
  have hold : ∀ k, k < w2.heap.size → W0.heap[k]? = (w2.setCell ⟨h, 0, none⟩ (.map (some w2.heap.size))).heap[k]? := fun k hk => by rw [hW0]; exact heap_alloc_old _ _ (by rw [hsz]; exact hk)
  have hh : w3.heap[h]? = (w2.setCell ⟨h, 0, none⟩ (.map (some w2.heap.size))).heap[h]? := by
    rw [hs.grown.block h (by omega) (fun e => by injection e with e; omega), hold h hlt]
  have hsz3 := hs.grown.size
  refine ⟨by rw [hs.grown.os, hW0]; rfl, by rw [hs.grown.tape, hW0]; rfl, by rw [hs.grown.output, hW0]; rfl, by omega, ?_, ?_, ?_, ?_, hs.own, by omega, fun k hk h1 h2 => ?_⟩
  · rw [(cell_same hh 0).1]
    exact World.cell?_setCell_same _ _ _ q0
  · rw [(cell_same hh 1).1, World.cell?_setCell_other _ _ _ _ (fun e => by have h2 : (0 : Nat) = 1 := congrArg Addr.off e; omega)]
    exact q1
  · rw [(cell_same hh 0).2, World.frozen?_setCell]
    exact f0
  · rw [(cell_same hh 1).2, World.frozen?_setCell]
    exact f1
  · rw [hs.grown.block k (by omega) (fun e => h1 (Option.some.inj e)), hold k hk]
    exact Deep.blk_setCell_other _ _ _ _ h2
end
section
open Go.Sort
/-- -1, 0, 1 by number. -/
def cmpZ (a b : Int) : Int := if a < b then -1 else if b < a then 1 else 0
set_option maxRecDepth 10000 in
theorem nanZ (a : Int) (w : World) : Calls Tryz.prog 90 #[.int .i64 a] w fun e w' => e = .returned (.bool false) ∧ w' = w := by
  go_enter Tryz.func90, Tryz.ntmps90
  go_wp2
  go_ret
  exact ⟨rfl, rfl⟩
set_option maxRecDepth 10000 in
set_option maxHeartbeats 1000000 in
theorem cmpZ_any (a b : Int) (w : World) : Calls Tryz.prog 69 #[.int .i64 a, .int .i64 b] w fun e w' => e = .returned (.int .i64 (cmpZ a b)) ∧ w' = w := by
  have h1 := fun W => nanZ a W
  have h2 := fun W => nanZ b W
  rcases Int.lt_trichotomy a b with h | h | h
  · have HE : Hid (cmpZ a b = -1) := if_pos h
    rw [HE.out]
    go_enter Tryz.func69, Tryz.ntmps69
    go_wp2_with fail
    refine (h1 _).mono ?_
    rintro e w1 ⟨rfl, hw1⟩
    rw [hw1]
    clear hw1 w1
    go_wp2_with fail
    refine (h2 _).mono ?_
    rintro e w1 ⟨rfl, hw1⟩
    rw [hw1]
    clear hw1 w1
    go_wp2
    go_ret
    exact ⟨rfl, rfl⟩
  · subst h
    have HE : Hid (cmpZ a a = 0) := by show _ = _; unfold cmpZ; rw [if_neg (Int.lt_irrefl _), if_neg (Int.lt_irrefl _)]
    rw [HE.out]
    go_enter Tryz.func69, Tryz.ntmps69
    go_wp2_with fail
    refine (h1 _).mono ?_
    rintro e w1 ⟨rfl, hw1⟩
    rw [hw1]
    clear hw1 w1
    go_wp2_with fail
    refine (h2 _).mono ?_
    rintro e w1 ⟨rfl, hw1⟩
    rw [hw1]
    clear hw1 w1
    go_wp2
    go_ret
    exact ⟨rfl, rfl⟩
  · have HE : Hid (cmpZ a b = 1) := by show _ = _; unfold cmpZ; rw [if_neg (by omega), if_pos h]
    have d1 : decide (a < b) = false := decide_eq_false (by omega)
    rw [HE.out]
    go_enter Tryz.func69, Tryz.ntmps69
    go_wp2_with fail
    refine (h1 _).mono ?_
    rintro e w1 ⟨rfl, hw1⟩
    rw [hw1]
    clear hw1 w1
    go_wp2_with fail
    refine (h2 _).mono ?_
    rintro e w1 ⟨rfl, hw1⟩
    rw [hw1]
    clear hw1 w1
    go_wp2
    go_ret
    exact ⟨rfl, rfl⟩
/-- The first that is not 0, of two. -/
def orZ (a b : Int) : Int := if a ≠ 0 then a else b
set_option maxRecDepth 10000 in
set_option maxHeartbeats 1000000 in
theorem or_two (g o : Nat) (a b : Int) (w : World) (h0 : w.cell? ⟨g, o, none⟩ = some (.int .i64 a)) (h1 : w.cell? ⟨g, o + 1, none⟩ = some (.int .i64 b)) :
    Calls Tryz.prog 68 #[.slice (some ⟨g, o, none⟩) 2 2] w fun e w' => e = .returned (.int .i64 (orZ a b)) ∧ w' = w := by
  obtain ⟨f, hf⟩ : ∃ f : Nat → Int, f = fun i => if i = 0 then a else b := ⟨_, rfl⟩
  have HC : Hid (∀ i, i < 2 → w.cell? ⟨g, o + i, none⟩ = some (.int .i64 (f i))) := fun i hi => by
    rw [hf]
    match i, hi with
    | 0, _ => exact h0
    | 1, _ => exact h1
  obtain ⟨r, hr⟩ : ∃ r, r = orZ a b := ⟨_, rfl⟩
  have HR : Hid (∀ i, i < 2 → (∀ j, j < i → f j = 0) → f i ≠ 0 → r = f i) := fun i hi hall hne => by
    rw [hr, hf]
    unfold orZ
    match i, hi with
    | 0, _ => rw [hf] at hne; have hne' : a ≠ 0 := hne; rw [if_pos hne']; rfl
    | 1, _ =>
      have := hall 0 (by omega)
      rw [hf] at this
      have ha : a = 0 := this
      rw [if_neg (by rw [ha]; decide)]; rfl
  have HZ : Hid ((∀ j, j < 2 → f j = 0) → r = 0) := fun hall => by
    have t0 := hall 0 (by omega)
    have t1 := hall 1 (by omega)
    rw [hf] at t0 t1
    have ha : a = 0 := t0
    have hb : b = 0 := t1
    rw [hr, ha, hb]
    decide
  rw [← hr]
  clear hf hr h0 h1
  go_enter Tryz.func68, Tryz.ntmps68
  go_wp2
  go_loop [8] (fun x => ∃ i : Nat, i ≤ 2 ∧ x = .int .i64 i ∧ ∀ j, j < i → f j = 0) (fun x => 2 - (intOf x).toNat)
  case atStart => exact ⟨0, by omega, rfl, fun j hj => absurd hj (Nat.not_lt_zero _)⟩
  case round =>
    obtain ⟨i, hi, rfl, hall⟩ := hrel
    have HALL : Hid (∀ j, j < i → f j = 0) := hall
    clear hall
    by_cases hil : i < 2
    · have q1 := HC.out i hil
      have HRI : Hid (f i ≠ 0 → r = f i) := HR.out i hil HALL.out
      have HN : Hid (f i = 0 → ∀ j, j < i + 1 → f j = 0) := fun h j hj => by
        rcases Nat.lt_or_ge j i with h' | h'
        · exact HALL.out j h'
        · obtain rfl : j = i := by omega
          exact h
      clear HALL HR HC HZ
      generalize f i = y at *
      by_cases hy : y = 0
      · have HNX := HN.out hy
        subst hy
        have HNX' : Hid (∀ j, j < i + 1 → f j = 0) := HNX
        clear HNX HN HRI
        go_wp2
        go_round
        case rel => exact ⟨i + 1, by omega, by go_num, HNX'.out⟩
        case measure => simp [intOf]; omega
      · have HE : Hid (r = y) := HRI.out hy
        have d1 : (y == 0) = false := by rw [beq_eq_false_iff_ne]; exact hy
        have d2 : (y != 0) = true := by rw [bne_iff_ne]; exact hy
        clear HRI HN
        go_wp2
        go_ret
        exact ⟨by rw [HE.out]; rfl, rfl⟩
    · have HE : Hid (r = 0) := HZ.out (fun j hj => HALL.out j (by omega))
      go_wp2
      go_ret
      exact ⟨by rw [HE.out]; rfl, rfl⟩
/-- What two tags compare as. -/
def tagC (a b : Int × Int) : Int := orZ (cmpZ a.1 b.1) (cmpZ a.2 b.2)
theorem tagC_lt {a b : Int × Int} : decide (tagC a b < 0) = lessB a b := by
  unfold tagC orZ cmpZ lessB
  by_cases h1 : a.1 < b.1
  · simp [h1]
  · by_cases h2 : b.1 < a.1
    · have h3 : ¬ a.1 = b.1 := by omega
      simp [h1, h2, h3]
    · have h3 : a.1 = b.1 := by omega
      simp only [h3]
      by_cases h4 : a.2 < b.2
      · simp [h4]
      · by_cases h5 : b.2 < a.2 <;> simp [h4, h5]
theorem tagC_zero {a b : Int × Int} : tagC a b = 0 ↔ a = b := by
  obtain ⟨a1, a2⟩ := a
  obtain ⟨b1, b2⟩ := b
  unfold tagC orZ cmpZ
  simp only [Prod.mk.injEq]
  by_cases h1 : a1 < b1
  · simp [h1]; omega
  · by_cases h2 : b1 < a1
    · simp [h1, h2]; omega
    · have h3 : a1 = b1 := by omega
      subst h3
      by_cases h4 : a2 < b2
      · simp [h4]; omega
      · by_cases h5 : b2 < a2
        · simp [h4, h5]; omega
        · simp [h4, h5]; omega
set_option maxRecDepth 10000 in
set_option maxHeartbeats 1000000 in
theorem compare_any (a b : Int × Int) (W : World) : Calls Tryz.prog 43 #[.agg #[.int .i64 a.1, .int .i64 a.2], .agg #[.int .i64 b.1, .int .i64 b.2]] W fun e w' => e = .returned (.int .i64 (tagC a b)) ∧ ∃ n os, w' = grow (W.drewN n) os := by
  obtain ⟨a1, a2⟩ := a
  obtain ⟨b1, b2⟩ := b
  obtain ⟨W2, hW2⟩ : ∃ W2, W2 = (W.alloc (.cells #[.int .i64 a1, .int .i64 a2] 45)).alloc (.cells #[.int .i64 b1, .int .i64 b2] 45) := ⟨_, rfl⟩
  have HG : Hid (∃ os, W2 = grow W os) := ⟨_, by rw [hW2, alloc_eq_grow, alloc_eq_grow, grow_grow]⟩
  have q1 : W2.cell? ⟨W.heap.size, 0, none⟩ = some (.int .i64 a1) := by rw [hW2]; simp
  have q2 : W2.cell? ⟨W.heap.size, 1, none⟩ = some (.int .i64 a2) := by rw [hW2]; simp
  have q4 : W2.cell? ⟨W.heap.size + 1, 0, none⟩ = some (.int .i64 b1) := by rw [hW2]; simp
  have q5 : W2.cell? ⟨W.heap.size + 1, 1, none⟩ = some (.int .i64 b2) := by rw [hW2]; simp
  have HW2 : Hid (W2 = (W.alloc (.cells #[.int .i64 a1, .int .i64 a2] 45)).alloc (.cells #[.int .i64 b1, .int .i64 b2] 45)) := hW2
  clear hW2
  show Calls Tryz.prog 43 #[.agg #[.int .i64 a1, .int .i64 a2], .agg #[.int .i64 b1, .int .i64 b2]] W fun e w' => e = .returned (.int .i64 (orZ (cmpZ a1 b1) (cmpZ a2 b2))) ∧ ∃ n os, w' = grow (W.drewN n) os
  have c1 := fun W => cmpZ_any a1 b1 W
  have c2 := fun W => cmpZ_any a2 b2 W
  have c4 := fun g W h0 h1 => or_two g 0 (cmpZ a1 b1) (cmpZ a2 b2) W h0 h1
  generalize cmpZ a1 b1 = r1 at *
  generalize cmpZ a2 b2 = r2 at *
  generalize orZ r1 r2 = r at *
  have C1 : Hid (∀ W, Calls Tryz.prog 69 #[.int .i64 a1, .int .i64 b1] W fun e w' => e = .returned (.int .i64 r1) ∧ w' = W) := c1
  have C2 : Hid (∀ W, Calls Tryz.prog 69 #[.int .i64 a2, .int .i64 b2] W fun e w' => e = .returned (.int .i64 r2) ∧ w' = W) := c2
  have C4 : Hid (∀ g W, W.cell? ⟨g, 0, none⟩ = some (.int .i64 r1) → W.cell? ⟨g, 1, none⟩ = some (.int .i64 r2) → Calls Tryz.prog 68 #[.slice (some ⟨g, 0, none⟩) 2 2] W fun e w' => e = .returned (.int .i64 r) ∧ w' = W) := c4
  clear c1 c2 c4
  go_enter Tryz.func43, Tryz.ntmps43
  go_wp2
  rw [← HW2.out]
  clear HW2
  refine wp_region_still_tail 10 (by kernel_rfl) (by kernel_rfl) ?_
  simp only [List.take_succ_cons, List.take_zero, List.drop_succ_cons, List.drop_zero]
  still_step
  still_step
  still_step
  still_step
  still_call (C1.out _)
  still_step
  still_step
  still_step
  still_step
  still_call (C2.out _)
  refine wpStill_nil ?_
  change wpList _ _ _ _ _ (W2.drewN 1)
  have HG3 : Hid (∃ os, W2.drewN 1 = grow (W.drewN 1) os) := by
    obtain ⟨os, h⟩ := HG.out
    exact ⟨os, by rw [h]; rfl⟩
  generalize W2.drewN 1 = W3 at HG3 ⊢
  clear q1 q2 q4 q5
  go_wp2_with (go_at_call 68; refine (C4.out _ _ (by simp) (by simp)).mono ?_; rintro e w' ⟨rfl, rfl⟩)
  go_ret
  obtain ⟨os, h⟩ := HG3.out
  exact ⟨rfl, 1, _, by rw [h, alloc_eq_grow, grow_grow]⟩
theorem grow_drewN (w : World) (os : Array Obj) (n : Nat) : (grow w os).drewN n = grow (w.drewN n) os := rfl
end
section
open Go.Sort
set_option maxRecDepth 10000 in
set_option maxHeartbeats 1000000 in
/-- The closure by which a tag is sought. -/
theorem seek_any (v : Ver) (b : Int × Int) (w : World) : Calls Tryz.prog 65 #[.agg #[.int .i64 v.n, .int .i64 v.who, .int .i64 v.size, .int .i64 v.at_, .string v.text], .agg #[.int .i64 b.1, .int .i64 b.2]] w fun e w' => e = .returned (.int .i64 (tagC (tagOf v) b)) ∧ ∃ q os, w' = grow (w.drewN q) os := by
  obtain ⟨n, who, size, at_, text⟩ := v
  have HC : Hid (∀ W, Calls Tryz.prog 43 #[.agg #[.int .i64 n, .int .i64 who], .agg #[.int .i64 b.1, .int .i64 b.2]] W fun e w' => e = .returned (.int .i64 (tagC (n, who) b)) ∧ ∃ n os, w' = grow (W.drewN n) os) := fun W => compare_any (n, who) b W
  show Calls Tryz.prog 65 #[.agg #[.int .i64 n, .int .i64 who, .int .i64 size, .int .i64 at_, .string text], .agg #[.int .i64 b.1, .int .i64 b.2]] w fun e w' => e = .returned (.int .i64 (tagC (n, who) b)) ∧ ∃ q os, w' = grow (w.drewN q) os
  generalize tagC (n, who) b = c at *
  obtain ⟨b1, b2⟩ := b
  have HG : Hid (∃ os, (w.alloc (.cells #[.int .i64 n, .int .i64 who, .int .i64 size, .int .i64 at_, .string text] 49)).alloc (.cells #[.int .i64 b1, .int .i64 b2] 45) = grow w os) := ⟨_, by rw [alloc_eq_grow, alloc_eq_grow, grow_grow]⟩
  go_enter Tryz.func65, Tryz.ntmps65
  go_wp2_with fail
  refine (HC.out _).mono ?_
  rintro e w2 ⟨rfl, q, os, hw2⟩
  have HE : Hid (∃ q os, w2 = grow (w.drewN q) os) := by
    obtain ⟨os0, h0⟩ := HG.out
    exact ⟨q, os0 ++ os, by rw [hw2, h0, grow_drewN, grow_grow]⟩
  clear hw2 HG
  go_wp2
  go_ret
  exact ⟨rfl, HE.out⟩
end
section
open Go.Sort
/-- Is one there with this tag? -/
def foundV (l : List Ver) (t : Int × Int) : Bool := l.any fun x => decide (tagOf x = t)
theorem verAt_lt {l : List Ver} (hs : l.Pairwise fun x y => lessB (tagOf x) (tagOf y) = true) {i j : Nat} (hij : i < j) (hj : j < l.length) : lessB (tagOf (verAt l i)) (tagOf (verAt l j)) = true := by
  have := List.pairwise_iff_getElem.1 hs i j (by omega) hj hij
  have e : ∀ k (hk : k < l.length), l[k] = verAt l k := fun k hk => by
    have := verAt_get hk
    rw [List.getElem?_eq_getElem hk] at this
    exact Option.some.inj this
  rw [e i (by omega), e j hj] at this
  exact this
theorem placeV_at {l : List Ver} {t : Int × Int} {k : Nat} (hk : k ≤ l.length) (hlo : ∀ j, j < k → lessB (tagOf (verAt l j)) t = true) (hhi : ∀ j, k ≤ j → j < l.length → lessB (tagOf (verAt l j)) t = false) : placeV l t = k := by
  have e : ∀ k (hk : k < l.length), l[k] = verAt l k := fun k hk => by
    have := verAt_get hk
    rw [List.getElem?_eq_getElem hk] at this
    exact Option.some.inj this
  unfold placeV
  rw [← List.take_append_drop k l]
  rw [findIdx_split (fun x hx => ?_) (fun x hx => ?_), List.length_take]
  · omega
  · obtain ⟨j, hj, rfl⟩ := List.getElem_of_mem hx
    rw [List.length_take] at hj
    rw [List.getElem_take, e j (by omega), hlo j (by omega)]
    rfl
  · obtain ⟨j, hj, rfl⟩ := List.getElem_of_mem hx
    rw [List.length_drop] at hj
    rw [List.getElem_drop, e (k + j) (by omega), hhi (k + j) (by omega) (by omega)]
    rfl
theorem foundV_at {l : List Ver} {t : Int × Int} (hs : l.Pairwise fun x y => lessB (tagOf x) (tagOf y) = true) {k : Nat} (hlo : ∀ j, j < k → lessB (tagOf (verAt l j)) t = true) (hhi : ∀ j, k ≤ j → j < l.length → lessB (tagOf (verAt l j)) t = false) : foundV l t = (decide (k < l.length) && decide (tagOf (verAt l k) = t)) := by
  have e : ∀ k (hk : k < l.length), l[k] = verAt l k := fun k hk => by
    have := verAt_get hk
    rw [List.getElem?_eq_getElem hk] at this
    exact Option.some.inj this
  unfold foundV
  rw [Bool.eq_iff_iff]
  simp only [List.any_eq_true, decide_eq_true_eq, Bool.and_eq_true]
  constructor
  · rintro ⟨x, hx, ht⟩
    obtain ⟨j, hj, rfl⟩ := List.getElem_of_mem hx
    rw [e j hj] at ht
    have h1 : k ≤ j := by
      refine Classical.byContradiction fun h => ?_
      have := hlo j (by omega)
      rw [ht, lessB_irrefl] at this
      cases this
    rcases Nat.lt_or_ge k j with h2 | h2
    · have h3 := verAt_lt hs h2 hj
      have h4 := hhi k (Nat.le_refl _) (by omega)
      rw [ht] at h3
      rw [h3] at h4
      cases h4
    · obtain rfl : j = k := by omega
      exact ⟨hj, ht⟩
  · rintro ⟨hk, ht⟩
    exact ⟨l[k], List.getElem_mem hk, by rw [e k hk]; exact ht⟩
set_option maxRecDepth 10000 in
set_option maxHeartbeats 4000000 in
theorem search_any (p : Option Addr) (l : List Ver) (c : Nat) (t : Int × Int) (w : World) (hl : l.length ≤ 1000) (hs : l.Pairwise fun x y => lessB (tagOf x) (tagOf y) = true) (hr : Rec verE w p l) :
    Calls Tryz.prog 64 #[.slice p l.length c, .agg #[.int .i64 t.1, .int .i64 t.2], .func (.func 65) #[] #[]] w fun e w' => e = .returned (.tuple #[.int .i64 ((placeV l t : Nat) : Int), .bool (foundV l t)]) ∧ RowKit.Below w.heap.size w w' := by
  have mixed : Tryz.prog.follows .mixedOrders = true := by kernel_rfl
  have HSK : Hid (∀ (v : Ver) (W : World), Calls Tryz.prog 65 #[.agg #[.int .i64 v.n, .int .i64 v.who, .int .i64 v.size, .int .i64 v.at_, .string v.text], .agg #[.int .i64 t.1, .int .i64 t.2]] W fun e w' => e = .returned (.int .i64 (tagC (tagOf v) t)) ∧ ∃ q os, w' = grow (W.drewN q) os) := fun v W => seek_any v t W
  have HTL : Hid (∀ v : Ver, decide (tagC (tagOf v) t < 0) = lessB (tagOf v) t) := fun v => tagC_lt
  have HTZ : Hid (∀ v : Ver, tagC (tagOf v) t = 0 ↔ tagOf v = t) := fun v => tagC_zero
  have HLT : Hid (∀ i j, i < j → j < l.length → lessB (tagOf (verAt l i)) (tagOf (verAt l j)) = true) := fun i j h1 h2 => verAt_lt hs h1 h2
  have HP : Hid (∀ k, k ≤ l.length → (∀ j, j < k → lessB (tagOf (verAt l j)) t = true) → (∀ j, k ≤ j → j < l.length → lessB (tagOf (verAt l j)) t = false) → placeV l t = k ∧ foundV l t = (decide (k < l.length) && decide (tagOf (verAt l k) = t))) := fun k h1 h2 h3 => ⟨placeV_at h1 h2 h3, foundV_at hs h2 h3⟩
  generalize placeV l t = R1 at *
  generalize foundV l t = R2 at *
  obtain ⟨t1, t2⟩ := t
  obtain ⟨w1, hw1⟩ : ∃ w1, w1 = w.alloc (.cells #[.int .i64 t1, .int .i64 t2] 45) := ⟨_, rfl⟩
  have HW1 : Hid (w1 = w.alloc (.cells #[.int .i64 t1, .int .i64 t2] 45)) := hw1
  have HB1 : Hid (RowKit.Below w.heap.size w w1) := by rw [hw1]; exact (RowKit.Below.refl _ _).alloc (Nat.le_refl _) _
  have hs1 : w.heap.size < w1.heap.size := by rw [hw1]; simp
  have k1 : w1.cell? ⟨w.heap.size, 0, none⟩ = some (.int .i64 t1) := by rw [hw1]; simp
  have k2 : w1.cell? ⟨w.heap.size, 1, none⟩ = some (.int .i64 t2) := by rw [hw1]; simp
  have HALL : Hid (∀ W, RowKit.Below w1.heap.size w1 W → W.cell? ⟨w.heap.size, 0, none⟩ = some (.int .i64 t1) ∧ W.cell? ⟨w.heap.size, 1, none⟩ = some (.int .i64 t2) ∧ Rec verE W p l ∧ RowKit.Below w.heap.size w W) := fun W hW => ⟨(hW.cell (p := ⟨w.heap.size, 0, none⟩) hs1).trans k1, (hW.cell (p := ⟨w.heap.size, 1, none⟩) hs1).trans k2, (hr.below HB1.out).below hW, HB1.out.trans (hW.mono HB1.out.size)⟩
  clear hw1 k1 k2 hr hs HB1
  have HTR : Hid (∀ i j, i ≤ j → j < l.length → lessB (tagOf (verAt l j)) (t1, t2) = true → lessB (tagOf (verAt l i)) (t1, t2) = true) := fun i j h1 h2 h3 => by
    rcases Nat.lt_or_ge i j with h4 | h4
    · exact lessB_trans (HLT.out i j h4 h2) h3
    · obtain rfl : i = j := by omega
      exact h3
  clear HLT
  go_enter Tryz.func64, Tryz.ntmps64
  go_wp2
  rw [← HW1.out]
  clear HW1
  go_loopw [9, 10] (fun a b wq => ∃ lo hi : Nat, lo ≤ hi ∧ hi ≤ l.length ∧ a = .int .i64 lo ∧ b = .int .i64 hi ∧ (∀ j, j < lo → lessB (tagOf (verAt l j)) (t1, t2) = true) ∧ (∀ j, hi ≤ j → j < l.length → lessB (tagOf (verAt l j)) (t1, t2) = false) ∧ RowKit.Below w1.heap.size w1 wq) (fun a b _ => (intOf b).toNat - (intOf a).toNat)
  case atStart => exact ⟨0, l.length, Nat.zero_le _, Nat.le_refl _, rfl, rfl, fun j hj => absurd hj (Nat.not_lt_zero _), fun j h1 h2 => by omega, RowKit.Below.refl _ _⟩
  case round =>
    obtain ⟨lo, hi, hlh, hhl, rfl, rfl, hlo, hhi, hbq⟩ := hrel
    obtain ⟨w2, rfl⟩ : ∃ w2, w2 = wr := ⟨_, rfl⟩
    have HLO : Hid (∀ j, j < lo → lessB (tagOf (verAt l j)) (t1, t2) = true) := hlo
    have HHI : Hid (∀ j, hi ≤ j → j < l.length → lessB (tagOf (verAt l j)) (t1, t2) = false) := hhi
    have HBQ : Hid (RowKit.Below w1.heap.size w1 w2) := hbq
    obtain ⟨q1, q2, hrec, hb0⟩ := HALL.out w2 hbq
    have HREC : Hid (Rec verE w2 p l) := hrec
    have HB0 : Hid (RowKit.Below w.heap.size w w2) := hb0
    clear hlo hhi hbq hrec hb0
    by_cases hlt : lo < hi
    · obtain ⟨M, hM⟩ : ∃ M : Nat, M = (lo + hi) / 2 := ⟨_, rfl⟩
      have hM1 : lo ≤ M := by omega
      have hM2 : M < hi := by omega
      have hMl : M < l.length := by omega
      have hmid : ((lo : Int) + (hi : Int)) / 2 = (M : Int) := by omega
      have hmi : (0 : Int) ≤ (M : Int) := by omega
      have hmx : (M : Int) < (l.length : Int) := by omega
      obtain ⟨b, o, hpp, hblt, c0, c1, c2, c3, c4⟩ := ver_cells HREC.out hMl
      have HT2 := HTL.out (verAt l M)
      have HC : Hid (∀ W, Calls Tryz.prog 65 #[.agg #[.int .i64 (verAt l M).n, .int .i64 (verAt l M).who, .int .i64 (verAt l M).size, .int .i64 (verAt l M).at_, .string (verAt l M).text], .agg #[.int .i64 t1, .int .i64 t2]] W fun e w' => e = .returned (.int .i64 (tagC (tagOf (verAt l M)) (t1, t2))) ∧ ∃ q os, w' = grow (W.drewN q) os) := fun W => HSK.out (verAt l M) W
      subst hpp
      have HNL : Hid (lessB (tagOf (verAt l M)) (t1, t2) = true → ∀ j, j < M + 1 → lessB (tagOf (verAt l j)) (t1, t2) = true) := fun h j hj => HTR.out j M (by omega) hMl h
      have HNH : Hid (lessB (tagOf (verAt l M)) (t1, t2) = false → ∀ j, M ≤ j → j < l.length → lessB (tagOf (verAt l j)) (t1, t2) = false) := fun h j h1 h2 => by
        cases h3 : lessB (tagOf (verAt l j)) (t1, t2)
        · rfl
        · rw [HTR.out M j h1 h2 h3] at h; cases h
      generalize lessB (tagOf (verAt l M)) (t1, t2) = r at *
      generalize tagC (tagOf (verAt l M)) (t1, t2) = cc at *
      generalize verAt l M = y at *
      have j1 := cell_grown (lt_of_cellH q1) q1
      have j2 := cell_grown (lt_of_cellH q2) q2
      have i0 := cell_grown (lt_of_cellH c0) c0
      have i1 := cell_grown (lt_of_cellH c1) c1
      have i2 := cell_grown (lt_of_cellH c2) c2
      have i3 := cell_grown (lt_of_cellH c3) c3
      have i4 := cell_grown (lt_of_cellH c4) c4
      clear hM HSK HTL HTZ HP HALL HTR HREC
      cases r with
      | true =>
        have HN := HNL.out rfl
        have HN1 : Hid (∀ j, j < M + 1 → lessB (tagOf (verAt l j)) (t1, t2) = true) := HN
        clear HN HNL HNH HLO
        go_wp2
        go_quiet_grown ((go_at_call 65; exact Calls.grown_of (HC.out _)))
        go_wp2
        go_roundw
        case rel => exact ⟨M + 1, hi, by omega, hhl, by go_num, rfl, HN1.out, HHI.out, HBQ.out.trans ((below_grow w2 _ _).mono HBQ.out.size)⟩
        case measure => simp [intOf]; omega
      | false =>
        have HN := HNH.out rfl
        have HN1 : Hid (∀ j, M ≤ j → j < l.length → lessB (tagOf (verAt l j)) (t1, t2) = false) := HN
        clear HN HNL HNH HHI
        go_wp2
        go_quiet_grown ((go_at_call 65; exact Calls.grown_of (HC.out _)))
        go_wp2
        go_roundw
        case rel => exact ⟨lo, M, by omega, by omega, rfl, by go_num, HLO.out, HN1.out, HBQ.out.trans ((below_grow w2 _ _).mono HBQ.out.size)⟩
        case measure => simp [intOf]; omega
    · obtain rfl : hi = lo := by omega
      obtain ⟨hR1, hR2⟩ := HP.out hi hhl HLO.out HHI.out
      subst hR1
      have HR2 : Hid (R2 = (decide (R1 < l.length) && decide (tagOf (verAt l R1) = (t1, t2)))) := hR2
      clear hR2 HLO HHI
      by_cases hkl : R1 < l.length
      · have hmi : (0 : Int) ≤ (R1 : Int) := by omega
        have hmx : (R1 : Int) < (l.length : Int) := by omega
        obtain ⟨b, o, hpp, hblt, c0, c1, c2, c3, c4⟩ := ver_cells HREC.out hkl
        have HC : Hid (∀ W, Calls Tryz.prog 65 #[.agg #[.int .i64 (verAt l R1).n, .int .i64 (verAt l R1).who, .int .i64 (verAt l R1).size, .int .i64 (verAt l R1).at_, .string (verAt l R1).text], .agg #[.int .i64 t1, .int .i64 t2]] W fun e w' => e = .returned (.int .i64 (tagC (tagOf (verAt l R1)) (t1, t2))) ∧ ∃ q os, w' = grow (W.drewN q) os) := fun W => HSK.out (verAt l R1) W
        have HZ : Hid (R2 = decide (tagC (tagOf (verAt l R1)) (t1, t2) = 0)) := by
          show _ = _
          rw [HR2.out, decide_eq_true hkl, Bool.true_and]
          exact decide_eq_decide.2 (HTZ.out (verAt l R1)).symm
        subst hpp
        clear HR2
        generalize tagC (tagOf (verAt l R1)) (t1, t2) = cc at *
        generalize verAt l R1 = y at *
        have j1 := cell_grown (lt_of_cellH q1) q1
        have j2 := cell_grown (lt_of_cellH q2) q2
        have i0 := cell_grown (lt_of_cellH c0) c0
        have i1 := cell_grown (lt_of_cellH c1) c1
        have i2 := cell_grown (lt_of_cellH c2) c2
        have i3 := cell_grown (lt_of_cellH c3) c3
        have i4 := cell_grown (lt_of_cellH c4) c4
        clear HSK HTL HTZ HP HALL HTR HREC
        go_wp2
        go_quiet_grown ((go_at_call 65; exact Calls.grown_of (HC.out _)))
        go_wp2
        go_ret2
        exact ⟨by rw [HZ.out]; rfl, HB0.out.trans ((below_grow w2 _ _).mono HB0.out.size)⟩
      · have HZ : Hid (R2 = false) := by show _ = _; rw [HR2.out, decide_eq_false hkl]; rfl
        clear HR2 HSK HTL HTZ HP HALL HTR HREC
        go_wp2
        go_quiet (fail)
        go_wp2
        go_ret2
        exact ⟨by rw [HZ.out]; rfl, HB0.out.trans ⟨rfl, rfl, rfl, Nat.le_refl _, fun _ _ => rfl⟩⟩
set_option maxRecDepth 10000 in
set_option maxHeartbeats 1000000 in
theorem place_any (p : Option Addr) (l : List Ver) (c : Nat) (t : Int × Int) (w : World) (hl : l.length ≤ 1000) (hs : l.Pairwise fun x y => lessB (tagOf x) (tagOf y) = true) (hr : Rec verE w p l) :
    Calls Tryz.prog 39 #[.slice p l.length c, .agg #[.int .i64 t.1, .int .i64 t.2]] w fun e w' => e = .returned (.tuple #[.int .i64 ((placeV l t : Nat) : Int), .bool (foundV l t)]) ∧ RowKit.Below w.heap.size w w' := by
  obtain ⟨t1, t2⟩ := t
  have HB : Hid (RowKit.Below w.heap.size w (w.alloc (.cells #[.int .i64 t1, .int .i64 t2] 45))) := (RowKit.Below.refl _ _).alloc (Nat.le_refl _) _
  have HC : Hid (∀ W, RowKit.Below w.heap.size w W → Calls Tryz.prog 64 #[.slice p l.length c, .agg #[.int .i64 t1, .int .i64 t2], .func (.func 65) #[] #[]] W fun e w' => e = .returned (.tuple #[.int .i64 ((placeV l (t1, t2) : Nat) : Int), .bool (foundV l (t1, t2))]) ∧ RowKit.Below W.heap.size W w') := fun W hW => search_any p l c (t1, t2) W hl hs (hr.below hW)
  clear hs hr
  generalize placeV l (t1, t2) = R1 at *
  generalize foundV l (t1, t2) = R2 at *
  go_enter Tryz.func39, Tryz.ntmps39
  go_wp2_with fail
  refine (HC.out _ HB.out).mono ?_
  rintro e w2 ⟨rfl, hb2⟩
  have HB2 : Hid (RowKit.Below w.heap.size w w2) := HB.out.trans (hb2.mono HB.out.size)
  clear hb2
  go_wp2
  go_ret2
  exact ⟨rfl, HB2.out⟩
end
end Go.Proofs.YtmbpfbhpmafheaaGreatDoor
