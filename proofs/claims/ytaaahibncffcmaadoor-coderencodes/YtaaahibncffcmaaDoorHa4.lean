/- Texts laid together. -/
import Derived.Test.YtaaahibncffcmaaDoorHa3
namespace Go.Proofs.YtaaahibncffcmaaDoor
open Go.RowKit
theorem spreadM_row (k n i : Nat) (hi : i < n) : rowOf (spreadM k n) i = rowFn k fun j => Gf.shareOf (upToL k) j i := by
  unfold rowOf spreadM
  rw [List.getD_eq_getElem?_getD, List.getElem?_map, List.getElem?_range hi]
  rfl
/-- Byte c of shard i, so far. -/
def encN (s : List Nat) (k wd i c : Nat) : Nat → Nat
  | 0 => 0
  | j + 1 => if j * wd + c < s.length then encN s k wd i c j ^^^ Gf.mul (Gf.shareOf (upToL k) j i) (Gf.nth s (j * wd + c)) else encN s k wd i c j
def encRow (s : List Nat) (k wd i : Nat) : List Nat := rowFn wd fun c => encN s k wd i c k
theorem encN_lt (s : List Nat) (k wd i c : Nat) : ∀ j, encN s k wd i c j < 256
  | 0 => by show 0 < 256; decide
  | j + 1 => by
    show (if j * wd + c < s.length then encN s k wd i c j ^^^ Gf.mul (Gf.shareOf (upToL k) j i) (Gf.nth s (j * wd + c)) else encN s k wd i c j) < 256
    split
    · exact Gf.xlt (encN_lt s k wd i c j) (Gf.mul_lt (Gf.shareOf_lt _ _ _) _)
    · exact encN_lt s k wd i c j
/-- Shards one behind the other. -/
def shCells (l : List (Nat × List Nat)) : List Value := l.flatMap fun x => [.int .i64 (x.1 : Int), .string (strOf x.2)]
def OwnSh (w : World) (B : Nat) (v : Value) (l : List (Nat × List Nat)) : Prop := w.ownsRow B 48 2 v l.length (shCells l)
theorem shinfo : (Tryd.prog.info? 48).map (fun i => (i.zero, i.size, i.bytes)) = some (some (.agg #[.int .i64 0, .string ⟨#[]⟩]), 2, 24) := by kernel_rfl
theorem shCells_snoc (l : List (Nat × List Nat)) (x : Nat × List Nat) : shCells (l ++ [x]) = shCells l ++ [.int .i64 (x.1 : Int), .string (strOf x.2)] := by simp [shCells]
theorem OwnSh.snoc {w : World} {B : Nat} {v : Value} {l : List (Nat × List Nat)} {i : Nat} {row : List Nat} {n : Nat} (h : w.ownsRow B 48 2 v (n + 1) (shCells l ++ [.int .i64 (i : Int), .string (strOf row)])) (hn : n = l.length) : OwnSh w B v (l ++ [(i, row)]) := by
  unfold OwnSh
  rw [shCells_snoc, List.length_append, List.length_singleton, ← hn]
  exact h
def shAt (l : List (Int × ByteArray)) (i : Nat) : Int × ByteArray := l.getD i (0, ⟨#[]⟩)
/-- In the world w the shards l lie from p on. -/
def Shs (w : World) (p : Option Addr) (l : List (Int × ByteArray)) : Prop :=
  l = [] ∨ ∃ b o, p = some ⟨b, o, none⟩ ∧ b < w.heap.size ∧ ∀ i, i < l.length → w.cell? ⟨b, o + i * 2, none⟩ = some (.int .i64 (shAt l i).1) ∧ w.cell? ⟨b, o + i * 2 + 1, none⟩ = some (.string (shAt l i).2)
theorem Shs.below {w w' : World} {p : Option Addr} {l : List (Int × ByteArray)} (h : Shs w p l) (hb : Below w.heap.size w w') : Shs w' p l := by
  rcases h with h | ⟨b, o, hp, hlt, hc⟩
  · exact Or.inl h
  · exact Or.inr ⟨b, o, hp, Nat.lt_of_lt_of_le hlt hb.size, fun i hi => ⟨(hb.cell (p := ⟨b, o + i * 2, none⟩) hlt).trans (hc i hi).1, (hb.cell (p := ⟨b, o + i * 2 + 1, none⟩) hlt).trans (hc i hi).2⟩⟩
def shVals (l : List (Int × ByteArray)) : List Value := l.flatMap fun x => [.int .i64 x.1, .string x.2]
theorem shVals_length (l : List (Int × ByteArray)) : (shVals l).length = l.length * 2 := by
  induction l with
  | nil => rfl
  | cons x t ih =>
    have : shVals (x :: t) = .int .i64 x.1 :: .string x.2 :: shVals t := rfl
    rw [this, List.length_cons, List.length_cons, ih, List.length_cons]
    omega
theorem shVals_at : ∀ (l : List (Int × ByteArray)) (i : Nat), i < l.length → (shVals l)[i * 2]? = some (.int .i64 (shAt l i).1) ∧ (shVals l)[i * 2 + 1]? = some (.string (shAt l i).2)
  | [], i, h => absurd h (Nat.not_lt_zero _)
  | x :: t, 0, _ => ⟨rfl, rfl⟩
  | x :: t, i + 1, h => by
    have h' := shVals_at t i (by simpa using h)
    have e : shVals (x :: t) = .int .i64 x.1 :: .string x.2 :: shVals t := rfl
    have e2 : shAt (x :: t) (i + 1) = shAt t i := rfl
    rw [e, e2, show (i + 1) * 2 = i * 2 + 1 + 1 by omega, show i * 2 + 1 + 1 + 1 = i * 2 + 1 + 1 + 1 from rfl]
    exact ⟨by simpa using h'.1, by simpa using h'.2⟩
theorem Shs.cells {w : World} {b o : Nat} {l : List (Int × ByteArray)} (hc : ∀ i, i < l.length → w.cell? ⟨b, o + i * 2, none⟩ = some (.int .i64 (shAt l i).1) ∧ w.cell? ⟨b, o + i * 2 + 1, none⟩ = some (.string (shAt l i).2)) : ∀ j u, (shVals l)[j]? = some u → w.cell? ((⟨b, o, none⟩ : Addr).add j) = some u := by
  intro j u hj
  have hjl : j < (shVals l).length := (List.getElem?_eq_some_iff.1 hj).1
  rw [shVals_length] at hjl
  have hi : j / 2 < l.length := by omega
  have h1 := shVals_at l (j / 2) hi
  have h2 := hc (j / 2) hi
  rw [Addr.add_lit]
  rcases Nat.mod_two_eq_zero_or_one j with e | e
  · have ej : j = j / 2 * 2 := by omega
    rw [ej] at hj ⊢
    rw [h1.1] at hj
    rw [h2.1, ← hj]
  · have ej : j = j / 2 * 2 + 1 := by omega
    rw [ej] at hj ⊢
    rw [h1.2] at hj
    rw [← Nat.add_assoc, h2.2, ← hj]
theorem shs_of_own {w : World} {B : Nat} {v : Value} {l : List (Int × ByteArray)} {E : TypeId} (h : w.ownsRow B E 2 v l.length (shVals l)) : ∃ p c, v = .slice p l.length c ∧ Shs w p l := by
  rcases h.2 with ⟨rfl, h0⟩ | ⟨g, cap, cur, rfl, hb, hg, hnc, hcm, hcs, htake⟩
  · have : l = [] := List.length_eq_zero_iff.1 h0
    subst this
    exact ⟨none, 0, rfl, Or.inl rfl⟩
  · refine ⟨some ⟨g, 0, none⟩, cap, rfl, Or.inr ⟨g, 0, rfl, (Array.getElem?_eq_some_iff.1 hg).1, fun i hi => ?_⟩⟩
    have hc := World.ownsRow.cells (g := g) h rfl
    have h1 := shVals_at l i hi
    have e1 := hc (i * 2) _ h1.1
    have e2 := hc (i * 2 + 1) _ h1.2
    rw [Addr.add_lit] at e1 e2
    exact ⟨e1, by rw [Nat.add_assoc]; exact e2⟩
/-- Nothing behind nothing: nil. -/
theorem wpList_append_empty {P : Program} {w : World} {ops : Array Oper} {rest : List Oper} {o : Oper} {a : Act} {Q : Exit → Act → World → Prop} (hgd : o.guard = none) (s x : Operand) (t : TypeId)
    (ho : o.op = .call { callee := .builtin .append, args := #[s, x], argTypes := #[t, t] })
    (e : TypeId) (i : TypeInfo) (ht : P.underlying t = some (.slice e)) (hi : P.info? e = some i)
    (hs : a.eval s = .slice none 0 0) (q : Option Addr) (c : Nat) (hx : a.eval x = .slice q 0 c) (hc0 : q = none → c = 0)
    (h : wpList P ops Q rest (a.put o.dst (.slice none 0 0)) w) : wpList P ops Q (o :: rest) a w := by
  refine wpList_plain hgd fun K hK => ?_
  have hr : (Builtin.append_ #[t, t] o.type #[.slice none 0 0, .slice q 0 c]).run P w = .ok (.slice none 0 0) w := by
    cases q with
    | none => obtain rfl := hc0 rfl; simp [Builtin.append_, run_underlying ht, sizeOf, typeInfo, hi, Builtin.lenOf, Builtin.firstCells]
    | some ad => simp [Builtin.append_, run_underlying ht, sizeOf, typeInfo, hi, Builtin.lenOf, Builtin.firstCells, loadCells, loadCellsFrom]
  unfold Oper.wp execOp
  simp only [ho, resolve, invoke, builtin, Sem.run_bind, Sem.run_pure, Result.andThen_ok, List.map_toArray, List.map_cons, List.map_nil, hs, hx, hr]
  exact hK _ _ h
theorem shardinfo : (Tryd.prog.info? 48).map (fun i => (i.zero, i.size, i.bytes)) = some (some (.agg #[.int .i64 0, .string ⟨#[]⟩]), 2, 24) := by kernel_rfl
set_option maxRecDepth 10000 in
set_option maxHeartbeats 1000000 in
theorem upTo_any (k : Nat) (w : World) (hk : k ≤ 100) :
    Calls Tryd.prog 32 #[.int .i64 (k : Int)] w fun e w' => (∃ v, e = .returned v ∧ Own w' w.heap.size 5 v (upToL k)) ∧ Below w.heap.size w w' := by
  obtain ⟨i0, hi0, hz0, hz1, hz2⟩ := info_parts u8info
  go_enter Tryd.func32, Tryd.ntmps32
  go_wp2
  go_loopw [3, 4] (fun v j wr => ∃ n : Nat, n ≤ k ∧ j = .int .i64 n ∧ Own wr w.heap.size 5 v (upToL n) ∧ Below w.heap.size w wr) (fun _ j _ => k - (intOf j).toNat)
  case atStart => exact ⟨0, by omega, rfl, Own.nil _ _ _, Below.refl _ _⟩
  case round =>
    obtain ⟨n, hn, rfl, hown, hb⟩ := hrel
    have HO : Hid (Own wr w.heap.size 5 u3 (upToL n)) := hown
    have HB : Hid (Below w.heap.size w wr) := hb
    have hbz : w.heap.size ≤ wr.heap.size := hb.size
    have hul : (upToL n).length = n := by simp [upToL]
    clear hown hb
    by_cases hlt : n < k
    · have HU : Hid (upToL (n + 1) = upToL n ++ [n]) := by show _ = _; simp [upToL, List.range_succ]
      go_wp2_with (first | (at_builtin; refine wpList_append_byte rfl (.tmp 10) (.tmp 13) 32 rfl w.heap.size 5 i0 Tryd.underlying32 hi0 hz0 hz1 hz2 u3 (upToL n) rfl (HO.out.kept (World.grownBy_alloc wr _ none) (by cases hv : u3.ownBlock <;> simp)) ⟨wr.heap.size, 0, none⟩ 1 n rfl (by simp [byteV]) (by omega) (by simp; omega) ?_; intro v1 w1 hX hgX hwX))
      have hb1 : Below w.heap.size w w1 := (HB.out.alloc hbz _).grown hgX (by simp; omega) (fun k' hk' => (HO.out.block hk').1)
      go_roundw
      case rel => exact ⟨n + 1, by omega, by go_num, by rw [HU.out]; exact hX, hb1⟩
      case measure => simp [intOf]; omega
    · have hne : n = k := by omega
      subst hne
      go_wp2
      go_ret
      exact ⟨⟨u3, rfl, HO.out⟩, HB.out⟩
set_option maxRecDepth 10000 in
set_option maxHeartbeats 4000000 in
theorem rspread_any (n k : Nat) (w : World) (hn : n ≤ 100) (hk1 : 1 ≤ k) (hk : k ≤ 100) :
    Calls Tryd.prog 15 #[.int .i64 (n : Int), .int .i64 (k : Int)] w fun e w' => (∃ p' c', e = .returned (.slice p' n c') ∧ Mat w' p' (spreadM k n)) ∧ Below w.heap.size w w' := by
  obtain ⟨i1, hi1, hy0, hy1, hy2⟩ := info_parts rowinfo
  obtain ⟨i0, hi0, hz0, hz1, hzb⟩ := info_parts u8info
  go_enter Tryd.func15, Tryd.ntmps15
  go_wp2_with fail
  refine (upTo_any k _ hk).mono ?_
  rintro e w2 ⟨⟨vx, rfl, hox⟩, hb2⟩
  obtain ⟨px, cx, hvx, hsx⟩ := hox.seg (upToL_bytes k (by omega))
  rw [upToL_length] at hvx
  subst hvx
  have HSX : Hid (Seg w2 px (upToL k)) := hsx
  have HB2 : Hid (Below w.heap.size w w2) := hb2
  have hzw : w.heap.size ≤ w2.heap.size := hb2.size
  clear hox hsx hb2
  go_wp2
  go_loopw [6, 7] (fun v x wr => ∃ i : Nat, i ≤ n ∧ x = .int .i64 i ∧ OwnMat w2.heap.size wr 32 v (spreadM k i) ∧ Below w2.heap.size w2 wr) (fun _ x _ => n - (intOf x).toNat)
  case atStart => exact ⟨0, by omega, rfl, OwnMat.nil _ _ _, Below.refl _ _⟩
  case round =>
    obtain ⟨i, hi, rfl, hO, hBr⟩ := hrel
    have HO : Hid (OwnMat w2.heap.size wr 32 u6 (spreadM k i)) := hO
    have HBr : Hid (Below w2.heap.size w2 wr) := hBr
    have hz2 : w2.heap.size ≤ wr.heap.size := hBr.size
    clear hO hBr
    by_cases hil : i < n
    · go_wp2_with (first | (at_make; refine wpList_make_row _ rfl (.tmp 17) (.tmp 17) 32 rfl 5 i0 (byteV 0) Tryd.underlying32 hi0 hz0 hz1 rfl .i64 .i64 k rfl rfl (by rw [hzb]; omega) (by omega) ?_))
      obtain ⟨w3, rfl⟩ : ∃ w3, w3 = wr := ⟨_, rfl⟩
      have hmk : OwnN (w3.alloc (.cells (madeCells #[byteV 0] k) 5)) w3.heap.size 5 w3.heap.size k (rowFn k (fun c => if c < 0 then Gf.shareOf (upToL k) c i else 0)) := by
        have := OwnN.made w3 w3.heap.size 5 k (Nat.le_refl _) (by omega)
        rw [rowFn_congr k _ (fun c => if c < 0 then Gf.shareOf (upToL k) c i else 0) (fun c _ => by rw [if_neg (Nat.not_lt_zero _)])] at this
        exact this
      have hbk : Below w3.heap.size w3 (w3.alloc (.cells (madeCells #[byteV 0] k) 5)) := (Below.refl _ _).alloc (Nat.le_refl _) _
      generalize w3.alloc (.cells (madeCells #[byteV 0] k) 5) = w4 at hmk hbk ⊢
      have HMK : Hid (OwnN w4 w3.heap.size 5 w3.heap.size k (rowFn k (fun c => if c < 0 then Gf.shareOf (upToL k) c i else 0))) := hmk
      have HBK : Hid (Below w3.heap.size w3 w4) := hbk
      clear hmk hbk
      go_loopw [9] (fun x wq => ∃ j : Nat, j ≤ k ∧ x = .int .i64 j ∧ OwnN wq w3.heap.size 5 w3.heap.size k (rowFn k (fun c => if c < j then Gf.shareOf (upToL k) c i else 0)) ∧ Below w3.heap.size w3 wq) (fun x _ => k - (intOf x).toNat)
      case atStart => exact ⟨0, by omega, rfl, HMK.out, HBK.out⟩
      case round =>
        obtain ⟨j, hj, rfl, hON, hBq⟩ := hrel
        obtain ⟨w5, rfl⟩ : ∃ w5, w5 = wr := ⟨_, rfl⟩
        have HON : Hid (OwnN w5 w3.heap.size 5 w3.heap.size k (rowFn k (fun c => if c < j then Gf.shareOf (upToL k) c i else 0))) := hON
        have HBq : Hid (Below w3.heap.size w3 w5) := hBq
        have hz5 : w3.heap.size ≤ w5.heap.size := hBq.size
        clear hON hBq HMK HBK
        by_cases hjl : j < k
        · have HS5 : Hid (Seg w5 px (upToL k)) := (HSX.out.below HBr.out).below HBq.out
          go_wp2_with fail
          refine (basis_told px k cx j i _ (by omega) hk hjl HS5.out).mono ?_
          rintro e w6 ⟨rfl, m, hw6⟩
          have HO6 : Hid (OwnN w6 w3.heap.size 5 w3.heap.size k (rowFn k (fun c => if c < j then Gf.shareOf (upToL k) c i else 0))) := by rw [hw6]; exact HON.out.drewN m
          have HB6 : Hid (Below w3.heap.size w3 w6) := by rw [hw6]; exact below_drewN HBq.out m
          have q5 : w6.cell? ⟨w3.heap.size, j, none⟩ = some (.int .u8 ((0 : Nat) : Int)) := by rw [HO6.out.cell j hjl (rowFn_length _ _), nth_rowFn _ _ j hjl, if_neg (Nat.lt_irrefl _)]
          have q6 : w6.frozen? ⟨w3.heap.size, j, none⟩ = false := HO6.out.free j
          have HT : Hid (OwnN (w6.setCell ⟨w3.heap.size, j, none⟩ (.int .u8 ((Gf.shareOf (upToL k) j i : Nat) : Int))) w3.heap.size 5 w3.heap.size k (rowFn k (fun c => if c < j + 1 then Gf.shareOf (upToL k) c i else 0))) := by
            have := HO6.out.set j (Gf.shareOf (upToL k) j i)
            rw [rowFn_congr k (fun c => if c < j + 1 then Gf.shareOf (upToL k) c i else 0) (fun c => if c = j then Gf.shareOf (upToL k) j i else if c < j then Gf.shareOf (upToL k) c i else 0) (fun c _ => by
              by_cases e : c = j
              · subst e; rw [if_pos (by omega), if_pos rfl]
              · rw [if_neg e]
                by_cases e' : c < j
                · rw [if_pos (by omega), if_pos e']
                · rw [if_neg (by omega), if_neg e'])]
            exact this
          clear hw6 HON HBq HS5 HO6
          generalize Gf.shareOf (upToL k) j i = sh at HT ⊢
          go_wp2
          go_roundw
          case rel => exact ⟨j + 1, by omega, by go_num, HT.out, HB6.out.setCell (Nat.le_refl _) _⟩
          case measure => simp [intOf]; omega
        · have hje : j = k := by omega
          subst hje
          obtain ⟨vs, hmv⟩ := HO.out
          have HMV : Hid (OwnMatV w2.heap.size w3 32 u6 vs (spreadM j i)) := hmv
          have HV : Hid (OwnV w3 w2.heap.size 32 u6 vs) := hmv.1
          have HVL : Hid (vs.length = i) := hmv.2.1.trans (spreadM_length j i)
          have hr : Hid (Own w5 w3.heap.size 5 (.slice (some ⟨w3.heap.size, 0, none⟩) j j) (rowFn j fun c => Gf.shareOf (upToL j) c i)) := by
            refine OwnN.own ?_ (rowFn_length _ _)
            rw [rowFn_congr j _ (fun c => if c < j then Gf.shareOf (upToL j) c i else 0) (fun c hc => by rw [if_pos hc])]
            exact HON.out
          clear hmv HON
          go_wp2_with (first | (at_builtin; refine wpList_append_val rfl (.tmp 32) (.tmp 34) 23 rfl w2.heap.size 32 i1 (.slice none 0 0) 24 Tryd.underlying23 hi1 hy0 rfl hy1 hy2 (by decide) u6 vs rfl (((HV.out.kept (row := none) ⟨HBq.out.os, HBq.out.tape, HBq.out.output, HBq.out.size, fun k hk _ => HBq.out.block k hk⟩ (by cases hv : u6.ownBlock <;> simp))).kept (World.grownBy_alloc w5 _ none) (by cases hv : u6.ownBlock <;> simp)) ⟨w5.heap.size, 0, none⟩ 1 (.slice (some ⟨w3.heap.size, 0, none⟩) j j) rfl rfl (by simp) (by have := HVL.out; omega) (by simp; omega) ?_; intro v' w8 hV' hg' hw'))
          have hmv3 := HMV.out.snoc hz2 hr.out (rowFn_bytes _ _ fun c => Gf.shareOf_lt _ c _) HBq.out hV' hg' hw'
          have hb8 : Below w2.heap.size w2 w8 := ((HBr.out.trans (HBq.out.mono hz2)).alloc (by omega) _).grown hg' (by simp; omega) (fun k' hk' => (HV.out.block hk').1)
          go_roundw
          case rel => exact ⟨i + 1, by omega, by go_num, ⟨_, by rw [spreadM_succ]; exact hmv3⟩, hb8⟩
          case measure => simp [intOf]; omega
    · have hie : i = n := by omega
      subst hie
      obtain ⟨p', c', hv, hmat⟩ := HO.out.mat
      rw [spreadM_length] at hv
      subst hv
      clear HO
      go_wp2
      go_ret
      exact ⟨⟨p', c', rfl, hmat⟩, HB2.out.trans (HBr.out.mono hzw)⟩
set_option maxRecDepth 10000 in
set_option maxHeartbeats 4000000 in
theorem rencode_any (n k : Nat) (s : ByteArray) (w : World) (hk1 : 1 ≤ k) (hkn : k ≤ n) (hn : n ≤ 12) (hs : s.size ≤ 3000) :
    Calls Tryd.prog 22 #[.int .i64 (n : Int), .int .i64 (k : Int), .string s] w fun e w' => (∃ v, e = .returned v ∧ OwnSh w' w.heap.size v ((List.range n).map fun i => (i, encRow (bytesOf s) k (wideN k s.size) i))) ∧ Below w.heap.size w w' := by
  obtain ⟨i1, hi1, hy0, hy1, hy2⟩ := info_parts shinfo
  obtain ⟨i0, hi0, hz0, hz1, hzb⟩ := info_parts u8info
  have hwd := wideN_le (size := s.size) hk1
  go_enter Tryd.func22, Tryd.ntmps22
  go_wp2_with fail
  refine (rwide_any k s.size _ hk1 (by omega) (by omega)).mono ?_
  rintro e w' ⟨rfl, hww⟩
  rw [hww]
  clear hww w'
  go_wp2_with fail
  refine (rspread_any n k _ (by omega) hk1 (by omega)).mono ?_
  rintro e w2 ⟨⟨p2, c2, rfl, hm2⟩, hb2⟩
  have HM2 : Hid (Mat w2 p2 (spreadM k n)) := hm2
  have HB2 : Hid (Below w.heap.size w w2) := hb2
  have hs2 : w.heap.size ≤ w2.heap.size := hb2.size
  clear hm2 hb2
  generalize hwe : wideN k s.size = wd at *
  have HWE : Hid (wideN k s.size = wd) := hwe
  clear hwe
  go_wp2
  have hsz : (bytesOf s).length = s.size := by simp [bytesOf]
  go_loopw [9, 10] (fun v x wr => ∃ i : Nat, i ≤ n ∧ x = .int .i64 i ∧ OwnSh wr w2.heap.size v ((List.range i).map fun i => (i, encRow (bytesOf s) k wd i)) ∧ Below w2.heap.size w2 wr) (fun _ x _ => n - (intOf x).toNat)
  case atStart => exact ⟨0, by omega, rfl, World.ownsRow_nil _ _ _ _, Below.refl _ _⟩
  case round =>
    obtain ⟨i, hi, rfl, hO, hB⟩ := hrel
    obtain ⟨w3, rfl⟩ : ∃ w3, w3 = wr := ⟨_, rfl⟩
    have HO : Hid (OwnSh w3 w2.heap.size u9 ((List.range i).map fun i => (i, encRow (bytesOf s) k wd i))) := hO
    have HB : Hid (Below w2.heap.size w2 w3) := hB
    have hz3 : w2.heap.size ≤ w3.heap.size := hB.size
    clear hO hB
    by_cases hil : i < n
    · go_wp2_with (first | (at_make; refine wpList_make_row _ rfl (.tmp 26) (.tmp 26) 32 rfl 5 i0 (byteV 0) Tryd.underlying32 hi0 hz0 hz1 rfl .i64 .i64 wd rfl rfl (by rw [hzb]; omega) (by omega) ?_))
      have hmk : OwnN (w3.alloc (.cells (madeCells #[byteV 0] wd) 5)) w3.heap.size 5 w3.heap.size wd (rowFn wd (fun c => if c < 0 then encN (bytesOf s) k wd i c k else 0)) := by
        have := OwnN.made w3 w3.heap.size 5 wd (Nat.le_refl _) (by omega)
        rw [rowFn_congr wd _ (fun c => if c < 0 then encN (bytesOf s) k wd i c k else 0) (fun c _ => by rw [if_neg (Nat.not_lt_zero _)])] at this
        exact this
      have hbk : Below w3.heap.size w3 (w3.alloc (.cells (madeCells #[byteV 0] wd) 5)) := (Below.refl _ _).alloc (Nat.le_refl _) _
      generalize w3.alloc (.cells (madeCells #[byteV 0] wd) 5) = w4 at hmk hbk ⊢
      have HMK : Hid (OwnN w4 w3.heap.size 5 w3.heap.size wd (rowFn wd (fun c => if c < 0 then encN (bytesOf s) k wd i c k else 0))) := hmk
      have HBK : Hid (Below w3.heap.size w3 w4) := hbk
      clear hmk hbk
      go_loopw [12] (fun x wq => ∃ c : Nat, c ≤ wd ∧ x = .int .i64 c ∧ OwnN wq w3.heap.size 5 w3.heap.size wd (rowFn wd (fun d => if d < c then encN (bytesOf s) k wd i d k else 0)) ∧ Below w3.heap.size w3 wq) (fun x _ => wd - (intOf x).toNat)
      case atStart => exact ⟨0, by omega, rfl, HMK.out, HBK.out⟩
      case round =>
        obtain ⟨c, hc, rfl, hON, hBq⟩ := hrel
        obtain ⟨w5, rfl⟩ : ∃ w5, w5 = wr := ⟨_, rfl⟩
        have HON : Hid (OwnN w5 w3.heap.size 5 w3.heap.size wd (rowFn wd (fun d => if d < c then encN (bytesOf s) k wd i d k else 0))) := hON
        have HBq : Hid (Below w3.heap.size w3 w5) := hBq
        clear hON hBq HMK HBK
        by_cases hcl : c < wd
        · go_wp2
          go_loopw [13] (fun x wq => ∃ j : Nat, j ≤ k ∧ x = .int .i64 j ∧ OwnN wq w3.heap.size 5 w3.heap.size wd (rowFn wd (fun d => if d < c then encN (bytesOf s) k wd i d k else if d = c then encN (bytesOf s) k wd i c j else 0)) ∧ Below w3.heap.size w3 wq) (fun x _ => k - (intOf x).toNat)
          case atStart =>
            refine ⟨0, by omega, rfl, ?_, HBq.out⟩
            rw [rowFn_congr wd _ (fun d => if d < c then encN (bytesOf s) k wd i d k else 0) (fun d _ => by by_cases e : d = c <;> simp [e, encN])]
            exact HON.out
          case round =>
            obtain ⟨j, hjk, rfl, hON2, hBq2⟩ := hrel
            obtain ⟨w6, rfl⟩ : ∃ w6, w6 = wr := ⟨_, rfl⟩
            have HON2 : Hid (OwnN w6 w3.heap.size 5 w3.heap.size wd (rowFn wd (fun d => if d < c then encN (bytesOf s) k wd i d k else if d = c then encN (bytesOf s) k wd i c j else 0))) := hON2
            have HBq2 : Hid (Below w3.heap.size w3 w6) := hBq2
            clear hON2 hBq2 HON HBq
            by_cases hjl : j < k
            · have hb : j * wd ≤ 12 * 3000 := Nat.mul_le_mul (by omega) (by omega)
              have hp0 : (0 : Int) ≤ (j : Int) * (wd : Int) := by rw [← Int.natCast_mul]; omega
              have hp1 : (j : Int) * (wd : Int) ≤ 36000 := by rw [← Int.natCast_mul]; omega
              by_cases hin : j * wd + c < s.size
              · have h2 : (j : Int) * (wd : Int) + (c : Int) < (s.size : Int) := by rw [← Int.natCast_mul]; omega
                have hlr : (rowOf (spreadM k n) i).length = k := by rw [spreadM_row k n i hil, rowFn_length]
                obtain ⟨bm, om, b1, o1, c1, hpm, hbm, hb1, hcM, hdM⟩ := HM2.out.row (i := i) (by rw [spreadM_length]; exact hil) (by rw [hlr]; omega)
                subst hpm
                rw [hlr] at hcM hdM
                have toW6 : ∀ b o, b < w2.heap.size → w6.cell? ⟨b, o, none⟩ = w2.cell? ⟨b, o, none⟩ := fun b o hb => (HBq2.out.cell (p := ⟨b, o, none⟩) (by show b < _; omega)).trans (HB.out.cell (p := ⟨b, o, none⟩) hb)
                have q1 : w6.cell? ⟨bm, om + i, none⟩ = some (.slice (some ⟨b1, o1, none⟩) k c1) := (toW6 _ _ hbm).trans hcM
                have q2 : w6.cell? ⟨b1, o1 + j, none⟩ = some (.int .u8 ((Gf.shareOf (upToL k) j i : Nat) : Int)) := by rw [toW6 _ _ hb1, hdM j hjl, spreadM_row k n i hil, nth_rowFn _ _ j hjl]
                have q5 : w6.cell? ⟨w3.heap.size, c, none⟩ = some (.int .u8 ((encN (bytesOf s) k wd i c j : Nat) : Int)) := by rw [HON2.out.cell c hcl (rowFn_length _ _), nth_rowFn _ _ c hcl, if_neg (Nat.lt_irrefl _), if_pos rfl]
                have q6 : w6.frozen? ⟨w3.heap.size, c, none⟩ = false := HON2.out.free c
                have lx := Gf.shareOf_lt (upToL k) j i
                have ly := bytesOf_lt s (j * wd + c)
                have ls := encN_lt (bytesOf s) k wd i c j
                have lm := Gf.mul_lt lx (Gf.nth (bytesOf s) (j * wd + c))
                have h0 : (0 : Int) ≤ (j : Int) * (wd : Int) + (c : Int) := by omega
                have hidx : ∀ W, Sem.run Tryd.prog (Instr.index 9 (.string s) (.int .i64 ((j : Int) * (wd : Int) + (c : Int)))) W = .ok (.int .u8 ((Gf.nth (bytesOf s) (j * wd + c) : Nat) : Int)) W := fun W => by
                  rw [run_index_string W 9 s .i64 _ Tryd.underlying9, dif_pos ⟨h0, h2⟩]
                  rw [bytesOf_nth s (j * wd + c) hin]
                  congr 3
                have HX : Hid (bits .xor .u8 ((encN (bytesOf s) k wd i c j : Nat) : Int) ((Gf.mul (Gf.shareOf (upToL k) j i) (Gf.nth (bytesOf s) (j * wd + c)) : Nat) : Int) = ((encN (bytesOf s) k wd i c (j + 1) : Nat) : Int)) := by
                  show _ = _
                  rw [u8_xor_nat _ _ ls lm]
                  show _ = (((if j * wd + c < (bytesOf s).length then _ else _) : Nat) : Int)
                  rw [if_pos (by omega)]
                have hw1 : IntKind.i64.wrap ((j : Int) * (wd : Int)) = (j : Int) * (wd : Int) := by rw [IntKind.wrap_i64]; omega
                have hw2 : IntKind.i64.wrap ((j : Int) * (wd : Int) + (c : Int)) = (j : Int) * (wd : Int) + (c : Int) := by rw [IntKind.wrap_i64]; omega
                have n1 : w3.heap.size ≠ bm := by omega
                have n2 : w3.heap.size ≠ b1 := by omega
                clear toW6 hcM hdM hin hb
                generalize Gf.shareOf (upToL k) j i = x at q2 lx lm HX
                generalize Gf.nth (bytesOf s) (j * wd + c) = y at hidx ly lm HX
                have HON2' : Hid (OwnN w6 w3.heap.size 5 w3.heap.size wd (rowFn wd (fun d => if d < c then encN (bytesOf s) k wd i d k else if d = c then encN (bytesOf s) k wd i c j else 0))) := HON2.out
                generalize encN (bytesOf s) k wd i c j = sacc at q5 ls HX HON2'
                go_wp2
                refine wp_region_still_tail 23 (by kernel_rfl) (by kernel_rfl) ?_
                simp only [List.take_succ_cons, List.take_zero, List.drop_succ_cons, List.drop_zero]
                repeat still_step
                still_call (rmul_any x y _ lx ly)
                repeat still_step
                refine wpStill_nil ?_
                rw [HX.out]
                have HO7 : Hid (OwnN (w6.drewN 1) w3.heap.size 5 w3.heap.size wd (rowFn wd (fun d => if d < c then encN (bytesOf s) k wd i d k else if d = c then sacc else 0))) := HON2'.out.drewN 1
                have HB7 : Hid (Below w3.heap.size w3 (w6.drewN 1)) := below_drewN HBq2.out 1
                have q5' : (w6.drewN 1).cell? ⟨w3.heap.size, c, none⟩ = some (.int .u8 (sacc : Int)) := q5
                have q6' : (w6.drewN 1).frozen? ⟨w3.heap.size, c, none⟩ = false := q6
                change wpList _ _ _ _ _ (w6.drewN 1)
                generalize w6.drewN 1 = w7 at HO7 HB7 q5' q6' ⊢
                clear q1 q2 q5 q6 HON2 HON2' HBq2 hidx hw1 hw2 h0 h2
                go_wp2
                go_roundw
                case rel =>
                  refine ⟨j + 1, by omega, by go_num, ?_, HB7.out.setCell (Nat.le_refl _) _⟩
                  have := HO7.out.set c (encN (bytesOf s) k wd i c (j + 1))
                  rw [rowFn_congr wd (fun d => if d < c then encN (bytesOf s) k wd i d k else if d = c then encN (bytesOf s) k wd i c (j + 1) else 0) (fun d => if d = c then encN (bytesOf s) k wd i c (j + 1) else if d < c then encN (bytesOf s) k wd i d k else if d = c then sacc else 0) (fun d _ => by
                    by_cases e : d = c
                    · subst e; rw [if_neg (Nat.lt_irrefl _), if_pos rfl, if_pos rfl]
                    · rw [if_neg e, if_neg e, if_neg e])]
                  exact this
                case measure => simp [intOf]; omega
              · have h2 : ¬ (j : Int) * (wd : Int) + (c : Int) < (s.size : Int) := by rw [← Int.natCast_mul]; omega
                have HE : Hid (encN (bytesOf s) k wd i c (j + 1) = encN (bytesOf s) k wd i c j) := by
                  show (if j * wd + c < (bytesOf s).length then _ else _) = _
                  rw [if_neg (by omega)]
                clear hb hin
                go_wp2
                go_roundw
                case rel => exact ⟨j + 1, by omega, by go_num, by rw [HE.out]; exact HON2.out, HBq2.out⟩
                case measure => simp [intOf]; omega
            · have hke : j = k := by omega
              subst hke
              go_wp2
              go_roundw
              case rel =>
                refine ⟨c + 1, by omega, by go_num, ?_, HBq2.out⟩
                rw [rowFn_congr wd _ (fun d => if d < c then encN (bytesOf s) j wd i d j else if d = c then encN (bytesOf s) j wd i c j else 0) (fun d _ => by
                  by_cases e : d < c
                  · rw [if_pos (by omega), if_pos e]
                  · by_cases e' : d = c
                    · subst e'; rw [if_pos (by omega), if_neg e, if_pos rfl]
                    · rw [if_neg (by omega), if_neg e, if_neg e'])]
                exact HON2.out
              case measure => simp [intOf]; omega
        · have hce : c = wd := by omega
          subst hce
          have hN5 : OwnN w5 w3.heap.size 5 w3.heap.size c (encRow (bytesOf s) k c i) := by
            unfold encRow
            rw [rowFn_congr c _ (fun d => if d < c then encN (bytesOf s) k c i d k else 0) (fun d hd => by rw [if_pos hd])]
            exact HON.out
          have hcv : Sem.run Tryd.prog (convert 32 9 (.slice (some ⟨w3.heap.size, 0, none⟩) c c)) w5 = .ok (.string (strOf (encRow (bytesOf s) k c i))) w5 := by
            have hsg : Seg w5 (some ⟨w3.heap.size, 0, none⟩) (encRow (bytesOf s) k c i) := ⟨rowFn_bytes _ _ (fun d => encN_lt _ _ _ _ _ _), Or.inr ⟨w3.heap.size, 0, rfl, hN5.lt.2, fun d hd => by
              have hd' : d < c := by unfold encRow at hd; rw [rowFn_length] at hd; exact hd
              rw [Nat.zero_add]
              exact hN5.cell d hd' (rowFn_length _ _)⟩⟩
            have := conv_seg hsg c
            rw [show (encRow (bytesOf s) k c i).length = c from rowFn_length _ _] at this
            exact this
          have hz5 : w3.heap.size ≤ w5.heap.size := HBq.out.size
          have HO5 : Hid (OwnSh w5 w2.heap.size u9 ((List.range i).map fun i => (i, encRow (bytesOf s) k c i))) := World.ownsRow.kept HO.out (⟨HBq.out.os, HBq.out.tape, HBq.out.output, HBq.out.size, fun k hk _ => HBq.out.block k hk⟩ : w3.grownBy w5 none) (by cases hv : u9.ownBlock <;> simp)
          have HW5 : Hid (Below w2.heap.size w2 w5) := HB.out.trans (HBq.out.mono hz3)
          have HL : Hid (((List.range i).map fun i => (i, encRow (bytesOf s) k c i)).length = i) := by show _ = _; simp
          clear hN5 HON
          have HR : Hid ((List.range (i + 1)).map (fun i => (i, encRow (bytesOf s) k c i)) = ((List.range i).map fun i => (i, encRow (bytesOf s) k c i)) ++ [(i, encRow (bytesOf s) k c i)]) := by show _ = _; simp [List.range_succ]
          generalize encRow (bytesOf s) k c i = row at hcv HR
          generalize ((List.range i).map fun i => (i, encRow (bytesOf s) k c i)) = pre at HO5 HL HR
          go_wp2_with (first | (at_builtin; refine wpList_append_own _ rfl (.tmp 69) (.tmp 74) 41 rfl w2.heap.size 48 i1 (.agg #[.int .i64 0, .string ⟨#[]⟩]) 2 24 Tryd.underlying41 hi1 hy0 hy1 hy2 rfl (by decide) u9 pre.length (shCells pre) rfl (World.ownsRow.alloc HO5.out _) ⟨w5.heap.size, 0, none⟩ 1 1 [.int .i64 (i : Int), .string (strOf row)] rfl rfl (fun j u hj => by match j, hj with | 0, hj => (simp at hj; subst hj; simp [Addr.add]) | 1, hj => (simp at hj; subst hj; simp [Addr.add])) (fun u hu => by simp at hu; rcases hu with rfl | rfl <;> rfl) (by rw [HL.out]; unfold maxLen; omega) (by rw [HL.out]; omega) (by simp; omega) ?_; intro v' w8 hown' hg' _))
          have hb8 : Below w2.heap.size w2 w8 := (HW5.out.alloc (by omega) _).grown hg' (by simp; omega) (fun g hg => (World.ownsRow.lt HO5.out g hg).1)
          have hO8 := OwnSh.snoc hown' rfl
          go_roundw
          case rel => exact ⟨i + 1, by omega, by go_num, by rw [HR.out]; exact hO8, hb8⟩
          case measure => simp [intOf]; omega
    · have hie : i = n := by omega
      subst hie
      have HF : Hid (OwnSh w3 w.heap.size u9 ((List.range i).map fun j => (j, encRow (bytesOf s) k (wideN k s.size) j))) := by
        show OwnSh _ _ _ _
        rw [HWE.out]
        obtain ⟨h1, h2⟩ := HO.out
        refine ⟨h1, ?_⟩
        rcases h2 with h2 | ⟨g', cap, cur, e, hbb, rest⟩
        · exact Or.inl h2
        · exact Or.inr ⟨g', cap, cur, e, Nat.le_trans hs2 hbb, rest⟩
      have HBF : Hid (Below w.heap.size w w3) := HB2.out.trans (HB.out.mono hs2)
      clear HO HB
      go_wp2
      go_ret
      exact ⟨⟨_, rfl, HF.out⟩, HBF.out⟩
end Go.Proofs.YtaaahibncffcmaaDoor
