/- Texts laid together. -/
import Derived.Test.YtppcijpgalaohaaGreatDoorGe3
import Derived.Deep.RegionHeld3
import Derived.Deep.QuietTactic
namespace Go.Proofs.YtppcijpgalaohaaGreatDoor
open Go.RowKit
set_option maxRecDepth 10000 in
set_option maxHeartbeats 4000000 in
theorem preferFault_any (p : Option Addr) (l : List ByteArray) (c : Nat) (n : Int) (w : World) (hl : l.length ≤ 1000000) (hc : l.length ≤ c) (ht : ∀ x ∈ l, x.size ≤ 1000000) (hs : Strs w p l) :
    Calls Tryz.prog 12 #[.slice p l.length c, .int .i64 n] w fun e w' => e = .returned (.agg #[.int .i64 (preferF l n).1, .int .i64 (preferF l n).2]) ∧ Below w.heap.size w w' := by
  have HN : Hid (∀ W, Strs W p l → Calls Tryz.prog 10 #[.slice p l.length c] W fun e w' => e = .returned (.agg #[.int .i64 (nodesF l).1, .int .i64 (nodesF l).2]) ∧ Below W.heap.size W w') := fun W hW => nodesFault_any p l c W hl hc ht hW
  have HS : Hid (Strs w p l) := hs
  have HR1 : Hid (0 < (nodesF l).1 → preferF l n = nodesF l) := fun h => by unfold preferF; rw [if_pos h]
  have HR2 : Hid (¬ 0 < (nodesF l).1 → (l.length : Int) < n → preferF l n = (8, -1)) := fun h h2 => by unfold preferF; rw [if_neg h, if_pos h2]
  have HR3 : Hid (¬ 0 < (nodesF l).1 → ¬ (l.length : Int) < n → n < 0 → preferF l n = (2, -1)) := fun h h2 h3 => by unfold preferF; rw [if_neg h, if_neg h2, if_pos h3]
  have HR4 : Hid (¬ 0 < (nodesF l).1 → ¬ (l.length : Int) < n → ¬ n < 0 → preferF l n = nodesF l) := fun h h2 h3 => by unfold preferF; rw [if_neg h, if_neg h2, if_neg h3]
  clear hs ht
  generalize preferF l n = R at *
  generalize nodesF l = F at *
  obtain ⟨f, g⟩ := F
  go_enter Tryz.func12, Tryz.ntmps12
  go_wp2_with fail
  have HK : Hid (∀ wq, Below (w.alloc (.cells #[.int .i64 0, .int .i64 0] 31)).heap.size (w.alloc (.cells #[.int .i64 0, .int .i64 0] 31)) wq → (wq.cell? ⟨w.heap.size, 0, none⟩ = some (.int .i64 0) ∧ wq.cell? ⟨w.heap.size, 1, none⟩ = some (.int .i64 0) ∧ wq.frozen? ⟨w.heap.size, 0, none⟩ = false ∧ wq.frozen? ⟨w.heap.size, 1, none⟩ = false) ∧ Below w.heap.size w wq) := fun wq h => ⟨pair_kept w _ wq h, pair_below h⟩
  have HS0 : Hid (Strs (w.alloc (.cells #[.int .i64 0, .int .i64 0] 31)) p l) := HS.out.below ((Below.refl _ _).alloc (Nat.le_refl _) _)
  have HSZ : Hid (w.heap.size < (w.alloc (.cells #[.int .i64 0, .int .i64 0] 31)).heap.size) := by show _ < _; simp
  generalize w.alloc (.cells #[.int .i64 0, .int .i64 0] 31) = w0 at HK HS0 HSZ ⊢
  refine (HN.out _ HS0.out).mono ?_
  rintro e w1 ⟨rfl, hb1⟩
  have HB1 : Hid (Below w0.heap.size w0 w1) := hb1
  clear hb1 HN HS0 HS
  obtain ⟨w2, hw2⟩ : ∃ w2, w2 = w1.alloc (.cells #[.int .i64 f, .int .i64 g] 31) := ⟨_, rfl⟩
  have hb2 : Below w0.heap.size w0 w2 := by rw [hw2]; exact HB1.out.alloc HB1.out.size _
  have p1 : w2.cell? ⟨w1.heap.size, 0, none⟩ = some (.int .i64 f) := by rw [hw2, World.cell?_alloc_at _ _ _ _ rfl]; rfl
  have p2 : w2.cell? ⟨w1.heap.size, 1, none⟩ = some (.int .i64 g) := by rw [hw2, World.cell?_alloc_at _ _ _ _ rfl]; rfl
  obtain ⟨⟨q1, q2, f1, f2⟩, hbw⟩ := HK.out w2 hb2
  have HBW : Hid (Below w.heap.size w w2) := hbw
  have HB2 : Hid (Below w0.heap.size w0 w2) := hb2
  have HNE : Hid (w.heap.size ≠ w1.heap.size) := by show _ ≠ _; have := HSZ.out; have := HB1.out.size; omega
  have hne := HNE.out
  have HW2 : Hid (w2 = w1.alloc (.cells #[.int .i64 f, .int .i64 g] 31)) := hw2
  clear hw2 hbw hb2
  by_cases h1 : 0 < f
  · have HA : Hid (R = (f, g)) := HR1.out h1
    go_wp2_with (rw [← HW2.out])
    refine bodyPost_ret (v := .agg #[.int .i64 R.1, .int .i64 R.2]) (by rw [HA.out]; simp [results, Tryz.results12, go_sem, q1, q2]) rfl ⟨rfl, ?_⟩
    exact pair_set HBW.out _ _
  have h1' : f ≤ 0 := by omega
  by_cases h2 : (l.length : Int) < n
  · have HA : Hid (R = (8, -1)) := HR2.out (by omega) h2
    go_wp2_with (rw [← HW2.out])
    refine (bare_any 8 _).mono ?_
    rintro e w3 ⟨rfl, hb3⟩
    obtain ⟨⟨r1, r2, e1, e2⟩, hbw⟩ := HK.out w3 (HB2.out.trans (hb3.mono HB2.out.size))
    clear q1 q2 f1 f2 hb3 p1 p2
    go_wp2
    refine bodyPost_ret (v := .agg #[.int .i64 R.1, .int .i64 R.2]) (by rw [HA.out]; simp [results, Tryz.results12, go_sem, r1, r2]) rfl ⟨rfl, ?_⟩
    exact pair_set hbw _ _
  by_cases h3 : n < 0
  · have HA : Hid (R = (2, -1)) := HR3.out (by omega) (by omega) h3
    go_wp2_with (rw [← HW2.out])
    refine (bare_any 2 _).mono ?_
    rintro e w3 ⟨rfl, hb3⟩
    obtain ⟨⟨r1, r2, e1, e2⟩, hbw⟩ := HK.out w3 (HB2.out.trans (hb3.mono HB2.out.size))
    clear q1 q2 f1 f2 hb3 p1 p2
    go_wp2
    refine bodyPost_ret (v := .agg #[.int .i64 R.1, .int .i64 R.2]) (by rw [HA.out]; simp [results, Tryz.results12, go_sem, r1, r2]) rfl ⟨rfl, ?_⟩
    exact pair_set hbw _ _
  · have HA : Hid (R = (f, g)) := HR4.out (by omega) (by omega) (by omega)
    go_wp2_with (rw [← HW2.out])
    refine bodyPost_ret (v := .agg #[.int .i64 R.1, .int .i64 R.2]) (by rw [HA.out]; simp [results, Tryz.results12, go_sem, q1, q2]) rfl ⟨rfl, ?_⟩
    exact pair_set HBW.out _ _
theorem conv_seg {w : World} {q : Option Addr} {l : List Nat} (h : Seg w q l) (c : Nat) : (convert 102 9 (.slice q l.length c)).run Tryz.prog w = .ok (.string (strOf l)) w := by
  rcases h.cells with hl | ⟨b, o, rfl, hb, hc⟩
  · subst hl
    cases q with
    | none => exact run_convert_bytes_nil w 102 5 Tryz.underlying102 Tryz.underlying5 0 c 9 Tryz.underlying9
    | some ad =>
      have hl : (loadCells ad 0).run Tryz.prog w = .ok (([] : List Int).map (Value.int .u8)).toArray w := by simp [loadCells, loadCellsFrom]
      rw [List.length_nil, run_convert_bytes_string w 102 9 5 _ 0 c Tryz.underlying102 Tryz.underlying5 Tryz.underlying9, run_bytesToString w ad 0 c [] hl]
      rfl
  · refine run_convert_bytes_arg w 102 5 Tryz.underlying102 Tryz.underlying5 b o l.length c (l.map Int.ofNat) (by simp) (fun i hi => ?_) 9 Tryz.underlying9
    rw [hc i hi, Gf.nth_getElem l i hi, List.getD_eq_getElem?_getD, List.getElem?_map, List.getElem?_eq_getElem hi]
    rfl
theorem strOf_append' (l m : List Nat) : strOf l ++ strOf m = strOf (l ++ m) := by
  unfold strOf strOfNums
  apply ByteArray.ext
  simp
set_option maxRecDepth 10000 in
theorem rbyte_any (n : Nat) (w : World) :
    Calls Tryz.prog 57 #[.int .i64 (n : Int)] w fun e w' => e = .returned (.string (strOf [n % 256])) ∧ Below w.heap.size w w' := by
  have hcv : Sem.run Tryz.prog (convert 102 9 (.slice (some ⟨w.heap.size, 0, none⟩) 1 1)) (w.alloc (.cells #[.int .u8 ((n : Int) % 256)] 5)) = .ok (.string (strOf [n % 256])) (w.alloc (.cells #[.int .u8 ((n : Int) % 256)] 5)) := by
    have hsg : Seg (w.alloc (.cells #[.int .u8 ((n : Int) % 256)] 5)) (some ⟨w.heap.size, 0, none⟩) [n % 256] := ⟨fun i => by
      match i with
      | 0 => show n % 256 < 256; omega
      | i + 1 => show (([n % 256] : List Nat).getD (i + 1) 0) < 256; simp, Or.inr ⟨w.heap.size, 0, rfl, by simp, fun i hi => by
      obtain rfl : i = 0 := by simpa using hi
      rw [World.cell?_alloc_at _ _ _ _ rfl]
      show some (Value.int .u8 ((n : Int) % 256)) = some (.int .u8 ((n % 256 : Nat) : Int))
      rw [Int.natCast_emod]
      rfl⟩⟩
    exact conv_seg hsg 1
  go_enter Tryz.func57, Tryz.ntmps57
  go_wp2
  go_ret
  exact ⟨rfl, (Below.refl _ _).alloc (Nat.le_refl _) _⟩
set_option maxRecDepth 10000 in
theorem below_digit (k : Nat) (hk : k < 10) (w : World) : Calls Tryz.prog 38 #[.int .i64 (-(k : Int))] w fun e w' => e = .returned (.string (strOf [48 + k])) ∧ Below w.heap.size w w' := by
  have HB : Hid (∀ W, Calls Tryz.prog 57 #[.int .i64 (48 + (k : Int))] W fun e w' => e = .returned (.string (strOf [48 + k])) ∧ Below W.heap.size W w') := fun W => by
    have h := rbyte_any (48 + k) W
    rw [Nat.mod_eq_of_lt (by omega)] at h
    exact h
  go_enter Tryz.func38, Tryz.ntmps38
  go_wp2_with fail
  refine (HB.out _).mono ?_
  rintro e w1 ⟨rfl, hb1⟩
  clear HB
  go_wp2
  go_ret
  exact ⟨rfl, hb1⟩
set_option maxRecDepth 10000 in
theorem decimal_digit (k : Nat) (hk : k < 10) (w : World) : Calls Tryz.prog 25 #[.int .i64 (k : Int)] w fun e w' => e = .returned (.string (strOf [48 + k])) ∧ Below w.heap.size w w' := by
  have HB := below_digit k hk w
  go_enter Tryz.func25, Tryz.ntmps25
  go_wp2_with fail
  refine HB.mono ?_
  rintro e w1 ⟨rfl, hb1⟩
  clear HB
  go_wp2
  go_ret
  exact ⟨rfl, hb1⟩
set_option maxRecDepth 10000 in
set_option maxHeartbeats 2000000 in
theorem rhash_any (s : ByteArray) (w : World) (hs : s.size ≤ 1000000) :
    Calls Tryz.prog 24 #[.string s] w fun e w' => e = .returned (.int .i64 ((hashTo s s.size : Nat) : Int)) ∧ w' = w := by
  go_enter Tryz.func24, Tryz.ntmps24
  go_wp2
  go_loop [3, 4] (fun c x => ∃ i : Nat, i ≤ s.size ∧ x = .int .i64 i ∧ c = .int .i64 ((hashTo s i : Nat) : Int)) (fun _ x => s.size - (intOf x).toNat)
  case atStart => exact ⟨0, Nat.zero_le _, rfl, rfl⟩
  case round =>
    obtain ⟨i, hi, rfl, rfl⟩ := hrel
    have hcl := hashTo_lt s i
    by_cases hil : i < s.size
    · have hix := run_idx s i hil
      have hy := bytesOf_lt s i
      have HNX : Hid (hashTo s (i + 1) = (hashTo s i ^^^ Gf.nth (bytesOf s) i) * 16777619 % 4294967296) := by show _ = _; rfl
      generalize hashTo s i = c at *
      generalize Gf.nth (bytesOf s) i = y at *
      have hxl : c ^^^ y < 4294967296 := Nat.xor_lt_two_pow (n := 32) hcl (by omega)
      have hx : bits .xor .i64 (c : Int) (y : Int) = ((c ^^^ y : Nat) : Int) := i64_xor_nat _ _ (by omega) (by omega)
      generalize c ^^^ y = q at *
      go_wp2
      go_round
      case rel => exact ⟨i + 1, by omega, by go_num, by rw [HNX.out]; congr 1⟩
      case measure => simp [intOf]; omega
    · have hie : i = s.size := by omega
      subst hie
      go_wp2
      go_ret
      exact ⟨rfl, rfl⟩
/-- Is p ahead of q? -/
def pltB (p q : Nat × ByteArray) : Bool := decide (p.1 < q.1) || (decide (p.1 = q.1) && Op.bytesLess p.2.toList q.2.toList)
theorem pltB_iff {p q : Nat × ByteArray} : pltB p q = true ↔ Ring.plt p q := by
  unfold pltB Ring.plt Ring.bl
  simp [Bool.or_eq_true, Bool.and_eq_true]
set_option maxRecDepth 10000 in
theorem ahead_any (a b : Nat) (x y : ByteArray) (w : World) :
    Calls Tryz.prog 26 #[.agg #[.int .i64 (a : Int), .string x], .agg #[.int .i64 (b : Int), .string y]] w fun e w' => e = .returned (.bool (pltB (a, x) (b, y))) ∧ Below w.heap.size w w' := by
  have HB : Hid (Below w.heap.size w ((w.alloc (.cells #[.int .i64 (a : Int), .string x] 62)).alloc (.cells #[.int .i64 (b : Int), .string y] 62))) := ((Below.refl _ _).alloc (Nat.le_refl _) _).alloc (by simp) _
  by_cases h1 : a < b
  · have HE : Hid (pltB (a, x) (b, y) = true) := by show _ = _; unfold pltB; simp [h1]
    rw [HE.out]
    go_enter Tryz.func26, Tryz.ntmps26
    go_wp2
    go_ret
    exact ⟨rfl, HB.out⟩
  have d1 : decide ((a : Int) < (b : Int)) = false := decide_eq_false (by omega)
  by_cases h2 : a = b
  · subst h2
    have HE : Hid (pltB (a, x) (a, y) = Op.bytesLess x.toList y.toList) := by show _ = _; unfold pltB; simp
    rw [HE.out]
    go_enter Tryz.func26, Tryz.ntmps26
    go_wp2
    go_ret
    exact ⟨rfl, HB.out⟩
  · have HE : Hid (pltB (a, x) (b, y) = false) := by show _ = _; unfold pltB; simp [h1, h2]
    rw [HE.out]
    have d2 : ((a : Int) == (b : Int)) = false := by
      rw [beq_eq_false_iff_ne]
      omega
    go_enter Tryz.func26, Tryz.ntmps26
    go_wp2
    go_ret
    exact ⟨rfl, HB.out⟩
def shAt (l : List (Int × ByteArray)) (i : Nat) : Int × ByteArray := l.getD i (0, ⟨#[]⟩)
/-- In the world w the shards l lie from p on. -/
def Shs (w : World) (p : Option Addr) (l : List (Int × ByteArray)) : Prop :=
  l = [] ∨ ∃ b o, p = some ⟨b, o, none⟩ ∧ b < w.heap.size ∧ ∀ i, i < l.length → w.cell? ⟨b, o + i * 2, none⟩ = some (.int .i64 (shAt l i).1) ∧ w.cell? ⟨b, o + i * 2 + 1, none⟩ = some (.string (shAt l i).2)
theorem Shs.below {w w' : World} {p : Option Addr} {l : List (Int × ByteArray)} (h : Shs w p l) (hb : Below w.heap.size w w') : Shs w' p l := by
  rcases h with h | ⟨b, o, hp, hlt, hc⟩
  · exact Or.inl h
  · exact Or.inr ⟨b, o, hp, Nat.lt_of_lt_of_le hlt hb.size, fun i hi => ⟨(hb.cell (p := ⟨b, o + i * 2, none⟩) hlt).trans (hc i hi).1, (hb.cell (p := ⟨b, o + i * 2 + 1, none⟩) hlt).trans (hc i hi).2⟩⟩
def shVals (l : List (Int × ByteArray)) : List Value := l.flatMap fun x => [.int .i64 x.1, .string x.2]
theorem shVals_length (l : List (Int × ByteArray)) : (shVals l).length = l.length * 2 := by
  induction l with
  | nil => rfl
  | cons x t ih =>
    have : shVals (x :: t) = .int .i64 x.1 :: .string x.2 :: shVals t := rfl
    rw [this, List.length_cons, List.length_cons, ih, List.length_cons]
    omega
theorem shVals_at : ∀ (l : List (Int × ByteArray)) (i : Nat), i < l.length → (shVals l)[i * 2]? = some (.int .i64 (shAt l i).1) ∧ (shVals l)[i * 2 + 1]? = some (.string (shAt l i).2)
  | [], i, h => absurd h (Nat.not_lt_zero _)
  | x :: t, 0, _ => ⟨rfl, rfl⟩
  | x :: t, i + 1, h => by
    have h' := shVals_at t i (by simpa using h)
    have e : shVals (x :: t) = .int .i64 x.1 :: .string x.2 :: shVals t := rfl
    have e2 : shAt (x :: t) (i + 1) = shAt t i := rfl
    rw [e, e2, show (i + 1) * 2 = i * 2 + 1 + 1 by omega, show i * 2 + 1 + 1 + 1 = i * 2 + 1 + 1 + 1 from rfl]
    exact ⟨by simpa using h'.1, by simpa using h'.2⟩
theorem Shs.cells {w : World} {b o : Nat} {l : List (Int × ByteArray)} (hc : ∀ i, i < l.length → w.cell? ⟨b, o + i * 2, none⟩ = some (.int .i64 (shAt l i).1) ∧ w.cell? ⟨b, o + i * 2 + 1, none⟩ = some (.string (shAt l i).2)) : ∀ j u, (shVals l)[j]? = some u → w.cell? ((⟨b, o, none⟩ : Addr).add j) = some u := by
  intro j u hj
  have hjl : j < (shVals l).length := (List.getElem?_eq_some_iff.1 hj).1
  rw [shVals_length] at hjl
  have hi : j / 2 < l.length := by omega
  have h1 := shVals_at l (j / 2) hi
  have h2 := hc (j / 2) hi
  rw [Addr.add_lit]
  rcases Nat.mod_two_eq_zero_or_one j with e | e
  · have ej : j = j / 2 * 2 := by omega
    rw [ej] at hj ⊢
    rw [h1.1] at hj
    rw [h2.1, ← hj]
  · have ej : j = j / 2 * 2 + 1 := by omega
    rw [ej] at hj ⊢
    rw [h1.2] at hj
    rw [← Nat.add_assoc, h2.2, ← hj]
theorem shs_of_own {w : World} {B : Nat} {v : Value} {l : List (Int × ByteArray)} {E : TypeId} (h : w.ownsRow B E 2 v l.length (shVals l)) : ∃ p c, v = .slice p l.length c ∧ Shs w p l := by
  rcases h.2 with ⟨rfl, h0⟩ | ⟨g, cap, cur, rfl, hb, hg, hnc, hcm, hcs, htake⟩
  · have : l = [] := List.length_eq_zero_iff.1 h0
    subst this
    exact ⟨none, 0, rfl, Or.inl rfl⟩
  · refine ⟨some ⟨g, 0, none⟩, cap, rfl, Or.inr ⟨g, 0, rfl, (Array.getElem?_eq_some_iff.1 hg).1, fun i hi => ?_⟩⟩
    have hc := World.ownsRow.cells (g := g) h rfl
    have h1 := shVals_at l i hi
    have e1 := hc (i * 2) _ h1.1
    have e2 := hc (i * 2 + 1) _ h1.2
    rw [Addr.add_lit] at e1 e2
    exact ⟨e1, by rw [Nat.add_assoc]; exact e2⟩
/-- Nothing behind nothing: nil. -/
theorem wpList_append_empty {P : Program} {w : World} {ops : Array Oper} {rest : List Oper} {o : Oper} {a : Act} {Q : Exit → Act → World → Prop} (hgd : o.guard = none) (s x : Operand) (t : TypeId)
    (ho : o.op = .call { callee := .builtin .append, args := #[s, x], argTypes := #[t, t] })
    (e : TypeId) (i : TypeInfo) (ht : P.underlying t = some (.slice e)) (hi : P.info? e = some i)
    (hs : a.eval s = .slice none 0 0) (q : Option Addr) (c : Nat) (hx : a.eval x = .slice q 0 c) (hc0 : q = none → c = 0)
    (h : wpList P ops Q rest (a.put o.dst (.slice none 0 0)) w) : wpList P ops Q (o :: rest) a w := by
  refine wpList_plain hgd fun K hK => ?_
  have hr : (Builtin.append_ #[t, t] o.type #[.slice none 0 0, .slice q 0 c]).run P w = .ok (.slice none 0 0) w := by
    cases q with
    | none => obtain rfl := hc0 rfl; simp [Builtin.append_, run_underlying ht, sizeOf, typeInfo, hi, Builtin.lenOf, Builtin.firstCells]
    | some ad => simp [Builtin.append_, run_underlying ht, sizeOf, typeInfo, hi, Builtin.lenOf, Builtin.firstCells, loadCells, loadCellsFrom]
  unfold Oper.wp execOp
  simp only [ho, resolve, invoke, builtin, Sem.run_bind, Sem.run_pure, Result.andThen_ok, List.map_toArray, List.map_cons, List.map_nil, hs, hx, hr]
  exact hK _ _ h
section
open Ring
/-- Point j of all: its number from h on, its node. -/
def pA (h : Nat) (nodes : List ByteArray) (j : Nat) : Nat := ptA h (txt nodes (j / 8)) (j % 8)
def pX (nodes : List ByteArray) (j : Nat) : ByteArray := txt nodes (j / 8)
def ptsI (h : Nat) (nodes : List ByteArray) (m : Nat) : List (Int × ByteArray) := (List.range m).map fun j => (((pA h nodes j : Nat) : Int), pX nodes j)
theorem ptsI_length (h : Nat) (nodes : List ByteArray) (m : Nat) : (ptsI h nodes m).length = m := by simp [ptsI]
theorem ptsI_succ (h : Nat) (nodes : List ByteArray) (m : Nat) : ptsI h nodes (m + 1) = ptsI h nodes m ++ [(((pA h nodes m : Nat) : Int), pX nodes m)] := by simp [ptsI, List.range_succ]
theorem ptsI_at (h : Nat) (nodes : List ByteArray) {m j : Nat} (hj : j < m) : shAt (ptsI h nodes m) j = (((pA h nodes j : Nat) : Int), pX nodes j) := by
  unfold shAt
  rw [List.getD_eq_getElem?_getD, List.getElem?_eq_getElem (by rw [ptsI_length]; exact hj)]
  simp [ptsI]
theorem pts_snoc (l : List (Int × ByteArray)) (x : Int × ByteArray) : shVals (l ++ [x]) = shVals l ++ [.int .i64 x.1, .string x.2] := by simp [shVals]
theorem pointinfo : (Tryz.prog.info? 62).map (fun i => (i.zero, i.size, i.bytes)) = some (some (.agg #[.int .i64 0, .string ⟨#[]⟩]), 2, 24) := by kernel_rfl
/-- v owns the first m points in a row from block B on. -/
def OwnP (w : World) (B : Nat) (v : Value) (ps : List (Int × ByteArray)) : Prop := w.ownsRow B 62 2 v ps.length (shVals ps)
theorem OwnP.kept {w w' : World} {B : Nat} {v : Value} {l : List (Int × ByteArray)} (h : OwnP w B v l) (hb : Below w.heap.size w w') : OwnP w' B v l :=
  World.ownsRow.kept (row := none) h ⟨hb.os, hb.tape, hb.output, hb.size, fun k hk _ => hb.block k hk⟩ (by cases v.ownBlock <;> simp)
end
section
open Go.Extern.Stop Go.Stop Go.Extern
theorem noIsF (v : Value) (xT : TypeId) (w : World) : (Instr.typeAssert (.iface 49 v) xT 116 true).run Tryz.prog w = .ok (.tuple #[.nilIface, .bool false]) w := run_typeAssert_lacksB Tryz.underlying116 (by kernel_rfl) (by kernel_rfl) v xT w
theorem hasUnwrapF (v : Value) (xT : TypeId) (w : World) : (Instr.typeAssert (.iface 49 v) xT 112 true).run Tryz.prog w = .ok (.tuple #[.iface 49 v, .bool true]) w := run_typeAssert_hasB Tryz.underlying112 (by kernel_rfl) v xT w
theorem methodUnwrapF (v : Value) (w : World) : (Go.method 290 49 v "Unwrap").run Tryz.prog w = .ok (113, v) w := by kernel_rfl
set_option maxRecDepth 10000 in
set_option maxHeartbeats 1000000 in
/-- errors.Is(f, x), f a fault that wraps x. -/
theorem is_wrap_same (pb : Nat) (b : Addr) (w : World) (h1 : w.cell? ⟨pb, 1, none⟩ = some (.iface 158 (.pointer (some b)))) :
    Calls Tryz.prog 30 #[.iface 49 (.pointer (some ⟨pb, 0, none⟩)), .iface 158 (.pointer (some b))] w fun e w' => e = .returned (.bool true) ∧ w' = w := by
  obtain ⟨i, hi, hcmp⟩ := Option.map_eq_some_iff.1 isComp
  obtain ⟨j, hj, hjs⟩ := Option.map_eq_some_iff.1 isSize
  have h8 := @run_callFunc_extern Tryz.prog 44 _ Extern.ReflectliteType.typeOf Tryz.func44 (by kernel_rfl) (by kernel_rfl) (by kernel_rfl) (by kernel_rfl)
  have h32 := @run_callFunc_extern Tryz.prog 119 _ cmpEntry Tryz.func119 (by kernel_rfl) (by kernel_rfl) (by kernel_rfl) (by kernel_rfl)
  have tT := isTypeOf
  have cT := isComparable
  have mR := isMethodComparable
  have nW := noIsF
  have uW := hasUnwrapF
  have mU := methodUnwrapF
  have heq := run_eql_iface_ptr_same (P := Tryz.prog) w b Tryz.underlying27 Tryz.underlying158 hi hcmp hj
  have hty := run_eql_iface_types (P := Tryz.prog) 49 158 (.pointer (some ⟨pb, 0, none⟩)) (.pointer (some b)) Tryz.underlying27 (by decide) w
  go_enter Tryz.func30, Tryz.ntmps30
  go_wp2
  refine wp_loop_rounds 2 ?_
  rw [rounds_succ]
  go_wp2
  rw [rounds_succ]
  go_wp2
  go_ret
  exact ⟨rfl, rfl⟩
set_option maxRecDepth 10000 in
set_option maxHeartbeats 1000000 in
/-- errors.Is(f, y), f a fault that wraps x, another one. -/
theorem is_wrap_other (pb : Nat) (a b : Addr) (ca cb : Array Value) (ta tb : TypeId) (w : World) (h1 : w.cell? ⟨pb, 1, none⟩ = some (.iface 158 (.pointer (some a)))) (hne : a ≠ b) (ha : w.heap[a.block]? = some (.cells ca ta (0, 0))) (hb : w.heap[b.block]? = some (.cells cb tb (0, 0))) :
    Calls Tryz.prog 30 #[.iface 49 (.pointer (some ⟨pb, 0, none⟩)), .iface 158 (.pointer (some b))] w fun e w' => e = .returned (.bool false) ∧ w' = w := by
  obtain ⟨i, hi, hcmp⟩ := Option.map_eq_some_iff.1 isComp
  obtain ⟨j, hj, hjs⟩ := Option.map_eq_some_iff.1 isSize
  have h8 := @run_callFunc_extern Tryz.prog 44 _ Extern.ReflectliteType.typeOf Tryz.func44 (by kernel_rfl) (by kernel_rfl) (by kernel_rfl) (by kernel_rfl)
  have h32 := @run_callFunc_extern Tryz.prog 119 _ cmpEntry Tryz.func119 (by kernel_rfl) (by kernel_rfl) (by kernel_rfl) (by kernel_rfl)
  have tT := isTypeOf
  have cT := isComparable
  have mR := isMethodComparable
  have nE := noIsE
  have uE := noUnwrapE
  have vE := noUnwrapsE
  have nW := noIsF
  have uW := hasUnwrapF
  have mU := methodUnwrapF
  have heq := run_eql_iface_ptr_other (P := Tryz.prog) w Tryz.underlying27 Tryz.underlying158 hi hcmp hj (by rw [hjs]; decide) hne ha hb
  have hty := run_eql_iface_types (P := Tryz.prog) 49 158 (.pointer (some ⟨pb, 0, none⟩)) (.pointer (some b)) Tryz.underlying27 (by decide) w
  go_enter Tryz.func30, Tryz.ntmps30
  go_wp2
  refine wp_loop_rounds 2 ?_
  rw [rounds_succ]
  go_wp2
  rw [rounds_succ]
  go_wp2
  go_ret
  exact ⟨rfl, rfl⟩
theorem typeOfF (v : Value) (w : World) : (ReflectliteType.typeOf #[.iface 49 v]).run Tryz.prog w = .ok (.iface 105 (.agg #[.pointer (some ⟨16, 49, none⟩)])) w := by kernel_rfl
theorem assignableF (w : World) : (ReflectliteType.relation "AssignableTo" ReflectliteType.assignableTo #[.agg #[.pointer (some ⟨16, 49, none⟩)], .iface 105 (.agg #[.pointer (some ⟨16, 49, none⟩)])]).run Tryz.prog w = .ok (.bool true) w := by kernel_rfl
theorem valueOfF (e : Addr) (w : World) : (ReflectliteValue.unpack (.iface 49 (.pointer (some e)))).run Tryz.prog w
    = .ok (.agg #[.pointer (some ⟨16, 49, none⟩), .pointer (some ⟨w.heap.size, 0, none⟩), .int .u64 150]) (w.alloc (.cells #[.pointer (some e)] 49)) := by kernel_rfl
theorem elemOfFF (w : World) : (Rtype.elem? 66).run Tryz.prog w = .ok (some 49) w := by kernel_rfl
theorem mkF (p : Addr) (w : World) : (ReflectliteValue.mk 49 p ReflectliteValue.flagAddr).run Tryz.prog w = .ok (.agg #[.pointer (some ⟨16, 49, none⟩), .pointer (some p), .int .u64 406]) w := by kernel_rfl
theorem elemVFF (a p : Addr) (W : World) (ha : W.cell? a = some (.pointer (some p))) :
    (ReflectliteValue.method (ReflectliteValue.valueError "reflectlite.Value.Elem" 0) ReflectliteValue.elem #[.agg #[.pointer (some ⟨16, 66, none⟩), .pointer (some a), .int .u64 150]]).run Tryz.prog W
      = .ok (.agg #[.pointer (some ⟨16, 49, none⟩), .pointer (some p), .int .u64 406]) W := by
  rw [rlm]
  simp only [Sem.run_bind, partsFF, Result.andThen]
  simp [ReflectliteValue.elem, loadVar, isAgg, underlying, Tryz.underlying66, ha, Result.andThen, elemOfFF, mkF]
theorem partsFa (a : Addr) (w : World) : (ReflectliteValue.parts (.agg #[.pointer (some ⟨16, 49, none⟩), .pointer (some a), .int .u64 406])).run Tryz.prog w = .ok (some (49, a, 406)) w := by kernel_rfl
theorem partsF (a : Addr) (w : World) : (ReflectliteValue.parts (.agg #[.pointer (some ⟨16, 49, none⟩), .pointer (some a), .int .u64 150])).run Tryz.prog w = .ok (some (49, a, 150)) w := by kernel_rfl
theorem directF (w : World) : (Rtype.directlyAssignable 49 49).run Tryz.prog w = .ok true w := by kernel_rfl
theorem setF (ta b e : Addr) (old : Value) (W : World) (hb : W.cell? b = some (.pointer (some e))) (ht : W.cell? ta = some old) (hf : W.frozen? ta = false) :
    (ReflectliteValue.set #[.agg #[.pointer (some ⟨16, 49, none⟩), .pointer (some ta), .int .u64 406], .agg #[.pointer (some ⟨16, 49, none⟩), .pointer (some b), .int .u64 150]]).run Tryz.prog W
      = .ok (.tuple #[]) (W.setCell ta (.pointer (some e))) := by
  delta ReflectliteValue.set ReflectliteValue.set.match_3
  dsimp only [Array.casesOn, Array.rec]
  rw [dif_pos (show (#[_, _] : Array Value).size = 2 from rfl)]
  simp only [Array.getLit, List.getElem_toArray, List.getElem_cons_zero, List.getElem_cons_succ, Sem.run_bind, partsFa, partsF, Result.andThen]
  simp [ReflectliteValue.flagAddr, loadVar, isAgg, underlying, Tryz.underlying49, hb, Result.andThen, directF, storeVar, Value.cells, storeCells, Addr.add]
  rw [run_store Tryz.prog W ta _ _ (by rfl)]
  simp [ht, hf]
set_option maxRecDepth 10000 in
set_option maxHeartbeats 4000000 in
/-- errors.As of an api.Fault, the target a **api.Fault: true; the target is set. -/
theorem as_hit (e t : Addr) (old : Value) (w : World) (hg : w.cell? ⟨12, 0, none⟩ = some (.iface 105 (.agg #[.pointer (some ⟨16, 27, none⟩)]))) (ht0 : w.cell? t = some old) (hf0 : w.frozen? t = false) :
    Calls Tryz.prog 29 #[.iface 49 (.pointer (some e)), .iface 66 (.pointer (some t))] w fun ev w' => ev = .returned (.bool true) ∧ ∃ w1, Below w.heap.size w w1 ∧ w' = w1.setCell t (.pointer (some e)) := by
  have h6 := @run_callFunc_extern Tryz.prog 40 _ (fun args => ReflectliteValue.unpack (args.getD 0 (.tuple #[]))) Tryz.func40 (by kernel_rfl) (by kernel_rfl) (by kernel_rfl) (by kernel_rfl)
  have h7 := @run_callFunc_extern Tryz.prog 41 _ (ReflectliteValue.methodAny (ReflectliteValue.valueError "reflectlite.Value.Type" 0) (fun t _ _ _ => ReflectliteType.toType t)) Tryz.func41 (by kernel_rfl) (by kernel_rfl) (by kernel_rfl) (by kernel_rfl)
  have h8 := @run_callFunc_extern Tryz.prog 42 _ (ReflectliteValue.method (ReflectliteValue.valueError "reflectlite.Value.IsNil" 0) ReflectliteValue.isNil) Tryz.func42 (by kernel_rfl) (by kernel_rfl) (by kernel_rfl) (by kernel_rfl)
  have h27 := @run_callFunc_extern Tryz.prog 109 _ (ReflectliteType.abiMethod fun t => do pure (.int .u8 (← Rtype.kind t))) Tryz.func109 (by kernel_rfl) (by kernel_rfl) (by kernel_rfl) (by kernel_rfl)
  have h37 := @run_callFunc_extern Tryz.prog 120 _ (ReflectliteType.method ReflectliteType.elem) Tryz.func120 (by kernel_rfl) (by kernel_rfl) (by kernel_rfl) (by kernel_rfl)
  have h38 := @run_callFunc_extern Tryz.prog 121 _ (ReflectliteType.relation "Implements" ReflectliteType.implements_) Tryz.func121 (by kernel_rfl) (by kernel_rfl) (by kernel_rfl) (by kernel_rfl)
  have h10 := @run_callFunc_extern Tryz.prog 44 _ ReflectliteType.typeOf Tryz.func44 (by kernel_rfl) (by kernel_rfl) (by kernel_rfl) (by kernel_rfl)
  have h35 := @run_callFunc_extern Tryz.prog 118 _ (ReflectliteType.relation "AssignableTo" ReflectliteType.assignableTo) Tryz.func118 (by kernel_rfl) (by kernel_rfl) (by kernel_rfl) (by kernel_rfl)
  have h11 := @run_callFunc_extern Tryz.prog 58 _ (ReflectliteValue.method (ReflectliteValue.valueError "reflectlite.Value.Elem" 0) ReflectliteValue.elem) Tryz.func58 (by kernel_rfl) (by kernel_rfl) (by kernel_rfl) (by kernel_rfl)
  have h12 := @run_callFunc_extern Tryz.prog 59 _ ReflectliteValue.set Tryz.func59 (by kernel_rfl) (by kernel_rfl) (by kernel_rfl) (by kernel_rfl)
  have tO := typeOfF
  have mA := methodAssignableTo
  have aF := assignableF
  have vF := valueOfF
  have f6 := valueOfFF
  have f7 := typeFF
  have mK := methodKind
  have mE := methodElem
  have mI := methodImplements
  have kFF := kindFF
  have kF := kindF
  have eFF := elemFF
  have iF := implementsF
  have n8 := isNilFF ⟨w.heap.size, 0, none⟩ t ((w.alloc (.cells #[.pointer (some t)] 66)).alloc (.cells #[.pointer (some ⟨16, 66, none⟩), .pointer (some ⟨w.heap.size, 0, none⟩), .int .u64 150] 79)) (by simp)
  have hlt := lt_of_cell hg
  have hg2 : ((w.alloc (.cells #[.pointer (some t)] 66)).alloc (.cells #[.pointer (some ⟨16, 66, none⟩), .pointer (some ⟨w.heap.size, 0, none⟩), .int .u64 150] 79)).cell? ⟨12, 0, none⟩ = some (.iface 105 (.agg #[.pointer (some ⟨16, 27, none⟩)])) := by
    rw [World.cell?_alloc_lt _ _ ⟨12, 0, none⟩ (by simp; omega), World.cell?_alloc_lt _ _ ⟨12, 0, none⟩ hlt]; exact hg
  have htl : t.block < w.heap.size := by
    rcases Nat.lt_or_ge t.block w.heap.size with h | h
    · exact h
    · simp [World.cell?, Array.getElem?_eq_none h] at ht0
  have el := elemVFF ⟨w.heap.size, 0, none⟩ t (((w.alloc (.cells #[.pointer (some t)] 66)).alloc (.cells #[.pointer (some ⟨16, 66, none⟩), .pointer (some ⟨w.heap.size, 0, none⟩), .int .u64 150] 79)).alloc (.cells #[.pointer (some ⟨16, 66, none⟩), .pointer (some ⟨w.heap.size, 0, none⟩), .int .u64 150] 79)) (by rw [World.cell?_alloc_lt _ _ ⟨w.heap.size, 0, none⟩ (by simp; omega)]; simp)
  have st := setF t ⟨w.heap.size + 1 + 1 + 1, 0, none⟩ e old ((((w.alloc (.cells #[.pointer (some t)] 66)).alloc (.cells #[.pointer (some ⟨16, 66, none⟩), .pointer (some ⟨w.heap.size, 0, none⟩), .int .u64 150] 79)).alloc (.cells #[.pointer (some ⟨16, 66, none⟩), .pointer (some ⟨w.heap.size, 0, none⟩), .int .u64 150] 79)).alloc (.cells #[.pointer (some e)] 49))
    (by rw [World.cell?_alloc_at _ _ _ _ (by simp)]; rfl)
    (by rw [World.cell?_alloc_lt _ _ t (by simp; omega), World.cell?_alloc_lt _ _ t (by simp; omega), World.cell?_alloc_lt _ _ t (by simp; omega), World.cell?_alloc_lt _ _ t htl]; exact ht0)
    (by rw [World.frozen?_alloc_old _ _ t (by simp; omega), World.frozen?_alloc_old _ _ t (by simp; omega), World.frozen?_alloc_old _ _ t (by simp; omega), World.frozen?_alloc_old _ _ t (Nat.ne_of_lt htl)]; exact hf0)
  go_enter Tryz.func29, Tryz.ntmps29
  go_wp2
  refine wp_loop_rounds 1 ?_
  rw [rounds_succ]
  go_wp2
  go_ret
  exact ⟨rfl, _, ((((Below.refl _ _).alloc (Nat.le_refl _) _).alloc (by simp) _).alloc (by simp; omega) _).alloc (by simp; omega) _, rfl⟩
end
section
open Go.Extern.Stop Go.Stop Go.Extern
set_option maxRecDepth 10000 in
set_option maxHeartbeats 4000000 in
theorem code_faultAt (ad : Nat → Addr) (i fb : Nat) (at_ : Int) (hi : i < 12) (w : World) (hS : Sent w ad) (h0 : w.cell? ⟨fb, 0, none⟩ = some (.int .i64 at_)) (h1 : w.cell? ⟨fb, 1, none⟩ = some (.iface 158 (.pointer (some (ad i))))) :
    Calls Tryz.prog 17 #[.iface 49 (.pointer (some ⟨fb, 0, none⟩))] w fun e w' => e = .returned (.tuple #[.int .i64 ((i + 1 : Nat) : Int), .int .i64 at_]) ∧ Below w.heap.size w w' := by
  have hfb : fb < w.heap.size := lt_of_cell h0
  have hb1 : Below w.heap.size w (w.alloc (.cells #[.pointer none] 49)) := (Below.refl _ _).alloc (Nat.le_refl _) _
  have hS1 := hS.below hb1
  have ht0 : (w.alloc (.cells #[.pointer none] 49)).cell? ⟨w.heap.size, 0, none⟩ = some (.pointer none) := by simp
  have hf0 : (w.alloc (.cells #[.pointer none] 49)).frozen? ⟨w.heap.size, 0, none⟩ = false := by simp
  go_enter Tryz.func17, Tryz.ntmps17
  go_wp2_with fail
  refine (as_hit ⟨fb, 0, none⟩ ⟨w.heap.size, 0, none⟩ (.pointer none) _ hS1.typ ht0 hf0).mono ?_
  rintro e w2 ⟨rfl, wx, hbx, hw2⟩
  have hb2 : Below w.heap.size w w2 := by rw [hw2]; exact (hb1.trans (hbx.mono (by simp))).setCell (Nat.le_refl _) _
  have hS2 := hS.below hb2
  have ht2 : w2.cell? ⟨w.heap.size, 0, none⟩ = some (.pointer (some ⟨fb, 0, none⟩)) := by
    rw [hw2]
    exact World.cell?_setCell_same wx ⟨w.heap.size, 0, none⟩ _ ((hbx.cell (p := ⟨w.heap.size, 0, none⟩) (by simp)).trans ht0)
  have h02 : w2.cell? ⟨fb, 0, none⟩ = some (.int .i64 at_) := (hb2.cell (p := ⟨fb, 0, none⟩) hfb).trans h0
  have h12 : w2.cell? ⟨fb, 1, none⟩ = some (.iface 158 (.pointer (some (ad i)))) := (hb2.cell (p := ⟨fb, 1, none⟩) hfb).trans h1
  have hfb2 : fb < w2.heap.size := Nat.lt_of_lt_of_le hfb hb2.size
  have HB2 : Hid (Below w.heap.size w w2) := hb2
  clear hw2 hbx wx hb2 hS1 hb1 ht0 hf0 h0 h1 hS hfb
  have hS2' := hS2
  obtain ⟨c0, c1, c2, c3, c4, c5, c6, c7, c8, c9, c10, c11, _, _, _⟩ := hS2'
  go_wp2
  clear c0 c1 c2 c3 c4 c5 c6 c7 c8 c9 c10 c11 ht2 h02
  have hb3 : Below w2.heap.size w2 (w2.alloc (.cells (sentRow ad) 27)) := (Below.refl _ _).alloc (Nat.le_refl _) _
  have hS3 := hS2.below hb3
  have hrow := sentRow_cell ad w2
  have h13 := (hb3.cell (p := ⟨fb, 1, none⟩) hfb2).trans h12
  have hb4 : Hid (Below w.heap.size w (w2.alloc (.cells (sentRow ad) 27))) := HB2.out.trans (hb3.mono HB2.out.size)
  unfold sentRow at hS3 hrow hb4 h13
  generalize w2.alloc (.cells _ 27) = w3 at hS3 hrow hb4 h13 ⊢
  clear hb3 hS2 HB2 h12 hfb2
  go_loop [3, 30] (fun y x => y = .int .i64 at_ ∧ ∃ k : Nat, k ≤ i ∧ x = .int .i64 k) (fun _ x => 12 - (intOf x).toNat)
  case atStart => exact ⟨rfl, 0, by omega, rfl⟩
  case round =>
    obtain ⟨rfl, k, hk, rfl⟩ := hrel
    have hk12 : k < 12 := by omega
    have hc := hrow k hk12
    obtain ⟨ca, ta, hra⟩ := hS3.row i hi
    obtain ⟨cb, tb, hrb⟩ := hS3.row k hk12
    have H13 : Hid (w3.cell? ⟨fb, 1, none⟩ = some (.iface 158 (.pointer (some (ad i))))) := h13
    clear hrow h13
    by_cases hki : k = i
    · subst hki
      go_wp2_with (go_at_call 30; refine (is_wrap_same fb (ad k) _ H13.out).mono ?_; rintro e w' ⟨rfl, rfl⟩)
      go_ret2
      exact ⟨by simp, hb4.out⟩
    · have hne := hS3.ne i k hi hk12 (fun h => hki h.symm)
      have HN : Hid (ad i ≠ ad k) := hne
      have HA : Hid (w3.heap[(ad i).block]? = some (.cells ca ta (0, 0))) := hra
      have HB : Hid (w3.heap[(ad k).block]? = some (.cells cb tb (0, 0))) := hrb
      clear hne hra hrb
      go_wp2_with (go_at_call 30; refine (is_wrap_other fb (ad i) (ad k) ca cb ta tb _ H13.out HN.out HA.out HB.out).mono ?_; rintro e w' ⟨rfl, rfl⟩)
      go_round
      case rel => exact ⟨rfl, k + 1, by omega, by go_num⟩
      case measure => simp [intOf]; omega
theorem code_is (ad : Nat → Addr) (ev : Value) (c at_ : Int) (w : World) (hS : Sent w ad) (he : ErrIs w ad ev c at_) :
    Calls Tryz.prog 17 #[ev] w fun e w' => e = .returned (.tuple #[.int .i64 c, .int .i64 at_]) ∧ Below w.heap.size w w' := by
  rcases he with ⟨rfl, rfl, rfl⟩ | ⟨i, hi, rfl, rfl, rfl⟩ | ⟨i, fb, hi, rfl, rfl, h0, h1⟩
  · refine (code_nil w).mono ?_
    rintro e w' ⟨rfl, rfl⟩
    exact ⟨rfl, Below.refl _ _⟩
  · exact code_sent ad i hi w hS
  · exact code_faultAt ad i fb at_ hi w hS h0 h1
theorem Sent.errs {w : World} {ad : Nat → Addr} (h : Sent w ad) : Errs w ad := ⟨h.c1, h.c3, h.c5, h.c7⟩
end
section
open Go.Extern.Stop Go.Stop Go.Extern
set_option maxRecDepth 10000 in
set_option maxHeartbeats 2000000 in
theorem faulted_any (ad : Nat → Addr) (ev : Value) (c at_ : Int) (w : World) (hS : Sent w ad) (he : ErrIs w ad ev c at_) :
    Calls Tryz.prog 7 #[ev, .agg #[.int .i64 c, .int .i64 at_]] w fun e w' => e = .returned (.bool true) ∧ Below w.heap.size w w' := by
  obtain ⟨w0, hw0⟩ : ∃ w0, w0 = w.alloc (.cells #[.int .i64 c, .int .i64 at_] 31) := ⟨_, rfl⟩
  have hb0 : Below w.heap.size w w0 := by rw [hw0]; exact (Below.refl _ _).alloc (Nat.le_refl _) _
  have q1 : w0.cell? ⟨w.heap.size, 0, none⟩ = some (.int .i64 c) := by rw [hw0, World.cell?_alloc_at _ _ _ _ rfl]; rfl
  have q2 : w0.cell? ⟨w.heap.size, 1, none⟩ = some (.int .i64 at_) := by rw [hw0, World.cell?_alloc_at _ _ _ _ rfl]; rfl
  have HC := code_is ad ev c at_ w0 (hS.below hb0) (he.below hb0)
  have HW0 : Hid (w0 = w.alloc (.cells #[.int .i64 c, .int .i64 at_] 31)) := hw0
  have HB0 : Hid (Below w.heap.size w w0) := hb0
  have HQ : Hid (w0.cell? ⟨w.heap.size, 0, none⟩ = some (.int .i64 c) ∧ w0.cell? ⟨w.heap.size, 1, none⟩ = some (.int .i64 at_) ∧ w.heap.size < w0.heap.size) := ⟨q1, q2, by rw [hw0]; simp⟩
  have HZ : Hid (c = 0 ∨ c ≠ 0) := by
    show c = 0 ∨ c ≠ 0
    omega
  clear hw0 hb0 q1 q2 hS he
  go_enter Tryz.func7, Tryz.ntmps7
  go_wp2_with fail
  rw [← HW0.out]
  refine HC.mono ?_
  rintro e w1 ⟨rfl, hb1⟩
  obtain ⟨q1, q2, hlt⟩ := HQ.out
  have r1 := (hb1.cell (p := ⟨w.heap.size, 0, none⟩) hlt).trans q1
  have r2 := (hb1.cell (p := ⟨w.heap.size, 1, none⟩) hlt).trans q2
  have HB1 : Hid (Below w.heap.size w w1) := HB0.out.trans (hb1.mono HB0.out.size)
  clear HC hb1 q1 q2 HQ HB0 hlt HW0
  rcases HZ.out with hz | hz
  · subst hz
    go_wp2
    go_ret
    exact ⟨rfl, HB1.out⟩
  · have hz2 : (c == 0) = false := by
      rw [beq_eq_false_iff_ne]
      exact hz
    go_wp2
    go_ret
    exact ⟨rfl, HB1.out⟩
end
namespace Crc
def poly : Nat := 3988292384
def back (c : Nat) : Nat := if c % 2 = 1 then poly else 0
/-- One step: the lowest bit goes out; with the text's bit it tells whether the polynomial is added. -/
def step (c b : Nat) : Nat := c / 2 ^^^ back (c ^^^ b)
theorem xor_mod2 (a b : Nat) : (a ^^^ b) % 2 = (a % 2 + b % 2) % 2 := by
  have h := Nat.xor_mod_two_pow (a := a) (b := b) (n := 1)
  have e : ∀ x, x < 2 → ∀ y, y < 2 → x ^^^ y = (x + y) % 2 := by decide
  rw [show 2 ^ 1 = 2 from rfl] at h
  rw [h, e _ (Nat.mod_lt _ (by decide)) _ (Nat.mod_lt _ (by decide))]
theorem xor_div2 (a b : Nat) : (a ^^^ b) / 2 = a / 2 ^^^ b / 2 := Nat.xor_div_two
theorem back_xor (a b : Nat) : back (a ^^^ b) = back a ^^^ back b := by
  unfold back
  have h := xor_mod2 a b
  rcases Nat.mod_two_eq_zero_or_one a with ha | ha <;> rcases Nat.mod_two_eq_zero_or_one b with hb | hb <;> rw [ha, hb] at h <;> simp [h, ha, hb]
theorem step_xor (c d a b : Nat) : step (c ^^^ d) (a ^^^ b) = step c a ^^^ step d b := by
  unfold step
  rw [xor_div2, show (c ^^^ d) ^^^ (a ^^^ b) = (c ^^^ a) ^^^ (d ^^^ b) by ac_rfl, back_xor]
  ac_rfl
theorem poly_lt : poly < 2 ^ 32 := by decide
theorem back_lt (c : Nat) : back c < 2 ^ 32 := by
  unfold back
  split
  · exact poly_lt
  · decide
theorem step_lt {c : Nat} (h : c < 2 ^ 32) (b : Nat) : step c b < 2 ^ 32 := Nat.xor_lt_two_pow (by omega) (back_lt _)
theorem step_bit (c b : Nat) (hb : b < 2) : step c b = step (c ^^^ b) 0 := by
  unfold step
  rw [xor_div2, Nat.xor_zero, show b / 2 = 0 by omega, Nat.xor_zero]
/-- With no bit nothing is lost. -/
theorem step_ne {c : Nat} (h : c < 2 ^ 32) (h0 : c ≠ 0) : step c 0 ≠ 0 := by
  unfold step back
  rw [Nat.xor_zero]
  by_cases e : c % 2 = 1
  · rw [if_pos e]
    intro hx
    have h1 : c / 2 = poly := Gf.eq_of_xor hx
    unfold poly at h1
    omega
  · rw [if_neg e, Nat.xor_zero]
    omega
/-- The remainder over the first p bits. -/
def crcTo (f : Nat → Nat) (c : Nat) : Nat → Nat
  | 0 => c
  | p + 1 => step (crcTo f c p) (f p)
theorem crcTo_lt {f : Nat → Nat} {c : Nat} (h : c < 2 ^ 32) : ∀ p, crcTo f c p < 2 ^ 32
  | 0 => h
  | p + 1 => step_lt (crcTo_lt h p) _
theorem crcTo_xor (f g : Nat → Nat) (c d : Nat) : ∀ p, crcTo (fun i => f i ^^^ g i) (c ^^^ d) p = crcTo f c p ^^^ crcTo g d p
  | 0 => rfl
  | p + 1 => by
    show step (crcTo (fun i => f i ^^^ g i) (c ^^^ d) p) (f p ^^^ g p) = _
    rw [crcTo_xor f g c d p, step_xor]
    rfl
theorem crcTo_add (f : Nat → Nat) (c p : Nat) : ∀ q, crcTo f c (p + q) = crcTo (fun i => f (p + i)) (crcTo f c p) q
  | 0 => rfl
  | q + 1 => by
    show step (crcTo f c (p + q)) (f (p + q)) = step (crcTo (fun i => f (p + i)) (crcTo f c p) q) (f (p + q))
    rw [crcTo_add f c p q]
theorem crcTo_congr {f g : Nat → Nat} {c : Nat} : ∀ p, (∀ i, i < p → f i = g i) → crcTo f c p = crcTo g c p
  | 0, _ => rfl
  | p + 1, h => by
    show step (crcTo f c p) (f p) = step (crcTo g c p) (g p)
    rw [crcTo_congr p (fun i hi => h i (by omega)), h p (by omega)]
def zs (m x : Nat) : Nat := crcTo (fun _ => 0) x m
theorem zs_xor (m x y : Nat) : zs m (x ^^^ y) = zs m x ^^^ zs m y := by
  have h := crcTo_xor (fun _ => 0) (fun _ => 0) x y m
  unfold zs
  rw [← h]
  exact crcTo_congr m (fun _ _ => rfl)
theorem zs_ne {x : Nat} (h : x < 2 ^ 32) (h0 : x ≠ 0) : ∀ m, zs m x ≠ 0
  | 0 => h0
  | m + 1 => step_ne (crcTo_lt h m) (zs_ne h h0 m)
theorem zs_zero : ∀ m, zs m 0 = 0
  | 0 => rfl
  | m + 1 => by
    show step (zs m 0) 0 = 0
    rw [zs_zero m]
    decide
theorem step_even (x : Nat) : step (2 * x) 0 = x := by
  unfold step back
  rw [Nat.xor_zero, if_neg (by omega), Nat.xor_zero]
  omega
theorem zs_step (m x : Nat) : zs (m + 1) x = zs m (step x 0) := by
  have := crcTo_add (fun _ => 0) x 1 m
  unfold zs
  rw [Nat.add_comm m 1, this]
  exact crcTo_congr m (fun _ _ => rfl)
theorem zs_pow (b : Nat) : ∀ m, zs m (2 ^ m * b) = b
  | 0 => by show 2 ^ 0 * b = b; omega
  | m + 1 => by
    rw [zs_step, show 2 ^ (m + 1) * b = 2 * (2 ^ m * b) by rw [Nat.pow_succ]; ac_rfl, step_even]
    exact zs_pow b m
/-- m bits as a number, the first the lowest. -/
def num (f : Nat → Nat) : Nat → Nat
  | 0 => 0
  | m + 1 => num f m ^^^ 2 ^ m * f m
theorem num_lt {f : Nat → Nat} (hf : ∀ i, f i < 2) : ∀ m, num f m < 2 ^ m
  | 0 => by show 0 < 2 ^ 0; decide
  | m + 1 => by
    show num f m ^^^ 2 ^ m * f m < 2 ^ (m + 1)
    have h1 := num_lt hf m
    have h2 := hf m
    have h3 : 2 ^ (m + 1) = 2 * 2 ^ m := by rw [Nat.pow_succ]; omega
    have h4 : 2 ^ m * f m < 2 ^ (m + 1) := by
      rcases (show f m = 0 ∨ f m = 1 by omega) with e | e <;> rw [e] <;> omega
    exact Nat.xor_lt_two_pow (by omega) h4
theorem num_ne {f : Nat → Nat} (hf : ∀ i, f i < 2) : ∀ m, (∃ i, i < m ∧ f i ≠ 0) → num f m ≠ 0
  | 0, ⟨_, h, _⟩ => absurd h (Nat.not_lt_zero _)
  | m + 1, ⟨i, hi, hne⟩ => by
    show num f m ^^^ 2 ^ m * f m ≠ 0
    intro hx
    have hx' := Gf.eq_of_xor hx
    have hlt := num_lt hf m
    have h2 := hf m
    rcases (show f m = 0 ∨ f m = 1 by omega) with e | e
    · rw [e, Nat.mul_zero] at hx'
      refine num_ne hf m ⟨i, ?_, hne⟩ hx'
      rcases Nat.lt_succ_iff_lt_or_eq.1 hi with h | h
      · exact h
      · rw [h, e] at hne; exact absurd rfl hne
    · rw [e] at hx'
      omega
/-- Bits that come in one by one, or at once. -/
theorem crcTo_num {f : Nat → Nat} (hf : ∀ i, f i < 2) (c : Nat) : ∀ m, crcTo f c m = zs m (c ^^^ num f m)
  | 0 => by show c = c ^^^ 0; rw [Nat.xor_zero]
  | m + 1 => by
    show step (crcTo f c m) (f m) = step (zs m (c ^^^ (num f m ^^^ 2 ^ m * f m))) 0
    rw [step_bit _ _ (hf m), crcTo_num hf c m, ← Nat.xor_assoc, zs_xor m (c ^^^ num f m), zs_pow]
/-- A burst of at most 32 bits is seen. -/
theorem burst_seen {f g : Nat → Nat} (hf : ∀ i, f i < 2) (hg : ∀ i, g i < 2) (c n a : Nat) (h : ∀ p, p < n → f p ≠ g p → a ≤ p ∧ p < a + 32) (hne : ∃ p, p < n ∧ f p ≠ g p) : crcTo f c n ≠ crcTo g c n := by
  intro he
  have hd : crcTo (fun i => f i ^^^ g i) 0 n = 0 := by
    have := crcTo_xor f g c c n
    rw [Nat.xor_self] at this
    rw [this, he, Nat.xor_self]
  have hb : ∀ i, f i ^^^ g i < 2 := fun i => Nat.xor_lt_two_pow (n := 1) (hf i) (hg i)
  have hz : ∀ p, p < n → ¬ (a ≤ p ∧ p < a + 32) → f p ^^^ g p = 0 := fun p hp hno => by
    have : f p = g p := Classical.byContradiction fun hx => hno (h p hp hx)
    rw [this, Nat.xor_self]
  obtain ⟨q, hq, hqne⟩ := hne
  have haq := h q hq hqne
  have h0 : crcTo (fun i => f i ^^^ g i) 0 a = 0 := by
    rw [crcTo_congr (g := fun _ => 0) a (fun i hi => hz i (by omega) (by omega))]
    exact zs_zero a
  -- the window: m bits from a on
  obtain ⟨m, hm32, hmn, hqm, hrest⟩ : ∃ m, m ≤ 32 ∧ a + m ≤ n ∧ q < a + m ∧ ∀ p, a + m ≤ p → p < n → ¬ (a ≤ p ∧ p < a + 32) := by
    by_cases hc : a + 32 ≤ n
    · exact ⟨32, Nat.le_refl _, hc, haq.2, fun p h1 _ => by omega⟩
    · exact ⟨n - a, by omega, by omega, by omega, fun p h1 h2 => by omega⟩
  have h1 : crcTo (fun i => f i ^^^ g i) 0 (a + m) = zs m (num (fun i => f (a + i) ^^^ g (a + i)) m) := by
    rw [crcTo_add, h0, crcTo_num (fun i => hb (a + i)), Nat.zero_xor]
  have hnz : num (fun i => f (a + i) ^^^ g (a + i)) m ≠ 0 := num_ne (fun i => hb (a + i)) m ⟨q - a, by omega, by
    show f (a + (q - a)) ^^^ g (a + (q - a)) ≠ 0
    rw [show a + (q - a) = q by omega]
    exact Gf.xor_ne hqne⟩
  have hlt : num (fun i => f (a + i) ^^^ g (a + i)) m < 2 ^ 32 := Nat.lt_of_lt_of_le (num_lt (fun i => hb (a + i)) m) (Nat.pow_le_pow_right (by decide) hm32)
  have h2 : crcTo (fun i => f i ^^^ g i) 0 n = zs (n - (a + m)) (zs m (num (fun i => f (a + i) ^^^ g (a + i)) m)) := by
    rw [← h1]
    have := crcTo_add (fun i => f i ^^^ g i) 0 (a + m) (n - (a + m))
    rw [show a + m + (n - (a + m)) = n by omega] at this
    rw [this]
    exact crcTo_congr _ (fun i hi => hz (a + m + i) (by omega) (hrest _ (by omega) (by omega)))
  exact zs_ne (crcTo_lt hlt m) (zs_ne hlt hnz m) _ (h2.symm.trans hd)
end Crc
end Go.Proofs.YtppcijpgalaohaaGreatDoor
