/- A slice of slices of bytes that came in, as the walks ask of it. -/
import Derived.Test.YtmlcbphcphpihaaDoorOwnNB
import Derived.ProofKit
import Derived.OpenShut
import Derived.ChangeOld
import Derived.Deep.Matrix
namespace Go.Proofs.YtmlcbphcphpihaaDoor
open Go.ChangeShapes Go.WideShapes Go.ChangeAt Go.RowKit Go.Deep
theorem matLaidOut : laidOutB Tryd.prog = true := by kernel_rfl
/-- The numbers of a row, as bytes. -/
def natRow (zs : List Int) (len : Nat) : List Nat := (zs.take len).map Int.toNat
theorem natRow_length (zs : List Int) (len : Nat) (h : len ≤ zs.length) : (natRow zs len).length = len := by simp [natRow]; omega
theorem natRow_nth (zs : List Int) (len i : Nat) (h : len ≤ zs.length) (hi : i < len) : Gf.nth (natRow zs len) i = (zs.getD i 0).toNat := by
  rw [Gf.nth_getElem _ _ (by rw [natRow_length zs len h]; exact hi)]
  simp [natRow, List.getD_eq_getElem?_getD, List.getElem?_eq_getElem (show i < zs.length by omega)]
theorem getD_bounds {zs : List Int} (h : ∀ n ∈ zs, (Lit.int .u8 n).wf = true) {i : Nat} (hi : i < zs.length) : 0 ≤ zs.getD i 0 ∧ zs.getD i 0 < 256 := by
  have hmem : zs.getD i 0 ∈ zs := by rw [List.getD_eq_getElem?_getD, List.getElem?_eq_getElem hi]; exact List.getElem_mem hi
  have := bounds_u8 (h _ hmem)
  omega
theorem natRow_bytes {zs : List Int} (hz : ∀ n ∈ zs, (Lit.int .u8 n).wf = true) (len : Nat) (h : len ≤ zs.length) : Gf.Bytes (natRow zs len) := fun i => by
  by_cases hi : i < len
  · rw [natRow_nth zs len i h hi]
    have := getD_bounds hz (show i < zs.length by omega)
    omega
  · unfold Gf.nth; rw [List.getD_eq_getElem?_getD, List.getElem?_eq_none (by rw [natRow_length zs len h]; omega)]; decide
theorem seg_of_cells {w : World} {a : Option Addr} {zs : List Int} {len cap : Nat} (hlc : len ≤ cap) (hz : zs.length = cap) (hw : ∀ n ∈ zs, (Lit.int .u8 n).wf = true) (hn : a = none → cap = 0)
    (hc : ∀ a', a = some a' → ∀ c, c < cap → w.cell? (a'.add c) = some (.int .u8 (zs.getD c 0))) : Seg w a (natRow zs len) := by
  refine ⟨natRow_bytes hw len (by omega), ?_⟩
  by_cases h0 : len = 0
  · exact Or.inl (List.length_eq_zero_iff.1 (by rw [natRow_length zs len (by omega)]; exact h0))
  · cases a with
    | none => have := hn rfl; omega
    | some a' =>
      obtain ⟨b, off, rfl, hc'⟩ := ints_at (w := w) (k := .u8) (zs := zs) (a := a') (fun i hi => hc a' rfl i (by omega)) (by omega)
      refine Or.inr ⟨b, off, rfl, ?_, fun i hi => ?_⟩
      · have := hc' 0 (by omega)
        rcases Nat.lt_or_ge b w.heap.size with h' | h'
        · exact h'
        · simp [World.cell?, Array.getElem?_eq_none h'] at this
      · rw [natRow_length zs len (by omega)] at hi
        rw [hc' i (by omega), natRow_nth zs len i (by omega) hi]
        have := getD_bounds hw (show i < zs.length by omega)
        congr 2
        omega
set_option maxRecDepth 100000 in
theorem mat_arg {H : Type} {enc : TypeId × Value → H} {W : World} {base : Nat} {v : Value} {d : DataW H} {ps : List MemPlace} (hok : Value.okWide Tryd.prog W .any base 22 v)
    (h : DataW.Trod enc Tryd.prog W 0 (fun _ => true) true 22 v d ps) : ∃ p M cap, v = .slice p M.length cap ∧ Mat W p M ∧ BytesM M ∧ M.length ≤ maxLen ∧ ∀ i, (rowOf M i).length ≤ maxLen := by
  obtain ⟨a0, len0, cap0, rfl⟩ := okWide_slice Tryd.underlying22 hok
  obtain ⟨fuel, hf⟩ := h
  rcases open_int_rows Tryd.underlying22 Tryd.underlying39 Tryd.underlying5 (by kernel_rfl) (by kernel_rfl) hf with ⟨hcs, _⟩ | ⟨a, len, cap, A, L, C, Z, hcs, _, hlc, hm, _, hrow⟩
  · simp [Value.cells] at hcs
    obtain ⟨rfl, rfl, rfl⟩ := hcs
    have hz : ∀ i, rowOf [] i = [] := fun i => by simp [rowOf]
    exact ⟨none, [], 0, rfl, Or.inl rfl, fun i => by rw [hz]; exact Gf.bytes_nil, Nat.zero_le _, fun i => by rw [hz]; exact Nat.zero_le _⟩
  · simp [Value.cells] at hcs
    obtain ⟨rfl, rfl, rfl⟩ := hcs
    have hML : ((List.range len0).map fun r => natRow (Z r) (L r)).length = len0 := by simp
    have hrowOf : ∀ i, i < len0 → rowOf ((List.range len0).map fun r => natRow (Z r) (L r)) i = natRow (Z i) (L i) := fun i hi => by
      unfold rowOf
      rw [List.getD_eq_getElem?_getD, List.getElem?_map, List.getElem?_range hi]
      rfl
    have hpast : ∀ i, ¬ i < len0 → rowOf ((List.range len0).map fun r => natRow (Z r) (L r)) i = [] := fun i hi => by
      unfold rowOf
      rw [List.getD_eq_getElem?_getD, List.getElem?_eq_none (by simp; omega)]
      rfl
    refine ⟨some a, (List.range len0).map fun r => natRow (Z r) (L r), cap0, by rw [hML], ?_, ?_, by rw [hML]; omega, ?_⟩
    · by_cases h0 : len0 = 0
      · exact Or.inl (List.length_eq_zero_iff.1 (by rw [hML]; exact h0))
      · have hc0 := (hrow 0 (by omega)).1
        obtain ⟨b, off, spot⟩ := a
        have hspot : spot = none := by simpa [Addr.add] using World.cell?_spot hc0
        subst hspot
        refine Or.inr ⟨b, off, rfl, ?_, fun i hi => ?_⟩
        · rw [add_plain] at hc0
          rcases Nat.lt_or_ge b W.heap.size with h' | h'
          · exact h'
          · simp [World.cell?, Array.getElem?_eq_none h'] at hc0
        · rw [hML] at hi
          obtain ⟨h1, h2, h3, h4, h5, h6, h7⟩ := hrow i (by omega)
          rw [hrowOf i hi, natRow_length _ _ (by omega)]
          rw [add_plain] at h1
          exact ⟨A i, C i, h1, seg_of_cells h2 h4 h5 h6 (fun a' ha' => (h7 a' ha').2), h6⟩
    · intro i
      by_cases hi : i < len0
      · obtain ⟨h1, h2, h3, h4, h5, h6, h7⟩ := hrow i (by omega)
        rw [hrowOf i hi]
        exact natRow_bytes h5 _ (by omega)
      · rw [hpast i hi]; exact Gf.bytes_nil
    · intro i
      by_cases hi : i < len0
      · obtain ⟨h1, h2, h3, h4, h5, h6, h7⟩ := hrow i (by omega)
        rw [hrowOf i hi, natRow_length _ _ (by omega)]
        omega
      · rw [hpast i hi]; exact Nat.zero_le _
end Go.Proofs.YtmlcbphcphpihaaDoor
