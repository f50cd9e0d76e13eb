/- Pairs of a number and a text, as cells of a row. -/
import Derived.Test.YtakfjkphmfblaaaGreatDoorShB
import Derived.Test.YtakfjkphmfblaaaGreatDoorG2
namespace Go.Proofs.YtakfjkphmfblaaaGreatDoor
open Go.RowKit
def shVals (l : List (Int × ByteArray)) : List Value := l.flatMap fun x => [.int .i64 x.1, .string x.2]
theorem shVals_length (l : List (Int × ByteArray)) : (shVals l).length = l.length * 2 := by
  induction l with
  | nil => rfl
  | cons x t ih =>
    have : shVals (x :: t) = .int .i64 x.1 :: .string x.2 :: shVals t := rfl
    rw [this, List.length_cons, List.length_cons, ih, List.length_cons]
    omega
theorem shVals_at : ∀ (l : List (Int × ByteArray)) (i : Nat), i < l.length → (shVals l)[i * 2]? = some (.int .i64 (shAt l i).1) ∧ (shVals l)[i * 2 + 1]? = some (.string (shAt l i).2)
  | [], i, h => absurd h (Nat.not_lt_zero _)
  | x :: t, 0, _ => ⟨rfl, rfl⟩
  | x :: t, i + 1, h => by
    have h' := shVals_at t i (by simpa using h)
    have e : shVals (x :: t) = .int .i64 x.1 :: .string x.2 :: shVals t := rfl
    have e2 : shAt (x :: t) (i + 1) = shAt t i := rfl
    rw [e, e2, show (i + 1) * 2 = i * 2 + 1 + 1 by omega, show i * 2 + 1 + 1 + 1 = i * 2 + 1 + 1 + 1 from rfl]
    exact ⟨by simpa using h'.1, by simpa using h'.2⟩
theorem Shs.cells {w : World} {b o : Nat} {l : List (Int × ByteArray)} (hc : ∀ i, i < l.length → w.cell? ⟨b, o + i * 2, none⟩ = some (.int .i64 (shAt l i).1) ∧ w.cell? ⟨b, o + i * 2 + 1, none⟩ = some (.string (shAt l i).2)) : ∀ j u, (shVals l)[j]? = some u → w.cell? ((⟨b, o, none⟩ : Addr).add j) = some u := by
  intro j u hj
  have hjl : j < (shVals l).length := (List.getElem?_eq_some_iff.1 hj).1
  rw [shVals_length] at hjl
  have hi : j / 2 < l.length := by omega
  have h1 := shVals_at l (j / 2) hi
  have h2 := hc (j / 2) hi
  rw [Addr.add_lit]
  rcases Nat.mod_two_eq_zero_or_one j with e | e
  · have ej : j = j / 2 * 2 := by omega
    rw [ej] at hj ⊢
    rw [h1.1] at hj
    rw [h2.1, ← hj]
  · have ej : j = j / 2 * 2 + 1 := by omega
    rw [ej] at hj ⊢
    rw [h1.2] at hj
    rw [← Nat.add_assoc, h2.2, ← hj]
theorem shs_of_own {w : World} {B : Nat} {v : Value} {l : List (Int × ByteArray)} {E : TypeId} (h : w.ownsRow B E 2 v l.length (shVals l)) : ∃ p c, v = .slice p l.length c ∧ Shs w p l := by
  rcases h.2 with ⟨rfl, h0⟩ | ⟨g, cap, cur, rfl, hb, hg, hnc, hcm, hcs, htake⟩
  · have : l = [] := List.length_eq_zero_iff.1 h0
    subst this
    exact ⟨none, 0, rfl, Or.inl rfl⟩
  · refine ⟨some ⟨g, 0, none⟩, cap, rfl, Or.inr ⟨g, 0, rfl, (Array.getElem?_eq_some_iff.1 hg).1, fun i hi => ?_⟩⟩
    have hc := World.ownsRow.cells (g := g) h rfl
    have h1 := shVals_at l i hi
    have e1 := hc (i * 2) _ h1.1
    have e2 := hc (i * 2 + 1) _ h1.2
    rw [Addr.add_lit] at e1 e2
    exact ⟨e1, by rw [Nat.add_assoc]; exact e2⟩
/-- Nothing behind nothing: nil. -/
theorem wpList_append_empty {P : Program} {w : World} {ops : Array Oper} {rest : List Oper} {o : Oper} {a : Act} {Q : Exit → Act → World → Prop} (hgd : o.guard = none) (s x : Operand) (t : TypeId)
    (ho : o.op = .call { callee := .builtin .append, args := #[s, x], argTypes := #[t, t] })
    (e : TypeId) (i : TypeInfo) (ht : P.underlying t = some (.slice e)) (hi : P.info? e = some i)
    (hs : a.eval s = .slice none 0 0) (q : Option Addr) (c : Nat) (hx : a.eval x = .slice q 0 c) (hc0 : q = none → c = 0)
    (h : wpList P ops Q rest (a.put o.dst (.slice none 0 0)) w) : wpList P ops Q (o :: rest) a w := by
  refine wpList_plain hgd fun K hK => ?_
  have hr : (Builtin.append_ #[t, t] o.type #[.slice none 0 0, .slice q 0 c]).run P w = .ok (.slice none 0 0) w := by
    cases q with
    | none => obtain rfl := hc0 rfl; simp [Builtin.append_, run_underlying ht, sizeOf, typeInfo, hi, Builtin.lenOf, Builtin.firstCells]
    | some ad => simp [Builtin.append_, run_underlying ht, sizeOf, typeInfo, hi, Builtin.lenOf, Builtin.firstCells, loadCells, loadCellsFrom]
  unfold Oper.wp execOp
  simp only [ho, resolve, invoke, builtin, Sem.run_bind, Sem.run_pure, Result.andThen_ok, List.map_toArray, List.map_cons, List.map_nil, hs, hx, hr]
  exact hK _ _ h
end Go.Proofs.YtakfjkphmfblaaaGreatDoor
