/- What Moves is asked to answer. -/
import Derived.Test.YtakfjkphmfblaaaGreatDoorRingCW
namespace Go.Proofs.YtakfjkphmfblaaaGreatDoor
open Go.RowKit Ring
/-- A change: its key, who was preferred, who is. -/
abbrev Ch := ByteArray × List ByteArray × List ByteArray
def chAt (cs : List Ch) (i : Nat) : Ch := cs.getD i (⟨#[]⟩, [], [])
/-- The changes of keys. -/
def chs (fa fb : ByteArray → List ByteArray) (keys : List ByteArray) : List Ch := keys.filterMap fun k => if fa k = fb k then none else some (k, fa k, fb k)
theorem keys_split {keys : List ByteArray} {i : Nat} (hi : i < keys.length) : keys = keys.take i ++ ([txt keys i] ++ keys.drop (i + 1)) := by
  conv => lhs; rw [← List.take_append_drop i keys]
  rw [List.drop_eq_getElem_cons hi, txt_getElem keys i hi]
  rfl
theorem chs_append (fa fb : ByteArray → List ByteArray) (a b : List ByteArray) : chs fa fb (a ++ b) = chs fa fb a ++ chs fa fb b := by
  unfold chs
  rw [List.filterMap_append]
theorem chs_one_same {fa fb : ByteArray → List ByteArray} {k : ByteArray} (h : fa k = fb k) : chs fa fb [k] = [] := by
  unfold chs
  simp [h]
theorem chs_one {fa fb : ByteArray → List ByteArray} {k : ByteArray} (h : fa k ≠ fb k) : chs fa fb [k] = [(k, fa k, fb k)] := by
  unfold chs
  simp [h]
theorem chs_succ {fa fb : ByteArray → List ByteArray} {keys : List ByteArray} {i : Nat} (hi : i < keys.length) : chs fa fb (keys.take (i + 1)) = chs fa fb (keys.take i) ++ chs fa fb [txt keys i] := by
  rw [← chs_append]
  congr 1
  rw [List.take_add_one, List.getElem?_eq_getElem hi, txt_getElem keys i hi]
  rfl
/-- Where key i changes, its change is the next. -/
theorem chs_at {fa fb : ByteArray → List ByteArray} {keys : List ByteArray} {i : Nat} (hi : i < keys.length) (h : fa (txt keys i) ≠ fb (txt keys i)) :
    (chs fa fb (keys.take i)).length < (chs fa fb keys).length ∧ chAt (chs fa fb keys) (chs fa fb (keys.take i)).length = (txt keys i, fa (txt keys i), fb (txt keys i)) := by
  have e : chs fa fb keys = chs fa fb (keys.take i) ++ ([(txt keys i, fa (txt keys i), fb (txt keys i))] ++ chs fa fb (keys.drop (i + 1))) := by
    conv => lhs; rw [keys_split hi, chs_append, chs_append, chs_one h]
  constructor
  · rw [e, List.length_append, List.length_append]
    show _ < _ + (1 + _)
    omega
  · unfold chAt
    conv => lhs; rw [e]
    rw [List.getD_eq_getElem?_getD, List.getElem?_append_right (Nat.le_refl _), Nat.sub_self]
    rfl
/-- In the world w the changes cs lie from p on. -/
def Chs (w : World) (p : Option Addr) (cs : List Ch) : Prop :=
  cs = [] ∨ ∃ b o, p = some ⟨b, o, none⟩ ∧ b < w.heap.size ∧ ∀ i, i < cs.length → ∃ pf cf pt ct, w.cell? ⟨b, o + i * 3, none⟩ = some (.string (chAt cs i).1) ∧ w.cell? ⟨b, o + i * 3 + 1, none⟩ = some (.slice pf (chAt cs i).2.1.length cf) ∧ w.cell? ⟨b, o + i * 3 + 2, none⟩ = some (.slice pt (chAt cs i).2.2.length ct) ∧ Strs w pf (chAt cs i).2.1 ∧ Strs w pt (chAt cs i).2.2
theorem Chs.below {w w' : World} {p : Option Addr} {cs : List Ch} (h : Chs w p cs) (hb : Below w.heap.size w w') : Chs w' p cs := by
  rcases h with h | ⟨b, o, hp, hlt, hc⟩
  · exact Or.inl h
  · refine Or.inr ⟨b, o, hp, Nat.lt_of_lt_of_le hlt hb.size, fun i hi => ?_⟩
    obtain ⟨pf, cf, pt, ct, h1, h2, h3, h4, h5⟩ := hc i hi
    exact ⟨pf, cf, pt, ct, (hb.cell (p := ⟨b, o + i * 3, none⟩) hlt).trans h1, (hb.cell (p := ⟨b, o + i * 3 + 1, none⟩) hlt).trans h2, (hb.cell (p := ⟨b, o + i * 3 + 2, none⟩) hlt).trans h3, h4.below hb, h5.below hb⟩
/-- The fault of moves. -/
def movesF (old now : List ByteArray) (m : Nat) (n : Int) : Int × Int := if 0 < (preferF old n).1 then preferF old n else if 0 < (preferF now n).1 then preferF now n else if 200 < m then (2, -1) else (0, -1)
/-- What Moves answers. -/
def MovesAns (w : World) (ad : Nat → Addr) (old now keys : List ByteArray) (n : Int) (e : Ending) : Prop :=
  (0 < (movesF old now keys.length n).1 ∧ ∃ q c ev, e = .returned (.tuple #[.slice q 0 c, ev]) ∧ ErrIs w ad ev (movesF old now keys.length n).1 (movesF old now keys.length n).2) ∨
  (¬ 0 < (movesF old now keys.length n).1 ∧ ∃ q c fa fb, e = .returned (.tuple #[.slice q (chs fa fb keys).length c, .nilIface]) ∧ Chs w q (chs fa fb keys) ∧
    ∀ k ∈ keys, (Pref (hashOf k) old (fa k) ∧ ((fa k).length : Int) = n) ∧ (Pref (hashOf k) now (fb k) ∧ ((fb k).length : Int) = n))
/-- Moves answers as it is asked to. -/
def MovesOk (ad : Nat → Addr) : Prop := ∀ (po pn pk : Option Addr) (old now keys : List ByteArray) (co cn ck : Nat) (n : Int) (w : World), old.length ≤ 1000 → now.length ≤ 1000 → keys.length ≤ 8796093021952 → old.length ≤ co → now.length ≤ cn → keys.length ≤ ck → (∀ x ∈ old, x.size ≤ 1000) → (∀ x ∈ now, x.size ≤ 1000) → (∀ x ∈ keys, x.size ≤ 1000) → Strs w po old → Strs w pn now → Strs w pk keys → Errs w ad →
  Calls Tryz.prog 15 #[.slice po old.length co, .slice pn now.length cn, .slice pk keys.length ck, .int .i64 n] w fun e w' => MovesAns w' ad old now keys n e ∧ Below w.heap.size w w'
end Go.Proofs.YtakfjkphmfblaaaGreatDoor
