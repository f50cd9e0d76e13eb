/- Changes of keys in memory: a row of them that the call made, with the lists that they name. -/
import Derived.Test.YtakfjkphmfblaaaGreatDoorRgMovC
import Derived.Test.YtakfjkphmfblaaaGreatDoorRecB
import Derived.Test.YtakfjkphmfblaaaGreatDoorOwnTB
namespace Go.Proofs.YtakfjkphmfblaaaGreatDoor
open Go.RowKit Ring
/-- A slice: where, how many, how many there may be. -/
abbrev Sl := Option Addr × Nat × Nat
def slV (s : Sl) : Value := .slice s.1 s.2.1 s.2.2
abbrev Rc := ByteArray × Sl × Sl
def cE : Enc Rc where
  k := 3
  pos := by decide
  enc := fun x => [.string x.1, slV x.2.1, slV x.2.2]
  len := fun _ => rfl
  one := fun x u hu => by
    simp at hu
    rcases hu with rfl | rfl | rfl <;> rfl
theorem chinfo : (Tryz.prog.info? 44).map (fun i => (i.zero, i.size, i.bytes)) = some (some (.agg #[.string ⟨#[]⟩, .slice none 0 0, .slice none 0 0]), 3, 64) := by kernel_rfl
/-- The records rs name the changes cs. -/
def RelC (w : World) (B : Nat) (rs : List Rc) (cs : List Ch) : Prop :=
  rs.length = cs.length ∧ ∀ i, i < cs.length → ∃ r, rs[i]? = some r ∧ r.1 = (chAt cs i).1 ∧ OwnT w B (slV r.2.1) (chAt cs i).2.1 ∧ OwnT w B (slV r.2.2) (chAt cs i).2.2
theorem RelC.nil (w : World) (B : Nat) : RelC w B [] [] := ⟨rfl, fun _ hi => absurd hi (Nat.not_lt_zero _)⟩
theorem RelC.below {w w' : World} {B : Nat} {rs : List Rc} {cs : List Ch} (h : RelC w B rs cs) (hb : Below w.heap.size w w') : RelC w' B rs cs := ⟨h.1, fun i hi => by
  obtain ⟨r, h1, h2, h3, h4⟩ := h.2 i hi
  exact ⟨r, h1, h2, h3.kept hb, h4.kept hb⟩⟩
theorem own_ne {w : World} {B : Nat} {u v : Value} {l : List ByteArray} {rs : List Rc} (h : OwnT w B u l) (h2 : OwnR cE 44 w B v rs) : u.ownBlock = none ∨ u.ownBlock ≠ v.ownBlock := by
  rcases h.2 with ⟨rfl, _⟩ | ⟨g, cap, cur, rfl, _, hg, _⟩
  · exact Or.inl rfl
  · refine Or.inr fun e => ?_
    rcases h2.2 with ⟨rfl, _⟩ | ⟨g', cap', cur', rfl, _, hg', _⟩
    · cases e
    · obtain rfl : g = g' := Option.some.inj e
      rw [hg] at hg'
      injection hg' with h3
      injection h3 with _ h4
      exact absurd h4 (by decide)
theorem OwnT.grown {w w' : World} {B : Nat} {u v : Value} {l : List ByteArray} {rs : List Rc} (h : OwnT w B u l) (h2 : OwnR cE 44 w B v rs) (hg : w.grownBy w' v.ownBlock) : OwnT w' B u l := OwnV.kept h hg (own_ne h h2)
theorem RelC.grown {w w' : World} {B : Nat} {v : Value} {rs : List Rc} {cs : List Ch} (h : RelC w B rs cs) (h2 : OwnR cE 44 w B v rs) (hg : w.grownBy w' v.ownBlock) : RelC w' B rs cs := ⟨h.1, fun i hi => by
  obtain ⟨r, h1, h3, h4, h5⟩ := h.2 i hi
  exact ⟨r, h1, h3, h4.grown h2 hg, h5.grown h2 hg⟩⟩
theorem chAt_left {cs ds : List Ch} {i : Nat} (h : i < cs.length) : chAt (cs ++ ds) i = chAt cs i := by
  unfold chAt
  rw [List.getD_eq_getElem?_getD, List.getD_eq_getElem?_getD, List.getElem?_append_left h]
theorem chAt_last (cs : List Ch) (c : Ch) : chAt (cs ++ [c]) cs.length = c := by
  unfold chAt
  rw [List.getD_eq_getElem?_getD, List.getElem?_append_right (Nat.le_refl _), Nat.sub_self]
  rfl
theorem RelC.snoc {w : World} {B : Nat} {rs : List Rc} {cs : List Ch} (h : RelC w B rs cs) {k : ByteArray} {s1 s2 : Sl} {l1 l2 : List ByteArray} (h1 : OwnT w B (slV s1) l1) (h2 : OwnT w B (slV s2) l2) : RelC w B (rs ++ [(k, s1, s2)]) (cs ++ [(k, l1, l2)]) := by
  refine ⟨by rw [List.length_append, List.length_append, h.1]; rfl, fun i hi => ?_⟩
  rw [List.length_append] at hi
  have hi' : i < cs.length + 1 := hi
  rcases Nat.lt_or_ge i cs.length with h3 | h3
  · obtain ⟨r, h4, h5, h6, h7⟩ := h.2 i h3
    refine ⟨r, by rw [List.getElem?_append_left (by rw [h.1]; exact h3)]; exact h4, ?_⟩
    rw [chAt_left h3]
    exact ⟨h5, h6, h7⟩
  · obtain rfl : i = cs.length := by omega
    refine ⟨(k, s1, s2), by rw [List.getElem?_append_right (by rw [h.1]; exact Nat.le_refl _), h.1, Nat.sub_self]; rfl, ?_⟩
    rw [chAt_last]
    exact ⟨rfl, h1, h2⟩
theorem slV_form {w : World} {B : Nat} {s : Sl} {l : List ByteArray} (h : OwnT w B (slV s) l) : s.2.1 = l.length ∧ Strs w s.1 l := by
  obtain ⟨p, c, hv, hs, _⟩ := h.form
  obtain ⟨h1, h2, h3⟩ := Value.slice.inj hv
  exact ⟨h2, by rw [h1]; exact hs⟩
theorem RelC.chs {w : World} {B : Nat} {v : Value} {rs : List Rc} {cs : List Ch} (h : RelC w B rs cs) (h2 : OwnR cE 44 w B v rs) : ∃ q c, v = .slice q cs.length c ∧ Chs w q cs := by
  obtain ⟨p, c, hv, hrec, _, _, hblk⟩ := h2.form
  refine ⟨p, c, by rw [hv, h.1], ?_⟩
  rcases hrec with h0 | ⟨b, o, rfl, hlt, hc⟩
  · refine Or.inl (List.length_eq_zero_iff.1 ?_)
    rw [← h.1, h0]
    rfl
  · refine Or.inr ⟨b, o, rfl, hlt, fun i hi => ?_⟩
    obtain ⟨r, h4, h5, h6, h7⟩ := h.2 i hi
    obtain ⟨f1, f2⟩ := slV_form h6
    obtain ⟨t1, t2⟩ := slV_form h7
    have c0 := hc i r h4 0 (.string r.1) rfl
    have c1 := hc i r h4 1 (slV r.2.1) rfl
    have c2 := hc i r h4 2 (slV r.2.2) rfl
    refine ⟨r.2.1.1, r.2.1.2.2, r.2.2.1, r.2.2.2.2, ?_, ?_, ?_, f2, t2⟩
    · rw [← h5]; exact c0
    · rw [← f1]; exact c1
    · rw [← t1]; exact c2
section
variable {w : World}
/-- One change more, out of a row of one that was just laid: nothing but the changes' own block is written. -/
theorem wpList_append_chG {ops : Array Oper} {rest : List Oper} {o : Oper} {a : Act} {Q : Exit → Act → World → Prop} (hgd : o.guard = none) (s x : Operand)
    (ho : o.op = .call { callee := .builtin .append, args := #[s, x], argTypes := #[39, 39] })
    (B : Nat) (v : Value) (l : List Rc) (hs : a.eval s = v) (hown : OwnR cE 44 w B v l) (ad : Addr) (c : Nat) (y : Rc) (hx : a.eval x = .slice (some ad) 1 c) (hq : ∀ j u, (cE.enc y)[j]? = some u → w.cell? (ad.add j) = some u) (hl : l.length + 1 ≤ 1000) (hbase : B ≤ w.heap.size)
    (h : ∀ v' w', OwnR cE 44 w' B v' (l ++ [y]) → w.grownBy w' v.ownBlock → wpList Tryz.prog ops Q rest (a.put o.dst v') w') : wpList Tryz.prog ops Q (o :: rest) a w := by
  obtain ⟨i0, hi0, hz0, hz1, hzb⟩ := info_parts chinfo
  refine wpList_append_own w hgd s x _ ho B 44 i0 (.agg #[.string ⟨#[]⟩, .slice none 0 0, .slice none 0 0]) 3 64 Tryz.underlying39 hi0 hz0 hz1 hzb rfl (by decide) v l.length (recVals cE l) hs hown ad 1 c (cE.enc y) hx rfl hq (cE.one y) (by unfold maxLen; omega) (by omega) hbase (fun v' w' h1 h2 _ => h v' w' ?_ h2)
  unfold OwnR
  rw [recVals_append, recVals_one, List.length_append]
  exact h1
end
end Go.Proofs.YtakfjkphmfblaaaGreatDoor
