import Derived.Test.YtobmckfcipeanaaGreatDoorProg
import Derived.WalkKit
import Derived.Laws.AppendOwn
import Derived.OwnWalk
import Derived.Test.YtobmckfcipeanaaGreatDoorZB
import Derived.Deep.RegionLaw
import Derived.Maps.RangeWalk
import Derived.Maps.OwnOps
import Derived.Maps.OwnSet
namespace Go.Proofs.YtobmckfcipeanaaGreatDoor
open Go.RowKit
section
variable {P : Program} {w : World}
theorem appendK_where (base : Nat) (t ty e : TypeId) (i : TypeInfo) (z : Value) (size bytes : Nat) (ht : P.underlying t = some (.slice e)) (hi : P.info? e = some i) (hz : i.zero = some z)
 (hsize : i.size = size) (hby : i.bytes = bytes) (v : Value) (n : Nat) (xs : List Value) (hown : w.ownsRow base e size v n xs)
 (a : Addr) (m c : Nat) (news : List Value) (hl : news.length = m * size) (hnews : ∀ j u, news[j]? = some u -> w.cell? (a.add j) = some u) (h1 : ∀ u ∈ news, u.oneCell' = true)
 (h63 : n + m <= maxLen) (hbytes : (n + m) * bytes <= 140737488355328) (hm : 0 < m) {v' : Value} {w' : World}
 (hr : (Builtin.append_ #[t, t] ty #[v, .slice (some a) m c]).run P w = .ok v' w') : v'.ownBlock = v.ownBlock ∨ v'.ownBlock = some w.heap.size := by
 subst hsize
 subst hby
 have hsmall : n + m <= 9223372036854775807 := by simp only [maxLen] at h63; omega
 rcases hown.2 with ⟨rfl, rfl⟩ | ⟨g, cap, cur, rfl, hbg, hg, hnc, hcm, hcs, htake⟩
 ·have := run_append_nil (P := P) w t ty e i z ht hi hz a m c news hl hnews (by omega) (by omega) (by have hb := hbytes; simp only [Nat.zero_add] at hb; omega)
  rw [this] at hr
  injection hr with e1 e2
  subst e1
  exact Or.inr rfl
 ·by_cases hroom : n + m <= cap
  ·have hfit : n * i.size + news.length <= cur.size := by rw [hl, hcs, <- Nat.add_mul]; exact Nat.mul_le_mul_right _ hroom
   have := run_append_room (P := P) w t ty e i ht hi g n cap cur hg a m c news hl hnews h1 hroom hfit
   rw [this] at hr
   injection hr with e1 e2
   subst e1
   exact Or.inl rfl
  ·have holds : ∀ j u, xs[j]? = some u -> w.cell? ((⟨g, 0, none⟩ : Addr).add j) = some u := hown.cells (g := g) rfl
   have := run_append_grow (P := P) w t ty e i z ht hi hz ⟨g, 0, none⟩ n cap xs hown.1 holds a m c news hl hnews (by omega) (by omega) (growslice_fits (by omega) hbytes)
   rw [this] at hr
   injection hr with e1 e2
   subst e1
   exact Or.inr rfl
theorem wpList_append_at {ops : Array Oper} {rest : List Oper} {o : Oper} {a : Act} {Q : Exit -> Act -> World -> Prop} (hgd : o.guard = none) (s x : Operand) (t : TypeId)
 (ho : o.op = .call { callee := .builtin .append, args := #[s, x], argTypes := #[t, t] })
 (base : Nat) (e : TypeId) (i : TypeInfo) (z : Value) (size bytes : Nat) (ht : P.underlying t = some (.slice e)) (hi : P.info? e = some i) (hz : i.zero = some z)
 (hsize : i.size = size) (hby : i.bytes = bytes) (hzs : z.cells.size = size) (hsz : 0 < size)
 (v : Value) (n : Nat) (xs : List Value) (hs : a.eval s = v) (hown : w.ownsRow base e size v n xs)
 (ad : Addr) (m c : Nat) (news : List Value) (hx : a.eval x = .slice (some ad) m c) (hl : news.length = m * size) (hnews : ∀ j u, news[j]? = some u -> w.cell? (ad.add j) = some u) (h1 : ∀ u ∈ news, u.oneCell' = true)
 (h63 : n + m <= maxLen) (hbytes : (n + m) * bytes <= 140737488355328) (hbase : base <= w.heap.size) (hm : 0 < m)
 (h : ∀ v' w', w'.ownsRow base e size v' (n + m) (xs ++ news) -> w.grownBy w' v.ownBlock -> (v'.ownBlock = v.ownBlock ∨ v'.ownBlock = some w.heap.size) -> wpList P ops Q rest (a.put o.dst v') w') : wpList P ops Q (o :: rest) a w := by
 refine wpList_plain hgd fun K hK => ?_
 obtain ⟨v', w', hr, h2, h3, h4⟩ := run_append_own (P := P) w base t o.type e i z size bytes ht hi hz hsize hby hzs hsz v n xs hown ad m c news hl hnews h1 h63 hbytes hbase
 have hw := appendK_where base t o.type e i z size bytes ht hi hz hsize hby v n xs hown ad m c news hl hnews h1 h63 hbytes hm hr
 unfold Oper.wp execOp
 simp only [ho, resolve, invoke, builtin, Sem.run_bind, Sem.run_pure, Result.andThen_ok, List.map_toArray, List.map_cons, List.map_nil, hs, hx, hr]
 exact hK _ _ (h v' w' h2 h3 hw)
end
end Go.Proofs.YtobmckfcipeanaaGreatDoor
namespace Go.Proofs.YtobmckfcipeanaaGreatDoor
open Go.RowKit
theorem step_append_rec1 {α : Type} {E : Enc α} {ops : Array Oper} {o : Oper} {a : Act} {w : World} {K : Act -> World -> Prop} {Q : Exit -> Act -> World -> Prop} {E' : Prop}
 (hgd : o.guard = none) (s x : Operand) (t T : TypeId) (ho : o.op = .call { callee := .builtin .append, args := #[s, x], argTypes := #[t, t] }) (z : Value) (bytes : Nat) (ht : Tryz.prog.underlying t = some (.slice T))
 (hinfo : (Tryz.prog.info? T).map (fun i => (i.zero, i.size, i.bytes)) = some (some z, E.k, bytes)) (hzc : z.cells.size = E.k)
 (B : Nat) (v : Value) (l : List α) (hs : a.eval s = v) (hown : OwnR E T w B v l) (b : Nat) (c : Nat) (r : α) (hx : a.eval x = .slice (some ⟨b, 0, none⟩) 1 c) (hc : ∀ j u, (E.enc r)[j]? = some u -> w.cell? ⟨b, j, none⟩ = some u) (hl : l.length + 1 <= maxLen) (hby : (l.length + 1) * bytes <= 140737488355328) (hbase : B <= w.heap.size)
 (h : ∀ v' w', OwnR E T w' B v' (l ++ [r]) -> w.grownBy w' v.ownBlock -> (v'.ownBlock = v.ownBlock ∨ v'.ownBlock = some w.heap.size) -> K (a.put o.dst v') w') :
 if Region.wanted o (yielded ops a.tmps) = true then Oper.wp Tryz.prog o a w K Q else E' := by
 have hw : Region.wanted o (yielded ops a.tmps) = true := by simp [Region.wanted, hgd]
 rw [if_pos hw]
 obtain ⟨i0, hi0, hz0, hz1, hzb⟩ := info_parts hinfo
 have hn : ∀ j u, (E.enc r)[j]? = some u -> w.cell? ((⟨b, 0, none⟩ : Addr).add j) = some u := fun j u hj => by
  have h0 := hc j u hj
  by_cases e : j = 0
  ·subst e; simpa [Addr.add] using h0
  ·simpa [Addr.add, e] using h0
 have hlen : (E.enc r).length = 1 * E.k := by rw [E.len, Nat.one_mul]
 obtain ⟨v', w', hrun, h2, h3, _⟩ := run_append_own (P := Tryz.prog) w B t o.type T i0 z E.k bytes ht hi0 hz0 hz1 hzb hzc E.pos v l.length (recVals E l) hown ⟨b, 0, none⟩ 1 c (E.enc r) hlen hn (E.one r) hl hby hbase
 have h4 := appendK_where B t o.type T i0 z E.k bytes ht hi0 hz0 hz1 hzb v l.length (recVals E l) hown ⟨b, 0, none⟩ 1 c (E.enc r) hlen hn (E.one r) hl hby (by decide) hrun
 unfold Oper.wp
 simp [execOp, ho, resolve, invoke, builtin, hs, hx, hrun, Result.andThen]
 refine h v' w' ?_ h3 h4
 unfold OwnR
 rw [recVals_append, recVals_one, List.length_append]
 exact h2
def litK (x : ByteArray) : Lit := .string x.data.toList
theorem litK_inj {x y : ByteArray} (h : litK x = litK y) : x = y := by
 unfold litK at h
 injection h with h
 exact ByteArray.ext (Array.toList_inj.1 h)
theorem litK_key (x : ByteArray) : WideAt.IsKeyLit (litK x) := trivial
def anyR (v : Value) : Option (DataW Value × List MemPlace) := some (.held v, [])
theorem keyedK : Maps.Keyed Tryz.prog 9 := Maps.string_keyed Tryz.underlying9
theorem keyOfK {x : ByteArray} (hx : x.size <= maxLen) : keyOf Tryz.prog 9 (.string x) = some (litK x) := WideMaps.keyOf_string_mk Tryz.underlying9 hx
abbrev OwnM (w : World) (b n : Nat) (D : DataW Value) : Prop := w.ownsMap Tryz.prog 9 anyR b n D
theorem OwnM.tight {w : World} {b n : Nat} {D : DataW Value} (h : OwnM w b n D) : OwnM w b (Maps.size D) D := by
 obtain ⟨es, clock, hb, F, hs, rfl⟩ := h
 refine ⟨es, clock, hb, F, ?_, rfl⟩
 rw [Maps.size_eq, length_sorted]
 simp
theorem length_le_sub {α : Type} : ∀ {l m : List α}, l.Nodup -> (∀ x ∈ l, x ∈ m) -> l.length <= m.length
 | [], _, _, _ => Nat.zero_le _
 | a :: l, m, hn, hs => by
  classical
  obtain ⟨h1, h2⟩ := List.nodup_cons.1 hn
  have ha := hs a (by simp)
  have := length_le_sub (l := l) (m := m.erase a) h2 (fun x hx => (List.mem_erase_of_ne (show x ≠ a from fun e => h1 (e ▸ hx))).2 (hs x (by simp [hx])))
  rw [List.length_erase_of_mem ha] at this
  have := List.length_pos_of_mem ha
  simp only [List.length_cons]
  omega
theorem OwnM.same {w w' : World} {b n : Nat} {D : DataW Value} (h : OwnM w b n D) (hb : w'.heap[b]? = w.heap[b]?) : OwnM w' b n D := by
 obtain ⟨es, clock, h1, h2⟩ := h
 exact ⟨es, clock, hb.trans h1, h2⟩
theorem cell_same {w w' : World} {b : Nat} (h : w'.heap[b]? = w.heap[b]?) (o : Nat) : w'.cell? ⟨b, o, none⟩ = w.cell? ⟨b, o, none⟩ /\ w'.frozen? ⟨b, o, none⟩ = w.frozen? ⟨b, o, none⟩ := ⟨World.cell?_of_block (a := ⟨b, o, none⟩) h, World.frozen?_of_block (a := ⟨b, o, none⟩) h⟩
structure SetOk (w w' : World) (b : Nat) (D : DataW Value) (key : ByteArray) (v : Value) : Prop where
 own : ∃ n, OwnM w' b n (D.put (litK key) (.held v))
 grown : w.grownBy w' (some b)
theorem set_step {w W : World} {b n : Nat} {D : DataW Value} {key : ByteArray} {v : Value} (hown : OwnM w b n D) (hn : n < maxLen) (hk : key.size <= maxLen) (hb : Below w.heap.size w W) :
 ∃ w', (Instr.mapUpdate 75 (.map (some b)) (.string key) v).run Tryz.prog W = .ok () w' /\ SetOk w w' b D key v := by
 have hlt : b < w.heap.size := World.ownsMap.lt hown
 have hown2 : OwnM W b n D := hown.same (hb.block b hlt)
 obtain ⟨w', hrun, h1, h2⟩ := World.ownsMap.update hown2 keyedK Tryz.underlying75 hn (val := v) (d := .held v) (ps := []) (keyOfK hk) rfl
 refine ⟨w', hrun, ⟨_, h1⟩, ⟨h2.os.trans hb.os, h2.tape.trans hb.tape, h2.output.trans hb.output, Nat.le_trans hb.size h2.size, fun k hk hne => ?_⟩⟩
 rw [h2.block k (Nat.lt_of_lt_of_le hk hb.size) hne]
 exact hb.block k hk
theorem map_not_nil (b : Nat) (W : World) : Sem.run Tryz.prog (binOp .eql 75 (.map (some b)) (.map none)) W = .ok (.bool false) W := by kernel_rfl
theorem map_is_nil (W : World) : Sem.run Tryz.prog (binOp .eql 75 (.map none) (.map none)) W = .ok (.bool true) W := by kernel_rfl
theorem below_drew' {B : Nat} {w W : World} (h : Below B w.drew W) : Below B w W := ⟨h.os, h.tape, h.output, h.size, h.block⟩
end Go.Proofs.YtobmckfcipeanaaGreatDoor
