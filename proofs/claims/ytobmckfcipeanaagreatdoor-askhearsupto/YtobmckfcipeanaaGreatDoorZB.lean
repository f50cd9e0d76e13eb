import Derived.Test.YtobmckfcipeanaaGreatDoorProg
import Derived.WalkKit
import Derived.Below
import Derived.WalkSmall
import Derived.OwnWalk
import Derived.Laws.AppendOwn
import Derived.Laws.AppendOwnNone
import Derived.Test.YtobmckfcipeanaaGreatDoorZA
import Derived.BigQuiet
import Derived.Deep.QuietTactic
namespace Go.Proofs.YtobmckfcipeanaaGreatDoor
open Go.RowKit
structure Enc (α : Type) where
 k : Nat
 pos : 0 < k
 enc : α -> List Value
 len : ∀ x, (enc x).length = k
 one : ∀ x, ∀ u ∈ enc x, u.oneCell' = true
variable {α : Type} {E : Enc α}
def recVals (E : Enc α) (l : List α) : List Value := l.flatMap E.enc
theorem recVals_length (E : Enc α) : ∀ l : List α, (recVals E l).length = l.length * E.k
 | [] => by simp [recVals]
 | x :: l => by
  have := recVals_length E l
  unfold recVals at this ⊢
  rw [List.flatMap_cons, List.length_append, this, E.len, List.length_cons, Nat.add_mul, Nat.one_mul, Nat.add_comm]
theorem recVals_append (E : Enc α) (l m : List α) : recVals E (l ++ m) = recVals E l ++ recVals E m := by unfold recVals; rw [List.flatMap_append]
theorem recVals_one (E : Enc α) (x : α) : recVals E [x] = E.enc x := by simp [recVals]
theorem recVals_at (E : Enc α) : ∀ (l : List α) (i : Nat) (x : α), l[i]? = some x -> ∀ j u, (E.enc x)[j]? = some u -> (recVals E l)[i * E.k + j]? = some u
 | [], i, x, h, _, _, _ => by simp at h
 | y :: l, 0, x, h, j, u, hj => by
  obtain rfl : y = x := by simpa using h
  unfold recVals
  rw [List.flatMap_cons, Nat.zero_mul, Nat.zero_add, List.getElem?_append_left (List.getElem?_eq_some_iff.1 hj).1]
  exact hj
 | y :: l, i + 1, x, h, j, u, hj => by
  have ih := recVals_at E l i x (by simpa using h) j u hj
  unfold recVals at ih ⊢
  rw [List.flatMap_cons, List.getElem?_append_right (by rw [E.len]; have := Nat.le_mul_of_pos_left E.k (show 0 < i + 1 by omega); omega), E.len]
  have e : (i + 1) * E.k + j - E.k = i * E.k + j := by rw [Nat.add_mul, Nat.one_mul]; omega
  rw [e]
  exact ih
def Rec (E : Enc α) (w : World) (p : Option Addr) (l : List α) : Prop :=
 l = [] ∨ ∃ b o, p = some ⟨b, o, none⟩ /\ b < w.heap.size /\ ∀ i x, l[i]? = some x -> ∀ j u, (E.enc x)[j]? = some u -> w.cell? ⟨b, o + i * E.k + j, none⟩ = some u
theorem Rec.nil (w : World) (p : Option Addr) : Rec E w p [] := Or.inl rfl
theorem Rec.drewN {w : World} {p : Option Addr} {l : List α} (h : Rec E w p l) (n : Nat) : Rec E (w.drewN n) p l := h
theorem Rec.below {w w' : World} {p : Option Addr} {l : List α} (h : Rec E w p l) (hb : Below w.heap.size w w') : Rec E w' p l := by
 rcases h with h | ⟨b, o, hp, hlt, hc⟩
 ·exact Or.inl h
 ·exact Or.inr ⟨b, o, hp, Nat.lt_of_lt_of_le hlt hb.size, fun i x hx j u hu => (hb.cell (p := ⟨b, o + i * E.k + j, none⟩) hlt).trans (hc i x hx j u hu)⟩
def OwnR (E : Enc α) (T : TypeId) (w : World) (B : Nat) (v : Value) (l : List α) : Prop := w.ownsRow B T E.k v l.length (recVals E l)
theorem OwnR.nil (T : TypeId) (w : World) (B : Nat) : OwnR E T w B (.slice none 0 0) [] := World.ownsRow_nil w B T E.k
theorem OwnR.block {T : TypeId} {w : World} {B : Nat} {v : Value} {l : List α} (h : OwnR E T w B v l) {k : Nat} (hk : v.ownBlock = some k) : B <= k /\ k < w.heap.size := World.ownsRow.lt h k hk
theorem OwnR.kept {T : TypeId} {w w' : World} {B : Nat} {v : Value} {l : List α} (h : OwnR E T w B v l) (hb : Below w.heap.size w w') : OwnR E T w' B v l :=
 World.ownsRow.kept (row := none) h ⟨hb.os, hb.tape, hb.output, hb.size, fun k hk _ => hb.block k hk⟩ (by cases v.ownBlock <;> simp)
theorem OwnR.base {T : TypeId} {w : World} {B B' : Nat} {v : Value} {l : List α} (h : OwnR E T w B v l) (hb : B' <= B) : OwnR E T w B' v l := by
 obtain ⟨h1, h2⟩ := h
 refine ⟨h1, ?_⟩
 rcases h2 with h2 | ⟨g, cap, cur, hv, hbg, hrest⟩
 ·exact Or.inl h2
 ·exact Or.inr ⟨g, cap, cur, hv, Nat.le_trans hb hbg, hrest⟩
theorem OwnR.form {T : TypeId} {w : World} {B : Nat} {v : Value} {l : List α} (h : OwnR E T w B v l) : ∃ p c, v = .slice p l.length c /\ Rec E w p l /\ l.length <= c /\ (p = none -> l = [] /\ c = 0) /\ ∀ b o, p = some ⟨b, o, none⟩ -> B <= b /\ b < w.heap.size := by
 have h0 : w.ownsRow B T E.k v l.length (recVals E l) := h
 rcases h0.2 with ⟨rfl, hz⟩ | ⟨g, cap, cur, rfl, hb, hg, hnc, hcm, hcs, htake⟩
 ·have e : l = [] := List.length_eq_zero_iff.1 hz
  subst e
  exact ⟨none, 0, rfl, Or.inl rfl, Nat.le_refl _, fun _ => ⟨rfl, rfl⟩, fun _ _ h => by cases h⟩
 ·have hlt : g < w.heap.size := (Array.getElem?_eq_some_iff.1 hg).1
  refine ⟨some ⟨g, 0, none⟩, cap, rfl, Or.inr ⟨g, 0, rfl, hlt, fun i x hx j u hu => ?_⟩, hnc, fun h => (by cases h), fun b o h => ?_⟩
  ·have hc := World.ownsRow.cells (g := g) h0 rfl (i * E.k + j) u (recVals_at E l i x hx j u hu)
   rw [Addr.add_lit] at hc
   rw [Nat.add_assoc]
   exact hc
  ·obtain ⟨rfl, rfl⟩ : g = b /\ 0 = o := by simpa using h
   exact ⟨hb, hlt⟩
theorem recVals_one' (E : Enc α) (l : List α) : ∀ u ∈ recVals E l, u.oneCell' = true := fun u hu => by
 obtain ⟨x, _, hx⟩ := List.mem_flatMap.1 hu
 exact E.one x u hx
theorem Rec.cells {w : World} {b o : Nat} {l : List α} (hc : ∀ i x, l[i]? = some x -> ∀ j u, (E.enc x)[j]? = some u -> w.cell? ⟨b, o + i * E.k + j, none⟩ = some u) : ∀ j u, (recVals E l)[j]? = some u -> w.cell? ((⟨b, o, none⟩ : Addr).add j) = some u := by
 intro j u hj
 have hjl : j < (recVals E l).length := (List.getElem?_eq_some_iff.1 hj).1
 rw [recVals_length] at hjl
 have hk := E.pos
 have hi : j / E.k < l.length := (Nat.div_lt_iff_lt_mul hk).2 hjl
 have hr : j % E.k < E.k := Nat.mod_lt _ hk
 have hx : l[j / E.k]? = some l[j / E.k] := List.getElem?_eq_getElem hi
 have hu : (E.enc l[j / E.k])[j % E.k]? = some ((E.enc l[j / E.k])[j % E.k]'(by rw [E.len]; exact hr)) := List.getElem?_eq_getElem (by rw [E.len]; exact hr)
 have h1 := recVals_at E l (j / E.k) _ hx (j % E.k) _ hu
 have h2 := hc (j / E.k) _ hx (j % E.k) _ hu
 have ej : j / E.k * E.k + j % E.k = j := by rw [Nat.mul_comm]; exact Nat.div_add_mod j E.k
 rw [ej] at h1
 rw [Nat.add_assoc, ej] at h2
 rw [Addr.add_lit, h2, <- h1, hj]
section
variable {w : World}
theorem wpList_append_recs {ops : Array Oper} {rest : List Oper} {o : Oper} {a : Act} {Q : Exit -> Act -> World -> Prop} (hgd : o.guard = none) (s x : Operand) (t T : TypeId)
 (ho : o.op = .call { callee := .builtin .append, args := #[s, x], argTypes := #[t, t] }) (z : Value) (bytes : Nat) (ht : Tryz.prog.underlying t = some (.slice T))
 (hinfo : (Tryz.prog.info? T).map (fun i => (i.zero, i.size, i.bytes)) = some (some z, E.k, bytes)) (hzc : z.cells.size = E.k)
 (B : Nat) (v : Value) (l : List α) (hs : a.eval s = v) (hown : OwnR E T w B v l) (q : Option Addr) (r : List α) (c : Nat) (hx : a.eval x = .slice q r.length c) (hq : Rec E w q r) (hc0 : q = none -> r = [] /\ c = 0) (hl : l.length + r.length <= maxLen) (hby : (l.length + r.length) * bytes <= 140737488355328) (hbase : B <= w.heap.size)
 (h : ∀ v' w', OwnR E T w' B v' (l ++ r) -> Below B w w' -> wpList Tryz.prog ops Q rest (a.put o.dst v') w') : wpList Tryz.prog ops Q (o :: rest) a w := by
 obtain ⟨i0, hi0, hz0, hz1, hzb⟩ := info_parts hinfo
 have hfin : ∀ v' w', w'.ownsRow B T E.k v' (l.length + r.length) (recVals E l ++ recVals E r) -> w.grownBy w' v.ownBlock -> wpList Tryz.prog ops Q rest (a.put o.dst v') w' := fun v' w' h1 h2 => by
  refine h v' w' ?_ ((Below.refl _ _).grown h2 hbase (fun k hk => (hown.block hk).1))
  unfold OwnR
  rw [recVals_append, List.length_append]
  exact h1
 cases q with
 | none =>
  obtain ⟨hr, hc⟩ := hc0 rfl
  subst hr hc
  refine wpList_append_own_none hgd s x _ ho B T i0 E.k ht hi0 v l.length (recVals E l) hs hown hx ?_
  have := h v w (by rw [List.append_nil]; exact hown) (Below.refl _ _)
  exact this
 | some ad =>
  refine wpList_append_own w hgd s x _ ho B T i0 z E.k bytes ht hi0 hz0 hz1 hzb hzc E.pos v l.length (recVals E l) hs hown ad r.length c (recVals E r) hx (recVals_length E r) ?_ (recVals_one' E r) hl hby hbase (fun v' w' h1 h2 _ => hfin v' w' h1 h2)
  rcases hq with h0 | ⟨b, o', hp, _, hcell⟩
  ·subst h0
   intro j u hj
   simp [recVals] at hj
  ·obtain rfl : ad = ⟨b, o', none⟩ := by simpa using hp
   exact Rec.cells hcell
theorem wpList_append_rec {ops : Array Oper} {rest : List Oper} {o : Oper} {a : Act} {Q : Exit -> Act -> World -> Prop} (hgd : o.guard = none) (s x : Operand) (t T : TypeId)
 (ho : o.op = .call { callee := .builtin .append, args := #[s, x], argTypes := #[t, t] }) (z : Value) (bytes : Nat) (ht : Tryz.prog.underlying t = some (.slice T))
 (hinfo : (Tryz.prog.info? T).map (fun i => (i.zero, i.size, i.bytes)) = some (some z, E.k, bytes)) (hzc : z.cells.size = E.k)
 (B : Nat) (v : Value) (l : List α) (hs : a.eval s = v) (hown : OwnR E T w B v l) (b o' c : Nat) (y : α) (hx : a.eval x = .slice (some ⟨b, o', none⟩) 1 c) (hq : ∀ j u, (E.enc y)[j]? = some u -> w.cell? ⟨b, o' + j, none⟩ = some u) (hl : l.length + 1 <= maxLen) (hby : (l.length + 1) * bytes <= 140737488355328) (hbase : B <= w.heap.size) (hlt : b < w.heap.size)
 (h : ∀ v' w', OwnR E T w' B v' (l ++ [y]) -> Below B w w' -> wpList Tryz.prog ops Q rest (a.put o.dst v') w') : wpList Tryz.prog ops Q (o :: rest) a w :=
 wpList_append_recs (E := E) hgd s x t T ho z bytes ht hinfo hzc B v l hs hown (some ⟨b, o', none⟩) [y] c hx (Or.inr ⟨b, o', rfl, hlt, fun i x hx' j u hu => by
  match i, hx' with
  | 0, hx' =>
   obtain rfl : y = x := by simpa using hx'
   rw [Nat.zero_mul, Nat.add_zero]
   exact hq j u hu⟩) (fun e => by cases e) hl hby hbase h
end
end Go.Proofs.YtobmckfcipeanaaGreatDoor
namespace Go.Proofs.YtobmckfcipeanaaGreatDoor
open Go.RowKit
structure Ver where
 n : Int
 who : Int
 size : Int
 at_ : Int
 text : ByteArray
deriving DecidableEq
def verC (v : Ver) : List Value := [.int .i64 v.n, .int .i64 v.who, .int .i64 v.size, .int .i64 v.at_, .string v.text]
def verE : Enc Ver := ⟨5, by decide, verC, fun _ => rfl, fun x u hu => by simp [verC] at hu; rcases hu with rfl | rfl | rfl | rfl | rfl <;> rfl⟩
theorem lt_of_cellH {w : World} {b o : Nat} {v : Value} (h : w.cell? ⟨b, o, none⟩ = some v) : b < w.heap.size := by
 rcases Nat.lt_or_ge b w.heap.size with h' | h'
 ·exact h'
 ·simp [World.cell?, Array.getElem?_eq_none h'] at h
def lessB (a b : Int × Int) : Bool := decide (a.1 < b.1) || (decide (a.1 = b.1) && decide (a.2 < b.2))
theorem verinfo : (Tryz.prog.info? 69).map (fun i => (i.zero, i.size, i.bytes)) = some (some (.agg #[.int .i64 0, .int .i64 0, .int .i64 0, .int .i64 0, .string ⟨#[]⟩]), 5, 48) := by kernel_rfl
def verAt (L : List Ver) (i : Nat) : Ver := L.getD i ⟨0, 0, 0, 0, ⟨#[]⟩⟩
theorem verAt_get {L : List Ver} {i : Nat} (hi : i < L.length) : L[i]? = some (verAt L i) := by
 unfold verAt
 rw [List.getD_eq_getElem?_getD, List.getElem?_eq_getElem hi]
 rfl
theorem ver_ext {l m : List Ver} (hl : l.length = m.length) (h : ∀ i, i < l.length -> verAt l i = verAt m i) : l = m := by
 refine List.ext_getElem? fun i => ?_
 by_cases hi : i < l.length
 ·rw [verAt_get hi, verAt_get (show i < m.length by omega), h i hi]
 ·rw [List.getElem?_eq_none (by omega), List.getElem?_eq_none (by omega)]
theorem ver_cells {w : World} {p : Option Addr} {L : List Ver} (h : Rec verE w p L) {i : Nat} (hi : i < L.length) : ∃ b o, p = some ⟨b, o, none⟩ /\ b < w.heap.size /\ w.cell? ⟨b, o + i * 5, none⟩ = some (.int .i64 (verAt L i).n) /\ w.cell? ⟨b, o + i * 5 + 1, none⟩ = some (.int .i64 (verAt L i).who) /\ w.cell? ⟨b, o + i * 5 + 2, none⟩ = some (.int .i64 (verAt L i).size) /\ w.cell? ⟨b, o + i * 5 + 3, none⟩ = some (.int .i64 (verAt L i).at_) /\ w.cell? ⟨b, o + i * 5 + 4, none⟩ = some (.string (verAt L i).text) := by
 rcases h with h | ⟨b, o, hp, hlt, hc⟩
 ·rw [h] at hi; exact absurd hi (Nat.not_lt_zero _)
 ·have hx := verAt_get hi
  exact ⟨b, o, hp, hlt, hc i _ hx 0 _ rfl, hc i _ hx 1 _ rfl, hc i _ hx 2 _ rfl, hc i _ hx 3 _ rfl, hc i _ hx 4 _ rfl⟩
def tagB (n who : Int) : Bool := decide (0 <= n) && decide (n <= 1099511627776) && decide (0 <= who) && decide (who <= 1099511627776)
structure Upd (S S' : Nat -> Prop) (w w' : World) : Prop where
 os : w'.os = w.os
 tape : w'.tape = w.tape
 output : w'.output = w.output
 size : w.heap.size <= w'.heap.size
 block : ∀ k, k < w.heap.size -> ¬ S k -> w'.heap[k]? = w.heap[k]?
 new : ∀ k, S' k -> S k ∨ w.heap.size <= k
theorem Upd.of_below {S : Nat -> Prop} {w w' : World} (hb : Below w.heap.size w w') : Upd S S w w' := ⟨hb.os, hb.tape, hb.output, hb.size, fun k hk _ => hb.block k hk, fun _ h => Or.inl h⟩
set_option maxRecDepth 10000 in
theorem isTag_any (n who : Int) (w : World) :
 Calls Tryz.prog 134 #[.agg #[.int .i64 n, .int .i64 who]] w fun e w' => e = .returned (.bool (tagB n who)) /\ Below w.heap.size w w' := by
 have HB : Hid (Below w.heap.size w (w.alloc (.cells #[.int .i64 n, .int .i64 who] 46))) := (Below.refl _ _).alloc (Nat.le_refl _) _
 have walk : (decide (0 <= n) = false) ∨ (0 <= n) /\ ((decide (n <= 1099511627776) = false) ∨ n <= 1099511627776 /\ ((decide (0 <= who) = false) ∨ 0 <= who /\ ((decide (who <= 1099511627776) = false) ∨ who <= 1099511627776))) := by
  by_cases h1 : 0 <= n
  ·by_cases h2 : n <= 1099511627776
   ·by_cases h3 : 0 <= who
    ·by_cases h4 : who <= 1099511627776
     ·exact Or.inr ⟨h1, Or.inr ⟨h2, Or.inr ⟨h3, Or.inr h4⟩⟩⟩
     ·exact Or.inr ⟨h1, Or.inr ⟨h2, Or.inr ⟨h3, Or.inl (decide_eq_false h4)⟩⟩⟩
    ·exact Or.inr ⟨h1, Or.inr ⟨h2, Or.inl (decide_eq_false h3)⟩⟩
   ·exact Or.inr ⟨h1, Or.inl (decide_eq_false h2)⟩
  ·exact Or.inl (decide_eq_false h1)
 have HR : Hid (tagB n who = (decide (0 <= n) && decide (n <= 1099511627776) && decide (0 <= who) && decide (who <= 1099511627776))) := by show _ = _; rfl
 generalize tagB n who = r at *
 rcases walk with g | ⟨g1, g | ⟨g2, g | ⟨g3, g | g4⟩⟩⟩
 all_goals
  go_enter Tryz.func134, Tryz.ntmps134
  go_wp2
  go_ret
  exact ⟨by rw [HR.out]; simp [*], HB.out⟩
def wideN (k size : Nat) : Nat := (size + (k - 1)) / k
theorem wideN_lt {k size i : Nat} (hk : 1 <= k) (h : i * k < size) : i < wideN k size := by
 unfold wideN
 rw [Nat.lt_iff_add_one_le, Nat.le_div_iff_mul_le (by omega), Nat.add_mul]
 omega
theorem wideN_ge {k size i : Nat} (hk : 1 <= k) (h : ¬ i * k < size) : wideN k size <= i := by
 unfold wideN
 rw [<- Nat.lt_add_one_iff, Nat.div_lt_iff_lt_mul (by omega), Nat.add_mul]
 omega
theorem wideN_le {k size : Nat} (hk : 1 <= k) : wideN k size <= size := wideN_ge hk (by
 have : size * 1 <= size * k := Nat.mul_le_mul_left size hk
 omega)
set_option maxRecDepth 10000 in
theorem rwide_any (k size : Nat) (w : World) (hk : 1 <= k) (hk2 : k <= 1000) (hs : size <= 1000000) :
 Calls Tryz.prog 100 #[.int .i64 (k : Int), .int .i64 (size : Int)] w fun e w' => e = .returned (.int .i64 ((wideN k size : Nat) : Int)) /\ w' = w := by
 have hle := wideN_le (size := size) hk
 go_enter Tryz.func100, Tryz.ntmps100
 go_wp2
 go_loop [5] (fun x => ∃ i : Nat, i <= wideN k size /\ x = .int .i64 i) (fun x => wideN k size - (intOf x).toNat)
 case atStart => exact ⟨0, Nat.zero_le _, rfl⟩
 case round =>
  obtain ⟨i, hi, rfl⟩ := hrel
  have hb : i * k <= 1000000 * 1000 := Nat.mul_le_mul (by omega) hk2
  have hp0 : (0 : Int) <= (i : Int) * (k : Int) := by rw [<- Int.natCast_mul]; omega
  have hp1 : (i : Int) * (k : Int) <= 1000000000 := by rw [<- Int.natCast_mul]; omega
  by_cases hlt : i * k < size
  ·have h1 := wideN_lt hk hlt
   have h2 : (i : Int) * (k : Int) < (size : Int) := by rw [<- Int.natCast_mul]; omega
   clear hlt hb
   go_wp2
   go_round
   case rel => exact ⟨i + 1, by omega, by go_num⟩
   case measure => simp [intOf]; omega
  ·have h1 := wideN_ge hk hlt
   have h2 : ¬ (i : Int) * (k : Int) < (size : Int) := by rw [<- Int.natCast_mul]; omega
   obtain rfl : i = wideN k size := by omega
   clear hlt hb
   go_wp2
   go_ret
   exact ⟨rfl, rfl⟩
def canB (n k : Nat) (v : Ver) : Bool := tagB v.n v.who && decide (0 <= v.size /\ v.size <= 1000 /\ 0 <= v.at_ /\ v.at_ < n /\ v.text.size = wideN k v.size.toNat)
set_option maxRecDepth 10000 in
set_option maxHeartbeats 4000000 in
theorem canBe_any (n k : Nat) (p : Option Addr) (ln cap : Nat) (v : Ver) (w : World) (hk1 : 1 <= k) (hk : k <= 12) :
 Calls Tryz.prog 107 #[.agg #[.int .i64 (n : Int), .int .i64 (k : Int), .slice p ln cap], .agg #[.int .i64 v.n, .int .i64 v.who, .int .i64 v.size, .int .i64 v.at_, .string v.text]] w fun e w' => e = .returned (.bool (canB n k v)) /\ Below w.heap.size w w' := by
 obtain ⟨wc, hwc⟩ : ∃ wc, wc = w.alloc (.cells #[.int .i64 (n : Int), .int .i64 (k : Int), .slice p ln cap] 24) := ⟨_, rfl⟩
 have e1 : wc.heap.size = w.heap.size + 1 := by rw [hwc]; simp
 obtain ⟨w0, hw0⟩ : ∃ w0, w0 = wc.alloc (.cells #[.int .i64 v.n, .int .i64 v.who, .int .i64 v.size, .int .i64 v.at_, .string v.text] 69) := ⟨_, rfl⟩
 have hbc : Below w.heap.size w wc := by rw [hwc]; exact (Below.refl _ _).alloc (Nat.le_refl _) _
 have hb0c : Below wc.heap.size wc w0 := by rw [hw0]; exact (Below.refl _ _).alloc (Nat.le_refl _) _
 have HB0 : Hid (Below w.heap.size w w0) := hbc.trans (hb0c.mono hbc.size)
 have a0 : w0.cell? ⟨w.heap.size, 0, none⟩ = some (.int .i64 (n : Int)) := (hb0c.cell (p := ⟨w.heap.size, 0, none⟩) (by show w.heap.size < _; omega)).trans (by rw [hwc, World.cell?_alloc_at _ _ _ _ rfl]; rfl)
 have a1 : w0.cell? ⟨w.heap.size, 1, none⟩ = some (.int .i64 (k : Int)) := (hb0c.cell (p := ⟨w.heap.size, 1, none⟩) (by show w.heap.size < _; omega)).trans (by rw [hwc, World.cell?_alloc_at _ _ _ _ rfl]; rfl)
 have b0 : w0.cell? ⟨w.heap.size + 1, 0, none⟩ = some (.int .i64 v.n) := by rw [hw0, World.cell?_alloc_at _ _ _ _ e1.symm]; rfl
 have b1 : w0.cell? ⟨w.heap.size + 1, 1, none⟩ = some (.int .i64 v.who) := by rw [hw0, World.cell?_alloc_at _ _ _ _ e1.symm]; rfl
 have b2 : w0.cell? ⟨w.heap.size + 1, 2, none⟩ = some (.int .i64 v.size) := by rw [hw0, World.cell?_alloc_at _ _ _ _ e1.symm]; rfl
 have b3 : w0.cell? ⟨w.heap.size + 1, 3, none⟩ = some (.int .i64 v.at_) := by rw [hw0, World.cell?_alloc_at _ _ _ _ e1.symm]; rfl
 have b4 : w0.cell? ⟨w.heap.size + 1, 4, none⟩ = some (.string v.text) := by rw [hw0, World.cell?_alloc_at _ _ _ _ e1.symm]; rfl
 have HALL : Hid (∀ W, Below w0.heap.size w0 W -> W.cell? ⟨w.heap.size, 0, none⟩ = some (.int .i64 (n : Int)) /\ W.cell? ⟨w.heap.size, 1, none⟩ = some (.int .i64 (k : Int)) /\ W.cell? ⟨w.heap.size + 1, 2, none⟩ = some (.int .i64 v.size) /\ W.cell? ⟨w.heap.size + 1, 3, none⟩ = some (.int .i64 v.at_) /\ W.cell? ⟨w.heap.size + 1, 4, none⟩ = some (.string v.text)) := fun W hW => by
  have hx : w.heap.size + 1 < w0.heap.size := lt_of_cellH b0
  have hy : w.heap.size < w0.heap.size := lt_of_cellH a0
  exact ⟨(hW.cell (p := ⟨w.heap.size, 0, none⟩) hy).trans a0, (hW.cell (p := ⟨w.heap.size, 1, none⟩) hy).trans a1, (hW.cell (p := ⟨w.heap.size + 1, 2, none⟩) hx).trans b2, (hW.cell (p := ⟨w.heap.size + 1, 3, none⟩) hx).trans b3, (hW.cell (p := ⟨w.heap.size + 1, 4, none⟩) hx).trans b4⟩
 have HW0 : Hid (w0 = (w.alloc (.cells #[.int .i64 (n : Int), .int .i64 (k : Int), .slice p ln cap] 24)).alloc (.cells #[.int .i64 v.n, .int .i64 v.who, .int .i64 v.size, .int .i64 v.at_, .string v.text] 69)) := by rw [<- hwc]; exact hw0
 have HTG : Hid (∀ W, Calls Tryz.prog 134 #[.agg #[.int .i64 v.n, .int .i64 v.who]] W fun e w' => e = .returned (.bool (tagB v.n v.who)) /\ Below W.heap.size W w') := fun W => isTag_any v.n v.who W
 have HW : Hid ((tagB v.n v.who = false /\ canB n k v = false) ∨ tagB v.n v.who = true /\ ((v.size < 0 /\ canB n k v = false) ∨ ¬ v.size < 0 /\ ((1000 < v.size /\ canB n k v = false) ∨ ¬ 1000 < v.size /\ ((v.at_ < 0 /\ canB n k v = false) ∨ ¬ v.at_ < 0 /\ (((n : Int) <= v.at_ /\ canB n k v = false) ∨ ¬ (n : Int) <= v.at_ /\ canB n k v = decide (v.text.size = wideN k v.size.toNat)))))) := by
  show _ ∨ _
  unfold canB
  cases hT : tagB v.n v.who with
  | false => exact Or.inl ⟨rfl, rfl⟩
  | true =>
   refine Or.inr ⟨rfl, ?_⟩
   rw [Bool.true_and]
   by_cases g1 : v.size < 0
   ·exact Or.inl ⟨g1, decide_eq_false (by omega)⟩
   refine Or.inr ⟨g1, ?_⟩
   by_cases g2 : 1000 < v.size
   ·exact Or.inl ⟨g2, decide_eq_false (by omega)⟩
   refine Or.inr ⟨g2, ?_⟩
   by_cases g3 : v.at_ < 0
   ·exact Or.inl ⟨g3, decide_eq_false (by omega)⟩
   refine Or.inr ⟨g3, ?_⟩
   by_cases g4 : (n : Int) <= v.at_
   ·exact Or.inl ⟨g4, decide_eq_false (by omega)⟩
   refine Or.inr ⟨g4, ?_⟩
   congr 1
   exact propext ⟨fun h => h.2.2.2.2, fun h => ⟨by omega, by omega, by omega, by omega, h⟩⟩
 have HWD : Hid (∀ W (z : Nat), (z : Int) = v.size -> z <= 1000 -> Calls Tryz.prog 100 #[.int .i64 (k : Int), .int .i64 v.size] W fun e w' => e = .returned (.int .i64 ((wideN k z : Nat) : Int)) /\ w' = W) := fun W z hz h2 => by
  rw [<- hz]
  exact rwide_any k z W hk1 (by omega) (by omega)
 clear hwc hw0 hbc hb0c e1 b2 b3 b4 a0 a1
 generalize tagB v.n v.who = tb at *
 generalize canB n k v = r at *
 rcases HW.out with ⟨rfl, rfl⟩ | ⟨rfl, ⟨g, rfl⟩ | ⟨g1, ⟨g, rfl⟩ | ⟨g2, ⟨g, rfl⟩ | ⟨g3, ⟨g, rfl⟩ | ⟨g4, hr⟩⟩⟩⟩⟩
 all_goals
  go_enter Tryz.func107, Tryz.ntmps107
  go_wp2_with (rw [<- HW0.out])
  refine (HTG.out _).mono ?_
  rintro e w1 ⟨rfl, hb1⟩
  obtain ⟨m0, m1, m3, m4, m5⟩ := HALL.out w1 hb1
  have HB1 : Hid (Below w.heap.size w w1) := HB0.out.trans (hb1.mono HB0.out.size)
  clear HTG hb1 b0 b1
  try (go_wp2; go_ret; exact ⟨rfl, HB1.out⟩)
 have HR : Hid (r = decide (v.text.size = wideN k v.size.toNat)) := hr
 have hz : ((v.size.toNat : Nat) : Int) = v.size := by omega
 have HC : Hid (∀ W, Calls Tryz.prog 100 #[.int .i64 (k : Int), .int .i64 v.size] W fun e w' => e = .returned (.int .i64 ((wideN k v.size.toNat : Nat) : Int)) /\ w' = W) := fun W => HWD.out W v.size.toNat hz (by omega)
 clear hr hz HWD HW
 generalize wideN k v.size.toNat = wd at *
 by_cases hq : v.text.size = wd
 ·have HR2 : Hid (r = true) := by show _ = _; rw [HR.out]; exact decide_eq_true hq
  clear HR
  subst hq
  go_wp2
  go_quiet ((go_at_call 100; exact Calls.quiet_of_same (HC.out _)))
  go_wp2
  go_ret
  exact ⟨by rw [HR2.out]; simp, below_drewN HB1.out _⟩
 ·have HR2 : Hid (r = false) := by show _ = _; rw [HR.out]; exact decide_eq_false hq
  clear HR
  have d : (((v.text.size : Nat) : Int) == (wd : Int)) = false := by rw [beq_eq_false_iff_ne]; omega
  go_wp2
  go_quiet ((go_at_call 100; exact Calls.quiet_of_same (HC.out _)))
  go_wp2
  go_ret
  exact ⟨by rw [HR2.out]; rfl, below_drewN HB1.out _⟩
set_option maxRecDepth 10000 in
theorem rless_any (a b : Int × Int) (w : World) :
 Calls Tryz.prog 72 #[.agg #[.int .i64 a.1, .int .i64 a.2], .agg #[.int .i64 b.1, .int .i64 b.2]] w fun e w' => e = .returned (.bool (lessB a b)) /\ Below w.heap.size w w' := by
 obtain ⟨a1, a2⟩ := a
 obtain ⟨b1, b2⟩ := b
 have HB : Hid (Below w.heap.size w ((w.alloc (.cells #[.int .i64 a1, .int .i64 a2] 46)).alloc (.cells #[.int .i64 b1, .int .i64 b2] 46))) := ((Below.refl _ _).alloc (Nat.le_refl _) _).alloc (by simp) _
 by_cases h1 : a1 < b1
 ·have HE : Hid (lessB (a1, a2) (b1, b2) = true) := by show _ = _; unfold lessB; simp [h1]
  rw [HE.out]
  go_enter Tryz.func72, Tryz.ntmps72
  go_wp2
  go_ret
  exact ⟨rfl, HB.out⟩
 have d1 : decide (a1 < b1) = false := decide_eq_false h1
 by_cases h2 : a1 = b1
 ·subst h2
  have HE : Hid (lessB (a1, a2) (a1, b2) = decide (a2 < b2)) := by show _ = _; unfold lessB; simp
  rw [HE.out]
  go_enter Tryz.func72, Tryz.ntmps72
  go_wp2
  go_ret
  exact ⟨rfl, HB.out⟩
 ·have HE : Hid (lessB (a1, a2) (b1, b2) = false) := by show _ = _; unfold lessB; simp [h1, h2]
  rw [HE.out]
  have d2 : (a1 == b1) = false := by
   rw [beq_eq_false_iff_ne]
   exact h2
  go_enter Tryz.func72, Tryz.ntmps72
  go_wp2
  go_ret
  exact ⟨rfl, HB.out⟩
end Go.Proofs.YtobmckfcipeanaaGreatDoor
