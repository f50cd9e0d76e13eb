import Derived.Test.YtobmckfcipeanaaGreatDoorRgShW
import Derived.Test.YtobmckfcipeanaaGreatDoorZA
import Derived.Test.YtobmckfcipeanaaGreatDoorXA
import Derived.Test.YtobmckfcipeanaaGreatDoorYE
import Derived.Test.YtobmckfcipeanaaGreatDoorYL
namespace Go.Proofs.YtobmckfcipeanaaGreatDoor
open Go.RowKit
set_option maxRecDepth 10000 in
theorem sclone_any (t : ByteArray) (w : World) (ht : t.size <= 1000000) : Calls Tryz.prog 24 #[.string t] w fun e w' => e = .returned (.string t) /\ Below w.heap.size w w' := by
 have HC : Hid (∀ W, Calls Tryz.prog 53 #[.string t] W fun e w' => e = .returned (.string t) /\ Below W.heap.size W w') := fun W => Tryz.stringslite_Clone t W (by omega)
 go_enter Tryz.func24, Tryz.ntmps24
 go_wp2_with fail
 refine (HC.out _).mono ?_
 rintro e w1 ⟨rfl, hb1⟩
 have HB1 : Hid (Below w.heap.size w w1) := hb1
 clear hb1
 go_wp2
 go_ret
 exact ⟨rfl, HB1.out⟩
def MAsk.obj (a : MAsk) : Int × Int × ByteArray × Bool := if (a.st = .keeping ∨ a.st = .done) /\ a.found = true then (a.tag.1, a.tag.2, a.text, true) else (0, 0, ⟨#[]⟩, false)
def pkCells (a : MAsk) (en : Nat) (mv hv cv : Value) (aw : ByteArray) : Array Value := #[.string a.name, .string a.key, .int .i64 a.op, .int .i64 a.config, .int .i64 a.c.n, .int .i64 a.c.k, mv, .int .i64 (en : Int), .string aw, hv, .string a.st.word, cv, .int .i64 a.obj.1, .int .i64 a.obj.2.1, .string a.obj.2.2.1, .bool a.obj.2.2.2]
def rowL (a : MAsk) (x : ByteArray) : List Ver := a.L.getD (idxN a.from_ x) []
def ChOk (w : World) (S0 : Nat -> Prop) (a : MAsk) (mv cv : Value) : Prop :=
 (a.put = true /\ ∃ wb tb, cv = .func (.func 25) #[] #[.pointer (some ⟨wb, 0, none⟩), .pointer (some ⟨tb, 0, none⟩)] /\ S0 wb /\ S0 tb /\ w.cell? ⟨wb, 0, none⟩ = some (.int .i64 a.who) /\ w.cell? ⟨tb, 0, none⟩ = some (.string a.text))
 ∨ (a.put = false /\ ∃ cb, cv = .func (.func 27) #[] #[.pointer (some ⟨cb, 0, none⟩)] /\ S0 cb /\ w.cell? ⟨cb, 0, none⟩ = some (.int .i64 a.c.n) /\ w.cell? ⟨cb, 1, none⟩ = some (.int .i64 a.c.k) /\ w.cell? ⟨cb, 2, none⟩ = some mv)
structure HeardAt (w : World) (b : Nat) (F : List ByteArray) (D : DataW Value) (row : ByteArray -> Value) : Prop where
 own : ∃ n, OwnM w b n D
 has : ∀ x, x.size <= maxLen -> Maps.has D (litK x) = inL F x
 at_ : ∀ x, x ∈ F -> ∀ z, D.atKey (litK x) z = .held (row x)
 size : Maps.size D = F.length
structure Stat (w : World) (S0 : Nat -> Prop) (a : MAsk) (mv cv : Value) (row : ByteArray -> Value) : Prop where
 mem : ∃ p c, mv = .slice p a.c.L.length c /\ Strs w p a.c.L /\ a.c.L.length <= c /\ (p = none -> a.c.L = [] /\ c = 0) /\ ∀ b o, p = some ⟨b, o, none⟩ -> S0 b
 ch : a.st = .looking -> ChOk w S0 a mv cv
 rows : a.st = .looking -> ∀ x ∈ a.from_, ∃ q c, row x = .slice q (rowL a x).length c /\ Rec verE w q (rowL a x) /\ (rowL a x).length <= c /\ (q = none -> rowL a x = [] /\ c = 0) /\ ∀ b o, q = some ⟨b, o, none⟩ -> S0 b
 lt : ∀ k, S0 k -> k < w.heap.size
structure AFine (a : MAsk) : Prop where
 cfg : ¬ 0 < (cfgF a.c).1
 key : a.key.size <= 100
 name : a.name.size <= 100
 still : a.moves = false
 whos : 0 <= a.who /\ a.who < 6
 opb : 0 <= a.op /\ a.op <= 9223372036854775807
 cfb : 0 <= a.config /\ a.config <= 9223372036854775807
 text : a.text.size <= 1000
 st : a.st ≠ .sealing
 nodup : a.from_.Nodup
 sub : ∀ x ∈ a.from_, x ∈ a.c.L
 both : a.from_.length = a.L.length
 keep : a.st = .keeping -> a.found = true
 vers : ∀ l ∈ a.L, ∀ v ∈ l, VerI64 v
structure PAk (w : World) (B : Nat) (h : Nat) (S S0 : Nat -> Prop) (a : MAsk) (mv cv : Value) (aw : ByteArray) (m : Option Nat) (D : DataW Value) (row : ByteArray -> Value) : Prop where
 blk : w.heap[h]? = some (.cells (pkCells a (enoughN a.c) mv (.map m) cv aw) 79 (0, 0))
 self : S h
 inB : ∀ k, S k -> B <= k /\ k < w.heap.size
 stat : Stat w S0 a mv cv row
 s0 : ∀ k, S0 k -> S k /\ k ≠ h /\ m ≠ some k
 fine : AFine a
 open_ : a.st = .looking ∨ a.st = .keeping -> ∃ b, m = some b /\ S b /\ b ≠ h /\ HeardAt w b a.from_ D row
 shut : a.st = .done ∨ a.st = .refused -> m = none
 aw1 : a.st = .looking -> aw = wTold
 aw2 : a.st = .keeping -> aw = wKept
def PAkOf (w : World) (B : Nat) (h : Nat) (S : Nat -> Prop) (a : MAsk) : Prop := ∃ S0 mv cv aw m D row, PAk w B h S S0 a mv cv aw m D row
theorem Strs.same {w w' : World} {p : Option Addr} {L : List ByteArray} (h : Strs w p L) (hs : w.heap.size <= w'.heap.size) (hb : ∀ b o, p = some ⟨b, o, none⟩ -> w'.heap[b]? = w.heap[b]?) : Strs w' p L := by
 rcases h with h | ⟨b, o, hp, hlt, hc⟩
 ·exact Or.inl h
 ·exact Or.inr ⟨b, o, hp, Nat.lt_of_lt_of_le hlt hs, fun i hi => (World.cell?_of_block (a := ⟨b, o + i, none⟩) (hb b o hp)).trans (hc i hi)⟩
theorem Rec.sameAt {α : Type} {E : Enc α} {w w' : World} {p : Option Addr} {l : List α} (h : Rec E w p l) (hs : w.heap.size <= w'.heap.size) (hb : ∀ b o, p = some ⟨b, o, none⟩ -> w'.heap[b]? = w.heap[b]?) : Rec E w' p l := by
 rcases h with h | ⟨b, o, hp, hlt, hc⟩
 ·exact Or.inl h
 ·exact Or.inr ⟨b, o, hp, Nat.lt_of_lt_of_le hlt hs, fun j x hx jj u hu => (World.cell?_of_block (a := ⟨b, o + j * E.k + jj, none⟩) (hb b o hp)).trans (hc j x hx jj u hu)⟩
theorem ChOk.keep {w w' : World} {S0 : Nat -> Prop} {a : MAsk} {mv cv : Value} (h : ChOk w S0 a mv cv) (hb : ∀ k, S0 k -> w'.heap[k]? = w.heap[k]?) : ChOk w' S0 a mv cv := by
 rcases h with ⟨h0, wb, tb, h1, h2, h3, h4, h5⟩ | ⟨h0, cb, h1, h2, h3, h4, h5⟩
 ·exact Or.inl ⟨h0, wb, tb, h1, h2, h3, (cell_same (hb wb h2) 0).1.trans h4, (cell_same (hb tb h3) 0).1.trans h5⟩
 ·exact Or.inr ⟨h0, cb, h1, h2, (cell_same (hb cb h2) 0).1.trans h3, (cell_same (hb cb h2) 1).1.trans h4, (cell_same (hb cb h2) 2).1.trans h5⟩
theorem Stat.keep {w w' : World} {S0 : Nat -> Prop} {a : MAsk} {mv cv : Value} {row : ByteArray -> Value} (h : Stat w S0 a mv cv row) (hs : w.heap.size <= w'.heap.size) (hb : ∀ k, S0 k -> w'.heap[k]? = w.heap[k]?) : Stat w' S0 a mv cv row := by
 refine ⟨?_, fun hl => (h.ch hl).keep hb, fun hl x hx => ?_, fun k hk => Nat.lt_of_lt_of_le (h.lt k hk) hs⟩
 ·obtain ⟨p, c, h1, h2, h3, h4, h5⟩ := h.mem
  exact ⟨p, c, h1, h2.same hs (fun b o hp => hb b (h5 b o hp)), h3, h4, h5⟩
 ·obtain ⟨q, c, h1, h2, h3, h4, h5⟩ := h.rows hl x hx
  exact ⟨q, c, h1, h2.sameAt hs (fun b o hp => hb b (h5 b o hp)), h3, h4, h5⟩
theorem HeardAt.same {w w' : World} {b : Nat} {F : List ByteArray} {D : DataW Value} {row : ByteArray -> Value} (h : HeardAt w b F D row) (hb : w'.heap[b]? = w.heap[b]?) : HeardAt w' b F D row := by
 obtain ⟨n, hn⟩ := h.own
 exact ⟨⟨n, hn.same hb⟩, h.has, h.at_, h.size⟩
variable {w w' : World} {B h : Nat} {S S0 : Nat -> Prop} {a : MAsk} {mv cv : Value} {aw : ByteArray} {m : Option Nat} {D : DataW Value} {row : ByteArray -> Value}
theorem PAk.keep (hp : PAk w B h S S0 a mv cv aw m D row) (hs : w.heap.size <= w'.heap.size) (hb : ∀ k, S k -> w'.heap[k]? = w.heap[k]?) : PAk w' B h S S0 a mv cv aw m D row where
 blk := (hb h hp.self).trans hp.blk
 self := hp.self
 inB := fun k hk => ⟨(hp.inB k hk).1, Nat.lt_of_lt_of_le (hp.inB k hk).2 hs⟩
 stat := hp.stat.keep hs (fun k hk => hb k (hp.s0 k hk).1)
 s0 := hp.s0
 fine := hp.fine
 open_ := fun ho => by
  obtain ⟨b, h1, h2, h3, h4⟩ := hp.open_ ho
  exact ⟨b, h1, h2, h3, h4.same (hb b h2)⟩
 shut := hp.shut
 aw1 := hp.aw1
 aw2 := hp.aw2
theorem PAk.below (hp : PAk w B h S S0 a mv cv aw m D row) (hb : Below w.heap.size w w') : PAk w' B h S S0 a mv cv aw m D row := hp.keep hb.size (fun k hk => hb.block k (hp.inB k hk).2)
theorem PAk.cell (hp : PAk w B h S S0 a mv cv aw m D row) (i : Nat) : w.cell? ⟨h, i, none⟩ = (pkCells a (enoughN a.c) mv (.map m) cv aw)[i]? := by simp [World.cell?, hp.blk]
theorem PAk.lt (hp : PAk w B h S S0 a mv cv aw m D row) : h < w.heap.size := (hp.inB h hp.self).2
set_option maxRecDepth 10000 in
theorem HeardAt.look {b : Nat} {F : List ByteArray} (hd : HeardAt w b F D row) {x : ByteArray} (hx : x.size <= maxLen) : (Instr.lookup 75 (.map (some b)) (.string x) false).run Tryz.prog w = .ok (if inL F x then row x else .slice none 0 0) w := by
 have hz : (zeroValue 55).run Tryz.prog w = .ok (.slice none 0 0) w := by kernel_rfl
 obtain ⟨n, h3⟩ := hd.own
 obtain ⟨v, ps, hrun, hR⟩ := World.ownsMap.lookup h3 keyedK Tryz.underlying75 hz (zd := .held (.slice none 0 0)) (zp := []) rfl (keyOfK hx)
 rw [hrun]
 have e : DataW.held v = D.atKey (litK x) (.held (.slice none 0 0)) := congrArg Prod.fst (Option.some.inj hR)
 by_cases hg : inL F x = true
 ·rw [if_pos hg]
  rw [hd.at_ x (inL_iff.1 hg)] at e
  injection e with e
  rw [e]
 ·rw [if_neg hg]
  rw [Maps.atKey_of_not_has (by rw [hd.has x hx]; simpa using hg)] at e
  injection e with e
  rw [e]
set_option maxRecDepth 10000 in
theorem HeardAt.look2 {b : Nat} {F : List ByteArray} (hd : HeardAt w b F D row) {x : ByteArray} (hx : x.size <= maxLen) : (Instr.lookup 75 (.map (some b)) (.string x) true).run Tryz.prog w = .ok (.tuple #[if inL F x then row x else .slice none 0 0, .bool (inL F x)]) w := by
 have hz : (zeroValue 55).run Tryz.prog w = .ok (.slice none 0 0) w := by kernel_rfl
 obtain ⟨n, h3⟩ := hd.own
 obtain ⟨v, ps, hrun, hR⟩ := World.ownsMap.look_ok h3 keyedK Tryz.underlying75 hz (zd := .held (.slice none 0 0)) (zp := []) rfl (keyOfK hx)
 rw [hrun, hd.has x hx]
 have e : DataW.held v = D.atKey (litK x) (.held (.slice none 0 0)) := congrArg Prod.fst (Option.some.inj hR)
 by_cases hg : inL F x = true
 ·rw [if_pos hg]
  rw [hd.at_ x (inL_iff.1 hg)] at e
  injection e with e
  rw [e]
 ·rw [if_neg hg]
  rw [Maps.atKey_of_not_has (by rw [hd.has x hx]; simpa using hg)] at e
  injection e with e
  rw [e]
theorem HeardAt.len {b : Nat} {F : List ByteArray} (hd : HeardAt w b F D row) (ty : TypeId) : (Builtin.len_ #[75] ty #[.map (some b)]).run Tryz.prog w = .ok (.int .i64 (F.length : Nat)) w := by
 obtain ⟨n, h3⟩ := hd.own
 rw [World.ownsMap.len h3 Tryz.underlying75 ty, hd.size]
theorem HeardAt.put {b : Nat} {F : List ByteArray} (hd : HeardAt w b F D row) {x : ByteArray} (hx : x.size <= maxLen) (hn : x ∉ F) (v : Value) (hw : ∃ n, OwnM w' b n (D.put (litK x) (.held v))) : HeardAt w' b (F ++ [x]) (D.put (litK x) (.held v)) (fun y => if y = x then v else row y) := by
 obtain ⟨n, h3⟩ := hd.own
 have ht := World.ownsMap.tidy h3 keyedK
 have hm := World.ownsMap.isMap h3
 refine ⟨hw, fun y hy => ?_, fun y hy z => ?_, ?_⟩
 ·by_cases e : y = x
  ·subst e
   rw [Maps.has_put_same hm (litK_key y)]
   exact (inL_iff.2 (by simp)).symm
  ·rw [Maps.has_put_other (fun he => e (litK_inj he)), hd.has y hy]
   by_cases hyF : y ∈ F
   ·rw [inL_iff.2 hyF, inL_iff.2 (by simp [hyF])]
   ·have e1 : inL F y = false := Bool.eq_false_iff.2 fun h => hyF (inL_iff.1 h)
    have e2 : inL (F ++ [x]) y = false := Bool.eq_false_iff.2 fun h => by
     rcases List.mem_append.1 (inL_iff.1 h) with h | h
     ·exact hyF h
     ·exact e (List.mem_singleton.1 h)
    rw [e1, e2]
 ·by_cases e : y = x
  ·subst e
   rw [Maps.atKey_put_same hm (litK_key y)]
   simp
  ·rw [Maps.atKey_put_other (fun he => e (litK_inj he)), hd.at_ y (by
    rcases List.mem_append.1 hy with h | h
    ·exact h
    ·exact absurd (List.mem_singleton.1 h) e)]
   simp [e]
 ·have e1 : Maps.has D (litK x) = false := by rw [hd.has x hx]; exact Bool.eq_false_iff.2 fun h => hn (inL_iff.1 h)
  rw [Maps.size_put ht, e1, hd.size]
  simp
end Go.Proofs.YtobmckfcipeanaaGreatDoor
