import Derived.Test.YtobmckfcipeanaaGreatDoorZB
import Derived.Test.YtobmckfcipeanaaGreatDoorZA
import Derived.Test.YtobmckfcipeanaaGreatDoorZK
import Derived.Test.YtobmckfcipeanaaGreatDoorYC
namespace Go.Proofs.YtobmckfcipeanaaGreatDoor
open Go.RowKit
structure Msg where
 from_ : ByteArray
 to_ : ByteArray
 kind : ByteArray
 key : ByteArray
 op : Int
 config : Int
 shut : Bool
 L : List Ver
def msgA (m : Msg) (lv : Value) : Value := .agg #[.string m.from_, .string m.to_, .string m.kind, .string m.key, .int .i64 m.op, .int .i64 m.config, .bool m.shut, lv]
def wLook : ByteArray := ⟨#[108, 111, 111, 107]⟩
def wTold : ByteArray := ⟨#[116, 111, 108, 100]⟩
def wKeep : ByteArray := ⟨#[107, 101, 101, 112]⟩
def wKept : ByteArray := ⟨#[107, 101, 112, 116]⟩
def wSeal : ByteArray := ⟨#[115, 101, 97, 108]⟩
def wShut : ByteArray := ⟨#[115, 101, 97, 108, 101, 100]⟩
def sLooking : ByteArray := ⟨#[108, 111, 111, 107, 105, 110, 103]⟩
def sSealing : ByteArray := ⟨#[115, 101, 97, 108, 105, 110, 103]⟩
def sKeeping : ByteArray := ⟨#[107, 101, 101, 112, 105, 110, 103]⟩
def sDone : ByteArray := ⟨#[100, 111, 110, 101]⟩
def sRefused : ByteArray := ⟨#[114, 101, 102, 117, 115, 101, 100]⟩
inductive St where
 | looking | sealing | keeping | done | refused
 deriving DecidableEq
def St.word : St -> ByteArray
 | .looking => sLooking
 | .sealing => sSealing
 | .keeping => sKeeping
 | .done => sDone
 | .refused => sRefused
def St.waits : St -> ByteArray
 | .looking => wTold
 | .sealing => wShut
 | .keeping => wKept
 | _ => ⟨#[]⟩
structure MAsk where
 name : ByteArray
 key : ByteArray
 who : Int
 op : Int
 config : Int
 c : Cfg
 next : Cfg
 put : Bool
 moves : Bool
 st : St
 from_ : List ByteArray
 L : List (List Ver)
 tag : Int × Int
 text : ByteArray
 found : Bool
def MAsk.ver (a : MAsk) (i : Nat) : Ver := ⟨a.tag.1, a.tag.2, (a.text.size : Int), (i : Int), encT a.c.k.toNat a.text i⟩
def MAsk.send (a : MAsk) (kind : ByteArray) (with_ : Bool) : List Msg := (List.range a.c.L.length).map fun i => ⟨a.name, txt a.c.L i, kind, a.key, a.op, a.config, false, if with_ then [a.ver i] else []⟩
def MAsk.begin (a : MAsk) : List Msg := if a.moves then (if a.st = .sealing then a.send wSeal false else []) else a.send wLook false
def toldL (from_ : List ByteArray) (L : List (List Ver)) : List ByteArray -> List (List Ver)
 | [] => []
 | m :: r => if inL from_ m then L.getD (idxN from_ m) [] :: toldL from_ L r else toldL from_ L r
def maxStep (n : Int) (v : Ver) : Int := if n < v.n /\ v.n <= 1099511627776 then v.n else n
def maxN (L : List (List Ver)) : Int := L.flatten.foldl maxStep 0
def MAsk.takes (a : MAsk) (m : Msg) : Bool := decide (a.st.waits ≠ ⟨#[]⟩ /\ m.kind = a.st.waits /\ m.to_ = a.name /\ m.key = a.key /\ m.op = a.op /\ m.config = a.config) && (inL a.c.L m.from_ && !inL a.from_ m.from_)
def MAsk.heard (a : MAsk) (m : Msg) : MAsk := { a with from_ := a.from_ ++ [m.from_], L := a.L ++ [m.L] }
def MAsk.found_ (a : MAsk) : MAsk := if a.put then { a with tag := (maxN a.L + 1, a.who), found := true } else { a with tag := (bestF a.c.n.toNat a.c.k.toNat (toldL a.from_ a.L a.c.L).flatten (toldL a.from_ a.L a.c.L).flatten).1, text := (bestF a.c.n.toNat a.c.k.toNat (toldL a.from_ a.L a.c.L).flatten (toldL a.from_ a.L a.c.L).flatten).2.1, found := (bestF a.c.n.toNat a.c.k.toNat (toldL a.from_ a.L a.c.L).flatten (toldL a.from_ a.L a.c.L).flatten).2.2 }
def MAsk.keeps (a : MAsk) : MAsk := if a.moves then { a with st := .keeping, from_ := [], L := [], c := a.next, config := a.config + 1 } else { a with st := .keeping, from_ := [], L := [] }
def MAsk.hear (a : MAsk) (m : Msg) : MAsk × List Msg :=
 if a.takes m = false then (a, [])
 else if m.shut = true /\ a.st ≠ .sealing then ({ a with st := .refused }, [])
 else if (a.heard m).from_.length < enoughN a.c then (a.heard m, [])
 else if a.st = .keeping then ({ a.heard m with st := .done }, [])
 else if (a.heard m).found_.found = false then ({ (a.heard m).found_ with st := .done }, [])
 else ((a.heard m).found_.keeps, (a.heard m).found_.keeps.send wKeep true)
abbrev Lv := Option Addr × Nat × Nat
def lvV (h : Lv) : Value := .slice h.1 h.2.1 h.2.2
def msgC (x : Msg × Lv) : List Value := [.string x.1.from_, .string x.1.to_, .string x.1.kind, .string x.1.key, .int .i64 x.1.op, .int .i64 x.1.config, .bool x.1.shut, .slice x.2.1 x.2.2.1 x.2.2.2]
def mE : Enc (Msg × Lv) := ⟨8, by decide, msgC, fun _ => rfl, fun x u hu => by simp [msgC] at hu; rcases hu with rfl | rfl | rfl | rfl | rfl | rfl | rfl | rfl <;> rfl⟩
structure HasL (w : World) (x : Msg × Lv) : Prop where
 len : x.2.2.1 = x.1.L.length
 recs : Rec verE w x.2.1 x.1.L
 room : x.1.L.length <= x.2.2.2
 empty : x.2.1 = none -> x.1.L = [] /\ x.2.2.2 = 0
theorem HasL.below {w w' : World} {x : Msg × Lv} (h : HasL w x) (hb : Below w.heap.size w w') : HasL w' x := ⟨h.len, h.recs.below hb, h.room, h.empty⟩
def MsgsAt (w : World) (p : Option Addr) (l : List Msg) : Prop := ∃ ml : List (Msg × Lv), ml.map Prod.fst = l /\ Rec mE w p ml /\ ∀ x ∈ ml, HasL w x
theorem MsgsAt.below {w w' : World} {p : Option Addr} {l : List Msg} (h : MsgsAt w p l) (hb : Below w.heap.size w w') : MsgsAt w' p l := by
 obtain ⟨ml, h1, h2, h3⟩ := h
 exact ⟨ml, h1, h2.below hb, fun x hx => (h3 x hx).below hb⟩
theorem MsgsAt.nil (w : World) (p : Option Addr) : MsgsAt w p [] := ⟨[], rfl, Rec.nil _ _, fun x hx => by cases hx⟩
theorem msginfo (T : TypeId) (hT : (Tryz.prog.info? T).map (fun i => (i.zero, i.size, i.bytes)) = some (some (.agg #[.string ⟨#[]⟩, .string ⟨#[]⟩, .string ⟨#[]⟩, .string ⟨#[]⟩, .int .i64 0, .int .i64 0, .bool false, .slice none 0 0]), 8, 112)) : (Tryz.prog.info? T).map (fun i => (i.zero, i.size, i.bytes)) = some (some (.agg #[.string ⟨#[]⟩, .string ⟨#[]⟩, .string ⟨#[]⟩, .string ⟨#[]⟩, .int .i64 0, .int .i64 0, .bool false, .slice none 0 0]), mE.k, 112) := hT
theorem minfoR : (Tryz.prog.info? 59).map (fun i => (i.zero, i.size, i.bytes)) = some (some (.agg #[.string ⟨#[]⟩, .string ⟨#[]⟩, .string ⟨#[]⟩, .string ⟨#[]⟩, .int .i64 0, .int .i64 0, .bool false, .slice none 0 0]), mE.k, 112) := msginfo _ (by kernel_rfl)
theorem msg_cells {w : World} {p : Option Addr} {ml : List (Msg × Lv)} (h : Rec mE w p ml) {i : Nat} (hi : i < ml.length) : ∃ b o, p = some ⟨b, o, none⟩ /\ b < w.heap.size /\ w.cell? ⟨b, o + i * 8, none⟩ = some (.string ml[i].1.from_) /\ w.cell? ⟨b, o + i * 8 + 1, none⟩ = some (.string ml[i].1.to_) /\ w.cell? ⟨b, o + i * 8 + 2, none⟩ = some (.string ml[i].1.kind) /\ w.cell? ⟨b, o + i * 8 + 3, none⟩ = some (.string ml[i].1.key) /\ w.cell? ⟨b, o + i * 8 + 4, none⟩ = some (.int .i64 ml[i].1.op) /\ w.cell? ⟨b, o + i * 8 + 5, none⟩ = some (.int .i64 ml[i].1.config) /\ w.cell? ⟨b, o + i * 8 + 6, none⟩ = some (.bool ml[i].1.shut) /\ w.cell? ⟨b, o + i * 8 + 7, none⟩ = some (.slice ml[i].2.1 ml[i].2.2.1 ml[i].2.2.2) := by
 rcases h with h0 | ⟨b, o, hp, hlt, hc⟩
 ·rw [h0] at hi; exact absurd hi (Nat.not_lt_zero _)
 ·have hx : ml[i]? = some ml[i] := List.getElem?_eq_getElem hi
  have g := hc i _ hx
  exact ⟨b, o, hp, hlt, g 0 _ rfl, g 1 _ rfl, g 2 _ rfl, g 3 _ rfl, g 4 _ rfl, g 5 _ rfl, g 6 _ rfl, g 7 _ rfl⟩
def msgAt (ml : List (Msg × Lv)) (i : Nat) : Msg × Lv := ml.getD i (⟨⟨#[]⟩, ⟨#[]⟩, ⟨#[]⟩, ⟨#[]⟩, 0, 0, false, []⟩, (none, 0, 0))
theorem msgAt_get {ml : List (Msg × Lv)} {i : Nat} (h : i < ml.length) : ml[i] = msgAt ml i := by
 unfold msgAt
 rw [List.getD_eq_getElem?_getD, List.getElem?_eq_getElem h]
 rfl
theorem msgAt_mem {ml : List (Msg × Lv)} {i : Nat} (h : i < ml.length) : msgAt ml i ∈ ml := by
 rw [<- msgAt_get h]
 exact List.getElem_mem h
theorem msg_take {ml : List (Msg × Lv)} {i : Nat} (h : i < ml.length) : ml.take (i + 1) = ml.take i ++ [msgAt ml i] := by
 rw [List.take_succ_eq_append_getElem h, msgAt_get h]
theorem rec_kept {α : Type} {E : Enc α} {w w' : World} {q : Option Addr} {l : List α} {row : Option Nat} (h : Rec E w q l) (hg : w.grownBy w' row) (hne : ∀ b o, q = some ⟨b, o, none⟩ -> some b ≠ row) : Rec E w' q l := by
 rcases h with h | ⟨b, o, hp, hlt, hc⟩
 ·exact Or.inl h
 ·exact Or.inr ⟨b, o, hp, Nat.lt_of_lt_of_le hlt hg.size, fun i x hx j u hu => (World.cell?_of_block (a := ⟨b, o + i * E.k + j, none⟩) (hg.block b hlt (hne _ _ hp))).trans (hc i x hx j u hu)⟩
def OwnVsV (B : Nat) (w : World) (e : TypeId) (v : Value) (vs : List Value) (M : List (List Ver)) : Prop :=
 OwnV w B e v vs /\ vs.length = M.length /\ ∀ i, i < M.length -> ∃ q c, vs[i]? = some (.slice q (M.getD i []).length c) /\ Rec verE w q (M.getD i []) /\ (M.getD i []).length <= c /\ (q = none -> M.getD i [] = [] /\ c = 0) /\ ∀ b o, q = some ⟨b, o, none⟩ -> B <= b /\ b < w.heap.size /\ v.ownBlock ≠ some b
theorem OwnVsV.snoc {B : Nat} {w w1 w3 : World} {T E : TypeId} {v v' r : Value} {vs : List Value} {M : List (List Ver)} {row : List Ver} {o : Obj} (h : OwnVsV B w T v vs M) (hB : B <= w.heap.size) (hr : OwnR verE E w1 w.heap.size r row) (hb : Below w.heap.size w w1)
 (hv : OwnV w3 B T v' (vs ++ [r]))
 (hg : (w1.alloc o).grownBy w3 v.ownBlock) (hw : v'.ownBlock = v.ownBlock ∨ v'.ownBlock = some (w1.alloc o).heap.size) : OwnVsV B w3 T v' (vs ++ [r]) (M ++ [row]) := by
 obtain ⟨hvs, hlen, hall⟩ := h
 have hz := hb.size
 have hsz : (w1.alloc o).heap.size = w1.heap.size + 1 := by simp
 have hvb : ∀ k, v.ownBlock = some k -> k < w.heap.size := fun k hk => (hvs.block hk).2
 have hg1 : w1.grownBy w3 v.ownBlock := ⟨hg.os, hg.tape, hg.output, by have := hg.size; omega, fun k hk hne => (hg.block k (by omega) hne).trans (Below.heap_alloc w1 o k hk)⟩
 refine ⟨hv, by simp [hlen], fun i hi => ?_⟩
 rw [List.length_append, List.length_singleton] at hi
 by_cases hlt : i < M.length
 ·obtain ⟨q, c, h1, h2, h3, h4, h5⟩ := hall i hlt
  have e : (M ++ [row]).getD i [] = M.getD i [] := by rw [List.getD_eq_getElem?_getD, List.getD_eq_getElem?_getD, List.getElem?_append_left hlt]
  rw [e]
  refine ⟨q, c, by rw [List.getElem?_append_left (by omega)]; exact h1, rec_kept (h2.below hb) hg1 (fun b o hq => fun e => (h5 b o hq).2.2 e.symm), h3, h4, fun b o hq => ?_⟩
  have := h5 b o hq
  refine ⟨this.1, by have := hg1.size; omega, ?_⟩
  rcases hw with hw | hw
  ·rw [hw]; exact this.2.2
  ·rw [hw, hsz]; intro e; have := Option.some.inj e; omega
 ·obtain rfl : i = M.length := by omega
  have e : (M ++ [row]).getD M.length [] = row := by rw [List.getD_eq_getElem?_getD, List.getElem?_append_right (Nat.le_refl _), Nat.sub_self]; rfl
  rw [e]
  obtain ⟨q, c, h1, h2, h3, h4, h5⟩ := hr.form
  refine ⟨q, c, by rw [List.getElem?_append_right (by omega), hlen, Nat.sub_self, h1]; rfl, rec_kept h2 hg1 (fun b o hq => ?_), h3, h4, fun b o hq => ?_⟩
  ·have := h5 b o hq
   intro e
   have := hvb _ e.symm
   omega
  ·have := h5 b o hq
   refine ⟨by omega, by have := hg1.size; omega, ?_⟩
   rcases hw with hw | hw
   ·rw [hw]; intro e; have := hvb _ e; omega
   ·rw [hw, hsz]; intro e; have := Option.some.inj e; omega
theorem OwnVsV.vss {B : Nat} {w : World} {T : TypeId} {v : Value} {vs : List Value} {M : List (List Ver)} (h : OwnVsV B w T v vs M) : ∃ p c, v = .slice p M.length c /\ Vss w p M := by
 obtain ⟨hvs, hlen, hall⟩ := h
 rcases hvs.cells with ⟨rfl, rfl⟩ | ⟨g, cap, rfl, hB, hg, hcell⟩
 ·have : M = [] := List.length_eq_zero_iff.1 (by simpa using hlen.symm)
  subst this
  exact ⟨none, 0, rfl, Or.inl rfl⟩
 ·refine ⟨some ⟨g, 0, none⟩, cap, by rw [hlen], Or.inr ⟨g, 0, rfl, hg, fun i hi => ?_⟩⟩
  obtain ⟨q, c, h1, h2, h3, h4, _⟩ := hall i hi
  refine ⟨q, c, ?_, h2, h3, h4⟩
  rw [Nat.zero_add]
  exact hcell i _ h1
theorem versinfo : (Tryz.prog.info? 55).map (fun i => (i.zero, i.size, i.bytes)) = some (some (.slice none 0 0), 1, 24) := by kernel_rfl
end Go.Proofs.YtobmckfcipeanaaGreatDoor
