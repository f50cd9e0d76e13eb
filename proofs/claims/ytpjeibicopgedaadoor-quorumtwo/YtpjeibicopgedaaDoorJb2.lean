/- Texts laid together. -/
import Derived.Test.YtpjeibicopgedaaDoorJb1
import Derived.LaidEql
import Derived.Stop.Asserts
import Derived.RowKitTokens
import Derived.Shelf.LaysM
import Derived.Shelf.Strconv.Clone
import Derived.Shelf.GgClosure.StringsIndexFuncTop
import Derived.Laws.RangeAny
import Derived.BigQuiet
namespace Go.Proofs
open Go.Shelf
def Tryd.lays316_ren : Go.Shelf.Ren := ⟨fun | 316 => 33 | n => n, fun | 9 => 9 | 3 => 3 | 4 => 4 | 37 => 82 | 0 => 0 | 127 => 83 | 5 => 5 | n => n, fun | n => n⟩
theorem Tryd.lays316 : Go.Proofs.LaysM.n316 Tryd.prog Tryd.lays316_ren := {
  mixed := by kernel_rfl
  f316 := Tryd.func33.trans (congrArg some (by kernel_rfl))
  t0 := Tryd.underlying0
  a0 := Tryd.isAgg0
  z0 := Tryd.sizeOf0
  v0 := Tryd.zeroValue0
  t3 := Tryd.underlying3
  a3 := Tryd.isAgg3
  z3 := Tryd.sizeOf3
  v3 := Tryd.zeroValue3
  t4 := Tryd.underlying4
  a4 := Tryd.isAgg4
  z4 := Tryd.sizeOf4
  v4 := Tryd.zeroValue4
  t9 := Tryd.underlying9
  a9 := Tryd.isAgg9
  z9 := Tryd.sizeOf9
  v9 := Tryd.zeroValue9
  t37 := Tryd.underlying82
  a37 := Tryd.isAgg82
  z37 := Tryd.sizeOf82
  v37 := Tryd.zeroValue82
  t127 := Tryd.underlying83
  a127 := Tryd.isAgg83
  z127 := Tryd.sizeOf83
  v127 := Tryd.zeroValue83
  t5 := Tryd.underlying5
  a5 := Tryd.isAgg5
  z5 := Tryd.sizeOf5
  v5 := Tryd.zeroValue5
  i0 := by kernel_rfl
  i3 := by kernel_rfl
  i4 := by kernel_rfl
  i5 := by kernel_rfl
  i9 := by kernel_rfl
  i37 := by kernel_rfl
  i127 := by kernel_rfl }
open Go.RowKit in
/-- internal/stringslite.Clone. -/
theorem Tryd.stringslite_Clone (s : ByteArray) (w : World) (hlim : s.size ≤ 281474976710656) :
    Calls Tryd.prog 33 #[.string s] w fun e w' => e = .returned (.string s) ∧ Below w.heap.size w w' := Any.stringslite_Clone Tryd.lays316 s w hlim
def Tryd.laysGw17_ren : Go.Shelf.Ren := ⟨fun | 17 => 40 | 15 => 44 | 20 => 45 | n => n, fun | 9 => 9 | 23 => 81 | 4 => 4 | 3 => 3 | 0 => 0 | 21 => 21 | n => n, fun | n => n⟩
theorem Tryd.laysGw17 : Go.Proofs.LaysGw.n17 Tryd.prog Tryd.laysGw17_ren := {
  mixed := by kernel_rfl
  f15 := Tryd.func44.trans (congrArg some (by kernel_rfl))
  f17 := Tryd.func40.trans (congrArg some (by kernel_rfl))
  f20 := Tryd.func45.trans (congrArg some (by kernel_rfl))
  t0 := Tryd.underlying0
  a0 := Tryd.isAgg0
  z0 := Tryd.sizeOf0
  v0 := Tryd.zeroValue0
  i0 := by kernel_rfl
  t3 := Tryd.underlying3
  a3 := Tryd.isAgg3
  z3 := Tryd.sizeOf3
  v3 := Tryd.zeroValue3
  i3 := by kernel_rfl
  t4 := Tryd.underlying4
  a4 := Tryd.isAgg4
  z4 := Tryd.sizeOf4
  v4 := Tryd.zeroValue4
  i4 := by kernel_rfl
  t9 := Tryd.underlying9
  a9 := Tryd.isAgg9
  z9 := Tryd.sizeOf9
  v9 := Tryd.zeroValue9
  i9 := by kernel_rfl
  t21 := Tryd.underlying21
  a21 := Tryd.isAgg21
  z21 := Tryd.sizeOf21
  v21 := Tryd.zeroValue21
  i21 := by kernel_rfl
  t23 := Tryd.underlying81
  a23 := Tryd.isAgg81
  z23 := Tryd.sizeOf81
  v23 := Tryd.zeroValue81
  i23 := by kernel_rfl }
open Go.RowKit in
/-- strings.ContainsFunc. -/
theorem Tryd.strings_ContainsFunc (g : Nat) (lb : Array Value) (eg : ∀ args w, (callFunc g args).run Tryd.prog w = .ok (.enter g args) w) (p : Nat → Bool) (s : ByteArray) (w : World) (hp : PredAt Tryd.prog g lb encR p w) :
    Calls Tryd.prog 40 #[.string s, .func (.func g) #[] lb] w fun e w' => e = .returned (.bool (decide (0 ≤ Lib.idxFunc p true s))) ∧ Below w.heap.size w w' := Any.strings_ContainsFunc Tryd.laysGw17 g lb eg p s w hp
end Go.Proofs
namespace Go.Proofs.YtpjeibicopgedaaDoor
open Go.RowKit
/-- A configuration. -/
structure Cfg where
  n : Int
  k : Int
  L : List ByteArray
/-- What is wrong of a configuration: an error's number and place. -/
def cfgF (c : Cfg) : Int × Int := if 1 ≤ c.k ∧ c.k ≤ c.n ∧ c.n ≤ 12 then (if (c.L.length : Int) = c.n then nodesF c.L else (3, -1)) else (2, -1)
theorem cfgF_bound {c : Cfg} (h : ¬ (1 ≤ c.k ∧ c.k ≤ c.n ∧ c.n ≤ 12)) : cfgF c = (2, -1) := if_neg h
theorem cfgF_shape {c : Cfg} (h : 1 ≤ c.k ∧ c.k ≤ c.n ∧ c.n ≤ 12) (h2 : ¬ (c.L.length : Int) = c.n) : cfgF c = (3, -1) := by unfold cfgF; rw [if_pos h, if_neg h2]
theorem cfgF_nodes {c : Cfg} (h : 1 ≤ c.k ∧ c.k ≤ c.n ∧ c.n ≤ 12) (h2 : (c.L.length : Int) = c.n) : cfgF c = nodesF c.L := by unfold cfgF; rw [if_pos h, if_pos h2]
theorem cfgF_fine {c : Cfg} (h : ¬ 0 < (cfgF c).1) : (1 ≤ c.k ∧ c.k ≤ c.n ∧ c.n ≤ 12) ∧ (c.L.length : Int) = c.n ∧ cfgF c = (0, -1) ∧ (∀ x ∈ c.L, isN x = true) ∧ c.L.Nodup := by
  by_cases h1 : 1 ≤ c.k ∧ c.k ≤ c.n ∧ c.n ≤ 12
  · by_cases h2 : (c.L.length : Int) = c.n
    · rw [cfgF_nodes h1 h2] at h ⊢
      have h3 : (nodesF c.L).1 ≤ 0 := by omega
      exact ⟨h1, h2, (nodesF_zero h3).1, (nodesF_fine h3).1, (nodesF_fine h3).2⟩
    · rw [cfgF_shape h1 h2] at h
      exact absurd (by decide) h
  · rw [cfgF_bound h1] at h
    exact absurd (by decide) h
/-- How many are enough: N and K together, halved, up. -/
def enoughN (c : Cfg) : Nat := (c.n.toNat + c.k.toNat + 1) / 2
theorem enoughN_le {c : Cfg} (h : 1 ≤ c.k ∧ c.k ≤ c.n ∧ c.n ≤ 12) : (enoughN c : Int) ≤ c.n ∧ 1 ≤ enoughN c ∧ enoughN c ≤ 12 := by unfold enoughN; omega
/-- The first of a list that is no member, from place i on. -/
def awayAt (L : List ByteArray) : List ByteArray → Nat → Option Nat
  | [], _ => none
  | x :: l, i => if inL L x then awayAt L l (i + 1) else some i
/-- What is wrong of two lists: the first of a, then of b, that is no member. -/
def meetF (L a b : List ByteArray) : Int × Int := match awayAt L a 0 with | some i => (5, (i : Int)) | none => (match awayAt L b 0 with | some i => (5, (i : Int)) | none => (0, -1))
/-- Who is in both, in the order of members. -/
def meetL (L a b : List ByteArray) : List ByteArray := L.filter fun x => inL a x && inL b x
theorem awayAt_none {L : List ByteArray} : ∀ (l : List ByteArray) (i : Nat), (∀ x ∈ l, x ∈ L) → awayAt L l i = none
  | [], _, _ => rfl
  | x :: l, i, h => by
    unfold awayAt
    rw [if_pos (inL_iff.2 (h x (by simp)))]
    exact awayAt_none l (i + 1) (fun y hy => h y (by simp [hy]))
theorem meetF_fine {L a b : List ByteArray} (ha : ∀ x ∈ a, x ∈ L) (hb : ∀ x ∈ b, x ∈ L) : meetF L a b = (0, -1) := by
  unfold meetF
  rw [awayAt_none a 0 ha, awayAt_none b 0 hb]
theorem awayAt_first {L : List ByteArray} : ∀ (l : List ByteArray) (s i : Nat), i < l.length → (∀ j, j < i → txt l j ∈ L) → txt l i ∉ L → awayAt L l s = some (s + i)
  | x :: l, s, 0, _, _, hn => by
    unfold awayAt
    have e : inL L x = false := by
      cases h : inL L x with
      | false => rfl
      | true => exact absurd (inL_iff.1 h) hn
    rw [if_neg (by rw [e]; decide)]
    rfl
  | x :: l, s, i + 1, h, hall, hn => by
    unfold awayAt
    have hx : x ∈ L := hall 0 (by omega)
    rw [if_pos (inL_iff.2 hx), awayAt_first l (s + 1) i (by simpa using h) (fun j hj => hall (j + 1) (by omega)) hn]
    congr 1
    omega
/-- The first that is no member, among a and then b. -/
theorem meetF_a {L a b : List ByteArray} {i : Nat} (h : i < a.length) (hall : ∀ j, j < i → txt a j ∈ L) (hn : txt a i ∉ L) : meetF L a b = (5, (i : Int)) := by
  unfold meetF
  rw [awayAt_first a 0 i h hall hn, Nat.zero_add]
theorem meetF_b {L a b : List ByteArray} {i : Nat} (ha : ∀ x ∈ a, x ∈ L) (h : i < b.length) (hall : ∀ j, j < i → txt b j ∈ L) (hn : txt b i ∉ L) : meetF L a b = (5, (i : Int)) := by
  unfold meetF
  rw [awayAt_none a 0 ha, awayAt_first b 0 i h hall hn, Nat.zero_add]
theorem meetF_zero {L a b : List ByteArray} (h : ¬ 0 < (meetF L a b).1) : meetF L a b = (0, -1) := by
  unfold meetF at *
  cases h1 : awayAt L a 0 with
  | some i => rw [h1] at h; exact absurd (by show (0 : Int) < 5; decide) h
  | none =>
    rw [h1] at h
    simp only [] at h ⊢
    cases h2 : awayAt L b 0 with
    | some i => rw [h2] at h; exact absurd (by show (0 : Int) < 5; decide) h
    | none => rfl
theorem filter_takeM {L : List ByteArray} {P : ByteArray → Bool} {i : Nat} (h : i < L.length) : (L.take (i + 1)).filter P = (L.take i).filter P ++ (if P (txt L i) then [txt L i] else []) := by
  rw [List.take_add_one, List.filter_append, List.getElem?_eq_getElem h, txt_getElem L i h]
  congr 1
  show [L[i]].filter P = _
  rw [List.filter_cons]
  split <;> rfl
theorem filter_count {L : List ByteArray} {P Q : ByteArray → Bool} : (L.filter P).length + (L.filter Q).length ≤ (L.filter fun x => P x && Q x).length + L.length := by
  induction L with
  | nil => simp
  | cons x L ih =>
    simp only [List.filter_cons, List.length_cons]
    cases P x <;> cases Q x <;> simp <;> omega
/-- Unlike members: as many as of the members that are among them. -/
theorem filter_all {L a : List ByteArray} (hL : L.Nodup) (ha : a.Nodup) (hs : ∀ x ∈ a, x ∈ L) : (L.filter fun x => inL a x).length = a.length := by
  have h1 : (L.filter fun x => inL a x).Perm a := by
    rw [List.perm_ext_iff_of_nodup (hL.filter _) ha]
    intro x
    rw [List.mem_filter, inL_iff]
    exact ⟨fun h => h.2, fun h => ⟨hs x h, h⟩⟩
  exact h1.length_eq
/-- Two quorums have at least K in common. -/
theorem two_meet {c : Cfg} {a b : List ByteArray} (h : 1 ≤ c.k ∧ c.k ≤ c.n ∧ c.n ≤ 12) (hl : (c.L.length : Int) = c.n) (hL : c.L.Nodup) (ha : a.Nodup) (hb : b.Nodup) (hsa : ∀ x ∈ a, x ∈ c.L) (hsb : ∀ x ∈ b, x ∈ c.L) (hla : a.length = enoughN c) (hlb : b.length = enoughN c) :
    c.k ≤ ((meetL c.L a b).length : Int) := by
  have h1 := filter_count (L := c.L) (P := fun x => inL a x) (Q := fun x => inL b x)
  rw [filter_all hL ha hsa, filter_all hL hb hsb] at h1
  unfold meetL
  unfold enoughN at hla hlb
  omega
/-- A configuration as a value. -/
def cfgA (c : Cfg) (lv : Value) : Value := .agg #[.int .i64 c.n, .int .i64 c.k, lv]
/-- The five errors that a configuration and its members can have, in their variables. -/
structure ErrsQ (w : World) (ad : Nat → Addr) : Prop where
  c1 : w.cell? ⟨0, 0, none⟩ = some (.iface 101 (.pointer (some (ad 1))))
  c2 : w.cell? ⟨1, 0, none⟩ = some (.iface 101 (.pointer (some (ad 2))))
  c3 : w.cell? ⟨4, 0, none⟩ = some (.iface 101 (.pointer (some (ad 3))))
  c4 : w.cell? ⟨2, 0, none⟩ = some (.iface 101 (.pointer (some (ad 4))))
  c5 : w.cell? ⟨5, 0, none⟩ = some (.iface 101 (.pointer (some (ad 5))))
theorem ErrsQ.below {w w' : World} {ad : Nat → Addr} (h : ErrsQ w ad) (hb : Below w.heap.size w w') : ErrsQ w' ad where
  c1 := (hb.cell (lt_of_cellE h.c1)).trans h.c1
  c2 := (hb.cell (lt_of_cellE h.c2)).trans h.c2
  c3 := (hb.cell (lt_of_cellE h.c3)).trans h.c3
  c4 := (hb.cell (lt_of_cellE h.c4)).trans h.c4
  c5 := (hb.cell (lt_of_cellE h.c5)).trans h.c5
/-- Numbers that an int can be. -/
def CfgIn (c : Cfg) : Prop := (-9223372036854775808 ≤ c.n ∧ c.n ≤ 9223372036854775807) ∧ -9223372036854775808 ≤ c.k ∧ c.k ≤ 9223372036854775807
/-- A configuration of the call's, not too long. -/
structure CfgAt (w : World) (c : Cfg) (p : Option Addr) (cap : Nat) : Prop where
  strs : Strs w p c.L
  room : c.L.length ≤ cap
  empty : p = none → c.L = [] ∧ cap = 0
  len : c.L.length ≤ 1000
  size : ∀ x ∈ c.L, x.size ≤ 1000
  ints : CfgIn c
theorem CfgAt.below {w w' : World} {c : Cfg} {p : Option Addr} {cap : Nat} (h : CfgAt w c p cap) (hb : Below w.heap.size w w') : CfgAt w' c p cap := ⟨h.strs.below hb, h.room, h.empty, h.len, h.size, h.ints⟩
/-- A list of texts of the call's, not too long. -/
structure TxsAt (w : World) (l : List ByteArray) (p : Option Addr) (cap : Nat) : Prop where
  strs : Strs w p l
  room : l.length ≤ cap
  empty : p = none → l = [] ∧ cap = 0
  len : l.length ≤ 1000
  size : ∀ x ∈ l, x.size ≤ 1000
theorem TxsAt.below {w w' : World} {l : List ByteArray} {p : Option Addr} {cap : Nat} (h : TxsAt w l p cap) (hb : Below w.heap.size w w') : TxsAt w' l p cap := ⟨h.strs.below hb, h.room, h.empty, h.len, h.size⟩
/-- What Meet tells: an error's number and place. -/
def meetE (c : Cfg) (a b : List ByteArray) : Int × Int := if 0 < (cfgF c).1 then cfgF c else meetF c.L a b
def meetT (c : Cfg) (a b : List ByteArray) : List ByteArray := if 0 < (meetE c a b).1 then [] else meetL c.L a b
/-- X: what is asked of the world besides. -/
structure EnoughOk (ad : Nat → Addr) (X : World → Prop) : Prop where
  enough : ∀ (c : Cfg) (p : Option Addr) (cap : Nat) (w : World), CfgAt w c p cap → ErrsQ w ad → X w → Calls Tryd.prog 11 #[cfgA c (.slice p c.L.length cap)] w fun e w' => (∃ ev, e = .returned (.tuple #[.int .i64 ((if 0 < (cfgF c).1 then 0 else enoughN c : Nat) : Int), ev]) ∧ ErrIs w' ad ev (cfgF c).1 (cfgF c).2) ∧ Below w.heap.size w w'
theorem one_cfg : cfgF ⟨1, 1, [⟨#[97]⟩]⟩ = (0, -1) := by decide +kernel
theorem ErrIs.isNil {w : World} {ad : Nat → Addr} {ev : Value} {at_ : Int} (h : ErrIs w ad ev 0 at_) : ev = .nilIface := by
  rcases h with ⟨h, _⟩ | ⟨i, _, _, h, _⟩ | ⟨i, _, _, _, h, _⟩
  · exact h
  · omega
  · omega
section
open Go.ChangeShapes Go.WideShapes Go.RowKit
/-- The five, by name and text. -/
def L5 : List (String × List UInt8) := (Rows.quorumTwoRow.laid.drop 0).map fun x => (x.1, match x.2 with | .iface _ (.ptr (.agg [.lit (.string t)])) => t | _ => [])
theorem L5_laid : (L5.map fun x => (x.1, errD x.2)) = Rows.quorumTwoRow.laid.drop 0 := rfl
theorem laid5_split (W : World) : laidMetH Tryd.prog Rows.quorumTwoRow.laid W = laidMet Tryd.prog (Rows.quorumTwoRow.laid.take 0 ++ L5.map fun x => (x.1, errD x.2)) W := by kernel_rfl
theorem L5_named : (L5.all fun x => match Tryd.prog.globalNamed x.1 with | some g => (Tryd.prog.globals[g]?).map (·.type) == some 32 | none => false) = true := by kernel_rfl
theorem g5 : L5.map (fun x => Tryd.prog.globalNamed x.1) = [some 0, some 1, some 4, some 2, some 5] := by kernel_rfl
theorem errsQ_of_laid {W : World} (h : laidMetH Tryd.prog Rows.quorumTwoRow.laid W) : ∃ ad, ErrsQ W ad := by
  rw [laid5_split] at h
  obtain ⟨ps0, hl0, hnd0, hr0⟩ := h
  obtain ⟨pp, ps, rfl, hl⟩ := laid_peel _ _ _ hl0
  have hr := fun b off (hm : MemPlace.cell b off ∈ ps) => hr0 b off (List.mem_append_right _ hm)
  have hn : ∀ x ∈ L5, ∃ g, Tryd.prog.globalNamed x.1 = some g ∧ (Tryd.prog.globals[g]?).map (·.type) = some 32 := by
    intro x hx
    have := List.all_eq_true.1 L5_named x hx
    split at this
    · rename_i g hg
      exact ⟨g, hg, by simpa using this⟩
    · cases this
  have c57 : Tryd.prog.cellsOf 122 = 1 := by kernel_rfl
  have c9 : Tryd.prog.cellsOf 9 = 1 := by kernel_rfl
  obtain ⟨ad, h1, _⟩ := sents Tryd.underlying32 row_es Tryd.underlying101 Tryd.underlying122 rfl rfl Tryd.underlying9 c57 c9 L5 ps hl hn hr
  have cellg : ∀ i g, (L5.map (fun x => Tryd.prog.globalNamed x.1))[i]? = some (some g) → W.cell? ⟨g, 0, none⟩ = some (.iface 101 (.pointer (some (ad i)))) := by
    intro i g hx
    rw [List.getElem?_map] at hx
    obtain ⟨x, hx1, hx2⟩ := Option.map_eq_some_iff.1 hx
    simpa using World.var?_cell hx2 (h1 i x hx1).2 0
  rw [g5] at cellg
  exact ⟨fun i => match i with | 1 => ad 0 | 2 => ad 1 | 3 => ad 2 | 4 => ad 3 | _ => ad 4, cellg 0 _ rfl, cellg 1 _ rfl, cellg 2 _ rfl, cellg 3 _ rfl, cellg 4 _ rfl⟩
end
section
open Go.Extern.Stop Go.Stop Go.Extern

theorem isTypeOf (v : Value) (w : World) : (Extern.ReflectliteType.typeOf #[.iface 101 v]).run Tryd.prog w = .ok (.iface 85 (.agg #[.pointer (some ⟨13, 101, none⟩)])) w := by kernel_rfl
def cmpEntry : Array Value → Sem Value := Extern.ReflectliteType.method fun t => do Rtype.noPackHeld "Comparable" t; pure (.bool (← typeInfo t).comparable)
theorem isComparable (w : World) : (cmpEntry #[.agg #[.pointer (some ⟨13, 101, none⟩)]]).run Tryd.prog w = .ok (.bool true) w := by kernel_rfl
theorem isMethodComparable (v : Value) (w : World) : (Go.method 234 85 v "Comparable").run Tryd.prog w = .ok (70, v) w := by kernel_rfl
theorem isComp : (Tryd.prog.info? 101).map (·.comparable) = some true := by kernel_rfl
theorem isSize : (Tryd.prog.info? 122).map (·.size) = some 1 := by kernel_rfl
theorem noIsE (v : Value) (xT : TypeId) (w : World) : (Instr.typeAssert (.iface 101 v) xT 96 true).run Tryd.prog w = .ok (.tuple #[.nilIface, .bool false]) w := run_typeAssert_lacksB Tryd.underlying96 (by kernel_rfl) (by kernel_rfl) v xT w
theorem noAsE (v : Value) (xT : TypeId) (w : World) : (Instr.typeAssert (.iface 101 v) xT 89 true).run Tryd.prog w = .ok (.tuple #[.nilIface, .bool false]) w := run_typeAssert_lacksB Tryd.underlying89 (by kernel_rfl) (by kernel_rfl) v xT w
theorem noUnwrapE (v : Value) (xT : TypeId) (w : World) : (Instr.typeAssert (.iface 101 v) xT 92 true).run Tryd.prog w = .ok (.tuple #[.nilIface, .bool false]) w := run_typeAssert_lacksB Tryd.underlying92 (by kernel_rfl) (by kernel_rfl) v xT w
theorem noUnwrapsE (v : Value) (xT : TypeId) (w : World) : (Instr.typeAssert (.iface 101 v) xT 94 true).run Tryd.prog w = .ok (.tuple #[.nilIface, .bool false]) w := run_typeAssert_lacksB Tryd.underlying94 (by kernel_rfl) (by kernel_rfl) v xT w

set_option maxRecDepth 10000 in
/-- errors.Is(x, x), x a pointer to an errors.errorString. -/
theorem is_same (a : Addr) (w : World) :
    Calls Tryd.prog 30 #[.iface 101 (.pointer (some a)), .iface 101 (.pointer (some a))] w fun e w' => e = .returned (.bool true) ∧ w' = w := by
  obtain ⟨i, hi, hcmp⟩ := Option.map_eq_some_iff.1 isComp
  obtain ⟨j, hj, hjs⟩ := Option.map_eq_some_iff.1 isSize
  have h8 := @run_callFunc_extern Tryd.prog 38 _ Extern.ReflectliteType.typeOf Tryd.func38 (by kernel_rfl) (by kernel_rfl) (by kernel_rfl) (by kernel_rfl)
  have h32 := @run_callFunc_extern Tryd.prog 70 _ cmpEntry Tryd.func70 (by kernel_rfl) (by kernel_rfl) (by kernel_rfl) (by kernel_rfl)
  have tT := isTypeOf
  have cT := isComparable
  have mR := isMethodComparable
  have heq := run_eql_iface_ptr_same (P := Tryd.prog) w a Tryd.underlying32 Tryd.underlying101 hi hcmp hj
  go_enter Tryd.func30, Tryd.ntmps30
  go_wp2
  refine wp_loop_rounds 1 ?_
  rw [rounds_succ]
  go_wp2
  go_ret
  exact ⟨rfl, rfl⟩

set_option maxRecDepth 10000 in
/-- errors.Is(x, y), two different pointers to errors.errorString: neither has Is nor Unwrap: false. -/
theorem is_other (a b : Addr) (ca cb : Array Value) (ta tb : TypeId) (w : World) (hne : a ≠ b) (ha : w.heap[a.block]? = some (.cells ca ta (0, 0))) (hb : w.heap[b.block]? = some (.cells cb tb (0, 0))) :
    Calls Tryd.prog 30 #[.iface 101 (.pointer (some a)), .iface 101 (.pointer (some b))] w fun e w' => e = .returned (.bool false) ∧ w' = w := by
  obtain ⟨i, hi, hcmp⟩ := Option.map_eq_some_iff.1 isComp
  obtain ⟨j, hj, hjs⟩ := Option.map_eq_some_iff.1 isSize
  have h8 := @run_callFunc_extern Tryd.prog 38 _ Extern.ReflectliteType.typeOf Tryd.func38 (by kernel_rfl) (by kernel_rfl) (by kernel_rfl) (by kernel_rfl)
  have h32 := @run_callFunc_extern Tryd.prog 70 _ cmpEntry Tryd.func70 (by kernel_rfl) (by kernel_rfl) (by kernel_rfl) (by kernel_rfl)
  have tT := isTypeOf
  have cT := isComparable
  have mR := isMethodComparable
  have nE := noIsE
  have uE := noUnwrapE
  have vE := noUnwrapsE
  have heq := run_eql_iface_ptr_other (P := Tryd.prog) w Tryd.underlying32 Tryd.underlying101 hi hcmp hj (by rw [hjs]; decide) hne ha hb
  go_enter Tryd.func30, Tryd.ntmps30
  go_wp2
  refine wp_loop_rounds 1 ?_
  rw [rounds_succ]
  go_wp2
  go_ret
  exact ⟨rfl, rfl⟩

/-! Closed facts on the entries for internal/reflectlite that errors.As comes to. -/
theorem valueOfFF (t : Addr) (w : World) : (ReflectliteValue.unpack (.iface 63 (.pointer (some t)))).run Tryd.prog w
    = .ok (.agg #[.pointer (some ⟨13, 63, none⟩), .pointer (some ⟨w.heap.size, 0, none⟩), .int .u64 150]) (w.alloc (.cells #[.pointer (some t)] 63)) := by kernel_rfl
theorem typeFF (a : Addr) (w : World) : (ReflectliteValue.methodAny (ReflectliteValue.valueError "reflectlite.Value.Type" 0) (fun t _ _ _ => ReflectliteType.toType t) #[.agg #[.pointer (some ⟨13, 63, none⟩), .pointer (some a), .int .u64 150]]).run Tryd.prog w
    = .ok (.iface 85 (.agg #[.pointer (some ⟨13, 63, none⟩)])) w := by kernel_rfl
theorem methodKind (h : Value) (w : World) : (Go.method 234 85 (.agg #[h]) "Kind").run Tryd.prog w = .ok (60, h) w := by kernel_rfl
theorem kindFF (w : World) : ((ReflectliteType.abiMethod fun t => (fun a : Nat => Value.int IntKind.u8 (a : Int)) <$> Rtype.kind t) #[.pointer (some ⟨13, 63, none⟩)]).run Tryd.prog w = .ok (.int .u8 22) w := by kernel_rfl
theorem kindF (w : World) : ((ReflectliteType.abiMethod fun t => (fun a : Nat => Value.int IntKind.u8 (a : Int)) <$> Rtype.kind t) #[.pointer (some ⟨13, 56, none⟩)]).run Tryd.prog w = .ok (.int .u8 22) w := by kernel_rfl
theorem rlm (z : Sem Value) (f : TypeId → Addr → Nat → Nat → Sem Value) (v : Value) :
    ReflectliteValue.method z f #[v] = (do match ← ReflectliteValue.parts v with | none => z | some (t, a, fl) => f t a fl (fl % 32)) := rfl
theorem partsFF (a : Addr) (w : World) : (ReflectliteValue.parts (.agg #[.pointer (some ⟨13, 63, none⟩), .pointer (some a), .int .u64 150])).run Tryd.prog w = .ok (some (63, a, 150)) w := by kernel_rfl
theorem isNilFF (a p : Addr) (W : World) (ha : W.cell? a = some (.pointer (some p))) :
    (ReflectliteValue.method (ReflectliteValue.valueError "reflectlite.Value.IsNil" 0) ReflectliteValue.isNil #[.agg #[.pointer (some ⟨13, 63, none⟩), .pointer (some a), .int .u64 150]]).run Tryd.prog W = .ok (.bool false) W := by
  rw [rlm]
  simp only [Sem.run_bind, partsFF, Result.andThen]
  simp [ReflectliteValue.isNil, loadVar, isAgg, underlying, Tryd.underlying63, ha, Result.andThen]
theorem methodElem (h : Value) (w : World) : (Go.method 234 85 (.agg #[h]) "Elem").run Tryd.prog w = .ok (71, .agg #[h]) w := by kernel_rfl
theorem methodImplements (h : Value) (w : World) : (Go.method 234 85 (.agg #[h]) "Implements").run Tryd.prog w = .ok (72, .agg #[h]) w := by kernel_rfl
theorem methodAssignableTo (h : Value) (w : World) : (Go.method 234 85 (.agg #[h]) "AssignableTo").run Tryd.prog w = .ok (69, .agg #[h]) w := by kernel_rfl
theorem elemFF (w : World) : (ReflectliteType.method ReflectliteType.elem #[.agg #[.pointer (some ⟨13, 63, none⟩)]]).run Tryd.prog w = .ok (.iface 85 (.agg #[.pointer (some ⟨13, 56, none⟩)])) w := by kernel_rfl
theorem implementsF (w : World) : (ReflectliteType.relation "Implements" ReflectliteType.implements_ #[.agg #[.pointer (some ⟨13, 56, none⟩)], .iface 85 (.agg #[.pointer (some ⟨13, 32, none⟩)])]).run Tryd.prog w = .ok (.bool true) w := by kernel_rfl
theorem assignableE (w : World) : (ReflectliteType.relation "AssignableTo" ReflectliteType.assignableTo #[.agg #[.pointer (some ⟨13, 101, none⟩)], .iface 85 (.agg #[.pointer (some ⟨13, 56, none⟩)])]).run Tryd.prog w = .ok (.bool false) w := by kernel_rfl

set_option maxRecDepth 10000 in
set_option maxHeartbeats 4000000 in
/-- errors.As of an errors.errorString, the target a **api.Fault: false; nothing old is written. -/
theorem as_miss (e t : Addr) (w : World) (hg : w.cell? ⟨12, 0, none⟩ = some (.iface 85 (.agg #[.pointer (some ⟨13, 32, none⟩)]))) :
    Calls Tryd.prog 29 #[.iface 101 (.pointer (some e)), .iface 63 (.pointer (some t))] w fun ev w' => ev = .returned (.bool false) ∧ Below w.heap.size w w' := by
  have h6 := @run_callFunc_extern Tryd.prog 34 _ (fun args => ReflectliteValue.unpack (args.getD 0 (.tuple #[]))) Tryd.func34 (by kernel_rfl) (by kernel_rfl) (by kernel_rfl) (by kernel_rfl)
  have h7 := @run_callFunc_extern Tryd.prog 35 _ (ReflectliteValue.methodAny (ReflectliteValue.valueError "reflectlite.Value.Type" 0) (fun t _ _ _ => ReflectliteType.toType t)) Tryd.func35 (by kernel_rfl) (by kernel_rfl) (by kernel_rfl) (by kernel_rfl)
  have h8 := @run_callFunc_extern Tryd.prog 36 _ (ReflectliteValue.method (ReflectliteValue.valueError "reflectlite.Value.IsNil" 0) ReflectliteValue.isNil) Tryd.func36 (by kernel_rfl) (by kernel_rfl) (by kernel_rfl) (by kernel_rfl)
  have h27 := @run_callFunc_extern Tryd.prog 60 _ (ReflectliteType.abiMethod fun t => do pure (.int .u8 (← Rtype.kind t))) Tryd.func60 (by kernel_rfl) (by kernel_rfl) (by kernel_rfl) (by kernel_rfl)
  have h37 := @run_callFunc_extern Tryd.prog 71 _ (ReflectliteType.method ReflectliteType.elem) Tryd.func71 (by kernel_rfl) (by kernel_rfl) (by kernel_rfl) (by kernel_rfl)
  have h38 := @run_callFunc_extern Tryd.prog 72 _ (ReflectliteType.relation "Implements" ReflectliteType.implements_) Tryd.func72 (by kernel_rfl) (by kernel_rfl) (by kernel_rfl) (by kernel_rfl)
  have h10 := @run_callFunc_extern Tryd.prog 38 _ ReflectliteType.typeOf Tryd.func38 (by kernel_rfl) (by kernel_rfl) (by kernel_rfl) (by kernel_rfl)
  have h35 := @run_callFunc_extern Tryd.prog 69 _ (ReflectliteType.relation "AssignableTo" ReflectliteType.assignableTo) Tryd.func69 (by kernel_rfl) (by kernel_rfl) (by kernel_rfl) (by kernel_rfl)
  have tO := isTypeOf
  have mA := methodAssignableTo
  have aE := assignableE
  have f6 := valueOfFF
  have f7 := typeFF
  have mK := methodKind
  have mE := methodElem
  have mI := methodImplements
  have kFF := kindFF
  have kF := kindF
  have eFF := elemFF
  have iF := implementsF
  have xA := noAsE
  have xU := noUnwrapE
  have xV := noUnwrapsE
  have n8 := isNilFF ⟨w.heap.size, 0, none⟩ t ((w.alloc (.cells #[.pointer (some t)] 63)).alloc (.cells #[.pointer (some ⟨13, 63, none⟩), .pointer (some ⟨w.heap.size, 0, none⟩), .int .u64 150] 69)) (by simp)
  have hlt : 12 < w.heap.size := by
    rcases Nat.lt_or_ge 12 w.heap.size with h | h
    · exact h
    · simp [World.cell?, Array.getElem?_eq_none h] at hg
  have hg2 : ((w.alloc (.cells #[.pointer (some t)] 63)).alloc (.cells #[.pointer (some ⟨13, 63, none⟩), .pointer (some ⟨w.heap.size, 0, none⟩), .int .u64 150] 69)).cell? ⟨12, 0, none⟩ = some (.iface 85 (.agg #[.pointer (some ⟨13, 32, none⟩)])) := by
    rw [World.cell?_alloc_lt _ _ ⟨12, 0, none⟩ (by simp; omega), World.cell?_alloc_lt _ _ ⟨12, 0, none⟩ hlt]; exact hg
  go_enter Tryd.func29, Tryd.ntmps29
  go_wp2
  refine wp_loop_rounds 1 ?_
  rw [rounds_succ]
  go_wp2
  go_ret
  exact ⟨rfl, (((Below.refl _ _).alloc (Nat.le_refl _) _).alloc (by simp) _).alloc (by simp; omega) _⟩
end
set_option maxRecDepth 10000 in
set_option maxHeartbeats 1000000 in
theorem sign_any (r : Nat) (W : World) : Calls Tryd.prog 41 #[.int .i32 (r : Int)] W fun e w' => e = .returned (.bool (!letterB r)) ∧ w' = W := by
  have key : ∀ b, letterB r = b → Hid ((!letterB r) = (!b)) := fun b h => by show _ = _; rw [h]
  rcases (show (97 ≤ r ∧ r ≤ 122) ∨ (48 ≤ r ∧ r ≤ 57) ∨ r = 45 ∨ 122 < r ∨ (57 < r ∧ r < 97) ∨ (r < 48 ∧ r ≠ 45) by omega) with hc | hc | hc | hc | hc | hc
  · have HL := key true (by simp [letterB, hc])
    obtain ⟨hc1, hc2⟩ := hc
    have d1 : decide ((r : Int) < 97) = false := decide_eq_false (by omega)
    have d2 : decide (122 < (r : Int)) = false := decide_eq_false (by omega)
    rw [HL.out]
    clear key
    go_enter Tryd.func41, Tryd.ntmps41
    go_wp2
    go_ret
    exact ⟨rfl, rfl⟩
  · have HL := key true (by simp [letterB, hc])
    obtain ⟨hc1, hc2⟩ := hc
    have d1 : decide ((r : Int) < 97) = true := decide_eq_true (by omega)
    have d3 : decide ((r : Int) < 48) = false := decide_eq_false (by omega)
    have d4 : decide (57 < (r : Int)) = false := decide_eq_false (by omega)
    rw [HL.out]
    clear key
    go_enter Tryd.func41, Tryd.ntmps41
    go_wp2
    go_ret
    exact ⟨rfl, rfl⟩
  · have HL := key true (by simp [letterB, hc])
    subst hc
    rw [HL.out]
    clear key
    go_enter Tryd.func41, Tryd.ntmps41
    go_wp2
    go_ret
    exact ⟨rfl, rfl⟩
  · have HL := key false (by unfold letterB; rw [decide_eq_false (by omega), decide_eq_false (by omega), decide_eq_false (by omega)]; rfl)
    have d1 : decide ((r : Int) < 97) = false := decide_eq_false (by omega)
    have d2 : decide (122 < (r : Int)) = true := decide_eq_true (by omega)
    have d3 : decide ((r : Int) < 48) = false := decide_eq_false (by omega)
    have d4 : decide (57 < (r : Int)) = true := decide_eq_true (by omega)
    have d5 : ((r : Int) != 45) = true := by rw [bne_iff_ne]; omega
    have d6 : ((r : Int) == 45) = false := by rw [beq_eq_false_iff_ne]; omega
    rw [HL.out]
    clear key
    go_enter Tryd.func41, Tryd.ntmps41
    go_wp2
    go_ret
    exact ⟨rfl, rfl⟩
  · have HL := key false (by unfold letterB; rw [decide_eq_false (by omega), decide_eq_false (by omega), decide_eq_false (by omega)]; rfl)
    obtain ⟨hc1, hc2⟩ := hc
    have d1 : decide ((r : Int) < 97) = true := decide_eq_true (by omega)
    have d3 : decide ((r : Int) < 48) = false := decide_eq_false (by omega)
    have d4 : decide (57 < (r : Int)) = true := decide_eq_true (by omega)
    have d5 : ((r : Int) != 45) = true := by rw [bne_iff_ne]; omega
    have d6 : ((r : Int) == 45) = false := by rw [beq_eq_false_iff_ne]; omega
    rw [HL.out]
    clear key
    go_enter Tryd.func41, Tryd.ntmps41
    go_wp2
    go_ret
    exact ⟨rfl, rfl⟩
  · have HL := key false (by unfold letterB; rw [decide_eq_false (by omega), decide_eq_false (by omega), decide_eq_false (by omega)]; rfl)
    obtain ⟨hc1, hc2⟩ := hc
    have d1 : decide ((r : Int) < 97) = true := decide_eq_true (by omega)
    have d3 : decide ((r : Int) < 48) = true := decide_eq_true (by omega)
    have d5 : ((r : Int) != 45) = true := by rw [bne_iff_ne]; omega
    have d6 : ((r : Int) == 45) = false := by rw [beq_eq_false_iff_ne]; omega
    rw [HL.out]
    clear key
    go_enter Tryd.func41, Tryd.ntmps41
    go_wp2
    go_ret
    exact ⟨rfl, rfl⟩
/-- From place i on: a sign that no name has is found just where there is such a byte. -/
theorem idxFrom (s : ByteArray) : ∀ (f i : Nat), s.size ≤ i + f → (decide (0 ≤ Lib.idxFuncFrom (fun r => !letterB r) true s f i) = true ↔ ∃ j, i ≤ j ∧ j < s.size ∧ letterB (Gf.nth (bytesOf s) j) = false)
  | 0, i, h => by
    constructor
    · intro h1
      have h2 : decide ((0 : Int) ≤ -1) = true := h1
      cases h2
    · rintro ⟨j, h1, h2, _⟩
      omega
  | f + 1, i, h => by
    show decide (0 ≤ (if i < s.size then (if (!letterB (Utf8.decode s i).1) = true then (i : Int) else Lib.idxFuncFrom (fun r => !letterB r) true s f (i + (Utf8.decode s i).2)) else -1)) = true ↔ _
    by_cases hi : i < s.size
    · rw [if_pos hi]
      by_cases ha : (s[i]'hi).toNat < 128
      · rw [decode_ascii s i hi ha, ← bytesOf_nth s i hi]
        have ih := idxFrom s f (i + 1) (by omega)
        cases hl : letterB (Gf.nth (bytesOf s) i) with
        | false =>
          rw [if_pos (by rfl)]
          exact ⟨fun _ => ⟨i, Nat.le_refl _, hi, hl⟩, fun _ => decide_eq_true (by omega)⟩
        | true =>
          rw [if_neg (by simp), ih]
          constructor
          · rintro ⟨j, h1, h2, h3⟩
            exact ⟨j, by omega, h2, h3⟩
          · rintro ⟨j, h1, h2, h3⟩
            refine ⟨j, ?_, h2, h3⟩
            by_cases e : j = i
            · rw [e, hl] at h3; cases h3
            · omega
      · have h1 := (decode_high s i hi (by omega)).1
        have hl : letterB (Utf8.decode s i).1 = false := by
          unfold letterB
          rw [decide_eq_false (by omega), decide_eq_false (by omega), decide_eq_false (by omega)]
          rfl
        have hl2 : letterB (Gf.nth (bytesOf s) i) = false := by
          rw [bytesOf_nth s i hi]
          unfold letterB
          rw [decide_eq_false (by omega), decide_eq_false (by omega), decide_eq_false (by omega)]
          rfl
        rw [hl, if_pos (by rfl)]
        exact ⟨fun _ => ⟨i, Nat.le_refl _, hi, hl2⟩, fun _ => decide_eq_true (by omega)⟩
    · rw [if_neg hi]
      constructor
      · intro h1
        cases h1
      · rintro ⟨j, h1, h2, _⟩
        omega
theorem idxOf (s : ByteArray) : decide (0 ≤ Lib.idxFunc (fun r => !letterB r) true s) = !((bytesOf s).all letterB) := by
  have h := idxFrom s s.size 0 (by omega)
  cases ha : (bytesOf s).all letterB with
  | true =>
    rw [show (!true) = false from rfl, Bool.eq_false_iff]
    intro h1
    obtain ⟨j, _, hj, h3⟩ := h.1 h1
    have hj' : j < (bytesOf s).length := by rw [bytesOf_length]; exact hj
    rw [List.all_eq_true] at ha
    have := ha (Gf.nth (bytesOf s) j) (by rw [Gf.nth_getElem _ j hj']; exact List.getElem_mem hj')
    rw [h3] at this
    cases this
  | false =>
    obtain ⟨x, hx, hne⟩ := List.all_eq_false.1 ha
    obtain ⟨j, hj, rfl⟩ := List.getElem_of_mem hx
    refine h.2 ⟨j, Nat.zero_le _, by rw [bytesOf_length] at hj; exact hj, ?_⟩
    rw [Gf.nth_getElem _ j hj]
    exact Bool.eq_false_iff.2 hne
set_option maxRecDepth 10000 in
set_option maxHeartbeats 1000000 in
theorem pname_any (s : ByteArray) (w : World) : Calls Tryd.prog 31 #[.string s] w fun e w' => e = .returned (.bool (isN s)) ∧ Below w.heap.size w w' := by
  by_cases h1 : s.size < 1
  · have HE : Hid (isN s = false) := isN_len (by omega)
    have d1 : decide (1 ≤ (s.size : Int)) = false := decide_eq_false (by omega)
    rw [HE.out]
    go_enter Tryd.func31, Tryd.ntmps31
    go_wp2
    go_ret
    exact ⟨rfl, Below.refl _ _⟩
  have d1 : decide (1 ≤ (s.size : Int)) = true := decide_eq_true (by omega)
  by_cases h2 : 16 < s.size
  · have HE : Hid (isN s = false) := isN_len (by omega)
    have d2 : decide ((s.size : Int) ≤ 16) = false := decide_eq_false (by omega)
    rw [HE.out]
    go_enter Tryd.func31, Tryd.ntmps31
    go_wp2
    go_ret
    exact ⟨rfl, Below.refl _ _⟩
  have d2 : decide ((s.size : Int) ≤ 16) = true := decide_eq_true (by omega)
  have HC := Tryd.strings_ContainsFunc 41 #[] (enters_of Tryd.func41 (by kernel_rfl) rfl) (fun r => !letterB r) s w (fun W r _ => by
    unfold FnGives
    exact (sign_any r W).mono fun _ _ ⟨he, hw⟩ => ⟨he, 0, hw⟩)
  rw [idxOf] at HC
  have HE : Hid (isN s = (bytesOf s).all letterB) := by show _ = _; unfold isN; rw [decide_eq_true ⟨by omega, by omega⟩, Bool.true_and]
  rw [HE.out]
  generalize (bytesOf s).all letterB = r at *
  clear HE
  go_enter Tryd.func31, Tryd.ntmps31
  go_wp2_with fail
  refine HC.mono ?_
  rintro e w1 ⟨rfl, hb1⟩
  clear HC
  cases r with
  | true =>
    go_wp2
    go_ret
    exact ⟨rfl, hb1⟩
  | false =>
    go_wp2
    go_ret
    exact ⟨rfl, hb1⟩
set_option maxRecDepth 10000 in
set_option maxHeartbeats 1000000 in
theorem sindex_miss (p : Option Addr) (l : List ByteArray) (c : Nat) (s : ByteArray) (w : World) (hl : l.length ≤ 1000000) (hs : Strs w p l) (h : s ∉ l) :
    Calls Tryd.prog 32 #[.slice p l.length c, .string s] w fun e w' => e = .returned (.int .i64 (-1)) ∧ w' = w := by
  have HH : Hid (s ∉ l) := h
  clear h
  go_enter Tryd.func32, Tryd.ntmps32
  go_wp2
  go_loop [8] (fun x => ∃ i : Nat, i ≤ l.length ∧ x = .int .i64 i) (fun x => l.length - (intOf x).toNat)
  case atStart => exact ⟨0, Nat.zero_le _, rfl⟩
  case round =>
    obtain ⟨i, hi, rfl⟩ := hrel
    by_cases hil : i < l.length
    · rcases hs with h0 | ⟨b, o, rfl, hlt, hc⟩
      · rw [h0] at hil; exact absurd hil (Nat.not_lt_zero _)
      have q1 := hc i hil
      have hne : txt l i ≠ s := fun e => HH.out (e ▸ txt_mem hil)
      have h1 := toList_ne (Ne.symm hne)
      have h2 := toList_beq (Ne.symm hne)
      have h3 := bytes_beq (Ne.symm hne)
      clear hne hc
      generalize txt l i = t at *
      go_wp2
      go_round
      case rel => exact ⟨i + 1, by omega, by go_num⟩
      case measure => simp [intOf]; omega
    · go_wp2
      go_ret
      exact ⟨rfl, rfl⟩
set_option maxRecDepth 10000 in
set_option maxHeartbeats 1000000 in
theorem sindex_hit (p : Option Addr) (l : List ByteArray) (c : Nat) (s : ByteArray) (w : World) (hl : l.length ≤ 1000000) (hs : Strs w p l) (h : s ∈ l) :
    Calls Tryd.prog 32 #[.slice p l.length c, .string s] w fun e w' => e = .returned (.int .i64 ((idxN l s : Nat) : Int)) ∧ w' = w := by
  have HH : Hid (s ∈ l) := h
  clear h
  go_enter Tryd.func32, Tryd.ntmps32
  go_wp2
  go_loop [8] (fun x => ∃ i : Nat, i ≤ l.length ∧ x = .int .i64 i ∧ ∀ j, j < i → txt l j ≠ s) (fun x => l.length - (intOf x).toNat)
  case atStart => exact ⟨0, Nat.zero_le _, rfl, fun j hj => absurd hj (Nat.not_lt_zero _)⟩
  case round =>
    obtain ⟨i, hi, rfl, hall⟩ := hrel
    have HALL : Hid (∀ j, j < i → txt l j ≠ s) := hall
    clear hall
    have hil : i < l.length := by
      rcases Nat.lt_or_ge i l.length with h | h
      · exact h
      · obtain ⟨j, hj, e⟩ := txt_of_mem HH.out
        exact absurd e (HALL.out j (by omega))
    rcases hs with h0 | ⟨b, o, rfl, hlt, hc⟩
    · rw [h0] at hil; exact absurd hil (Nat.not_lt_zero _)
    have q1 := hc i hil
    have HE : Hid (txt l i = txt l i) := by show _ = _; rfl
    clear hc
    by_cases hne : txt l i = s
    · have HI : Hid (idxN l s = i) := idxN_eq hil hne HALL.out
      rw [hne] at q1
      clear hne HE
      go_wp2
      go_ret
      exact ⟨by rw [HI.out]; rfl, rfl⟩
    · have HN : Hid (txt l i ≠ s) := hne
      have h1 := toList_ne (Ne.symm hne)
      have h2 := toList_beq (Ne.symm hne)
      have h3 := bytes_beq (Ne.symm hne)
      clear hne HE
      generalize htt : txt l i = t at *
      have HT : Hid (txt l i = t) := htt
      clear htt
      go_wp2
      go_round
      case rel => exact ⟨i + 1, by omega, by go_num, fun j hj => by
        rcases Nat.lt_or_ge j i with h | h
        · exact HALL.out j h
        · obtain rfl : j = i := by omega
          rw [HT.out]; exact HN.out⟩
      case measure => simp [intOf]; omega
set_option maxRecDepth 10000 in
theorem scont_any (p : Option Addr) (l : List ByteArray) (c : Nat) (s : ByteArray) (w : World) (hl : l.length ≤ 1000000) (hs : Strs w p l) :
    Calls Tryd.prog 24 #[.slice p l.length c, .string s] w fun e w' => e = .returned (.bool (inL l s)) ∧ w' = w := by
  by_cases h : s ∈ l
  · have HE : Hid (inL l s = true) := inL_iff.2 h
    have HI := sindex_hit p l c s w hl hs h
    rw [HE.out]
    clear h hs
    generalize idxN l s = k at *
    go_enter Tryd.func24, Tryd.ntmps24
    go_wp2_with fail
    refine HI.mono ?_
    rintro e w1 ⟨rfl, hw1⟩
    rw [hw1]
    clear hw1 w1 HI
    go_wp2
    go_ret
    exact ⟨rfl, rfl⟩
  · have HE : Hid (inL l s = false) := Bool.eq_false_iff.2 fun h2 => h (inL_iff.1 h2)
    have HI := sindex_miss p l c s w hl hs h
    rw [HE.out]
    clear h hs
    go_enter Tryd.func24, Tryd.ntmps24
    go_wp2_with fail
    refine HI.mono ?_
    rintro e w1 ⟨rfl, hw1⟩
    rw [hw1]
    clear hw1 w1 HI
    go_wp2
    go_ret
    exact ⟨rfl, rfl⟩
end Go.Proofs.YtpjeibicopgedaaDoor
