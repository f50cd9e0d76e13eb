/- Texts laid together. -/
import Derived.Test.YtpjeibicopgedaaDoorJa2
import Derived.OpenShut
import Derived.ChangeOld
import Derived.Deep.SlicePairs
import Derived.Deep.Strs
import Derived.Lib.SmallJoins
import Derived.Deep.Heap
import Derived.Deep.OwnRows
namespace Go.Proofs.YtpjeibicopgedaaDoor
open Go.RowKit
/-- A configuration. -/
structure Cfg where
  n : Int
  k : Int
  L : List ByteArray
/-- What is wrong of a configuration: an error's number and place. -/
def cfgF (c : Cfg) : Int × Int := if 1 ≤ c.k ∧ c.k ≤ c.n ∧ c.n ≤ 12 then (if (c.L.length : Int) = c.n then nodesF c.L else (3, -1)) else (2, -1)
theorem cfgF_bound {c : Cfg} (h : ¬ (1 ≤ c.k ∧ c.k ≤ c.n ∧ c.n ≤ 12)) : cfgF c = (2, -1) := if_neg h
theorem cfgF_shape {c : Cfg} (h : 1 ≤ c.k ∧ c.k ≤ c.n ∧ c.n ≤ 12) (h2 : ¬ (c.L.length : Int) = c.n) : cfgF c = (3, -1) := by unfold cfgF; rw [if_pos h, if_neg h2]
theorem cfgF_nodes {c : Cfg} (h : 1 ≤ c.k ∧ c.k ≤ c.n ∧ c.n ≤ 12) (h2 : (c.L.length : Int) = c.n) : cfgF c = nodesF c.L := by unfold cfgF; rw [if_pos h, if_pos h2]
theorem cfgF_fine {c : Cfg} (h : ¬ 0 < (cfgF c).1) : (1 ≤ c.k ∧ c.k ≤ c.n ∧ c.n ≤ 12) ∧ (c.L.length : Int) = c.n ∧ cfgF c = (0, -1) ∧ (∀ x ∈ c.L, isN x = true) ∧ c.L.Nodup := by
  by_cases h1 : 1 ≤ c.k ∧ c.k ≤ c.n ∧ c.n ≤ 12
  · by_cases h2 : (c.L.length : Int) = c.n
    · rw [cfgF_nodes h1 h2] at h ⊢
      have h3 : (nodesF c.L).1 ≤ 0 := by omega
      exact ⟨h1, h2, (nodesF_zero h3).1, (nodesF_fine h3).1, (nodesF_fine h3).2⟩
    · rw [cfgF_shape h1 h2] at h
      exact absurd (by decide) h
  · rw [cfgF_bound h1] at h
    exact absurd (by decide) h
/-- How many are enough: N and K together, halved, up. -/
def enoughN (c : Cfg) : Nat := (c.n.toNat + c.k.toNat + 1) / 2
theorem enoughN_le {c : Cfg} (h : 1 ≤ c.k ∧ c.k ≤ c.n ∧ c.n ≤ 12) : (enoughN c : Int) ≤ c.n ∧ 1 ≤ enoughN c ∧ enoughN c ≤ 12 := by unfold enoughN; omega
/-- The first of a list that is no member, from place i on. -/
def awayAt (L : List ByteArray) : List ByteArray → Nat → Option Nat
  | [], _ => none
  | x :: l, i => if inL L x then awayAt L l (i + 1) else some i
/-- What is wrong of two lists: the first of a, then of b, that is no member. -/
def meetF (L a b : List ByteArray) : Int × Int := match awayAt L a 0 with | some i => (5, (i : Int)) | none => (match awayAt L b 0 with | some i => (5, (i : Int)) | none => (0, -1))
/-- Who is in both, in the order of members. -/
def meetL (L a b : List ByteArray) : List ByteArray := L.filter fun x => inL a x && inL b x
theorem awayAt_none {L : List ByteArray} : ∀ (l : List ByteArray) (i : Nat), (∀ x ∈ l, x ∈ L) → awayAt L l i = none
  | [], _, _ => rfl
  | x :: l, i, h => by
    unfold awayAt
    rw [if_pos (inL_iff.2 (h x (by simp)))]
    exact awayAt_none l (i + 1) (fun y hy => h y (by simp [hy]))
theorem meetF_fine {L a b : List ByteArray} (ha : ∀ x ∈ a, x ∈ L) (hb : ∀ x ∈ b, x ∈ L) : meetF L a b = (0, -1) := by
  unfold meetF
  rw [awayAt_none a 0 ha, awayAt_none b 0 hb]
theorem awayAt_first {L : List ByteArray} : ∀ (l : List ByteArray) (s i : Nat), i < l.length → (∀ j, j < i → txt l j ∈ L) → txt l i ∉ L → awayAt L l s = some (s + i)
  | x :: l, s, 0, _, _, hn => by
    unfold awayAt
    have e : inL L x = false := by
      cases h : inL L x with
      | false => rfl
      | true => exact absurd (inL_iff.1 h) hn
    rw [if_neg (by rw [e]; decide)]
    rfl
  | x :: l, s, i + 1, h, hall, hn => by
    unfold awayAt
    have hx : x ∈ L := hall 0 (by omega)
    rw [if_pos (inL_iff.2 hx), awayAt_first l (s + 1) i (by simpa using h) (fun j hj => hall (j + 1) (by omega)) hn]
    congr 1
    omega
/-- The first that is no member, among a and then b. -/
theorem meetF_a {L a b : List ByteArray} {i : Nat} (h : i < a.length) (hall : ∀ j, j < i → txt a j ∈ L) (hn : txt a i ∉ L) : meetF L a b = (5, (i : Int)) := by
  unfold meetF
  rw [awayAt_first a 0 i h hall hn, Nat.zero_add]
theorem meetF_b {L a b : List ByteArray} {i : Nat} (ha : ∀ x ∈ a, x ∈ L) (h : i < b.length) (hall : ∀ j, j < i → txt b j ∈ L) (hn : txt b i ∉ L) : meetF L a b = (5, (i : Int)) := by
  unfold meetF
  rw [awayAt_none a 0 ha, awayAt_first b 0 i h hall hn, Nat.zero_add]
theorem meetF_zero {L a b : List ByteArray} (h : ¬ 0 < (meetF L a b).1) : meetF L a b = (0, -1) := by
  unfold meetF at *
  cases h1 : awayAt L a 0 with
  | some i => rw [h1] at h; exact absurd (by show (0 : Int) < 5; decide) h
  | none =>
    rw [h1] at h
    simp only [] at h ⊢
    cases h2 : awayAt L b 0 with
    | some i => rw [h2] at h; exact absurd (by show (0 : Int) < 5; decide) h
    | none => rfl
theorem filter_takeM {L : List ByteArray} {P : ByteArray → Bool} {i : Nat} (h : i < L.length) : (L.take (i + 1)).filter P = (L.take i).filter P ++ (if P (txt L i) then [txt L i] else []) := by
  rw [List.take_add_one, List.filter_append, List.getElem?_eq_getElem h, txt_getElem L i h]
  congr 1
  show [L[i]].filter P = _
  rw [List.filter_cons]
  split <;> rfl
theorem filter_count {L : List ByteArray} {P Q : ByteArray → Bool} : (L.filter P).length + (L.filter Q).length ≤ (L.filter fun x => P x && Q x).length + L.length := by
  induction L with
  | nil => simp
  | cons x L ih =>
    simp only [List.filter_cons, List.length_cons]
    cases P x <;> cases Q x <;> simp <;> omega
/-- Unlike members: as many as of the members that are among them. -/
theorem filter_all {L a : List ByteArray} (hL : L.Nodup) (ha : a.Nodup) (hs : ∀ x ∈ a, x ∈ L) : (L.filter fun x => inL a x).length = a.length := by
  have h1 : (L.filter fun x => inL a x).Perm a := by
    rw [List.perm_ext_iff_of_nodup (hL.filter _) ha]
    intro x
    rw [List.mem_filter, inL_iff]
    exact ⟨fun h => h.2, fun h => ⟨hs x h, h⟩⟩
  exact h1.length_eq
/-- Two quorums have at least K in common. -/
theorem two_meet {c : Cfg} {a b : List ByteArray} (h : 1 ≤ c.k ∧ c.k ≤ c.n ∧ c.n ≤ 12) (hl : (c.L.length : Int) = c.n) (hL : c.L.Nodup) (ha : a.Nodup) (hb : b.Nodup) (hsa : ∀ x ∈ a, x ∈ c.L) (hsb : ∀ x ∈ b, x ∈ c.L) (hla : a.length = enoughN c) (hlb : b.length = enoughN c) :
    c.k ≤ ((meetL c.L a b).length : Int) := by
  have h1 := filter_count (L := c.L) (P := fun x => inL a x) (Q := fun x => inL b x)
  rw [filter_all hL ha hsa, filter_all hL hb hsb] at h1
  unfold meetL
  unfold enoughN at hla hlb
  omega
/-- A configuration as a value. -/
def cfgA (c : Cfg) (lv : Value) : Value := .agg #[.int .i64 c.n, .int .i64 c.k, lv]
/-- The five errors that a configuration and its members can have, in their variables. -/
structure ErrsQ (w : World) (ad : Nat → Addr) : Prop where
  c1 : w.cell? ⟨0, 0, none⟩ = some (.iface 101 (.pointer (some (ad 1))))
  c2 : w.cell? ⟨1, 0, none⟩ = some (.iface 101 (.pointer (some (ad 2))))
  c3 : w.cell? ⟨4, 0, none⟩ = some (.iface 101 (.pointer (some (ad 3))))
  c4 : w.cell? ⟨2, 0, none⟩ = some (.iface 101 (.pointer (some (ad 4))))
  c5 : w.cell? ⟨5, 0, none⟩ = some (.iface 101 (.pointer (some (ad 5))))
theorem ErrsQ.below {w w' : World} {ad : Nat → Addr} (h : ErrsQ w ad) (hb : Below w.heap.size w w') : ErrsQ w' ad where
  c1 := (hb.cell (lt_of_cellE h.c1)).trans h.c1
  c2 := (hb.cell (lt_of_cellE h.c2)).trans h.c2
  c3 := (hb.cell (lt_of_cellE h.c3)).trans h.c3
  c4 := (hb.cell (lt_of_cellE h.c4)).trans h.c4
  c5 := (hb.cell (lt_of_cellE h.c5)).trans h.c5
/-- Numbers that an int can be. -/
def CfgIn (c : Cfg) : Prop := (-9223372036854775808 ≤ c.n ∧ c.n ≤ 9223372036854775807) ∧ -9223372036854775808 ≤ c.k ∧ c.k ≤ 9223372036854775807
/-- A configuration of the call's, not too long. -/
structure CfgAt (w : World) (c : Cfg) (p : Option Addr) (cap : Nat) : Prop where
  strs : Strs w p c.L
  room : c.L.length ≤ cap
  empty : p = none → c.L = [] ∧ cap = 0
  len : c.L.length ≤ 1000
  size : ∀ x ∈ c.L, x.size ≤ 1000
  ints : CfgIn c
theorem CfgAt.below {w w' : World} {c : Cfg} {p : Option Addr} {cap : Nat} (h : CfgAt w c p cap) (hb : Below w.heap.size w w') : CfgAt w' c p cap := ⟨h.strs.below hb, h.room, h.empty, h.len, h.size, h.ints⟩
/-- A list of texts of the call's, not too long. -/
structure TxsAt (w : World) (l : List ByteArray) (p : Option Addr) (cap : Nat) : Prop where
  strs : Strs w p l
  room : l.length ≤ cap
  empty : p = none → l = [] ∧ cap = 0
  len : l.length ≤ 1000
  size : ∀ x ∈ l, x.size ≤ 1000
theorem TxsAt.below {w w' : World} {l : List ByteArray} {p : Option Addr} {cap : Nat} (h : TxsAt w l p cap) (hb : Below w.heap.size w w') : TxsAt w' l p cap := ⟨h.strs.below hb, h.room, h.empty, h.len, h.size⟩
/-- What Meet tells: an error's number and place. -/
def meetE (c : Cfg) (a b : List ByteArray) : Int × Int := if 0 < (cfgF c).1 then cfgF c else meetF c.L a b
def meetT (c : Cfg) (a b : List ByteArray) : List ByteArray := if 0 < (meetE c a b).1 then [] else meetL c.L a b
/-- X: what is asked of the world besides. -/
structure EnoughOk (ad : Nat → Addr) (X : World → Prop) : Prop where
  enough : ∀ (c : Cfg) (p : Option Addr) (cap : Nat) (w : World), CfgAt w c p cap → ErrsQ w ad → X w → Calls Tryd.prog 11 #[cfgA c (.slice p c.L.length cap)] w fun e w' => (∃ ev, e = .returned (.tuple #[.int .i64 ((if 0 < (cfgF c).1 then 0 else enoughN c : Nat) : Int), ev]) ∧ ErrIs w' ad ev (cfgF c).1 (cfgF c).2) ∧ Below w.heap.size w w'
theorem one_cfg : cfgF ⟨1, 1, [⟨#[97]⟩]⟩ = (0, -1) := by decide +kernel
theorem ErrIs.isNil {w : World} {ad : Nat → Addr} {ev : Value} {at_ : Int} (h : ErrIs w ad ev 0 at_) : ev = .nilIface := by
  rcases h with ⟨h, _⟩ | ⟨i, _, _, h, _⟩ | ⟨i, _, _, _, h, _⟩
  · exact h
  · omega
  · omega
theorem Sent.errsQ {w : World} {ad : Nat → Addr} (h : Sent w ad) : ErrsQ w ad := ⟨h.c1, h.c2, h.c3, h.c4, h.c5⟩
theorem ErrIs.setInt {w : World} {ad : Nat → Addr} {ev : Value} {c at_ : Int} {b : Nat} {z : Int} (h : ErrIs w ad ev c at_) (hz : w.cell? ⟨b, 1, none⟩ = Option.some (Value.int .i64 z)) (i : Nat) (v : Value) : ErrIs (w.setCell ⟨b, i, none⟩ v) ad ev c at_ := by
  rcases h with h | h | ⟨k, fb, hk, he, hc, h0, h1⟩
  · exact Or.inl h
  · exact Or.inr (Or.inl h)
  · have hne : fb ≠ b := fun e => by
      subst e
      rw [hz] at h1
      cases h1
    exact Or.inr (Or.inr ⟨k, fb, hk, he, hc, (World.cell?_setCell_other _ _ _ _ (fun e => hne (congrArg Addr.block e).symm)).trans h0, (World.cell?_setCell_other _ _ _ _ (fun e => hne (congrArg Addr.block e).symm)).trans h1⟩)
/-- A list that came in. -/
structure TxsIn (w : World) (l : List ByteArray) (p : Option Addr) (cap : Nat) : Prop where
  strs : Strs w p l
  room : l.length ≤ cap
  empty : p = none → l = [] ∧ cap = 0
  len : l.length ≤ maxLen
  size : ∀ x ∈ l, x.size ≤ maxLen
section
open Go.ChangeShapes Go.WideShapes Go.ChangeAt Go.RowKit
theorem cfgLaidOut : laidOutB Tryd.prog = true := by kernel_rfl
theorem qCfgFields : ∃ f0 f1 f2, Tryd.prog.underlying 24 = some (.struct #[f0, f1, f2]) ∧ f0.offset = 0 ∧ f1.offset = 1 ∧ f2.offset = 2 ∧ f0.type = 3 ∧ f1.type = 3 ∧ f2.type = 22 := ⟨_, _, _, Tryd.underlying24, rfl, rfl, rfl, rfl, rfl, rfl⟩
theorem qCellsInt : Tryd.prog.cellsOf 3 = 1 := by kernel_rfl
theorem qCellsStrs : Tryd.prog.cellsOf 22 = 1 := by kernel_rfl
theorem qCellsCfg : Tryd.prog.cellsOf 24 = 3 := by kernel_rfl
set_option maxRecDepth 100000 in
/-- Texts that came in. -/
theorem strs_arg8 {H : Type} {enc : TypeId × Value → H} {W : World} {fuel : Nat} {v : Value} {y : DataW H × List MemPlace} (h : DataW.trod enc Tryd.prog W 0 (fun _ => true) true fuel 22 [v] = some y) : ∃ p l cap, v = .slice p l.length cap ∧ TxsIn W l p cap := by
  rcases Deep.open_strs Tryd.underlying22 Tryd.underlying9 (by kernel_rfl) h with ⟨hcs, _⟩ | ⟨a, len0, cap0, m, Sx, hcs, _, hle, hcm, hm, hd, hx⟩
  · simp at hcs
    subst hcs
    exact ⟨none, [], 0, rfl, ⟨Or.inl rfl, Nat.le_refl _, fun _ => ⟨rfl, rfl⟩, Nat.zero_le _, fun x hx => by cases hx⟩⟩
  · simp at hcs
    subst hcs
    have hlm : len0 ≤ m := by rw [hm]; split <;> omega
    have hlen : ((List.range len0).map Sx).length = len0 := by simp
    have hat : ∀ i, i < len0 → txt ((List.range len0).map Sx) i = Sx i := fun i hi => by
      rw [txt_getElem _ i (by rw [hlen]; exact hi)]
      simp
    refine ⟨some a, (List.range len0).map Sx, cap0, by rw [hlen], ⟨?_, by rw [hlen]; exact hle, (fun e => by cases e), by rw [hlen]; omega, fun x hxm => ?_⟩⟩
    · by_cases h0 : len0 = 0
      · exact Or.inl (List.length_eq_zero_iff.1 (by rw [hlen]; exact h0))
      · have hx0 := (hx 0 (by omega)).1
        obtain ⟨b, off, sp⟩ := a
        have hsp : sp = none := by
          cases sp with
          | none => rfl
          | some q =>
            exfalso
            simp [Addr.add, World.cell?] at hx0
            revert hx0
            split <;> intro h9 <;> cases h9
        subst hsp
        refine Or.inr ⟨b, off, rfl, ?_, fun i hi => ?_⟩
        · rw [Addr.add_lit] at hx0
          rcases Nat.lt_or_ge b W.heap.size with h' | h'
          · exact h'
          · simp [World.cell?, Array.getElem?_eq_none h'] at hx0
        · rw [hlen] at hi
          have := (hx i (by omega)).1
          rw [Addr.add_lit] at this
          rw [hat i hi]
          exact this
    · obtain ⟨i, hi, rfl⟩ := List.mem_map.1 hxm
      exact (hx i (by have := List.mem_range.1 hi; omega)).2
set_option maxRecDepth 100000 in
/-- A configuration that came in. -/
theorem cfg_arg8 {H : Type} {enc : TypeId × Value → H} {W : World} {base : Nat} {v : Value} {d : DataW H} {ps : List MemPlace} (hok : Value.okWide Tryd.prog W .any base 24 v) (h : DataW.Trod enc Tryd.prog W 0 (fun _ => true) true 24 v d ps) :
    ∃ c p cap, v = cfgA c (.slice p c.L.length cap) ∧ TxsIn W c.L p cap ∧ CfgIn c := by
  obtain ⟨f0, f1, f2, hst, o0, o1, o2, t0, t1, t2⟩ := qCfgFields
  obtain ⟨cs, rfl, hsz⟩ := okWide_struct hst hok
  rw [qCellsCfg] at hsz
  obtain ⟨fuel, hf⟩ := h
  obtain ⟨csl, hcsl⟩ : ∃ csl, csl = cs.toList := ⟨_, rfl⟩
  have hcl : csl.length = 3 := by rw [hcsl]; simpa using hsz
  have hce : cs = csl.toArray := by rw [hcsl]
  subst hce
  have hf2 : DataW.trod enc Tryd.prog W 0 (fun _ => true) true fuel 24 csl = some (d, ps) := by
    have e : (Value.agg csl.toArray).cells.toList = csl := by simp [Value.cells]
    rw [← e]
    exact hf
  obtain ⟨z0, z1, z2, n2, _, hlen, k0, k1, k2⟩ := Deep.trod_struct3 hst hf2
  match csl, hcl with
  | [v0, v1, v2], _ =>
    rw [t0, o0, qCellsInt] at k0
    rw [t1, o1, qCellsInt] at k1
    rw [t2, o2, qCellsStrs] at k2
    obtain ⟨cn, hn, _, wn⟩ := DataW.trod_int Tryd.underlying3 k0
    obtain ⟨ck, hk, _, wk⟩ := DataW.trod_int Tryd.underlying3 k1
    obtain ⟨p, l, cap, hl, htx⟩ := strs_arg8 (show DataW.trod _ _ _ _ _ _ _ _ [v2] = some z2 from k2)
    simp at hn hk
    subst hn hk hl
    exact ⟨⟨cn, ck, l⟩, p, cap, rfl, htx, bounds_i64 wn, bounds_i64 wk⟩
set_option maxRecDepth 100000 in
/-- A list of texts, by its value. -/
theorem strs_in8 {H : Type} {enc : TypeId × Value → H} {W : World} {base : Nat} {v : Value} {d : DataW H} {ps : List MemPlace} (hok : Value.okWide Tryd.prog W .any base 22 v) (h : DataW.Trod enc Tryd.prog W 0 (fun _ => true) true 22 v d ps) : ∃ p l cap, v = .slice p l.length cap ∧ TxsIn W l p cap := by
  obtain ⟨a0, len0, cap0, rfl⟩ := okWide_slice Tryd.underlying22 hok
  obtain ⟨fuel, hf⟩ := h
  exact strs_arg8 hf
end
/-- X: what is asked of the world besides. -/
structure QuorumOk (ad : Nat → Addr) (X : World → Prop) : Prop where
  check : ∀ (c : Cfg) (p : Option Addr) (cap : Nat) (w : World), CfgAt w c p cap → ErrsQ w ad → X w → Calls Tryd.prog 9 #[cfgA c (.slice p c.L.length cap)] w fun e w' => (∃ ev, e = .returned ev ∧ ErrIs w' ad ev (cfgF c).1 (cfgF c).2) ∧ Below w.heap.size w w'
  enough : ∀ (c : Cfg) (p : Option Addr) (cap : Nat) (w : World), CfgAt w c p cap → ErrsQ w ad → X w → Calls Tryd.prog 11 #[cfgA c (.slice p c.L.length cap)] w fun e w' => (∃ ev, e = .returned (.tuple #[.int .i64 ((if 0 < (cfgF c).1 then 0 else enoughN c : Nat) : Int), ev]) ∧ ErrIs w' ad ev (cfgF c).1 (cfgF c).2) ∧ Below w.heap.size w w'
  meet : ∀ (c : Cfg) (p : Option Addr) (cap : Nat) (a : List ByteArray) (pa : Option Addr) (ca : Nat) (b : List ByteArray) (pb : Option Addr) (cb : Nat) (w : World), CfgAt w c p cap → TxsAt w a pa ca → TxsAt w b pb cb → ErrsQ w ad → X w → Calls Tryd.prog 12 #[cfgA c (.slice p c.L.length cap), .slice pa a.length ca, .slice pb b.length cb] w fun e w' => (∃ ev lp lc, e = .returned (.tuple #[.slice lp (meetT c a b).length lc, ev]) ∧ Strs w' lp (meetT c a b) ∧ ErrIs w' ad ev (meetE c a b).1 (meetE c a b).2) ∧ Below w.heap.size w w'
theorem QuorumOk.en {ad : Nat → Addr} {X : World → Prop} (h : QuorumOk ad X) : EnoughOk ad X := ⟨h.enough⟩
theorem OwnT.setC {w : World} {B b : Nat} {v : Value} {l : List ByteArray} (h : OwnT w B v l) (hb : b < B) (i : Nat) (x : Value) : OwnT (w.setCell ⟨b, i, none⟩ x) B v l :=
  World.ownsRow.kept (row := some b) h ⟨rfl, rfl, rfl, by simp, fun k _ hne => Deep.blk_setCell_other _ _ _ _ (fun e => hne (by rw [e]))⟩ (Or.inr fun e => by have := (h.block e).1; omega)
set_option maxRecDepth 10000 in
set_option maxHeartbeats 2000000 in
theorem ownConfig_any (c : Cfg) (p : Option Addr) (cap : Nat) (w : World) (hl : c.L.length ≤ 8796093021952) (hs : Strs w p c.L) (hn : p = none → c.L = [] ∧ cap = 0) :
    Calls Tryd.prog 10 #[cfgA c (.slice p c.L.length cap)] w fun e w' => (∃ q d, e = .returned (cfgA c (.slice q c.L.length d)) ∧ Strs w' q c.L ∧ c.L.length ≤ d ∧ (q = none → c.L = [] ∧ d = 0)) ∧ Below w.heap.size w w' := by
  obtain ⟨cn, ck, cL⟩ := c
  unfold cfgA
  simp only [] at *
  obtain ⟨w1, hw1⟩ : ∃ w1, w1 = (w.alloc (.cells #[.int .i64 cn, .int .i64 ck, .slice p cL.length cap] 24)).alloc (.cells #[.int .i64 0, .int .i64 0, .slice none 0 0] 24) := ⟨_, rfl⟩
  have HW1 : Hid (w1 = (w.alloc (.cells #[.int .i64 cn, .int .i64 ck, .slice p cL.length cap] 24)).alloc (.cells #[.int .i64 0, .int .i64 0, .slice none 0 0] 24)) := hw1
  have hb1 : Below w.heap.size w w1 := by rw [hw1]; exact ((Below.refl _ _).alloc (Nat.le_refl _) _).alloc (by simp) _
  have e2 : (w.alloc (.cells #[.int .i64 cn, .int .i64 ck, .slice p cL.length cap] 24)).heap.size = w.heap.size + 1 := by simp
  have hx1 : w1.heap[w.heap.size]? = some (.cells #[.int .i64 cn, .int .i64 ck, .slice p cL.length cap] 24 (0, 0)) := by
    rw [hw1, heap_alloc_old _ _ (by rw [e2]; omega)]
    exact heap_alloc_new _ _
  have hy1 : w1.heap[w.heap.size + 1]? = some (.cells #[.int .i64 0, .int .i64 0, .slice none 0 0] 24 (0, 0)) := by
    rw [hw1, ← e2]
    exact heap_alloc_new _ _
  have hs1 : w1.heap.size = w.heap.size + 2 := by rw [hw1]; simp
  have HS1 : Hid (Strs w1 p cL) := hs.below hb1
  have HF1 : Hid (w1.heap[w.heap.size]? = some (.cells #[.int .i64 cn, .int .i64 ck, .slice p cL.length cap] 24 (0, 0)) ∧ w1.heap[w.heap.size + 1]? = some (.cells #[.int .i64 0, .int .i64 0, .slice none 0 0] 24 (0, 0)) ∧ Below w.heap.size w w1 ∧ w1.heap.size = w.heap.size + 2) := ⟨hx1, hy1, hb1, hs1⟩
  have q2 : w1.cell? ⟨w.heap.size, 2, none⟩ = some (.slice p cL.length cap) := by simp [World.cell?, hx1]
  clear hw1 hb1 e2 hx1 hy1 hs1 hs
  go_enter Tryd.func10, Tryd.ntmps10
  go_wp2_with (first | (at_builtin; rw [← HW1.out]; refine wpList_append_strs rfl (.tmp 4) (.tmp 6) rfl w1.heap.size (.slice none 0 0) [] rfl (OwnT.nil _ _) p cL cap rfl HS1.out hn (by show 0 + cL.length ≤ _; omega) (Nat.le_refl _) ?_; intro v2 w2 hO2 hb2; rw [List.nil_append] at hO2; obtain ⟨q, d, hv2, hS2, hd2, hn2, hbk2⟩ := hO2.form; subst hv2; have hx2 := (hb2.block _ (by have := HF1.out.2.2.2; omega)).trans HF1.out.1; have hy2 := (hb2.block _ (by have := HF1.out.2.2.2; omega)).trans HF1.out.2.1; have HN2 : Hid (q = none → cL = [] ∧ d = 0) := (fun e => ⟨(by rcases hS2 with h | ⟨b, o, hq, _⟩; exact h; rw [e] at hq; cases hq), hn2 e⟩); have HO2 : Hid (OwnT w2 w1.heap.size (.slice q cL.length d) cL ∧ cL.length ≤ d ∧ Below w.heap.size w w2) := ⟨hO2, hd2, HF1.out.2.2.1.trans (hb2.mono HF1.out.2.2.1.size)⟩; have k0 : w2.cell? ⟨w.heap.size, 0, none⟩ = some (.int .i64 cn) := (by simp [World.cell?, hx2]); have k1 : w2.cell? ⟨w.heap.size, 1, none⟩ = some (.int .i64 ck) := (by simp [World.cell?, hx2]); have k2 : w2.cell? ⟨w.heap.size, 2, none⟩ = some (.slice p cL.length cap) := (by simp [World.cell?, hx2]); have k3 : w2.frozen? ⟨w.heap.size, 2, none⟩ = false := (by simp [World.frozen?, hx2]); have z0 : w2.cell? ⟨w.heap.size + 1, 0, none⟩ = some (.int .i64 0) := (by simp [World.cell?, hy2]); have z1 : w2.cell? ⟨w.heap.size + 1, 1, none⟩ = some (.int .i64 0) := (by simp [World.cell?, hy2]); have z2 : w2.cell? ⟨w.heap.size + 1, 2, none⟩ = some (.slice none 0 0) := (by simp [World.cell?, hy2]); have z3 : ∀ i, w2.frozen? ⟨w.heap.size + 1, i, none⟩ = false := (fun i => by simp [World.frozen?, hy2]); clear hO2 hb2 hS2 hd2 hn2 hbk2 hx2 hy2 q2))
  refine bodyPost_ret (v := .agg #[.int .i64 cn, .int .i64 ck, .slice q cL.length d]) (by simp [results, Tryd.results10, go_sem, z0, z1, z2]) rfl ?_
  have hsz := HF1.out.2.2.2
  have ho := (((HO2.out.1.setC (b := w.heap.size) (by omega) 2 (.slice q cL.length d)).setC (b := w.heap.size + 1) (by omega) 0 (.int .i64 cn)).setC (b := w.heap.size + 1) (by omega) 1 (.int .i64 ck)).setC (b := w.heap.size + 1) (by omega) 2 (.slice q cL.length d)
  obtain ⟨q', d', hv, hS, _⟩ := ho.form
  injection hv with e1 _ e2
  subst e1 e2
  exact ⟨⟨q, d, rfl, hS, HO2.out.2.1, HN2.out⟩, (((HO2.out.2.2.setCell (p := ⟨w.heap.size, 2, none⟩) (Nat.le_refl _) _).setCell (p := ⟨w.heap.size + 1, 0, none⟩) (by show w.heap.size ≤ w.heap.size + 1; omega) _).setCell (p := ⟨w.heap.size + 1, 1, none⟩) (by show w.heap.size ≤ w.heap.size + 1; omega) _).setCell (p := ⟨w.heap.size + 1, 2, none⟩) (by show w.heap.size ≤ w.heap.size + 1; omega) _⟩
/-- Is a configuration too long for a statement? -/
def longC (c : Cfg) : Bool := decide (30 < c.L.length) || c.L.any fun x => decide (60 < x.size)
theorem longC_fine {c : Cfg} (h : longC c = false) : c.L.length ≤ 30 ∧ ∀ x ∈ c.L, x.size ≤ 60 := by
  unfold longC at h
  rw [Bool.or_eq_false_iff] at h
  refine ⟨by have := of_decide_eq_false h.1; omega, fun x hx => ?_⟩
  have := List.any_eq_false.1 h.2 x hx
  simpa using this
set_option maxRecDepth 10000 in
set_option maxHeartbeats 1000000 in
theorem longConfig_any (c : Cfg) (p : Option Addr) (cap : Nat) (w : World) (hl : c.L.length ≤ maxLen) (hx : ∀ x ∈ c.L, x.size ≤ maxLen) (hs : Strs w p c.L) :
    Calls Tryd.prog 6 #[cfgA c (.slice p c.L.length cap)] w fun e w' => e = .returned (.bool (longC c)) ∧ Below w.heap.size w w' := by
  obtain ⟨cn, ck, l⟩ := c
  unfold maxLen at hl
  unfold cfgA
  simp only [] at *
  obtain ⟨w1, hw1⟩ : ∃ w1, w1 = w.alloc (.cells #[.int .i64 cn, .int .i64 ck, .slice p l.length cap] 24) := ⟨_, rfl⟩
  have HW1 : Hid (w1 = w.alloc (.cells #[.int .i64 cn, .int .i64 ck, .slice p l.length cap] 24)) := hw1
  have hb1 : Below w.heap.size w w1 := by rw [hw1]; exact (Below.refl _ _).alloc (Nat.le_refl _) _
  have q2 : w1.cell? ⟨w.heap.size, 2, none⟩ = some (.slice p l.length cap) := by rw [hw1, World.cell?_alloc_at _ _ _ _ rfl]; rfl
  have HB1 : Hid (Below w.heap.size w w1) := hb1
  by_cases h1 : 30 < l.length
  · have HR : Hid (longC ⟨cn, ck, l⟩ = true) := by show _ = _; unfold longC; rw [decide_eq_true h1, Bool.true_or]
    rw [HR.out]
    clear hw1 hb1 hs hx
    go_enter Tryd.func6, Tryd.ntmps6
    go_wp2
    go_ret
    exact ⟨rfl, by rw [← HW1.out]; exact HB1.out⟩
  have HX : Hid (∀ i, i < l.length → (txt l i).size ≤ 9223372036854775807) := fun i hi => by have := hx _ (txt_mem hi); unfold maxLen at this; omega
  have HT : Hid (∀ i, i < l.length → 60 < (txt l i).size → longC ⟨cn, ck, l⟩ = true) := fun i hi h => by
    unfold longC
    rw [decide_eq_false h1, Bool.false_or, List.any_eq_true]
    exact ⟨txt l i, txt_mem hi, decide_eq_true h⟩
  have HF : Hid ((∀ i, i < l.length → ¬ 60 < (txt l i).size) → longC ⟨cn, ck, l⟩ = false) := fun h => by
    unfold longC
    rw [decide_eq_false h1, Bool.false_or, List.any_eq_false]
    intro x hx h2
    obtain ⟨i, hi, rfl⟩ := txt_of_mem hx
    exact h i hi (of_decide_eq_true h2)
  generalize longC ⟨cn, ck, l⟩ = r at *
  have HS : Hid (Strs w1 p l) := hs.below hb1
  clear hs hx hw1 hb1
  go_enter Tryd.func6, Tryd.ntmps6
  go_wp2
  rw [show w.alloc (.cells #[.int .i64 cn, .int .i64 ck, .slice p l.length cap] 24) = w1 from HW1.out.symm]
  clear HW1
  go_loopw [3] (fun x wr => ∃ i : Nat, i ≤ l.length ∧ x = .int .i64 i ∧ (∀ j, j < i → ¬ 60 < (txt l j).size) ∧ wr = w1) (fun x _ => l.length - (intOf x).toNat)
  case atStart => exact ⟨0, Nat.zero_le _, rfl, (fun j hj => absurd hj (Nat.not_lt_zero _)), rfl⟩
  case round =>
    obtain ⟨i, hi, rfl, hall, hwr⟩ := hrel
    subst hwr
    have HALL : Hid (∀ j, j < i → ¬ 60 < (txt l j).size) := hall
    clear hall
    by_cases hil : i < l.length
    · rcases HS.out with h0 | ⟨b, o, rfl, hlt, hc⟩
      · rw [h0] at hil; exact absurd hil (Nat.not_lt_zero _)
      have q1 := hc i hil
      have hsz := HX.out i hil
      clear hc
      by_cases hbig : 60 < (txt l i).size
      · have HR : Hid (r = true) := HT.out i hil hbig
        clear HT HF HALL HX
        generalize txt l i = t at *
        go_wp2
        go_ret
        exact ⟨by rw [HR.out]; rfl, HB1.out⟩
      · have HBG : Hid (¬ 60 < (txt l i).size) := hbig
        clear HT HF HX
        generalize hti : txt l i = t at *
        have HTI : Hid (txt l i = t) := hti
        clear hti
        go_wp2
        go_roundw
        case rel => exact ⟨i + 1, by omega, by go_num, (fun j hj => by
          rcases Nat.lt_or_ge j i with h | h
          · exact HALL.out j h
          · obtain rfl : j = i := by omega
            rw [HTI.out]; exact HBG.out), trivial⟩
        case measure => simp [intOf]; omega
    · have HR : Hid (r = false) := HF.out (fun j hj => HALL.out j (by omega))
      go_wp2
      go_ret
      exact ⟨by rw [HR.out]; rfl, HB1.out⟩
theorem cfgAt_of {w : World} {c : Cfg} {p : Option Addr} {cap : Nat} (h1 : Strs w p c.L) (h2 : c.L.length ≤ cap) (h3 : p = none → c.L = [] ∧ cap = 0) (h4 : longC c = false) (h5 : CfgIn c) : CfgAt w c p cap :=
  ⟨h1, h2, h3, by have := (longC_fine h4).1; omega, fun x hx => by have := (longC_fine h4).2 x hx; omega, h5⟩
theorem map_range_set (r : Nat) (vf : Nat → Value) (j : Nat) (v : Value) : ((List.range r).map vf).set j v = (List.range r).map (fun i => if i = j then v else vf i) := by
  apply List.ext_getElem?
  intro i
  rw [List.getElem?_set, List.getElem?_map, List.getElem?_map]
  by_cases hi : i < r
  · rw [List.getElem?_range hi]
    by_cases e : j = i
    · subst e; simp [hi]
    · have e' : ¬ i = j := fun h => e h.symm
      simp [e, e']
  · rw [List.getElem?_eq_none (by simpa using hi)]
    by_cases e : j = i
    · subst e; simp [hi]
    · simp [e]
/-- Values of type E in a row of the call's own. -/
def OwnE (w : World) (E : TypeId) (B g r : Nat) (vf : Nat → Value) : Prop := w.ownsRow B E 1 (.slice (some ⟨g, 0, none⟩) r r) r ((List.range r).map vf)
theorem OwnE.made (w : World) (E : TypeId) (z : Value) (B r : Nat) (hB : B ≤ w.heap.size) (hr : r ≤ 1000000) : OwnE (w.alloc (.cells (madeCells #[z] r) E)) E B w.heap.size r (fun _ => z) := by
  have h := World.ownsRow_lit (base := B) (e := E) (size := 1) w (madeCells #[z] r) r hB (by unfold maxLen; omega) (by have := congrArg List.length (toList_madeCells_one z r); simpa using this)
  rw [toList_madeCells_one] at h
  unfold OwnE
  rw [List.map_const', List.length_range]
  exact h
theorem OwnE.cell {w : World} {E : TypeId} {B g r : Nat} {vf : Nat → Value} (h : OwnE w E B g r vf) (j : Nat) (hj : j < r) : w.cell? ⟨g, j, none⟩ = some (vf j) := by
  rw [World.ownsRow.cellAt (w := w) h j (by omega), List.getElem?_map, List.getElem?_range hj]
  rfl
theorem OwnE.free {w : World} {E : TypeId} {B g r : Nat} {vf : Nat → Value} (h : OwnE w E B g r vf) (j : Nat) : w.frozen? ⟨g, j, none⟩ = false := World.ownsRow.frozenAt (w := w) h j
theorem OwnE.set {w : World} {E : TypeId} {B g r : Nat} {vf : Nat → Value} (h : OwnE w E B g r vf) (j : Nat) (v : Value) : OwnE (w.setCell ⟨g, j, none⟩ v) E B g r (fun i => if i = j then v else vf i) := by
  have := (World.ownsRow.stored (w := w) h j v).1
  rw [map_range_set] at this
  exact this
theorem OwnE.kept {w w' : World} {E : TypeId} {B g r : Nat} {vf : Nat → Value} {row : Option Nat} (h : OwnE w E B g r vf) (hg : w.grownBy w' row) (hne : row ≠ some g) : OwnE w' E B g r vf :=
  World.ownsRow.kept h hg (Or.inr (fun e => hne e.symm))
theorem OwnE.congr {w : World} {E : TypeId} {B g r : Nat} {vf vg : Nat → Value} (h : OwnE w E B g r vf) (he : ∀ i, i < r → vf i = vg i) : OwnE w E B g r vg := by
  unfold OwnE
  rw [List.map_congr_left (g := vf) (fun i hi => (he i (List.mem_range.1 hi)).symm)]
  exact h
theorem OwnE.lt {w : World} {E : TypeId} {B g r : Nat} {vf : Nat → Value} (h : OwnE w E B g r vf) : B ≤ g ∧ g < w.heap.size := World.ownsRow.lt h g rfl
/-- In the world w the numbers l lie from p on. -/
def Ints (w : World) (p : Option Addr) (l : List Int) : Prop := l = [] ∨ ∃ b o, p = some ⟨b, o, none⟩ ∧ b < w.heap.size ∧ ∀ i, i < l.length → w.cell? ⟨b, o + i, none⟩ = some (.int .i64 (l.getD i 0))
theorem Ints.below {w w' : World} {p : Option Addr} {l : List Int} (h : Ints w p l) (hb : Below w.heap.size w w') : Ints w' p l := by
  rcases h with h | ⟨b, o, hp, hlt, hc⟩
  · exact Or.inl h
  · exact Or.inr ⟨b, o, hp, Nat.lt_of_lt_of_le hlt hb.size, fun i hi => (hb.cell (p := ⟨b, o + i, none⟩) hlt).trans (hc i hi)⟩
/-- Unlike ones among others: no more than those. -/
theorem length_le_of_subset : ∀ (l X : List Nat), l.Nodup → (∀ x ∈ l, x ∈ X) → l.length ≤ X.length
  | [], _, _, _ => Nat.zero_le _
  | a :: t, X, hn, hs => by
    have ha : a ∈ X := hs a (List.mem_cons_self ..)
    have hn' := List.nodup_cons.1 hn
    have := length_le_of_subset t (X.erase a) hn'.2 (fun x hx => (List.mem_erase_of_ne (fun e => hn'.1 (by rw [← e]; exact hx))).2 (hs x (List.mem_cons_of_mem _ hx)))
    rw [List.length_erase_of_mem ha] at this
    have hp := List.length_pos_of_mem ha
    simp only [List.length_cons]
    omega
theorem boolinfo : (Tryd.prog.info? 4).map (fun i => (i.zero, i.size, i.bytes)) = some (some (.bool false), 1, 1) := by kernel_rfl
set_option maxRecDepth 10000 in
set_option maxHeartbeats 1000000 in
theorem index_miss (p : Option Addr) (l : List ByteArray) (c : Nat) (s : ByteArray) (w : World) (hl : l.length ≤ 1000000) (hs : Strs w p l) (h : s ∉ l) :
    Calls Tryd.prog 14 #[.slice p l.length c, .string s] w fun e w' => e = .returned (.int .i64 (-1)) ∧ w' = w := by
  have HH : Hid (s ∉ l) := h
  clear h
  go_enter Tryd.func14, Tryd.ntmps14
  go_wp2
  go_loop [5] (fun x => ∃ i : Nat, i ≤ l.length ∧ x = .int .i64 i) (fun x => l.length - (intOf x).toNat)
  case atStart => exact ⟨0, Nat.zero_le _, rfl⟩
  case round =>
    obtain ⟨i, hi, rfl⟩ := hrel
    by_cases hil : i < l.length
    · rcases hs with h0 | ⟨b, o, rfl, hlt, hc⟩
      · rw [h0] at hil; exact absurd hil (Nat.not_lt_zero _)
      have q1 := hc i hil
      have hne : txt l i ≠ s := fun e => HH.out (e ▸ txt_mem hil)
      have h1 := toList_ne hne
      have h2 := toList_beq hne
      have h3 := bytes_beq hne
      clear hne hc
      generalize txt l i = t at *
      go_wp2
      go_round
      case rel => exact ⟨i + 1, by omega, by go_num⟩
      case measure => simp [intOf]; omega
    · go_wp2
      go_ret
      exact ⟨rfl, rfl⟩
set_option maxRecDepth 10000 in
set_option maxHeartbeats 1000000 in
theorem index_hit (p : Option Addr) (l : List ByteArray) (c : Nat) (s : ByteArray) (w : World) (hl : l.length ≤ 1000000) (hs : Strs w p l) (h : s ∈ l) :
    Calls Tryd.prog 14 #[.slice p l.length c, .string s] w fun e w' => e = .returned (.int .i64 ((idxN l s : Nat) : Int)) ∧ w' = w := by
  have HH : Hid (s ∈ l) := h
  clear h
  go_enter Tryd.func14, Tryd.ntmps14
  go_wp2
  go_loop [5] (fun x => ∃ i : Nat, i ≤ l.length ∧ x = .int .i64 i ∧ ∀ j, j < i → txt l j ≠ s) (fun x => l.length - (intOf x).toNat)
  case atStart => exact ⟨0, Nat.zero_le _, rfl, fun j hj => absurd hj (Nat.not_lt_zero _)⟩
  case round =>
    obtain ⟨i, hi, rfl, hall⟩ := hrel
    have HALL : Hid (∀ j, j < i → txt l j ≠ s) := hall
    clear hall
    have hil : i < l.length := by
      rcases Nat.lt_or_ge i l.length with h | h
      · exact h
      · obtain ⟨j, hj, e⟩ := txt_of_mem HH.out
        exact absurd e (HALL.out j (by omega))
    rcases hs with h0 | ⟨b, o, rfl, hlt, hc⟩
    · rw [h0] at hil; exact absurd hil (Nat.not_lt_zero _)
    have q1 := hc i hil
    have HE : Hid (txt l i = txt l i) := by show _ = _; rfl
    clear hc
    by_cases hne : txt l i = s
    · have HI : Hid (idxN l s = i) := idxN_eq hil hne HALL.out
      rw [hne] at q1
      clear hne HE
      go_wp2
      go_ret
      exact ⟨by rw [HI.out]; rfl, rfl⟩
    · have HN : Hid (txt l i ≠ s) := hne
      have h1 := toList_ne hne
      have h2 := toList_beq hne
      have h3 := bytes_beq hne
      clear hne HE
      generalize htt : txt l i = t at *
      have HT : Hid (txt l i = t) := htt
      clear htt
      go_wp2
      go_round
      case rel => exact ⟨i + 1, by omega, by go_num, fun j hj => by
        rcases Nat.lt_or_ge j i with h | h
        · exact HALL.out j h
        · obtain rfl : j = i := by omega
          rw [HT.out]; exact HN.out⟩
      case measure => simp [intOf]; omega
set_option maxRecDepth 10000 in
set_option maxHeartbeats 4000000 in
theorem isName_any (s : ByteArray) (w : World) (hs : s.size ≤ 1000000) :
    Calls Tryd.prog 27 #[.string s] w fun e w' => e = .returned (.bool (isN s)) ∧ w' = w := by
  by_cases h1 : s.size < 1
  · have HE : Hid (isN s = false) := isN_len (by omega)
    rw [HE.out]
    go_enter Tryd.func27, Tryd.ntmps27
    go_wp2
    go_ret
    exact ⟨rfl, rfl⟩
  by_cases h2 : 16 < s.size
  · have HE : Hid (isN s = false) := isN_len (by omega)
    rw [HE.out]
    go_enter Tryd.func27, Tryd.ntmps27
    go_wp2
    go_ret
    exact ⟨rfl, rfl⟩
  have g1 : decide ((s.size : Int) < 1) = false := decide_eq_false (by omega)
  have g2 : decide (16 < (s.size : Int)) = false := decide_eq_false (by omega)
  have HF : Hid (∀ j, j < s.size → letterB (Gf.nth (bytesOf s) j) = false → isN s = false) := fun j hj h => isN_one hj h
  have HT : Hid ((∀ j, j < s.size → letterB (Gf.nth (bytesOf s) j) = true) → isN s = true) := fun h => isN_all (by omega) (by omega) h
  generalize isN s = r at *
  go_enter Tryd.func27, Tryd.ntmps27
  go_wp2
  go_loop [3] (fun x => ∃ i : Nat, i ≤ s.size ∧ x = .int .i64 i ∧ ∀ j, j < i → letterB (Gf.nth (bytesOf s) j) = true) (fun x => s.size - (intOf x).toNat)
  case atStart => exact ⟨0, Nat.zero_le _, rfl, fun j hj => absurd hj (Nat.not_lt_zero _)⟩
  case round =>
    obtain ⟨i, hi, rfl, hall⟩ := hrel
    have HALL : Hid (∀ j, j < i → letterB (Gf.nth (bytesOf s) j) = true) := hall
    clear hall
    by_cases hil : i < s.size
    · have hix := run_idx s i hil
      have hy := bytesOf_lt s i
      have HB : Hid (letterB (Gf.nth (bytesOf s) i) = false → r = false) := fun h => HF.out i hil h
      have HN : Hid (letterB (Gf.nth (bytesOf s) i) = true → ∀ j, j < i + 1 → letterB (Gf.nth (bytesOf s) j) = true) := fun h j hj => by
        rcases Nat.lt_or_ge j i with h' | h'
        · exact HALL.out j h'
        · obtain rfl : j = i := by omega
          exact h
      clear HF HALL
      generalize Gf.nth (bytesOf s) i = y at *
      rcases (show (97 ≤ y ∧ y ≤ 122) ∨ (48 ≤ y ∧ y ≤ 57) ∨ y = 45 ∨ 122 < y ∨ (57 < y ∧ y < 97) ∨ (y < 48 ∧ y ≠ 45) by omega) with hc | hc | hc | hc | hc | hc
      · have HL : Hid (letterB y = true) := by show _ = _; simp [letterB, hc]
        obtain ⟨hc1, hc2⟩ := hc
        go_wp2
        go_round
        case rel => exact ⟨i + 1, by omega, by go_num, HN.out HL.out⟩
        case measure => simp [intOf]; omega
      · have HL : Hid (letterB y = true) := by show _ = _; simp [letterB, hc]
        obtain ⟨hc1, hc2⟩ := hc
        go_wp2
        go_round
        case rel => exact ⟨i + 1, by omega, by go_num, HN.out HL.out⟩
        case measure => simp [intOf]; omega
      · have HL : Hid (letterB y = true) := by show _ = _; simp [letterB, hc]
        subst hc
        go_wp2
        go_round
        case rel => exact ⟨i + 1, by omega, by go_num, HN.out HL.out⟩
        case measure => simp [intOf]; omega
      · have HL : Hid (r = false) := HB.out (by
          unfold letterB
          rw [decide_eq_false (by omega), decide_eq_false (by omega), decide_eq_false (by omega)]
          rfl)
        have d1 : decide ((y : Int) ≤ 122) = false := decide_eq_false (by omega)
        have d2 : decide ((y : Int) ≤ 57) = false := decide_eq_false (by omega)
        have hc3 : ((y : Int) == 45) = false := by
          rw [beq_eq_false_iff_ne]
          omega
        go_wp2
        go_ret
        exact ⟨by rw [HL.out]; rfl, rfl⟩
      · have HL : Hid (r = false) := HB.out (by
          unfold letterB
          rw [decide_eq_false (by omega), decide_eq_false (by omega), decide_eq_false (by omega)]
          rfl)
        obtain ⟨hc1, hc2⟩ := hc
        have d2 : decide ((y : Int) ≤ 57) = false := decide_eq_false (by omega)
        have hc3 : ((y : Int) == 45) = false := by
          rw [beq_eq_false_iff_ne]
          omega
        go_wp2
        go_ret
        exact ⟨by rw [HL.out]; rfl, rfl⟩
      · have HL : Hid (r = false) := HB.out (by
          unfold letterB
          rw [decide_eq_false (by omega), decide_eq_false (by omega), decide_eq_false (by omega)]
          rfl)
        obtain ⟨hc1, hc2⟩ := hc
        have hc3 : ((y : Int) == 45) = false := by
          rw [beq_eq_false_iff_ne]
          omega
        go_wp2
        go_ret
        exact ⟨by rw [HL.out]; rfl, rfl⟩
    · have hie : i = s.size := by omega
      subst hie
      have HR : Hid (r = true) := HT.out HALL.out
      go_wp2
      go_ret
      exact ⟨by rw [HR.out]; rfl, rfl⟩
theorem isSpread_yes (n k : Int) (w : World) (h1 : 1 ≤ k) (h2 : k ≤ n) (h3 : n ≤ 12) : Calls Tryd.prog 17 #[.int .i64 n, .int .i64 k] w fun e w' => e = .returned (.bool true) ∧ w' = w := by
  go_enter Tryd.func17, Tryd.ntmps17
  go_wp2
  go_ret
  exact ⟨ret_bool (by simp), rfl⟩
theorem isSpread_no (n k : Int) (w : World) (h : ¬ (1 ≤ k ∧ k ≤ n ∧ n ≤ 12)) : Calls Tryd.prog 17 #[.int .i64 n, .int .i64 k] w fun e w' => e = .returned (.bool false) ∧ w' = w := by
  by_cases h1 : 1 ≤ k
  · by_cases h2 : k ≤ n
    · have h3 : ¬ n ≤ 12 := fun h3 => h ⟨h1, h2, h3⟩
      clear h
      go_enter Tryd.func17, Tryd.ntmps17
      go_wp2
      go_ret
      exact ⟨ret_bool (by simp), rfl⟩
    · clear h
      go_enter Tryd.func17, Tryd.ntmps17
      go_wp2
      go_ret
      exact ⟨rfl, rfl⟩
  · clear h
    go_enter Tryd.func17, Tryd.ntmps17
    go_wp2
    go_ret
    exact ⟨rfl, rfl⟩
end Go.Proofs.YtpjeibicopgedaaDoor
