/- Configurations in memory; what Meet tells; what Enough of package quorum is asked to answer. -/
import Derived.Test.YtgjehnahkbddgaaDoorQuM
import Derived.Test.YtgjehnahkbddgaaDoorErrB
import Derived.Test.YtgjehnahkbddgaaDoorOwnTB
import Derived.WalkSmall
namespace Go.Proofs.YtgjehnahkbddgaaDoor
open Go.RowKit
/-- A configuration as a value. -/
def cfgA (c : Cfg) (lv : Value) : Value := .agg #[.int .i64 c.n, .int .i64 c.k, lv]
/-- The five errors that a configuration and its members can have, in their variables. -/
structure ErrsQ (w : World) (ad : Nat → Addr) : Prop where
  c1 : w.cell? ⟨0, 0, none⟩ = some (.iface 101 (.pointer (some (ad 1))))
  c2 : w.cell? ⟨1, 0, none⟩ = some (.iface 101 (.pointer (some (ad 2))))
  c3 : w.cell? ⟨4, 0, none⟩ = some (.iface 101 (.pointer (some (ad 3))))
  c4 : w.cell? ⟨2, 0, none⟩ = some (.iface 101 (.pointer (some (ad 4))))
  c5 : w.cell? ⟨5, 0, none⟩ = some (.iface 101 (.pointer (some (ad 5))))
theorem ErrsQ.below {w w' : World} {ad : Nat → Addr} (h : ErrsQ w ad) (hb : Below w.heap.size w w') : ErrsQ w' ad where
  c1 := (hb.cell (lt_of_cellE h.c1)).trans h.c1
  c2 := (hb.cell (lt_of_cellE h.c2)).trans h.c2
  c3 := (hb.cell (lt_of_cellE h.c3)).trans h.c3
  c4 := (hb.cell (lt_of_cellE h.c4)).trans h.c4
  c5 := (hb.cell (lt_of_cellE h.c5)).trans h.c5
/-- Numbers that an int can be. -/
def CfgIn (c : Cfg) : Prop := (-9223372036854775808 ≤ c.n ∧ c.n ≤ 9223372036854775807) ∧ -9223372036854775808 ≤ c.k ∧ c.k ≤ 9223372036854775807
/-- A configuration of the call's, not too long. -/
structure CfgAt (w : World) (c : Cfg) (p : Option Addr) (cap : Nat) : Prop where
  strs : Strs w p c.L
  room : c.L.length ≤ cap
  empty : p = none → c.L = [] ∧ cap = 0
  len : c.L.length ≤ 1000
  size : ∀ x ∈ c.L, x.size ≤ 1000
  ints : CfgIn c
theorem CfgAt.below {w w' : World} {c : Cfg} {p : Option Addr} {cap : Nat} (h : CfgAt w c p cap) (hb : Below w.heap.size w w') : CfgAt w' c p cap := ⟨h.strs.below hb, h.room, h.empty, h.len, h.size, h.ints⟩
/-- A list of texts of the call's, not too long. -/
structure TxsAt (w : World) (l : List ByteArray) (p : Option Addr) (cap : Nat) : Prop where
  strs : Strs w p l
  room : l.length ≤ cap
  empty : p = none → l = [] ∧ cap = 0
  len : l.length ≤ 1000
  size : ∀ x ∈ l, x.size ≤ 1000
theorem TxsAt.below {w w' : World} {l : List ByteArray} {p : Option Addr} {cap : Nat} (h : TxsAt w l p cap) (hb : Below w.heap.size w w') : TxsAt w' l p cap := ⟨h.strs.below hb, h.room, h.empty, h.len, h.size⟩
/-- What Meet tells: an error's number and place. -/
def meetE (c : Cfg) (a b : List ByteArray) : Int × Int := if 0 < (cfgF c).1 then cfgF c else meetF c.L a b
def meetT (c : Cfg) (a b : List ByteArray) : List ByteArray := if 0 < (meetE c a b).1 then [] else meetL c.L a b
/-- X: what is asked of the world besides. -/
structure EnoughOk (ad : Nat → Addr) (X : World → Prop) : Prop where
  enough : ∀ (c : Cfg) (p : Option Addr) (cap : Nat) (w : World), CfgAt w c p cap → ErrsQ w ad → X w → Calls Tryd.prog 11 #[cfgA c (.slice p c.L.length cap)] w fun e w' => (∃ ev, e = .returned (.tuple #[.int .i64 ((if 0 < (cfgF c).1 then 0 else enoughN c : Nat) : Int), ev]) ∧ ErrIs w' ad ev (cfgF c).1 (cfgF c).2) ∧ Below w.heap.size w w'
theorem one_cfg : cfgF ⟨1, 1, [⟨#[97]⟩]⟩ = (0, -1) := by decide +kernel
theorem ErrIs.isNil {w : World} {ad : Nat → Addr} {ev : Value} {at_ : Int} (h : ErrIs w ad ev 0 at_) : ev = .nilIface := by
  rcases h with ⟨h, _⟩ | ⟨i, _, _, h, _⟩ | ⟨i, _, _, _, h, _⟩
  · exact h
  · omega
  · omega
end Go.Proofs.YtgjehnahkbddgaaDoor
