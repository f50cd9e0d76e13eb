/- What package quorum is asked to answer: Check, Enough, Meet. -/
import Derived.Test.YtgjehnahkbddgaaDoorQuCB
namespace Go.Proofs.YtgjehnahkbddgaaDoor
open Go.RowKit
/-- X: what is asked of the world besides. -/
structure QuorumOk (ad : Nat → Addr) (X : World → Prop) : Prop where
  check : ∀ (c : Cfg) (p : Option Addr) (cap : Nat) (w : World), CfgAt w c p cap → ErrsQ w ad → X w → Calls Tryd.prog 9 #[cfgA c (.slice p c.L.length cap)] w fun e w' => (∃ ev, e = .returned ev ∧ ErrIs w' ad ev (cfgF c).1 (cfgF c).2) ∧ Below w.heap.size w w'
  enough : ∀ (c : Cfg) (p : Option Addr) (cap : Nat) (w : World), CfgAt w c p cap → ErrsQ w ad → X w → Calls Tryd.prog 11 #[cfgA c (.slice p c.L.length cap)] w fun e w' => (∃ ev, e = .returned (.tuple #[.int .i64 ((if 0 < (cfgF c).1 then 0 else enoughN c : Nat) : Int), ev]) ∧ ErrIs w' ad ev (cfgF c).1 (cfgF c).2) ∧ Below w.heap.size w w'
  meet : ∀ (c : Cfg) (p : Option Addr) (cap : Nat) (a : List ByteArray) (pa : Option Addr) (ca : Nat) (b : List ByteArray) (pb : Option Addr) (cb : Nat) (w : World), CfgAt w c p cap → TxsAt w a pa ca → TxsAt w b pb cb → ErrsQ w ad → X w → Calls Tryd.prog 12 #[cfgA c (.slice p c.L.length cap), .slice pa a.length ca, .slice pb b.length cb] w fun e w' => (∃ ev lp lc, e = .returned (.tuple #[.slice lp (meetT c a b).length lc, ev]) ∧ Strs w' lp (meetT c a b) ∧ ErrIs w' ad ev (meetE c a b).1 (meetE c a b).2) ∧ Below w.heap.size w w'
theorem QuorumOk.en {ad : Nat → Addr} {X : World → Prop} (h : QuorumOk ad X) : EnoughOk ad X := ⟨h.enough⟩
end Go.Proofs.YtgjehnahkbddgaaDoor
