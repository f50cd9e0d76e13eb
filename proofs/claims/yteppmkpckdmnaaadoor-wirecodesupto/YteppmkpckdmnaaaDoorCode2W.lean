/- The second statements' own 'coded', at nil and at each sentinel of package api. -/
import Derived.Test.YteppmkpckdmnaaaDoorSentW
import Derived.Test.YteppmkpckdmnaaaDoorHoldM
namespace Go.Proofs.YteppmkpckdmnaaaDoor
open Go.RowKit Go.Extern.Stop Go.Stop Go.Extern
theorem coded2_nil (w : World) : Calls Tryd.prog 10 #[.nilIface, .int .i64 0] w fun e w' => e = .returned (.bool true) ∧ w' = w := by
  go_enter Tryd.func10, Tryd.ntmps10
  go_wp2_with (go_at_call 21; refine (code_nil _).mono ?_; rintro e w' ⟨rfl, rfl⟩)
  go_ret
  exact ⟨rfl, rfl⟩
/-- 'coded' of a sentinel and its own number. -/
theorem coded2_sent (ad : Nat → Addr) (i : Nat) (hi : i < 12) (w : World) (hS : Sent w ad) :
    Calls Tryd.prog 10 #[.iface 124 (.pointer (some (ad i))), .int .i64 ((i + 1 : Nat) : Int)] w fun e w' => e = .returned (.bool true) ∧ Below w.heap.size w w' := by
  go_enter Tryd.func10, Tryd.ntmps10
  go_wp2_with fail
  refine (code_sent ad i hi _ hS).mono ?_
  rintro e w2 ⟨rfl, hb2⟩
  go_wp2
  go_ret
  exact ⟨rfl, hb2⟩
theorem coded2_any {ad : Nat → Addr} {ev : Value} {c : Int} (h : BareIs ad ev c) (w : World) (hS : Sent w ad) :
    Calls Tryd.prog 10 #[ev, .int .i64 c] w fun e w' => e = .returned (.bool true) ∧ Below w.heap.size w w' := by
  rcases h with ⟨rfl, rfl⟩ | ⟨i, hi, rfl, rfl⟩
  · exact (coded2_nil w).mono fun e w' ⟨h1, h2⟩ => ⟨h1, by rw [h2]; exact Below.refl _ _⟩
  · exact coded2_sent ad i hi w hS
end Go.Proofs.YteppmkpckdmnaaaDoor
