/- What package ring is asked to answer; the statements' own round over it. -/
import Derived.Test.YtakfjkphmfblaaaGreatDoorLawTW
import Derived.Test.YtakfjkphmfblaaaGreatDoorErrB
import Derived.Test.YtakfjkphmfblaaaGreatDoorRingM
namespace Go.Proofs.YtakfjkphmfblaaaGreatDoor
open Go.RowKit Ring
/-- What Prefer answers. -/
def PreferAns (w : World) (ad : Nat → Addr) (B : Nat) (nodes : List ByteArray) (h : Nat) (n : Int) (e : Ending) : Prop :=
  (0 < (preferF nodes n).1 ∧ ∃ q c ev, e = .returned (.tuple #[.slice q 0 c, ev]) ∧ ErrIs w ad ev (preferF nodes n).1 (preferF nodes n).2) ∨
  (¬ 0 < (preferF nodes n).1 ∧ ∃ v out, e = .returned (.tuple #[v, .nilIface]) ∧ OwnT w B v out ∧ (out.length : Int) = n ∧ Pref h nodes out)
/-- Package ring answers as it is asked to. -/
structure RingOk (ad : Nat → Addr) : Prop where
  check : ∀ (p : Option Addr) (l : List ByteArray) (c : Nat) (w : World), l.length ≤ 1000 → l.length ≤ c → (∀ x ∈ l, x.size ≤ 1000) → Strs w p l → Errs w ad →
    Calls Tryz.prog 8 #[.slice p l.length c] w fun e w' => (∃ ev, e = .returned ev ∧ ErrIs w' ad ev (nodesF l).1 (nodesF l).2) ∧ Below w.heap.size w w'
  prefer : ∀ (p : Option Addr) (l : List ByteArray) (c : Nat) (key : ByteArray) (n : Int) (w : World), l.length ≤ 1000 → l.length ≤ c → (∀ x ∈ l, x.size ≤ 1000) → key.size ≤ 1000 → Strs w p l → Errs w ad →
    Calls Tryz.prog 11 #[.slice p l.length c, .string key, .int .i64 n] w fun e w' => PreferAns w' ad w.heap.size l (hashOf key) n e ∧ Below w.heap.size w w'
theorem one_fine : (preferF [⟨#[97]⟩] 1).1 = 0 := by decide +kernel
set_option maxRecDepth 10000 in
theorem round_any (ad : Nat → Addr) (w : World) (hR : RingOk ad) (hS : Errs w ad) :
    Calls Tryz.prog 5 #[] w fun e w' => e = .returned (.bool true) ∧ Below w.heap.size w w' := by
  obtain ⟨w0, hw0⟩ : ∃ w0, w0 = w.alloc (.cells #[.string ⟨#[97]⟩] 9) := ⟨_, rfl⟩
  have hb0 : Below w.heap.size w w0 := by rw [hw0]; exact (Below.refl _ _).alloc (Nat.le_refl _) _
  have hs0 : Strs w0 (some ⟨w.heap.size, 0, none⟩) [⟨#[97]⟩] := Or.inr ⟨w.heap.size, 0, rfl, by rw [hw0]; simp, fun i hi => by
    obtain rfl : i = 0 := by simpa using hi
    rw [hw0, World.cell?_alloc_at _ _ _ _ rfl]
    rfl⟩
  have HP := hR.prefer (some ⟨w.heap.size, 0, none⟩) [⟨#[97]⟩] 1 ⟨#[107]⟩ 1 w0 (by decide) (by decide) (fun x hx => by rw [List.mem_singleton.1 hx]; decide) (by decide) hs0 (hS.below hb0)
  have HW0 : Hid (w0 = w.alloc (.cells #[.string ⟨#[97]⟩] 9)) := hw0
  have HB0 : Hid (Below w.heap.size w w0) := hb0
  clear hw0 hb0 hs0 hS hR
  go_enter Tryz.func5, Tryz.ntmps5
  go_wp2_with fail
  rw [← HW0.out]
  refine HP.mono ?_
  rintro e w1 ⟨hA, hb1⟩
  rcases hA with ⟨h1, _⟩ | ⟨_, v, out, rfl, hO, hlen, hPf⟩
  · rw [one_fine] at h1; exact absurd h1 (by decide)
  have hout : out = [⟨#[97]⟩] := by
    match out, hlen with
    | [x], _ => rw [List.mem_singleton.1 (hPf.mem x (List.mem_singleton.2 rfl))]
  subst hout
  obtain ⟨q, c, rfl, hq, _, _, _⟩ := hO.form
  rcases hq with h0 | ⟨b, o, rfl, hlt, hc⟩
  · cases h0
  have q1 : w1.cell? ⟨b, o, none⟩ = some (.string ⟨#[97]⟩) := hc 0 (by decide)
  have HB1 : Hid (Below w.heap.size w w1) := HB0.out.trans (hb1.mono HB0.out.size)
  clear hb1 hc hO hPf HP hlen
  have e1 : ([⟨#[97]⟩] : List ByteArray).length = 1 := rfl
  rw [e1]
  go_wp2
  go_ret
  exact ⟨rfl, HB1.out⟩
end Go.Proofs.YtakfjkphmfblaaaGreatDoor
