/- Package ring answers as it is asked to: Check, Prefer. -/
import Derived.Test.YtakfjkphmfblaaaGreatDoorRgChoW
namespace Go.Proofs.YtakfjkphmfblaaaGreatDoor
open Go.RowKit Ring
theorem enters_choose : ∀ args W, (callFunc 35 args).run Tryz.prog W = .ok (.enter 35 args) W := enters_of Tryz.func35 (by kernel_rfl) rfl
set_option maxRecDepth 10000 in
set_option maxHeartbeats 2000000 in
theorem prefer_bad (ad : Nat → Addr) (p : Option Addr) (l : List ByteArray) (c : Nat) (key : ByteArray) (n : Int) (w : World) (hl : l.length ≤ 1000) (hc : l.length ≤ c) (hs : Strs w p l) (hE : Errs w ad) (h : 0 < (preferF l n).1) :
    Calls Tryz.prog 11 #[.slice p l.length c, .string key, .int .i64 n] w fun e w' => (∃ ev, e = .returned (.tuple #[.slice none 0 0, ev]) ∧ ErrIs w' ad ev (preferF l n).1 (preferF l n).2) ∧ Below w.heap.size w w' := by
  have HC := chooser_bad ad p l c n w hl hc hs hE h
  generalize preferF l n = F at *
  clear hs hE
  go_enter Tryz.func11, Tryz.ntmps11
  go_wp2_with fail
  refine HC.mono ?_
  rintro e w1 ⟨⟨ev, rfl, hI⟩, hb⟩
  have HI : Hid (ErrIs w1 ad ev F.1 F.2) := hI
  obtain ⟨t, v, rfl⟩ := hI.some h
  clear hI HC
  go_wp2
  go_ret2
  exact ⟨⟨_, rfl, HI.out⟩, hb⟩
set_option maxRecDepth 10000 in
set_option maxHeartbeats 2000000 in
theorem prefer_ok (ad : Nat → Addr) (p : Option Addr) (l : List ByteArray) (c : Nat) (key : ByteArray) (n : Int) (w : World) (hl : l.length ≤ 1000) (hc : l.length ≤ c) (hk : key.size ≤ 1000) (hs : Strs w p l) (hE : Errs w ad) (h : ¬ 0 < (preferF l n).1) :
    Calls Tryz.prog 11 #[.slice p l.length c, .string key, .int .i64 n] w fun e w' => (∃ v out, e = .returned (.tuple #[v, .nilIface]) ∧ OwnT w' w.heap.size v out ∧ (out.length : Int) = n ∧ Pref (hashOf key) l out) ∧ Below w.heap.size w w' := by
  have HC := chooser_ok ad p l c n w hl hc hs hE h
  obtain ⟨hf, hn⟩ := fine_of h
  have HCH : Hid (∀ lb W, Cho W l n.toNat lb → Calls Tryz.prog 35 (#[.string key] ++ lb) W fun e w' => (∃ v out, e = .returned v ∧ OwnT w' W.heap.size v out ∧ (out.length : Int) = n ∧ Pref (hashOf key) l out) ∧ Below W.heap.size W w') := fun lb W hW => by
    refine (choose_any l n.toNat lb key W hk hf hW).mono ?_
    rintro e w' ⟨⟨v, out, rfl, h1, h2, h3⟩, hb⟩
    exact ⟨⟨v, out, rfl, h1, by rw [h2]; exact hn, h3⟩, hb⟩
  generalize hashOf key = hh at *
  clear hs hE h hf hn
  have hent := enters_choose
  go_enter Tryz.func11, Tryz.ntmps11
  go_wp2_with fail
  refine HC.mono ?_
  rintro e w1 ⟨⟨lb, rfl, hcho⟩, hb1⟩
  have HCW := HCH.out lb w1 hcho
  have HB1 : Hid (Below w.heap.size w w1) := hb1
  clear HC hcho hb1 HCH
  go_wp2_with fail
  refine HCW.mono ?_
  rintro e w2 ⟨⟨v, out, rfl, h1, h2, h3⟩, hb2⟩
  have HR : Hid (OwnT w2 w.heap.size v out ∧ (out.length : Int) = n ∧ Pref hh l out) := ⟨h1.base HB1.out.size, h2, h3⟩
  clear h1 h2 h3 HCW
  go_wp2
  go_ret2
  exact ⟨⟨_, out, rfl, HR.out.1, HR.out.2.1, HR.out.2.2⟩, HB1.out.trans (hb2.mono HB1.out.size)⟩
theorem ring_ok (ad : Nat → Addr) : RingOk ad where
  check p l c w h1 h2 h3 h4 h5 := check_any ad p l c w h1 h2 h4 h5
  prefer p l c key n w h1 h2 h3 h4 h5 h6 := by
    by_cases h : 0 < (preferF l n).1
    · refine (prefer_bad ad p l c key n w h1 h2 h5 h6 h).mono ?_
      rintro e w' ⟨⟨ev, rfl, hI⟩, hb⟩
      exact ⟨Or.inl ⟨h, none, 0, ev, rfl, hI⟩, hb⟩
    · refine (prefer_ok ad p l c key n w h1 h2 h4 h5 h6 h).mono ?_
      rintro e w' ⟨⟨v, out, rfl, h7, h8, h9⟩, hb⟩
      exact ⟨Or.inr ⟨h, v, out, rfl, h7, h8, h9⟩, hb⟩
end Go.Proofs.YtakfjkphmfblaaaGreatDoor
