/- What is written of a message is read, and what is read is written so. -/
import Derived.Test.YteppmkpckdmnaaaDoorRUnwE
import Derived.Test.YteppmkpckdmnaaaDoorSealM
namespace Go.Proofs.YteppmkpckdmnaaaDoor
open Go.RowKit
/-- A message whose numbers are none below 0. -/
structure MsgFits (m : Msg) : Prop where
  op : Fits64 m.op
  config : Fits64 m.config
  vers : ∀ v ∈ m.L, VerFits v
  texts : m.from_.size ≤ 9223372036854775807 ∧ m.to_.size ≤ 9223372036854775807 ∧ m.kind.size ≤ 9223372036854775807 ∧ m.key.size ≤ 9223372036854775807
  few : m.L.length ≤ 9223372036854775807
theorem unF_enc {m : Msg} (h : MsgFits m) : unF (encL m) = some m := by
  obtain ⟨⟨o1, o2⟩, ⟨c1, c2⟩, hv, ⟨h1, h2, h3, h4⟩, hf⟩ := h
  unfold unF encL headL
  simp only [List.append_assoc]
  rw [rdT_wr h1]
  simp only []
  rw [rdT_wr h2]
  simp only []
  rw [rdT_wr h3]
  simp only []
  rw [rdT_wr h4]
  simp only []
  rw [rdN_wr (by omega)]
  simp only []
  rw [rdN_wr (by omega)]
  simp only []
  rw [rdN_wr (by cases m.shut <;> simp)]
  simp only []
  rw [rdN_wr hf]
  simp only []
  have e := rdM_wr m.L hv []
  rw [List.append_nil] at e
  rw [e]
  simp only []
  have hs : ¬ 1 < (if m.shut = true then 1 else 0 : Nat) := by cases m.shut <;> simp
  rw [if_neg (by simp [hs])]
  have hd : decide ((if m.shut = true then 1 else 0 : Nat) = 1) = m.shut := by cases m.shut <;> rfl
  rw [hd, Int.toNat_of_nonneg o1, Int.toNat_of_nonneg c1]
theorem enc_unF {r : List UInt8} {m : Msg} (h : unF r = some m) : encL m = r ∧ MsgFits m := by
  unfold unF at h
  simp only [] at h
  split at h
  · cases h
  · rename_i hc
    have hm := (Option.some.inj h).symm
    have e : ∀ {α : Type} (x : α × List UInt8 × Bool), x.2.2 = false → x = (x.1, x.2.1, false) := fun x hx => by rw [← hx]
    have nb : ∀ {b : Bool}, ¬ b = true → b = false := fun {b} h => by cases b with
      | false => rfl
      | true => exact absurd rfl h
    generalize hF : rdT r false = F at *
    generalize hT : rdT F.2.1 F.2.2 = T at *
    generalize hK : rdT T.2.1 T.2.2 = K at *
    generalize hY : rdT K.2.1 K.2.2 = Y at *
    generalize hO : rdN Y.2.1 Y.2.2 = O at *
    generalize hC : rdN O.2.1 O.2.2 = C at *
    generalize hS : rdN C.2.1 C.2.2 = S at *
    generalize hN : rdN S.2.1 S.2.2 = N at *
    generalize hL : rdM N.1 N.2.1 N.2.2 = L at *
    have hl : L.2.2 = false := nb fun h => hc (Or.inl h)
    have hr : L.2.1 = [] := Classical.byContradiction fun h => hc (Or.inr (Or.inl h))
    have hs : ¬ 1 < S.1 := fun h => hc (Or.inr (Or.inr h))
    obtain ⟨l1, l2, l3, l4⟩ := rdM_inv N.1 (hL.trans (e L hl))
    obtain ⟨n1, n2, n3⟩ := rdN_inv (hN.trans (e N l4))
    obtain ⟨s1, s2, s3⟩ := rdN_inv (hS.trans (e S n3))
    obtain ⟨c1, c2, c3⟩ := rdN_inv (hC.trans (e C s3))
    obtain ⟨o1, o2, o3⟩ := rdN_inv (hO.trans (e O c3))
    obtain ⟨y1, y2, y3⟩ := rdT_inv (hY.trans (e Y o3))
    obtain ⟨k1, k2, k3⟩ := rdT_inv (hK.trans (e K y3))
    obtain ⟨t1, t2, t3⟩ := rdT_inv (hT.trans (e T k3))
    obtain ⟨f1, f2, _⟩ := rdT_inv (hF.trans (e F t3))
    subst hm
    refine ⟨?_, ⟨by simp, by simp; omega⟩, ⟨by simp, by simp; omega⟩, l2, ⟨f2, t2, k2, y2⟩, by show L.1.length ≤ _; rw [l3]; exact n2⟩
    unfold encL headL
    simp only [Int.toNat_natCast, List.append_assoc]
    have hd : (if decide (S.1 = 1) = true then 1 else 0) = S.1 := by
      by_cases h1 : S.1 = 1
      · simp [h1]
      · simp [h1]; omega
    rw [hd, l3]
    rw [hr, List.append_nil] at l1
    rw [← l1, ← n1, ← s1, ← c1, ← o1, ← y1, ← k1, ← t1]
    exact f1.symm
end Go.Proofs.YteppmkpckdmnaaaDoor
