/- What is told of a text: for the statement WireReads. -/
import Derived.Test.YteppmkpckdmnaaaDoorWiredW
import Derived.Test.YteppmkpckdmnaaaDoorWireOfW
import Derived.Deep.RegionHeld3
namespace Go.Proofs.YteppmkpckdmnaaaDoor
open Go.RowKit
/-- The message that is told, or none. -/
def msgOf (x : Int × Option Msg) : Msg := x.2.getD noMsg
theorem decP_one {ad : Nat → Addr} {x : Int × Option Msg} {B : Nat} {e : Ending} {w' : World} (h : DecP ad x B e w') : ∃ ev p c, e = .returned (.tuple #[msgA (msgOf x) (.slice p (msgOf x).L.length c), ev]) ∧ BareIs ad ev x.1 ∧ Rec verE w' p (msgOf x).L ∧ (p = none → (msgOf x).L = [] ∧ c = 0) := by
  obtain ⟨ev, h1, h2⟩ := h
  rcases h2 with ⟨h3, h4⟩ | ⟨m, lv, h3, h4, h5⟩
  · have e : msgOf x = noMsg := by unfold msgOf; rw [h3]; rfl
    rw [e]
    exact ⟨ev, none, 0, h4, h1, Rec.nil _ _, fun _ => ⟨rfl, rfl⟩⟩
  · have e : msgOf x = m := by unfold msgOf; rw [h3]; rfl
    obtain ⟨p, c, rfl, hr, _, hn, _⟩ := h5.form
    rw [e]
    exact ⟨ev, p, c, h4, h1, hr, hn⟩
theorem decIs_one {x : Int × Option Msg} {B : Nat} {e : Ending} {w' : World} (h : DecIs x B e w') : ∃ p c, e = .returned (.tuple #[msgA (msgOf x) (.slice p (msgOf x).L.length c), .int .i64 x.1]) ∧ Rec verE w' p (msgOf x).L := by
  rcases h with ⟨h3, h4⟩ | ⟨m, lv, h3, h4, h5⟩
  · have e : msgOf x = noMsg := by unfold msgOf; rw [h3]; rfl
    rw [e]
    exact ⟨none, 0, h4, Rec.nil _ _⟩
  · have e : msgOf x = m := by unfold msgOf; rw [h3]; rfl
    obtain ⟨p, c, rfl, hr, _⟩ := h5.form
    rw [e, h3]
    exact ⟨p, c, h4, hr⟩
/-- What is told of a text: an error, or the message that is written so. -/
theorem dec_cases (s : ByteArray) : ((decE s).1 ≠ 0 ∧ 0 < (decE s).1 ∧ (decE s).1 ≤ 12 ∧ (msgOf (decE s)).L.length ≤ 1000000) ∨ ((decE s).1 = 0 ∧ encE (msgOf (decE s)) = (0, s) ∧ (msgOf (decE s)).L.length ≤ 1000000 ∧ (bulkN (msgOf (decE s)) ≤ 9000 ∧ MsgLe (msgOf (decE s)))) := by
  cases h : (decE s).2 with
  | none =>
    left
    have hm : msgOf (decE s) = noMsg := by unfold msgOf; rw [h]; rfl
    rw [hm]
    unfold decE at h ⊢
    split
    · exact ⟨by decide, by decide, by decide, by decide⟩
    · split
      · exact ⟨by decide, by decide, by decide, by decide⟩
      · split
        · split
          · exact ⟨by decide, by decide, by decide, by decide⟩
          · rename_i h1 h2 h3 x m' hm'
            rw [if_neg h1, if_neg h2, if_pos h3, hm'] at h
            cases h
        · exact ⟨by decide, by decide, by decide, by decide⟩
  | some m =>
    right
    have hm : msgOf (decE s) = m := by unfold msgOf; rw [h]; rfl
    have he : decE s = ((decE s).1, some m) := by rw [← h]
    obtain ⟨h1, h2, h3, h4⟩ := decE_some he
    rw [hm]
    have hb : bulkN m ≤ (encL m).length := by
      have hv : ∀ l : List Ver, bulkV l ≤ (l.flatMap verL).length := by
        intro l
        induction l with
        | nil => simp [bulkV]
        | cons v l ih =>
          have e1 : (verL v).length = 40 + v.text.size := by
            unfold verL txL
            have : v.text.data.toList.length = v.text.size := by simp
            simp only [List.length_append, eightL_length, this]
            omega
          unfold bulkV at ih ⊢
          rw [List.map_cons, List.sum_cons, List.flatMap_cons, List.length_append, e1]
          omega
      have := hv m.L
      have a1 : m.from_.data.toList.length = m.from_.size := by simp
      have a2 : m.to_.data.toList.length = m.to_.size := by simp
      have a3 : m.kind.data.toList.length = m.kind.size := by simp
      have a4 : m.key.data.toList.length = m.key.size := by simp
      unfold bulkN encL headL txL
      simp only [List.length_append, eightL_length, a1, a2, a3, a4]
      omega
    have hl := bulkV_len m.L
    refine ⟨h1, h4, ?_, by omega, h2.le⟩
    have : bulkV m.L ≤ bulkN m := by unfold bulkN; omega
    omega
end Go.Proofs.YteppmkpckdmnaaaDoor
