/- What package wire is asked to answer. -/
import Derived.Test.YteppmkpckdmnaaaDoorWireN
import Derived.Test.YteppmkpckdmnaaaDoorCode2W
import Derived.Test.YteppmkpckdmnaaaDoorBulkW
namespace Go.Proofs.YteppmkpckdmnaaaDoor
open Go.RowKit
/-- Is a number of a message below 0? -/
def negM (m : Msg) : Bool := decide (m.op < 0) || decide (m.config < 0) || m.L.any fun v => decide (v.n < 0) || decide (v.who < 0) || decide (v.size < 0) || decide (v.at_ < 0)
/-- What Encode is asked to tell: an error's number, and a text. -/
def encE (m : Msg) : Int × ByteArray := if negM m = true then (2, ⟨#[]⟩) else if 3996 < (encL m).length then (7, ⟨#[]⟩) else (0, sealT (ofL (encL m)))
def EncIs (ad : Nat → Addr) (x : Int × ByteArray) (e : Ending) : Prop := ∃ ev, e = .returned (.tuple #[.string x.2, ev]) ∧ BareIs ad ev x.1
def DecP (ad : Nat → Addr) (x : Int × Option Msg) (B : Nat) (e : Ending) (w' : World) : Prop := ∃ ev, BareIs ad ev x.1 ∧ ((x.2 = none ∧ e = .returned (.tuple #[msgA noMsg (.slice none 0 0), ev])) ∨ ∃ m lv, x.2 = some m ∧ e = .returned (.tuple #[msgA m lv, ev]) ∧ OwnR verE 50 w' B lv m.L)
/-- A message whose numbers are none above the greatest int. -/
def MsgLe (m : Msg) : Prop := (m.op ≤ 9223372036854775807 ∧ m.config ≤ 9223372036854775807) ∧ ∀ v ∈ m.L, v.n ≤ 9223372036854775807 ∧ v.who ≤ 9223372036854775807 ∧ v.size ≤ 9223372036854775807 ∧ v.at_ ≤ 9223372036854775807
theorem MsgFits.le {m : Msg} (h : MsgFits m) : MsgLe m := ⟨⟨h.op.2, h.config.2⟩, fun v hv => ⟨(h.vers v hv).1.2, (h.vers v hv).2.1.2, (h.vers v hv).2.2.1.2, (h.vers v hv).2.2.2.1.2⟩⟩
/-- X: what is asked of the world besides. -/
structure WireOk (ad : Nat → Addr) (X : World → Prop) : Prop where
  encode : ∀ (m : Msg) (p : Option Addr) (c : Nat) (w : World), Rec verE w p m.L → (p = none → m.L = [] ∧ c = 0) → bulkN m ≤ 9000 ∧ MsgLe m → Sent w ad → X w → Calls Tryd.prog 7 #[msgA m (.slice p m.L.length c)] w fun e w' => EncIs ad (encE m) e ∧ Below w.heap.size w w'
  decode : ∀ (s : ByteArray) (w : World), s.size ≤ 10000 → Sent w ad → X w → Calls Tryd.prog 11 #[.string s] w fun e w' => DecP ad (decE s) w.heap.size e w' ∧ Below w.heap.size w w'
theorem negM_fits {m : Msg} (h : MsgFits m) : negM m = false := by
  unfold negM
  have h1 : ¬ m.op < 0 := by have := h.op.1; omega
  have h2 : ¬ m.config < 0 := by have := h.config.1; omega
  simp only [decide_eq_false h1, decide_eq_false h2, Bool.false_or]
  rw [List.any_eq_false]
  intro v hv
  obtain ⟨a, b, c, d, _⟩ := h.vers v hv
  have := a.1; have := b.1; have := c.1; have := d.1
  simp
  omega
theorem encE_fits {m : Msg} (h : MsgFits m) (hl : (encL m).length ≤ 3996) : encE m = (0, sealT (ofL (encL m))) := by
  unfold encE
  rw [if_neg (by rw [negM_fits h]; decide), if_neg (by omega)]
theorem decE_enc {m : Msg} (h : MsgFits m) (hl : (encL m).length ≤ 3996) : decE (sealT (ofL (encL m))) = (0, some m) := by
  have hz : (sealT (ofL (encL m))).size = (encL m).length + 4 := by rw [sealT_size, ofL_size]
  unfold decE
  rw [if_neg (by omega), if_neg (by omega), if_pos (by rw [seal_cut, seal_end]), seal_cut, ofL_data, unF_enc h]
theorem noMsg_fits : MsgFits noMsg := ⟨⟨by decide, by decide⟩, ⟨by decide, by decide⟩, (fun _ h => by cases h), ⟨by decide, by decide, by decide, by decide⟩, by decide⟩
theorem encL_noMsg : (encL noMsg).length = 64 := by
  unfold encL headL txL noMsg
  simp only [List.length_append, eightL_length]
  rfl
theorem seal_whole {s : ByteArray} (h : fourT (crcOf (cutT s)) = endT s) : sealT (cutT s) = s := by
  unfold sealT
  rw [h]
  unfold cutT endT
  apply ByteArray.ext
  apply Array.toList_inj.1
  simp
/-- What is told of a text that is a message: it is written so. -/
theorem decE_some {s : ByteArray} {c : Int} {m : Msg} (h : decE s = (c, some m)) : c = 0 ∧ MsgFits m ∧ (encL m).length ≤ 3996 ∧ encE m = (0, s) := by
  unfold decE at h
  split at h
  · cases h
  · split at h
    · cases h
    · split at h
      · rename_i h1 h2 h3
        split at h
        · cases h
        · rename_i m' hm
          obtain ⟨rfl, h5⟩ := Prod.mk.inj h
          obtain rfl := Option.some.inj h5
          obtain ⟨e1, e2⟩ := enc_unF hm
          have hlen : (encL m').length ≤ 3996 := by
            rw [e1]
            have := cutT_size s
            have e3 : (cutT s).data.toList.length = (cutT s).size := by simp
            omega
          refine ⟨rfl, e2, hlen, ?_⟩
          rw [encE_fits e2 hlen, e1, ofL_self, seal_whole h3]
      · cases h
end Go.Proofs.YteppmkpckdmnaaaDoor
