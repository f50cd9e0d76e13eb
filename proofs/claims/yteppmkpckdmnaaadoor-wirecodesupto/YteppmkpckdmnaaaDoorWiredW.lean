/- The closed fact: a message of nothing is written, and read. -/
import Derived.Test.YteppmkpckdmnaaaDoorWireCW
namespace Go.Proofs.YteppmkpckdmnaaaDoor
open Go.RowKit
set_option maxRecDepth 10000 in
set_option maxHeartbeats 2000000 in
theorem wired_any {ad : Nat → Addr} {X : World → Prop} (hO : WireOk ad X) (w : World) (hS : ∀ W, Below w.heap.size w W → Sent W ad) (hX : ∀ W, Below w.heap.size w W → X W) :
    Calls Tryd.prog 5 #[] w fun e w' => e = .returned (.bool true) ∧ Below w.heap.size w w' := by
  have hz : (sealT (ofL (encL noMsg))).size = 68 := by rw [sealT_size, ofL_size, encL_noMsg]
  have he := hO.encode noMsg none 0 w (Rec.nil w none) (fun _ => ⟨rfl, rfl⟩) ⟨by decide, noMsg_fits.le⟩ (hS w (Below.refl _ _)) (hX w (Below.refl _ _))
  rw [encE_fits noMsg_fits (by rw [encL_noMsg]; decide)] at he
  have hd := fun W hW => hO.decode (sealT (ofL (encL noMsg))) W (by omega) (hS W hW) (hX W hW)
  rw [decE_enc noMsg_fits (by rw [encL_noMsg]; decide)] at hd
  generalize sealT (ofL (encL noMsg)) = s at *
  have HE : Hid (Calls Tryd.prog 7 #[.agg #[.string ⟨#[]⟩, .string ⟨#[]⟩, .string ⟨#[]⟩, .string ⟨#[]⟩, .int .i64 0, .int .i64 0, .bool false, .slice none 0 0]] w fun e w' => e = .returned (.tuple #[.string s, .nilIface]) ∧ Below w.heap.size w w') := he.mono fun e w' hp => by
    obtain ⟨⟨ev, h1, h2⟩, h3⟩ := hp
    rcases h2 with ⟨rfl, _⟩ | ⟨i, _, _, h4⟩
    · exact ⟨h1, h3⟩
    · simp only [] at h4; omega
  have HD : Hid (∀ W, Below w.heap.size w W → Calls Tryd.prog 11 #[.string s] W fun e w' => (∃ p c, e = .returned (.tuple #[.agg #[.string ⟨#[]⟩, .string ⟨#[]⟩, .string ⟨#[]⟩, .string ⟨#[]⟩, .int .i64 0, .int .i64 0, .bool false, .slice p 0 c], .nilIface])) ∧ Below W.heap.size W w') := fun W hW => (hd W hW).mono fun e w' hp => by
    obtain ⟨⟨ev, h1, h2⟩, h3⟩ := hp
    refine ⟨?_, h3⟩
    have hev : ev = .nilIface := by
      rcases h1 with ⟨rfl, _⟩ | ⟨i, _, _, h4⟩
      · rfl
      · simp only [] at h4; omega
    subst hev
    rcases h2 with ⟨h4, _⟩ | ⟨m, lv, h4, h5, h6⟩
    · cases h4
    · obtain rfl := Option.some.inj h4
      obtain ⟨p, c, rfl, _⟩ := h6.form
      exact ⟨p, c, h5⟩
  clear he hd hO hS hX
  go_enter Tryd.func5, Tryd.ntmps5
  go_wp2_with fail
  refine HE.out.mono ?_
  rintro e w1 ⟨rfl, hb1⟩
  have HB1 : Hid (Below w.heap.size w w1) := hb1
  clear hb1 HE
  go_wp2_with fail
  refine (HD.out w1 HB1.out).mono ?_
  rintro e w2 ⟨⟨p, c, rfl⟩, hb2⟩
  have HB2 : Hid (Below w.heap.size w (w2.alloc (.cells #[.string ⟨#[]⟩, .string ⟨#[]⟩, .string ⟨#[]⟩, .string ⟨#[]⟩, .int .i64 0, .int .i64 0, .bool false, .slice p 0 c] 31))) := (HB1.out.trans (hb2.mono HB1.out.size)).alloc (Nat.le_trans HB1.out.size hb2.size) _
  clear hb2 HD HB1
  go_wp2
  go_ret
  exact ⟨rfl, HB2.out⟩
end Go.Proofs.YteppmkpckdmnaaaDoor
