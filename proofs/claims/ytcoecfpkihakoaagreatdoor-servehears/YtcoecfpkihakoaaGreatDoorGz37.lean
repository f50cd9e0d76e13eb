/- Package serve: Hear. -/
import Derived.Test.YtcoecfpkihakoaaGreatDoorSvPnW
import Derived.Test.YtcoecfpkihakoaaGreatDoorSvPlW
import Derived.Test.YtcoecfpkihakoaaGreatDoorSvPsW
import Derived.Test.YtcoecfpkihakoaaGreatDoorSvPkW
import Derived.Test.YtcoecfpkihakoaaGreatDoorGz19
import Derived.Test.YtcoecfpkihakoaaGreatDoorHdSeW
import Derived.Test.YtcoecfpkihakoaaGreatDoorGz7
import Derived.Test.YtcoecfpkihakoaaGreatDoorGz3
namespace Go.Proofs.YtcoecfpkihakoaaGreatDoor
open Go.RowKit
variable {w : World} {B h : Nat} {S : Nat → Prop} {m : MMem} {mp : Option Nat} {D : DataW Value} {hb : Nat → Nat} {Sh : Nat → Nat → Prop}
theorem phear_any (hp : PSv w B h S m mp D hb Sh) (x : Msg × Lv) (hL : HasL w x) (hnS : ∀ b o, x.2.1 = some ⟨b, o, none⟩ → ¬ S b) (hR : MsgR x.1) (hci : CfIn x.1.config) {ad : Nat → Addr} (hX : ∀ W : World, w.heap.size ≤ W.heap.size → (∀ k, k < w.heap.size → ¬ S k → W.heap[k]? = w.heap[k]?) → HErrX W ad) :
    Calls Tryz.prog 11 #[.pointer (some ⟨h, 0, none⟩), .agg #[.string x.1.from_, .string x.1.to_, .string x.1.kind, .string x.1.key, .int .i64 x.1.op, .int .i64 x.1.config, .bool x.1.shut, .slice x.2.1 x.2.2.1 x.2.2.2]] w fun e w' => HearP w B h S m x.1 e w' := by
  by_cases hto : x.1.to_ = m.name
  · by_cases hask : AskIs x.1
    · cases hhd : m.held x.1.config with
      | none => exact phear_full hp x hL hR hci hto hask hhd
      | some my =>
        by_cases h1 : x.1.kind = kLook
        · exact phear_look hp x hL hR hci hto hask h1 hhd
        · by_cases h2 : x.1.kind = kSeal
          · exact phear_seal hp x hL hR hci hto hask h2 hhd
          · by_cases h3 : x.1.kind = kKeep
            · exact phear_keep hp x hL hR hci hto hask h3 hhd hnS hX
            · exact absurd ⟨h1, h2, Or.inl h3⟩ hask.2
    · exact phear_odd hp x hL hR hto hask
  · exact phear_other hp x hL hto
end Go.Proofs.YtcoecfpkihakoaaGreatDoor
/- Package serve answers as the statements ask. -/
namespace Go.Proofs.YtcoecfpkihakoaaGreatDoor
open Go.RowKit
theorem phold_ok {w : World} {B h : Nat} {S : Nat → Prop} {m : MMem} {mp : Option Nat} {D : DataW Value} {hb : Nat → Nat} {Sh : Nat → Nat → Prop} (hp : PSv w B h S m mp D hb Sh) {c : Int} (hc : CfIn c) : Calls Tryz.prog 14 #[.pointer (some ⟨h, 0, none⟩), .int .i64 c] w fun e w' => ((cfdI m.L c < m.L.length ∧ ∃ hb Sh, e = .returned (.pointer (some ⟨hb, 0, none⟩)) ∧ HdOf w' hb Sh (cfdAt m.L (cfdI m.L c)).2.1 (cfdAt m.L (cfdI m.L c)).2.2 ∧ ∀ k, Sh k → S k) ∨ (¬ cfdI m.L c < m.L.length ∧ e = .returned (.pointer none))) ∧ Below w.heap.size w w' := by
  refine (phold_any hp hc).mono fun e w' hq => ?_
  obtain ⟨e1, e2⟩ := hq
  subst e2
  refine ⟨?_, Below.refl _ _⟩
  unfold cfP at e1
  by_cases hlt : cfdI m.L c < m.L.length
  · rw [if_pos hlt] at e1
    exact Or.inl ⟨hlt, _, _, e1, hp.hold _ hlt, fun k hk => (hp.sub _ hlt k hk).1⟩
  · rw [if_neg hlt] at e1
    exact Or.inr ⟨hlt, e1⟩
theorem serveOk0_of (ad : Nat → Addr) (X : World → Prop) (hXE : ∀ w, X w → HErrX w ad) : ServeOk0 ad X HdOf PSvOf where
  inS := fun ⟨_, _, _, _, hp⟩ k hk => hp.inB k hk
  keep := fun ⟨mp, D, hb, Sh, hp⟩ hb' hk => ⟨mp, D, hb, Sh, hp.keep hb'.size hk⟩
  new := fun name w hs hX => pnew_any ad name w (by omega) (fun W hW => ((hXE w hX).errs.below hW).c3)
  hear := fun x ⟨_, _, _, _, hp⟩ _ hL hnS hR hci hX => phear_any hp x hL hnS hR hci (fun W h1 h2 => hXE W (hX W h1 h2))
  hold := fun c hc ⟨_, _, _, _, hp⟩ => phold_ok hp hc
end Go.Proofs.YtcoecfpkihakoaaGreatDoor
/- Package serve answers as ServeHears asks. -/
namespace Go.Proofs.YtcoecfpkihakoaaGreatDoor
open Go.RowKit
theorem Sent.herrx {w : World} {ad : Nat → Addr} (h : Sent w ad) : HErrX w ad := ⟨⟨h.c1, h.c3, h.c5, h.c6, h.c9⟩, fun i hi => h.row i (by omega), fun i hi => h.ne i 9 (by omega) (by omega) (by omega)⟩
theorem serveOk (ad : Nat → Addr) : ServeOk ad (fun w => Sent w ad) HdOf PSvOf where
  toServeOk0 := serveOk0_of ad _ fun _ h => h.herrx
  see := hdSee
  wipe := fun ⟨_, _, _, _, hp⟩ => pwipe_any hp
end Go.Proofs.YtcoecfpkihakoaaGreatDoor
