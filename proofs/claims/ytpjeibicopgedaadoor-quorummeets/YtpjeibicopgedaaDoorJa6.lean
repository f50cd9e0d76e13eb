/- Texts laid together. -/
import Derived.Test.YtpjeibicopgedaaDoorJa4
import Derived.Test.YtpjeibicopgedaaDoorJa5
import Derived.Deep.RegionHeld3
import Derived.Shelf.Abstract
namespace Go.Proofs.YtpjeibicopgedaaDoor
open Go.RowKit
set_option maxRecDepth 10000 in
set_option maxHeartbeats 16000000 in
theorem quorumMeets_any {ad : Nat → Addr} {X : World → Prop} (hO : QuorumOk ad X) (c : Cfg) (p : Option Addr) (cap : Nat) (A : List ByteArray) (pa : Option Addr) (ca : Nat) (B : List ByteArray) (pb : Option Addr) (cb : Nat) (w : World)
    (hC : TxsIn w c.L p cap) (hin : CfgIn c) (hA : TxsIn w A pa ca) (hB : TxsIn w B pb cb) (hS : ∀ W, Below w.heap.size w W → Sent W ad) (hX : ∀ W, Below w.heap.size w W → X W) :
    Calls Tryd.prog 3 #[cfgA c (.slice p c.L.length cap), .slice pa A.length ca, .slice pb B.length cb] w fun e w' => e = .returned (.bool true) ∧ Below w.heap.size w w' := by
  obtain ⟨w1, hw1⟩ : ∃ w1, w1 = w.alloc (.cells #[.int .i64 c.n, .int .i64 c.k, .slice p c.L.length cap] 24) := ⟨_, rfl⟩
  have HW1 : Hid (w1 = w.alloc (.cells #[.int .i64 c.n, .int .i64 c.k, .slice p c.L.length cap] 24)) := hw1
  have hb1 : Below w.heap.size w w1 := by rw [hw1]; exact (Below.refl _ _).alloc (Nat.le_refl _) _
  have hx1 : w1.heap[w.heap.size]? = some (.cells #[.int .i64 c.n, .int .i64 c.k, .slice p c.L.length cap] 24 (0, 0)) := by rw [hw1]; exact heap_alloc_new _ _
  have hlt1 : w.heap.size < w1.heap.size := (Array.getElem?_eq_some_iff.1 hx1).1
  have HBX : Hid (∀ W, Below w1.heap.size w1 W → W.heap[w.heap.size]? = some (.cells #[.int .i64 c.n, .int .i64 c.k, .slice p c.L.length cap] 24 (0, 0))) := fun W hW => (hW.block _ hlt1).trans hx1
  have HLO : Hid (∀ W, Below w1.heap.size w1 W → Below w.heap.size w W) := fun W hW => hb1.trans (hW.mono hb1.size)
  have HEN := enough_any hO.en w1 (fun W hW => (hS W (HLO.out W hW)).errsQ) (fun W hW => hX W (HLO.out W hW))
  have HLC : Hid (∀ W, Below w1.heap.size w1 W → Calls Tryd.prog 6 #[cfgA c (.slice p c.L.length cap)] W fun e w' => e = .returned (.bool (longC c)) ∧ Below W.heap.size W w') := fun W hW => longConfig_any c p cap W hC.len hC.size (hC.strs.below (HLO.out W hW))
  have HOC : Hid (∀ W, Below w1.heap.size w1 W → longC c = false → Calls Tryd.prog 10 #[cfgA c (.slice p c.L.length cap)] W fun e w' => (∃ q d, e = .returned (cfgA c (.slice q c.L.length d)) ∧ CfgAt w' c q d) ∧ Below W.heap.size W w') := fun W hW hlc => (ownConfig_any c p cap W (by have := (longC_fine hlc).1; omega) (hC.strs.below (HLO.out W hW)) hC.empty).mono fun e w' hp => by
    obtain ⟨⟨q, d, h1, h2, h3, h4⟩, h5⟩ := hp
    exact ⟨⟨q, d, h1, cfgAt_of h2 h3 h4 hlc hin⟩, h5⟩
  have HCF : Hid (∀ W, Below w1.heap.size w1 W → longC c = false → Calls Tryd.prog 7 #[cfgA c (.slice p c.L.length cap)] W fun e w' => e = .returned (.agg #[.int .i64 (cfgF c).1, .int .i64 (cfgF c).2]) ∧ Below W.heap.size W w') := fun W hW hlc => rcfg_any c p cap W (cfgAt_of (hC.strs.below (HLO.out W hW)) hC.room hC.empty hlc hin)
  have HCK : Hid (∀ W q d, Below w1.heap.size w1 W → CfgAt W c q d → Calls Tryd.prog 9 #[cfgA c (.slice q c.L.length d)] W fun e w' => (∃ ev, e = .returned ev ∧ ErrIs w' ad ev (cfgF c).1 (cfgF c).2) ∧ Below W.heap.size W w') := fun W q d hW hc => hO.check c q d W hc (hS W (HLO.out W hW)).errsQ (hX W (HLO.out W hW))
  have HQE : Hid (∀ W q d, Below w1.heap.size w1 W → CfgAt W c q d → Calls Tryd.prog 11 #[cfgA c (.slice q c.L.length d)] W fun e w' => (∃ ev, e = .returned (.tuple #[.int .i64 ((if 0 < (cfgF c).1 then 0 else enoughN c : Nat) : Int), ev]) ∧ ErrIs w' ad ev (cfgF c).1 (cfgF c).2) ∧ Below W.heap.size W w') := fun W q d hW hc => hO.enough c q d W hc (hS W (HLO.out W hW)).errsQ (hX W (HLO.out W hW))
  have HFD : Hid (∀ W ev x y, Below w1.heap.size w1 W → ErrIs W ad ev x y → Calls Tryd.prog 8 #[ev, .agg #[.int .i64 x, .int .i64 y]] W fun e w' => e = .returned (.bool true) ∧ Below W.heap.size W w') := fun W ev x y hW he => faulted2_any ad ev x y W (hS W (HLO.out W hW)) he
  have HME : Hid (∀ W q d x px cx y py cy, Below w1.heap.size w1 W → CfgAt W c q d → TxsAt W x px cx → TxsAt W y py cy → Calls Tryd.prog 12 #[cfgA c (.slice q c.L.length d), .slice px x.length cx, .slice py y.length cy] W fun e w' => (∃ ev lp lc, e = .returned (.tuple #[.slice lp (meetT c x y).length lc, ev]) ∧ Strs w' lp (meetT c x y) ∧ ErrIs w' ad ev (meetE c x y).1 (meetE c x y).2) ∧ Below W.heap.size W w') := fun W q d x px cx y py cy hW hc h1 h2 => hO.meet c q d x px cx y py cy W hc h1 h2 (hS W (HLO.out W hW)).errsQ (hX W (HLO.out W hW))
  have HRE : Hid (∀ W, (1 ≤ c.k ∧ c.k ≤ c.n ∧ c.n ≤ 12) → Calls Tryd.prog 13 #[cfgA c (.slice p c.L.length cap)] W fun e w' => e = .returned (.int .i64 ((enoughN c : Nat) : Int)) ∧ Below W.heap.size W w') := fun W h => renough_any c (.slice p c.L.length cap) ⟨_, _, _, rfl⟩ W h
  have HFI : Hid (¬ 0 < (cfgF c).1 → (1 ≤ c.k ∧ c.k ≤ c.n ∧ c.n ≤ 12) ∧ cfgF c = (0, -1)) := fun h => ⟨(cfgF_fine h).1, (cfgF_fine h).2.2.1⟩
  have HMP : Hid (0 < (cfgF c).1 → meetE c A B = cfgF c ∧ (meetT c A B).length = 0) := fun h => by
    have e : meetE c A B = cfgF c := by unfold meetE; rw [if_pos h]
    exact ⟨e, by unfold meetT; rw [e, if_pos h]; rfl⟩
  have HMN : Hid (¬ 0 < (cfgF c).1 → meetE c A B = meetF c.L A B ∧ (0 < (meetF c.L A B).1 → (meetT c A B).length = 0) ∧ (¬ 0 < (meetF c.L A B).1 → meetT c A B = meetL c.L A B)) := fun h => by
    have e : meetE c A B = meetF c.L A B := by unfold meetE; rw [if_neg h]
    refine ⟨e, fun h1 => ?_, fun h1 => ?_⟩
    · unfold meetT; rw [e, if_pos h1]; rfl
    · unfold meetT; rw [e, if_neg h1]
  have HLF : Hid (longC c = false → c.L.length ≤ 30) := fun h => (longC_fine h).1
  have HSC : Hid (∀ W, Below w1.heap.size w1 W → Strs W p c.L) := fun W hW => hC.strs.below (HLO.out W hW)
  have HSA : Hid (∀ W, Below w1.heap.size w1 W → Strs W pa A) := fun W hW => hA.strs.below (HLO.out W hW)
  have HSB : Hid (∀ W, Below w1.heap.size w1 W → Strs W pb B) := fun W hW => hB.strs.below (HLO.out W hW)
  have HZA : Hid (∀ i, i < A.length → (txt A i).size ≤ 9223372036854775807) := fun i hi => by have := hA.size _ (txt_mem hi); unfold maxLen at this; omega
  have HZB : Hid (∀ i, i < B.length → (txt B i).size ≤ 9223372036854775807) := fun i hi => by have := hB.size _ (txt_mem hi); unfold maxLen at this; omega
  have HAE : Hid ((pa = none → A = [] ∧ ca = 0) ∧ (pb = none → B = [] ∧ cb = 0)) := ⟨hA.empty, hB.empty⟩
  have hal' : A.length ≤ 9223372036854775807 := by have := hA.len; unfold maxLen at this; omega
  have hbl' : B.length ≤ 9223372036854775807 := by have := hB.len; unfold maxLen at this; omega
  clear hw1 hb1 hx1 hO hC hin hA hB hS hX
  obtain ⟨cn, ck, L⟩ := c
  unfold cfgA at *
  simp only [] at *
  go_enter Tryd.func3, Tryd.ntmps3
  go_wp2_with fail
  rw [← HW1.out]
  refine HEN.mono ?_
  rintro e w2 ⟨rfl, hb2⟩
  have HB2 : Hid (Below w1.heap.size w1 w2) := hb2
  have hx2 := HBX.out w2 hb2
  have q0 : w2.cell? ⟨w.heap.size, 0, none⟩ = some (.int .i64 cn) := by simp [World.cell?, hx2]
  have q1 : w2.cell? ⟨w.heap.size, 1, none⟩ = some (.int .i64 ck) := by simp [World.cell?, hx2]
  have q2 : w2.cell? ⟨w.heap.size, 2, none⟩ = some (.slice p L.length cap) := by simp [World.cell?, hx2]
  clear hb2 hx2 HEN HW1
  go_wp2_with fail
  refine (HLC.out w2 HB2.out).mono ?_
  rintro e w3 ⟨rfl, hb3⟩
  have HB3 : Hid (Below w1.heap.size w1 w3) := HB2.out.trans (hb3.mono HB2.out.size)
  clear hb3 HB2 HLC q0 q1 q2
  generalize hlc : longC ⟨cn, ck, L⟩ = LC at *
  cases LC with
  | true =>
    go_wp2
    go_ret
    exact ⟨rfl, HLO.out w3 HB3.out⟩
  | false =>
    by_cases h40 : 30 < A.length
    · have d1 : decide (30 < (A.length : Int)) = true := decide_eq_true (by omega)
      go_wp2
      go_ret
      exact ⟨rfl, HLO.out w3 HB3.out⟩
    have d1 : decide (30 < (A.length : Int)) = false := decide_eq_false (by omega)
    by_cases h41 : 30 < B.length
    · have d2 : decide (30 < (B.length : Int)) = true := decide_eq_true (by omega)
      go_wp2
      go_ret
      exact ⟨rfl, HLO.out w3 HB3.out⟩
    have d2 : decide (30 < (B.length : Int)) = false := decide_eq_false (by omega)
    go_wp2
    clear d1 d2
    go_loopw [8] (fun x wr => ∃ i : Nat, i ≤ A.length + B.length ∧ x = .int .i64 i ∧ (∀ j, j < i → j < A.length → (txt A j).size ≤ 60) ∧ (∀ j, A.length + j < i → j < B.length → (txt B j).size ≤ 60) ∧ wr = w3) (fun x _ => A.length + B.length - (intOf x).toNat)
    case atStart => exact ⟨0, Nat.zero_le _, rfl, (fun j hj => absurd hj (Nat.not_lt_zero _)), (fun j hj => absurd hj (Nat.not_lt_zero _)), rfl⟩
    case round =>
      obtain ⟨i, hi, rfl, hja, hjb, hwr⟩ := hrel
      subst hwr
      have HJA : Hid (∀ j, j < i → j < A.length → (txt A j).size ≤ 60) := hja
      have HJB : Hid (∀ j, A.length + j < i → j < B.length → (txt B j).size ≤ 60) := hjb
      clear hja hjb
      by_cases hil : i < A.length + B.length
      · have dl : decide ((i : Int) < (A.length : Int) + (B.length : Int)) = true := decide_eq_true (by omega)
        by_cases hia : i < A.length
        · rcases HSA.out wr HB3.out with h0 | ⟨b, off, hpp, hlt2, hc⟩
          · rw [h0] at hia; simp at hia
          subst hpp
          have cA := hc i hia
          have hsz := HZA.out i hia
          clear hc
          by_cases hbig : 60 < (txt A i).size
          · generalize txt A i = t at *
            have dt : decide (60 < (t.size : Int)) = true := decide_eq_true (by omega)
            go_wp2
            go_ret
            exact ⟨rfl, HLO.out wr HB3.out⟩
          · have HBG : Hid ((txt A i).size ≤ 60) := by show _ ≤ _; omega
            generalize hti : txt A i = t at *
            have HTI : Hid (txt A i = t) := hti
            have dt : decide (60 < (t.size : Int)) = false := decide_eq_false (by omega)
            clear hti
            go_wp2
            go_roundw
            case rel => exact ⟨i + 1, by omega, by go_num, (fun j hj h2 => by
              rcases Nat.lt_or_ge j i with h | h
              · exact HJA.out j h h2
              · obtain rfl : j = i := by omega
                rw [HTI.out]; exact HBG.out), (fun j hj h2 => HJB.out j (by omega) h2), trivial⟩
            case measure => simp [intOf]; omega
        · obtain ⟨k, rfl⟩ : ∃ k, i = A.length + k := ⟨i - A.length, by omega⟩
          have hib : k < B.length := by omega
          rcases HSB.out wr HB3.out with h0 | ⟨b, off, hpp, hlt2, hc⟩
          · rw [h0] at hib; simp at hib
          subst hpp
          have cB := hc k hib
          have hsz := HZB.out k hib
          clear hc
          by_cases hbig : 60 < (txt B k).size
          · generalize txt B k = t at *
            have dt : decide (60 < (t.size : Int)) = true := decide_eq_true (by omega)
            go_wp2
            go_ret
            exact ⟨rfl, HLO.out wr HB3.out⟩
          · have HBG : Hid ((txt B k).size ≤ 60) := by show _ ≤ _; omega
            generalize hti : txt B k = t at *
            have HTI : Hid (txt B k = t) := hti
            have dt : decide (60 < (t.size : Int)) = false := decide_eq_false (by omega)
            clear hti
            go_wp2
            go_roundw
            case rel => exact ⟨A.length + k + 1, by omega, by go_num, (fun j hj h2 => HJA.out j (by omega) h2), (fun j hj h2 => by
              rcases Nat.lt_or_ge j k with h | h
              · exact HJB.out j (by omega) h2
              · obtain rfl : j = k := by omega
                rw [HTI.out]; exact HBG.out), trivial⟩
            case measure => simp [intOf]; omega
      · have HTA : Hid (∀ W q d, Strs W q A → A.length ≤ d → (q = none → A = [] ∧ d = 0) → TxsAt W A q d) := fun W q d h1 h2 h3 => ⟨h1, h2, h3, by omega, fun x hx => by
          obtain ⟨j, hj, rfl⟩ := txt_of_mem hx
          have := HJA.out j (by omega) hj
          omega⟩
        have HTB : Hid (∀ W q d, Strs W q B → B.length ≤ d → (q = none → B = [] ∧ d = 0) → TxsAt W B q d) := fun W q d h1 h2 h3 => ⟨h1, h2, h3, by omega, fun x hx => by
          obtain ⟨j, hj, rfl⟩ := txt_of_mem hx
          have := HJB.out j (by omega) hj
          omega⟩
        have dl : decide ((i : Int) < (A.length : Int) + (B.length : Int)) = false := decide_eq_false (by omega)
        clear HJA HJB HZA HZB
        have hxr := HBX.out wr HB3.out
        have q0 : wr.cell? ⟨w.heap.size, 0, none⟩ = some (.int .i64 cn) := by simp [World.cell?, hxr]
        have q1 : wr.cell? ⟨w.heap.size, 1, none⟩ = some (.int .i64 ck) := by simp [World.cell?, hxr]
        have q2 : wr.cell? ⟨w.heap.size, 2, none⟩ = some (.slice p L.length cap) := by simp [World.cell?, hxr]
        have hcf := HCF.out wr HB3.out trivial
        generalize hF : cfgF ⟨cn, ck, L⟩ = F0 at *
        obtain ⟨F1, F2⟩ := F0
        simp only [] at *
        have HCW : Hid (Calls Tryd.prog 7 #[.agg #[.int .i64 cn, .int .i64 ck, .slice p L.length cap]] wr fun e w' => e = .returned (.agg #[.int .i64 F1, .int .i64 F2]) ∧ Below wr.heap.size wr w') := hcf
        clear hcf HCF hxr
        go_wp2_with fail
        refine HCW.out.mono ?_
        rintro e w4 ⟨rfl, hb4⟩
        have hB4 : Below w1.heap.size w1 w4 := HB3.out.trans (hb4.mono HB3.out.size)
        obtain ⟨w5, hw5⟩ : ∃ w5, w5 = w4.alloc (.cells #[.int .i64 F1, .int .i64 F2] 28) := ⟨_, rfl⟩
        have HW5 : Hid (w5 = w4.alloc (.cells #[.int .i64 F1, .int .i64 F2] 28)) := hw5
        have hb5 : Below w1.heap.size w1 w5 := by rw [hw5]; exact hB4.alloc hB4.size _
        have hy5 : w5.heap[w4.heap.size]? = some (.cells #[.int .i64 F1, .int .i64 F2] 28 (0, 0)) := by rw [hw5]; exact heap_alloc_new _ _
        have hl5 := (Array.getElem?_eq_some_iff.1 hy5).1
        have HB5 : Hid (Below w1.heap.size w1 w5 ∧ w1.heap.size ≤ w4.heap.size) := ⟨hb5, hB4.size⟩
        have HFB : Hid (∀ W, Below w5.heap.size w5 W → W.heap[w4.heap.size]? = some (.cells #[.int .i64 F1, .int .i64 F2] 28 (0, 0))) := fun W hW => (hW.block _ hl5).trans hy5
        have HLW : Hid (∀ W, Below w5.heap.size w5 W → Below w1.heap.size w1 W) := fun W hW => HB5.out.1.trans (hW.mono HB5.out.1.size)
        have HKE : Hid (∀ W, Below w5.heap.size w5 W → (W.cell? ⟨w.heap.size, 0, none⟩ = some (.int .i64 cn) ∧ W.cell? ⟨w.heap.size, 1, none⟩ = some (.int .i64 ck) ∧ W.cell? ⟨w.heap.size, 2, none⟩ = some (.slice p L.length cap) ∧ W.cell? ⟨w4.heap.size, 0, none⟩ = some (.int .i64 F1) ∧ W.cell? ⟨w4.heap.size, 1, none⟩ = some (.int .i64 F2) ∧ Below w5.heap.size w5 W)) := fun W hW => by
          have hx := HBX.out W (HLW.out W hW)
          have hy := HFB.out W hW
          exact ⟨by simp [World.cell?, hx], by simp [World.cell?, hx], by simp [World.cell?, hx], by simp [World.cell?, hy], by simp [World.cell?, hy], hW⟩
        have HC1 : Hid (∀ W, (W.cell? ⟨w.heap.size, 0, none⟩ = some (.int .i64 cn) ∧ W.cell? ⟨w.heap.size, 1, none⟩ = some (.int .i64 ck) ∧ W.cell? ⟨w.heap.size, 2, none⟩ = some (.slice p L.length cap) ∧ W.cell? ⟨w4.heap.size, 0, none⟩ = some (.int .i64 F1) ∧ W.cell? ⟨w4.heap.size, 1, none⟩ = some (.int .i64 F2) ∧ Below w5.heap.size w5 W) → Calls Tryd.prog 10 #[.agg #[.int .i64 cn, .int .i64 ck, .slice p L.length cap]] W fun e w' => (∃ q d, e = .returned (.agg #[.int .i64 cn, .int .i64 ck, .slice q L.length d]) ∧ CfgAt w' ⟨cn, ck, L⟩ q d) ∧ (w'.cell? ⟨w.heap.size, 0, none⟩ = some (.int .i64 cn) ∧ w'.cell? ⟨w.heap.size, 1, none⟩ = some (.int .i64 ck) ∧ w'.cell? ⟨w.heap.size, 2, none⟩ = some (.slice p L.length cap) ∧ w'.cell? ⟨w4.heap.size, 0, none⟩ = some (.int .i64 F1) ∧ w'.cell? ⟨w4.heap.size, 1, none⟩ = some (.int .i64 F2) ∧ Below w5.heap.size w5 w')) := fun W hW => (HOC.out W (HLW.out W hW.2.2.2.2.2) trivial).mono fun e w' hp => ⟨hp.1, HKE.out w' (hW.2.2.2.2.2.trans (hp.2.mono hW.2.2.2.2.2.size))⟩
        have HC2 : Hid (∀ W q d, (W.cell? ⟨w.heap.size, 0, none⟩ = some (.int .i64 cn) ∧ W.cell? ⟨w.heap.size, 1, none⟩ = some (.int .i64 ck) ∧ W.cell? ⟨w.heap.size, 2, none⟩ = some (.slice p L.length cap) ∧ W.cell? ⟨w4.heap.size, 0, none⟩ = some (.int .i64 F1) ∧ W.cell? ⟨w4.heap.size, 1, none⟩ = some (.int .i64 F2) ∧ Below w5.heap.size w5 W) → CfgAt W ⟨cn, ck, L⟩ q d → Calls Tryd.prog 9 #[.agg #[.int .i64 cn, .int .i64 ck, .slice q L.length d]] W fun e w' => (∃ ev, e = .returned ev ∧ ErrIs w' ad ev F1 F2) ∧ (w'.cell? ⟨w.heap.size, 0, none⟩ = some (.int .i64 cn) ∧ w'.cell? ⟨w.heap.size, 1, none⟩ = some (.int .i64 ck) ∧ w'.cell? ⟨w.heap.size, 2, none⟩ = some (.slice p L.length cap) ∧ w'.cell? ⟨w4.heap.size, 0, none⟩ = some (.int .i64 F1) ∧ w'.cell? ⟨w4.heap.size, 1, none⟩ = some (.int .i64 F2) ∧ Below w5.heap.size w5 w')) := fun W q d hW hc => (HCK.out W q d (HLW.out W hW.2.2.2.2.2) hc).mono fun e w' hp => ⟨hp.1, HKE.out w' (hW.2.2.2.2.2.trans (hp.2.mono hW.2.2.2.2.2.size))⟩
        have HC3 : Hid (∀ W ev, (W.cell? ⟨w.heap.size, 0, none⟩ = some (.int .i64 cn) ∧ W.cell? ⟨w.heap.size, 1, none⟩ = some (.int .i64 ck) ∧ W.cell? ⟨w.heap.size, 2, none⟩ = some (.slice p L.length cap) ∧ W.cell? ⟨w4.heap.size, 0, none⟩ = some (.int .i64 F1) ∧ W.cell? ⟨w4.heap.size, 1, none⟩ = some (.int .i64 F2) ∧ Below w5.heap.size w5 W) → ErrIs W ad ev F1 F2 → Calls Tryd.prog 8 #[ev, .agg #[.int .i64 F1, .int .i64 F2]] W fun e w' => e = .returned (.bool true) ∧ (w'.cell? ⟨w.heap.size, 0, none⟩ = some (.int .i64 cn) ∧ w'.cell? ⟨w.heap.size, 1, none⟩ = some (.int .i64 ck) ∧ w'.cell? ⟨w.heap.size, 2, none⟩ = some (.slice p L.length cap) ∧ w'.cell? ⟨w4.heap.size, 0, none⟩ = some (.int .i64 F1) ∧ w'.cell? ⟨w4.heap.size, 1, none⟩ = some (.int .i64 F2) ∧ Below w5.heap.size w5 w')) := fun W ev hW he => (HFD.out W ev F1 F2 (HLW.out W hW.2.2.2.2.2) he).mono fun e w' hp => ⟨hp.1, HKE.out w' (hW.2.2.2.2.2.trans (hp.2.mono hW.2.2.2.2.2.size))⟩
        have hS0 := HKE.out w5.drew (Below.refl _ _).drew
        clear hb4 hB4 hw5 hb5 hy5 hl5 HCW HCK q0 q1 q2
        go_wp2_with fail
        rw [← HW5.out]
        clear HW5
        go_region_held3 (fun W => (W.cell? ⟨w.heap.size, 0, none⟩ = some (.int .i64 cn) ∧ W.cell? ⟨w.heap.size, 1, none⟩ = some (.int .i64 ck) ∧ W.cell? ⟨w.heap.size, 2, none⟩ = some (.slice p L.length cap) ∧ W.cell? ⟨w4.heap.size, 0, none⟩ = some (.int .i64 F1) ∧ W.cell? ⟨w4.heap.size, 1, none⟩ = some (.int .i64 F2) ∧ Below w5.heap.size w5 W)) (first | assumption | exact hS0) (first | (go_at_call 10; refine (HC1.out _ (by assumption)).mono ?_; rintro e y1 ⟨⟨q1, d1, rfl, hc1⟩, hS1⟩) | (go_at_call 9; refine (HC2.out _ _ _ (by assumption) (by assumption)).mono ?_; rintro e y2 ⟨⟨ev2, rfl, he2⟩, hS2⟩) | (go_at_call 8; refine (HC3.out _ _ (by assumption) (by assumption)).mono ?_; rintro e y3 ⟨rfl, hS3⟩))
        have HY3 : Hid (Below w5.heap.size w5 y3) := hS3.2.2.2.2.2
        obtain ⟨q0, q1', q2, _, _, _⟩ := hS3
        clear hS0 hS1 hS2 hc1 he2 HC2 HC3
        go_wp2_with fail
        refine (HOC.out y3 (HLW.out y3 HY3.out) trivial).mono ?_
        rintro e y4 ⟨⟨q4, d4, rfl, hc4⟩, hb4⟩
        have HY4 : Hid (Below w5.heap.size w5 y4) := HY3.out.trans (hb4.mono HY3.out.size)
        have HC4 : Hid (CfgAt y4 ⟨cn, ck, L⟩ q4 d4) := hc4
        clear hb4 hc4 HY3 q0 q1' q2 HC1
        go_wp2_with fail
        refine (HQE.out y4 q4 d4 (HLW.out y4 HY4.out) HC4.out).mono ?_
        rintro e y5 ⟨⟨ev5, rfl, hev5⟩, hb5⟩
        have HY5 : Hid (Below w5.heap.size w5 y5) := HY4.out.trans (hb5.mono HY4.out.size)
        have HV5 : Hid (∀ W, Below y5.heap.size y5 W → ErrIs W ad ev5 F1 F2) := fun W hW => hev5.below hW
        by_cases hf : 0 < F1
        · rw [if_pos hf]
          obtain ⟨q0, q1', q2, _, _, _⟩ := HKE.out y5 HY5.out
          clear hb5 hev5 HY4 HC4 HQE
          go_wp2_with fail
          refine (HOC.out y5 (HLW.out y5 HY5.out) trivial).mono ?_
          rintro e y6 ⟨⟨q6, d6, rfl, hc6⟩, hb6⟩
          have HY6 : Hid (Below w5.heap.size w5 y6 ∧ Below y5.heap.size y5 y6) := ⟨HY5.out.trans (hb6.mono HY5.out.size), hb6⟩
          have HC6 : Hid (CfgAt y6 ⟨cn, ck, L⟩ q6 d6) := hc6
          have HA6 : Hid (Strs y6 pa A) := HSA.out y6 (HLW.out y6 HY6.out.1)
          clear hb6 hc6 q0 q1' q2 HOC
          go_wp2_with (first
            | (at_builtin; refine wpList_append_strs rfl (.tmp 94) (.tmp 95) rfl y6.heap.size (.slice none 0 0) [] rfl (OwnT.nil _ _) pa A ca rfl HA6.out HAE.out.1 (by show 0 + A.length ≤ _; omega) (Nat.le_refl _) ?_; intro v7 y7 hO7 hb7; rw [List.nil_append] at hO7; obtain ⟨q7, d7, hv7, hS7, hd7, hn7, _⟩ := hO7.form; subst hv7; have HY7 : Hid (Below y6.heap.size y6 y7) := hb7; have HT7 : Hid (∀ W, Below y7.heap.size y7 W → TxsAt W A q7 d7) := (fun W hW => HTA.out W q7 d7 (hS7.below hW) hd7 (fun e => ⟨(by rcases hS7 with h | ⟨b, o, hq, _⟩; exact h; rw [e] at hq; cases hq), hn7 e⟩)); have HB7 : Hid (Strs y7 pb B) := HSB.out y7 (HLW.out y7 (HY6.out.1.trans (hb7.mono HY6.out.1.size))); clear hO7 hb7 hS7 hd7 hn7 HA6)
            | (at_builtin; refine wpList_append_strs rfl (.tmp 97) (.tmp 98) rfl y7.heap.size (.slice none 0 0) [] rfl (OwnT.nil _ _) pb B cb rfl HB7.out HAE.out.2 (by show 0 + B.length ≤ _; omega) (Nat.le_refl _) ?_; intro v8 y8 hO8 hb8; rw [List.nil_append] at hO8; obtain ⟨q8, d8, hv8, hS8, hd8, hn8, _⟩ := hO8.form; subst hv8; have HY8 : Hid (Below y7.heap.size y7 y8) := hb8; have HT8 : Hid (TxsAt y8 B q8 d8) := (HTB.out y8 q8 d8 hS8 hd8 (fun e => ⟨(by rcases hS8 with h | ⟨b, o, hq, _⟩; exact h; rw [e] at hq; cases hq), hn8 e⟩)); clear hO8 hb8 hS8 hd8 hn8 HB7))
          have h68 : Below y6.heap.size y6 y8 := HY7.out.trans (HY8.out.mono HY7.out.size)
          have hw8 : Below w5.heap.size w5 y8 := HY6.out.1.trans (h68.mono HY6.out.1.size)
          have h58 : Below y5.heap.size y5 y8 := HY6.out.2.trans (h68.mono HY6.out.2.size)
          refine (HME.out y8 q6 d6 A q7 d7 B q8 d8 (HLW.out y8 hw8) (HC6.out.below h68) (HT7.out y8 HY8.out) HT8.out).mono ?_
          rintro e y9 ⟨⟨ev9, lp, lc, rfl, hS9, hev9⟩, hb9⟩
          have HY9 : Hid (Below w5.heap.size w5 y9) := hw8.trans (hb9.mono hw8.size)
          have HV59 : Hid (∀ W, Below y9.heap.size y9 W → ErrIs W ad ev5 F1 F2) := fun W hW => HV5.out W (h58.trans ((hb9.mono h58.size).trans (hW.mono (Nat.le_trans h58.size hb9.size))))
          have HV9 : Hid (∀ W, Below y9.heap.size y9 W → ErrIs W ad ev9 (meetE ⟨cn, ck, L⟩ A B).1 (meetE ⟨cn, ck, L⟩ A B).2) := fun W hW => hev9.below hW
          have HS9 : Hid (∀ W, Below y9.heap.size y9 W → Strs W lp (meetT ⟨cn, ck, L⟩ A B)) := fun W hW => hS9.below hW
          obtain ⟨q0, q1', q2, r0, r1, _⟩ := HKE.out y9 HY9.out
          clear h68 hw8 h58 hb9 hS9 hev9 HY5 HY6 HC6 HY7 HT7 HY8 HT8 HV5 HME HTA HTB HAE
          obtain ⟨hm1, hm2⟩ := HMP.out hf
          rw [hm2]
          rw [hm1] at HV9
          simp only [] at HV9
          have d1 : decide (0 < F1) = true := decide_eq_true hf
          clear HMP HMN HFI HS9 hm1 hm2
          go_wp2_with fail
          refine (HFD.out y9 ev5 F1 F2 (HLW.out y9 HY9.out) (HV59.out y9 (Below.refl _ _))).mono ?_
          rintro e z1 ⟨rfl, hbz1⟩
          have HZ1 : Hid (Below y9.heap.size y9 z1) := hbz1
          have HWZ1 : Hid (Below w5.heap.size w5 z1) := HY9.out.trans (hbz1.mono HY9.out.size)
          obtain ⟨_, _, _, s0, s1, _⟩ := HKE.out z1 HWZ1.out
          clear hbz1 q0 q1' q2 r0 r1
          go_wp2_with fail
          refine (HFD.out z1 ev9 F1 F2 (HLW.out z1 HWZ1.out) (HV9.out z1 HZ1.out)).mono ?_
          rintro e z2 ⟨rfl, hbz2⟩
          have HWZ2 : Hid (Below w5.heap.size w5 z2) := HWZ1.out.trans (hbz2.mono HWZ1.out.size)
          clear hbz2 s0 s1
          go_wp2
          go_ret
          exact ⟨rfl, HLO.out z2 (HLW.out z2 HWZ2.out)⟩
        · rw [if_neg hf]
          obtain ⟨q0, q1', q2, _, _, _⟩ := HKE.out y5 HY5.out
          clear hb5 hev5 HY4 HC4 HQE
          go_wp2_with fail
          refine (HOC.out y5 (HLW.out y5 HY5.out) trivial).mono ?_
          rintro e y6 ⟨⟨q6, d6, rfl, hc6⟩, hb6⟩
          have HY6 : Hid (Below w5.heap.size w5 y6 ∧ Below y5.heap.size y5 y6) := ⟨HY5.out.trans (hb6.mono HY5.out.size), hb6⟩
          have HC6 : Hid (CfgAt y6 ⟨cn, ck, L⟩ q6 d6) := hc6
          have HA6 : Hid (Strs y6 pa A) := HSA.out y6 (HLW.out y6 HY6.out.1)
          clear hb6 hc6 q0 q1' q2 HOC
          go_wp2_with (first
            | (at_builtin; refine wpList_append_strs rfl (.tmp 94) (.tmp 95) rfl y6.heap.size (.slice none 0 0) [] rfl (OwnT.nil _ _) pa A ca rfl HA6.out HAE.out.1 (by show 0 + A.length ≤ _; omega) (Nat.le_refl _) ?_; intro v7 y7 hO7 hb7; rw [List.nil_append] at hO7; obtain ⟨q7, d7, hv7, hS7, hd7, hn7, _⟩ := hO7.form; subst hv7; have HY7 : Hid (Below y6.heap.size y6 y7) := hb7; have HT7 : Hid (∀ W, Below y7.heap.size y7 W → TxsAt W A q7 d7) := (fun W hW => HTA.out W q7 d7 (hS7.below hW) hd7 (fun e => ⟨(by rcases hS7 with h | ⟨b, o, hq, _⟩; exact h; rw [e] at hq; cases hq), hn7 e⟩)); have HB7 : Hid (Strs y7 pb B) := HSB.out y7 (HLW.out y7 (HY6.out.1.trans (hb7.mono HY6.out.1.size))); clear hO7 hb7 hS7 hd7 hn7 HA6)
            | (at_builtin; refine wpList_append_strs rfl (.tmp 97) (.tmp 98) rfl y7.heap.size (.slice none 0 0) [] rfl (OwnT.nil _ _) pb B cb rfl HB7.out HAE.out.2 (by show 0 + B.length ≤ _; omega) (Nat.le_refl _) ?_; intro v8 y8 hO8 hb8; rw [List.nil_append] at hO8; obtain ⟨q8, d8, hv8, hS8, hd8, hn8, _⟩ := hO8.form; subst hv8; have HY8 : Hid (Below y7.heap.size y7 y8) := hb8; have HT8 : Hid (TxsAt y8 B q8 d8) := (HTB.out y8 q8 d8 hS8 hd8 (fun e => ⟨(by rcases hS8 with h | ⟨b, o, hq, _⟩; exact h; rw [e] at hq; cases hq), hn8 e⟩)); clear hO8 hb8 hS8 hd8 hn8 HB7))
          have h68 : Below y6.heap.size y6 y8 := HY7.out.trans (HY8.out.mono HY7.out.size)
          have hw8 : Below w5.heap.size w5 y8 := HY6.out.1.trans (h68.mono HY6.out.1.size)
          have h58 : Below y5.heap.size y5 y8 := HY6.out.2.trans (h68.mono HY6.out.2.size)
          refine (HME.out y8 q6 d6 A q7 d7 B q8 d8 (HLW.out y8 hw8) (HC6.out.below h68) (HT7.out y8 HY8.out) HT8.out).mono ?_
          rintro e y9 ⟨⟨ev9, lp, lc, rfl, hS9, hev9⟩, hb9⟩
          have HY9 : Hid (Below w5.heap.size w5 y9) := hw8.trans (hb9.mono hw8.size)
          have HV59 : Hid (∀ W, Below y9.heap.size y9 W → ErrIs W ad ev5 F1 F2) := fun W hW => HV5.out W (h58.trans ((hb9.mono h58.size).trans (hW.mono (Nat.le_trans h58.size hb9.size))))
          have HV9 : Hid (∀ W, Below y9.heap.size y9 W → ErrIs W ad ev9 (meetE ⟨cn, ck, L⟩ A B).1 (meetE ⟨cn, ck, L⟩ A B).2) := fun W hW => hev9.below hW
          have HS9 : Hid (∀ W, Below y9.heap.size y9 W → Strs W lp (meetT ⟨cn, ck, L⟩ A B)) := fun W hW => hS9.below hW
          obtain ⟨q0, q1', q2, r0, r1, _⟩ := HKE.out y9 HY9.out
          clear h68 hw8 h58 hb9 hS9 hev9 HY5 HY6 HC6 HY7 HT7 HY8 HT8 HV5 HME HTA HTB HAE
          obtain ⟨hbd, hFF⟩ := HFI.out (by omega)
          obtain ⟨rfl, rfl⟩ := Prod.mk.inj hFF
          obtain ⟨hm1, hm2, hm3⟩ := HMN.out (by omega)
          rw [hm1] at HV9
          obtain rfl := (HV59.out y9 (Below.refl _ _)).isNil
          have HRW : Hid (Calls Tryd.prog 13 #[.agg #[.int .i64 cn, .int .i64 ck, .slice p L.length cap]] y9 fun e w' => e = .returned (.int .i64 ((enoughN ⟨cn, ck, L⟩ : Nat) : Int)) ∧ Below y9.heap.size y9 w') := HRE.out y9 hbd
          have HM2 : Hid (0 < (meetF L A B).1 → (meetT ⟨cn, ck, L⟩ A B).length = 0) := hm2
          have HM3 : Hid (¬ 0 < (meetF L A B).1 → meetT ⟨cn, ck, L⟩ A B = meetL L A B) := fun h => hm3 (by omega)
          generalize enoughN ⟨cn, ck, L⟩ = EN at *
          generalize meetT ⟨cn, ck, L⟩ A B = MT at *
          clear HMP HMN HFI HV59 hFF hbd hm1 hm2 hm3 HRE hf hF
          go_wp2_with fail
          refine HRW.out.mono ?_
          rintro e z1 ⟨rfl, hbz1⟩
          have HZ1 : Hid (Below y9.heap.size y9 z1) := hbz1
          have HWZ : Hid (Below w5.heap.size w5 z1) := HY9.out.trans (hbz1.mono HY9.out.size)
          have HL1 : Hid (Below w1.heap.size w1 z1) := HLW.out z1 HWZ.out
          have hy1 := HFB.out z1 HWZ.out
          have hx1 := HBX.out z1 HL1.out
          have HBOX : Hid (z1.heap[w.heap.size]? = some (.cells #[.int .i64 cn, .int .i64 ck, .slice p L.length cap] 24 (0, 0)) ∧ z1.heap[w4.heap.size]? = some (.cells #[.int .i64 0, .int .i64 (-1)] 28 (0, 0))) := ⟨hx1, hy1⟩
          have t2 : z1.cell? ⟨w.heap.size, 2, none⟩ = some (.slice p L.length cap) := by simp [World.cell?, hx1]
          have s0 : z1.cell? ⟨w4.heap.size, 0, none⟩ = some (.int .i64 0) := by simp [World.cell?, hy1]
          have s1 : z1.cell? ⟨w4.heap.size, 1, none⟩ = some (.int .i64 (-1)) := by simp [World.cell?, hy1]
          have f0 : z1.frozen? ⟨w4.heap.size, 0, none⟩ = false := by simp [World.frozen?, hy1]
          have f1 : z1.frozen? ⟨w4.heap.size, 1, none⟩ = false := by simp [World.frozen?, hy1]
          have HHI : Hid (∀ (l : List ByteArray) q d s W, Strs W q l → l.length ≤ 1000 → s ∈ l → Calls Tryd.prog 14 #[.slice q l.length d, .string s] W fun e w' => e = .returned (.int .i64 ((idxN l s : Nat) : Int)) ∧ w' = W) := fun l q d s W h1 h2 h3 => index_hit q l d s W (by omega) h1 h3
          have HMI : Hid (∀ (l : List ByteArray) q d s W, Strs W q l → l.length ≤ 1000 → s ∉ l → Calls Tryd.prog 14 #[.slice q l.length d, .string s] W fun e w' => e = .returned (.int .i64 (-1)) ∧ w' = W) := fun l q d s W h1 h2 h3 => index_miss q l d s W (by omega) h1 h3
          have HML : Hid (∀ i, i < A.length → (∀ j, j < i → txt A j ∈ L) → txt A i ∉ L → meetF L A B = (5, (i : Int))) := fun i h1 h2 h3 => meetF_a h1 h2 h3
          have HMR : Hid (∀ i, i < B.length → (∀ x ∈ A, x ∈ L) → (∀ j, j < i → txt B j ∈ L) → txt B i ∉ L → meetF L A B = (5, (i : Int))) := fun i h1 h0 h2 h3 => meetF_b h0 h1 h2 h3
          have HMZ : Hid ((∀ x ∈ A, x ∈ L) → (∀ x ∈ B, x ∈ L) → meetF L A B = (0, -1)) := fun h1 h2 => meetF_fine h1 h2
          have HL30 : Hid (L.length ≤ 30) := HLF.out trivial
          have hne4 : w.heap.size < w4.heap.size := by have := HB5.out.2; omega
          generalize meetF L A B = G at *
          obtain ⟨G1, G2⟩ := G
          simp only [] at *
          have HW14 : Hid (w1.heap.size ≤ w4.heap.size) := HB5.out.2
          clear hbz1 hx1 hy1 q0 q1' q2 r0 r1 HRW HKE HFB HLF HBX HB5
          go_wp2
          go_loopw [16] (fun x wq => ∃ i : Nat, i ≤ A.length + B.length ∧ x = .int .i64 i ∧ (((∀ j, j < i → j < A.length → txt A j ∈ L) ∧ (∀ j, A.length + j < i → j < B.length → txt B j ∈ L) ∧ wq = z1) ∨ (0 < G1 ∧ wq = (z1.setCell ⟨w4.heap.size, 0, none⟩ (.int .i64 G1)).setCell ⟨w4.heap.size, 1, none⟩ (.int .i64 G2)))) (fun x _ => A.length + B.length - (intOf x).toNat)
          case atStart => exact ⟨0, Nat.zero_le _, rfl, Or.inl ⟨(fun j hj => absurd hj (Nat.not_lt_zero _)), (fun j hj => absurd hj (Nat.not_lt_zero _)), rfl⟩⟩
          case round =>
            obtain ⟨i, hi, rfl, hcase⟩ := hrel
            rcases hcase with ⟨hja, hjb, hwq⟩ | ⟨hg, hwq⟩
            · subst hwq
              have HJA : Hid (∀ j, j < i → j < A.length → txt A j ∈ L) := hja
              have HJB : Hid (∀ j, A.length + j < i → j < B.length → txt B j ∈ L) := hjb
              clear hja hjb
              by_cases hil : i < A.length + B.length
              · have dl : decide ((i : Int) < (A.length : Int) + (B.length : Int)) = true := decide_eq_true (by omega)
                by_cases hia : i < A.length
                · rcases HSA.out wr HL1.out with h0 | ⟨b, off, hpp, hlt2, hc⟩
                  · rw [h0] at hia; simp at hia
                  subst hpp
                  have cA := hc i hia
                  clear hc
                  by_cases hmem : txt A i ∈ L
                  · have hix := HHI.out L p cap (txt A i) wr (HSC.out wr HL1.out) (by have := HL30.out; omega) hmem
                    have HIX : Hid (Calls Tryd.prog 14 #[.slice p L.length cap, .string (txt A i)] wr fun e w' => e = .returned (.int .i64 ((idxN L (txt A i) : Nat) : Int)) ∧ w' = wr) := hix
                    have HTM : Hid (txt A i ∈ L) := hmem
                    generalize idxN L (txt A i) = ix at *
                    generalize hti : txt A i = t at *
                    have HTI : Hid (txt A i = t) := hti
                    clear hti hix hmem
                    go_wp2_with fail
                    refine HIX.out.mono ?_
                    rintro e v1 ⟨rfl, hv1⟩
                    rw [hv1]
                    clear hv1 v1 HIX
                    go_wp2
                    go_roundw
                    case rel => exact ⟨i + 1, by omega, by go_num, Or.inl ⟨(fun j hj h2 => by
                      rcases Nat.lt_or_ge j i with h | h
                      · exact HJA.out j h h2
                      · obtain rfl : j = i := by omega
                        rw [HTI.out]; exact HTM.out), (fun j hj h2 => HJB.out j (by omega) h2), trivial⟩⟩
                    case measure => simp [intOf]; omega
                  · have HIX : Hid (Calls Tryd.prog 14 #[.slice p L.length cap, .string (txt A i)] wr fun e w' => e = .returned (.int .i64 (-1)) ∧ w' = wr) := HMI.out L p cap (txt A i) wr (HSC.out wr HL1.out) (by have := HL30.out; omega) hmem
                    have hG := HML.out i hia (fun j hj => HJA.out j hj (by omega)) hmem
                    obtain ⟨rfl, rfl⟩ := Prod.mk.inj hG
                    clear hG hmem
                    generalize txt A i = t at *
                    go_wp2_with fail
                    refine HIX.out.mono ?_
                    rintro e v1 ⟨rfl, hv1⟩
                    rw [hv1]
                    clear hv1 v1 HIX
                    go_wp2
                    go_roundw
                    case rel => exact ⟨i + 1, by omega, by go_num, Or.inr ⟨by decide, trivial⟩⟩
                    case measure => simp [intOf]; omega
                · obtain ⟨k, rfl⟩ : ∃ k, i = A.length + k := ⟨i - A.length, by omega⟩
                  have hib : k < B.length := by omega
                  rcases HSB.out wr HL1.out with h0 | ⟨b, off, hpp, hlt2, hc⟩
                  · rw [h0] at hib; simp at hib
                  subst hpp
                  have cB := hc k hib
                  clear hc
                  by_cases hmem : txt B k ∈ L
                  · have HIX : Hid (Calls Tryd.prog 14 #[.slice p L.length cap, .string (txt B k)] wr fun e w' => e = .returned (.int .i64 ((idxN L (txt B k) : Nat) : Int)) ∧ w' = wr) := HHI.out L p cap (txt B k) wr (HSC.out wr HL1.out) (by have := HL30.out; omega) hmem
                    have HTM : Hid (txt B k ∈ L) := hmem
                    generalize idxN L (txt B k) = ix at *
                    generalize hti : txt B k = t at *
                    have HTI : Hid (txt B k = t) := hti
                    clear hti hmem
                    go_wp2_with fail
                    refine HIX.out.mono ?_
                    rintro e v1 ⟨rfl, hv1⟩
                    rw [hv1]
                    clear hv1 v1 HIX
                    go_wp2
                    go_roundw
                    case rel => exact ⟨A.length + k + 1, by omega, by go_num, Or.inl ⟨(fun j hj h2 => HJA.out j (by omega) h2), (fun j hj h2 => by
                      rcases Nat.lt_or_ge j k with h | h
                      · exact HJB.out j (by omega) h2
                      · obtain rfl : j = k := by omega
                        rw [HTI.out]; exact HTM.out), trivial⟩⟩
                    case measure => simp [intOf]; omega
                  · have HIX : Hid (Calls Tryd.prog 14 #[.slice p L.length cap, .string (txt B k)] wr fun e w' => e = .returned (.int .i64 (-1)) ∧ w' = wr) := HMI.out L p cap (txt B k) wr (HSC.out wr HL1.out) (by have := HL30.out; omega) hmem
                    have hG := HMR.out k hib (fun x hx => by obtain ⟨j, hj, rfl⟩ := txt_of_mem hx; exact HJA.out j (by omega) hj) (fun j hj => HJB.out j (by omega) (by omega)) hmem
                    obtain ⟨rfl, rfl⟩ := Prod.mk.inj hG
                    clear hG hmem
                    generalize txt B k = t at *
                    go_wp2_with fail
                    refine HIX.out.mono ?_
                    rintro e v1 ⟨rfl, hv1⟩
                    rw [hv1]
                    clear hv1 v1 HIX
                    go_wp2
                    go_roundw
                    case rel => exact ⟨A.length + k + 1, by omega, by go_num, Or.inr ⟨by decide, by rw [show (A.length : Int) + k - A.length = k by omega]⟩⟩
                    case measure => simp [intOf]; omega
              · have hG := HMZ.out (fun x hx => by obtain ⟨j, hj, rfl⟩ := txt_of_mem hx; exact HJA.out j (by omega) hj) (fun x hx => by obtain ⟨j, hj, rfl⟩ := txt_of_mem hx; exact HJB.out j (by omega) hj)
                obtain ⟨rfl, rfl⟩ := Prod.mk.inj hG
                obtain rfl := (HV9.out wr HZ1.out).isNil
                have hMT := HM3.out (by decide)
                subst hMT
                have dl : decide ((i : Int) < (A.length : Int) + (B.length : Int)) = false := decide_eq_false (by omega)
                clear hG HJA HJB HML HMR HMZ HM2 HM3 HV9
                obtain ⟨zz, rfl⟩ : ∃ zz, zz = wr := ⟨_, rfl⟩
                have HPF : Hid (∀ k, k < L.length → (L.take (k + 1)).filter (fun x => inL A x && inL B x) = (L.take k).filter (fun x => inL A x && inL B x) ++ (if (inL A (txt L k) && inL B (txt L k)) then [txt L k] else [])) := fun k hk => filter_takeM hk
                have HPE : Hid ((L.take L.length).filter (fun x => inL A x && inL B x) = meetL L A B) := by show _ = _; rw [List.take_length]; rfl
                have HST : Hid (∀ W q d, Strs W q (meetL L A B) → Strs W lp (meetL L A B) → Calls Tryd.prog 15 #[.slice lp (meetL L A B).length lc, .slice q (meetL L A B).length d] W fun e w' => e = .returned (.bool true) ∧ Below W.heap.size W w') := fun W q d h1 h2 => by
                  have hlm : (meetL L A B).length ≤ 30 := Nat.le_trans (List.length_filter_le _ _) HL30.out
                  have := sameTexts_any lp q (meetL L A B) (meetL L A B) lc d W (by omega) (by omega) h2 h1
                  rw [decide_eq_true rfl] at this
                  exact this
                have HFL : Hid (∀ k, ((L.take k).filter (fun x => inL A x && inL B x)).length ≤ 30) := fun k => Nat.le_trans (List.length_filter_le _ _) (Nat.le_trans (by rw [List.length_take]; omega) HL30.out)
                generalize meetL L A B = ML at *
                have hl30 : L.length ≤ 30 := HL30.out
                go_wp2
                go_loopw [19, 20] (fun v x wq => ∃ k : Nat, k ≤ L.length ∧ x = .int .i64 k ∧ OwnT wq zz.heap.size v ((L.take k).filter (fun x => inL A x && inL B x)) ∧ Below zz.heap.size zz wq) (fun _ x _ => L.length - (intOf x).toNat)
                case atStart => exact ⟨0, Nat.zero_le _, rfl, OwnT.nil _ _, Below.refl _ _⟩
                case round =>
                  obtain ⟨k, hk, rfl, hO, hB⟩ := hrel
                  obtain ⟨u0, rfl⟩ : ∃ u0, u0 = wr := ⟨_, rfl⟩
                  have hB1 : Below w1.heap.size w1 u0 := HL1.out.trans (hB.mono HL1.out.size)
                  have hx0 := (hB.block w.heap.size (Array.getElem?_eq_some_iff.1 HBOX.out.1).1).trans HBOX.out.1
                  have q2 : u0.cell? ⟨w.heap.size, 2, none⟩ = some (.slice p L.length cap) := by simp [World.cell?, hx0]
                  obtain ⟨wp, wc, hv, hSW, _⟩ := hO.form
                  have HSW : Hid (Strs u0 wp ((L.take k).filter (fun x => inL A x && inL B x))) := hSW
                  have hfl := HFL.out k
                  have HO : Hid (OwnT u0 zz.heap.size (.slice wp ((L.take k).filter (fun x => inL A x && inL B x)).length wc) ((L.take k).filter (fun x => inL A x && inL B x))) := by rw [← hv]; exact hO
                  subst hv
                  have HB : Hid (Below zz.heap.size zz u0 ∧ Below w1.heap.size w1 u0) := ⟨hB, hB1⟩
                  have hzs : zz.heap.size ≤ u0.heap.size := hB.size
                  clear hO hB hB1 hx0 hSW
                  by_cases hkl : k < L.length
                  · have hpf := HPF.out k hkl
                    rcases HSC.out u0 HB.out.2 with h0 | ⟨b, off, hpp, hlt2, hc⟩
                    · rw [h0] at hkl; simp at hkl
                    subst hpp
                    have cL := hc k hkl
                    clear hc
                    generalize txt L k = x at *
                    by_cases hxa : x ∈ A
                    · have HIA : Hid (Calls Tryd.prog 14 #[.slice pa A.length ca, .string x] u0 fun e w' => e = .returned (.int .i64 ((idxN A x : Nat) : Int)) ∧ w' = u0) := HHI.out A pa ca x u0 (HSA.out u0 HB.out.2) (by omega) hxa
                      by_cases hxb : x ∈ B
                      · have HIB : Hid (Calls Tryd.prog 14 #[.slice pb B.length cb, .string x] u0 fun e w' => e = .returned (.int .i64 ((idxN B x : Nat) : Int)) ∧ w' = u0) := HHI.out B pb cb x u0 (HSB.out u0 HB.out.2) (by omega) hxb
                        rw [inL_iff.2 hxa, inL_iff.2 hxb] at hpf
                        have HPN : Hid ((L.take (k + 1)).filter (fun x => inL A x && inL B x) = (L.take k).filter (fun x => inL A x && inL B x) ++ [x]) := hpf
                        generalize (L.take k).filter (fun x => inL A x && inL B x) = WL at *
                        generalize idxN A x = ia at *
                        generalize idxN B x = ib at *
                        have HO5 : Hid (OwnT (u0.alloc (.cells #[.string x] 9)) zz.heap.size (.slice wp WL.length wc) WL) := HO.out.kept ((Below.refl _ _).alloc (Nat.le_refl _) _)
                        have c6 : (u0.alloc (.cells #[.string x] 9)).cell? ⟨u0.heap.size, 0, none⟩ = some (.string x) := by rw [World.cell?_alloc_at _ _ _ _ rfl]; rfl
                        have hs6 : zz.heap.size ≤ (u0.alloc (.cells #[.string x] 9)).heap.size := by simp; omega
                        have HB6 : Hid (Below zz.heap.size u0 (u0.alloc (.cells #[.string x] 9))) := (Below.refl _ _).alloc hzs _
                        clear hpf hxa hxb HHI HMI HPF
                        go_wp2_with fail
                        refine HIA.out.mono ?_
                        rintro e a1 ⟨rfl, ha1⟩
                        rw [ha1]
                        clear ha1 a1 HIA
                        go_wp2_with fail
                        refine HIB.out.mono ?_
                        rintro e a2 ⟨rfl, ha2⟩
                        rw [ha2]
                        clear ha2 a2 HIB
                        go_wp2_with (first | (at_builtin; refine wpList_append_str rfl (.tmp 205) (.tmp 211) rfl zz.heap.size (.slice wp WL.length wc) WL rfl HO5.out ⟨u0.heap.size, 0, none⟩ x 1 rfl c6 (by omega) hs6 ?_; intro v7 w7 hO7 hb7; obtain ⟨p7, d7, hv7, _⟩ := hO7.form; have hv8 : v7 = .slice p7 (WL.length + 1) d7 := (by rw [hv7, List.length_append]; rfl); clear hv7; subst hv8; have HO7 : Hid (OwnT w7 zz.heap.size (.slice p7 (WL.length + 1) d7) (WL ++ [x])) := hO7; have HB7 : Hid (Below zz.heap.size zz w7) := HB.out.1.trans (HB6.out.trans hb7); clear hO7 hb7))
                        go_roundw
                        case rel => exact ⟨k + 1, by omega, by go_num, by rw [HPN.out]; exact HO7.out, HB7.out⟩
                        case measure => simp [intOf]; omega
                      · have HIB : Hid (Calls Tryd.prog 14 #[.slice pb B.length cb, .string x] u0 fun e w' => e = .returned (.int .i64 (-1)) ∧ w' = u0) := HMI.out B pb cb x u0 (HSB.out u0 HB.out.2) (by omega) hxb
                        have hnb : inL B x = false := by
                          cases h : inL B x with
                          | false => rfl
                          | true => exact absurd (inL_iff.1 h) hxb
                        rw [hnb, Bool.and_false, if_neg (by decide), List.append_nil] at hpf
                        have HPN : Hid ((L.take (k + 1)).filter (fun x => inL A x && inL B x) = (L.take k).filter (fun x => inL A x && inL B x)) := hpf
                        generalize (L.take k).filter (fun x => inL A x && inL B x) = WL at *
                        generalize idxN A x = ia at *
                        clear hpf hxa hxb hnb HHI HMI HPF
                        go_wp2_with fail
                        refine HIA.out.mono ?_
                        rintro e a1 ⟨rfl, ha1⟩
                        rw [ha1]
                        clear ha1 a1 HIA
                        go_wp2_with fail
                        refine HIB.out.mono ?_
                        rintro e a2 ⟨rfl, ha2⟩
                        rw [ha2]
                        clear ha2 a2 HIB
                        go_wp2
                        go_roundw
                        case rel => exact ⟨k + 1, by omega, by go_num, by rw [HPN.out]; exact HO.out, HB.out.1⟩
                        case measure => simp [intOf]; omega
                    · have HIA : Hid (Calls Tryd.prog 14 #[.slice pa A.length ca, .string x] u0 fun e w' => e = .returned (.int .i64 (-1)) ∧ w' = u0) := HMI.out A pa ca x u0 (HSA.out u0 HB.out.2) (by omega) hxa
                      have hna : inL A x = false := by
                        cases h : inL A x with
                        | false => rfl
                        | true => exact absurd (inL_iff.1 h) hxa
                      rw [hna, Bool.false_and, if_neg (by decide), List.append_nil] at hpf
                      have HPN : Hid ((L.take (k + 1)).filter (fun x => inL A x && inL B x) = (L.take k).filter (fun x => inL A x && inL B x)) := hpf
                      generalize (L.take k).filter (fun x => inL A x && inL B x) = WL at *
                      clear hpf hxa hna HHI HMI HPF
                      go_wp2_with fail
                      refine HIA.out.mono ?_
                      rintro e a1 ⟨rfl, ha1⟩
                      rw [ha1]
                      clear ha1 a1 HIA
                      go_wp2
                      go_roundw
                      case rel => exact ⟨k + 1, by omega, by go_num, by rw [HPN.out]; exact HO.out, HB.out.1⟩
                      case measure => simp [intOf]; omega
                  · obtain rfl : k = L.length := by omega
                    have hst := HST.out u0 wp wc (by have := HSW.out; rw [HPE.out] at this; exact this) (HS9.out u0 (HZ1.out.trans (HB.out.1.mono HZ1.out.size)))
                    rw [HPE.out]
                    have HSTC : Hid (Calls Tryd.prog 15 #[.slice lp ML.length lc, .slice wp ML.length wc] u0 fun e w' => e = .returned (.bool true) ∧ Below u0.heap.size u0 w') := hst
                    clear hst HHI HMI HPF HST hfl HSW HO
                    go_wp2_with fail
                    refine HSTC.out.mono ?_
                    rintro e u9 ⟨rfl, hb9⟩
                    have HE9 : Hid (Below w1.heap.size w1 u9) := HB.out.2.trans (hb9.mono HB.out.2.size)
                    clear hb9
                    go_wp2
                    go_ret
                    exact ⟨rfl, HLO.out u9 HE9.out⟩
            · have hv1 : Below w1.heap.size w1 wr := by rw [hwq]; exact (HL1.out.setCell (p := ⟨w4.heap.size, 0, none⟩) HW14.out _).setCell (p := ⟨w4.heap.size, 1, none⟩) HW14.out _
              have HER : Hid (ErrIs wr ad ev9 G1 G2) := by
                have h1 := (HV9.out z1 HZ1.out).setInt s1 0 (.int .i64 G1)
                have h2 := h1.setInt (by rw [World.cell?_setCell_other _ _ _ _ (fun e => by have := congrArg Addr.off e; simp at this)]; exact s1) 1 (.int .i64 G2)
                rw [hwq]
                exact h2
              have HV1 : Hid (Below w1.heap.size w1 wr) := hv1
              have k0 : wr.cell? ⟨w4.heap.size, 0, none⟩ = some (.int .i64 G1) := by rw [hwq, World.cell?_setCell_other _ _ _ _ (fun e => by have := congrArg Addr.off e; simp at this)]; exact World.cell?_setCell_same _ _ _ s0
              have k1 : wr.cell? ⟨w4.heap.size, 1, none⟩ = some (.int .i64 G2) := by rw [hwq]; exact World.cell?_setCell_same _ _ _ (by rw [World.cell?_setCell_other _ _ _ _ (fun e => by have := congrArg Addr.off e; simp at this)]; exact s1)
              have hmt := HM2.out hg
              have dg : decide (0 < G1) = true := decide_eq_true hg
              have dz : (G1 == 0) = false := by rw [beq_eq_false_iff_ne]; omega
              have HFC : Hid (Calls Tryd.prog 8 #[ev9, .agg #[.int .i64 G1, .int .i64 G2]] wr fun e w' => e = .returned (.bool true) ∧ Below wr.heap.size wr w') := HFD.out wr ev9 G1 G2 HV1.out HER.out
              generalize MT.length = ml at *
              subst hmt
              clear hwq hv1 HER HM2 HM3 HV9 HHI HMI HML HMR HMZ s0 s1 t2 f0 f1 HS9
              by_cases hil : i < A.length + B.length
              · have dl : decide ((i : Int) < (A.length : Int) + (B.length : Int)) = true := decide_eq_true (by omega)
                go_wp2_with fail
                refine HFC.out.mono ?_
                rintro e z2 ⟨rfl, hb2⟩
                have HE2 : Hid (Below w1.heap.size w1 z2) := HV1.out.trans (hb2.mono HV1.out.size)
                clear hb2
                go_wp2
                go_ret
                exact ⟨rfl, HLO.out z2 HE2.out⟩
              · have dl : decide ((i : Int) < (A.length : Int) + (B.length : Int)) = false := decide_eq_false (by omega)
                go_wp2_with fail
                refine HFC.out.mono ?_
                rintro e z2 ⟨rfl, hb2⟩
                have HE2 : Hid (Below w1.heap.size w1 z2) := HV1.out.trans (hb2.mono HV1.out.size)
                clear hb2
                go_wp2
                go_ret
                exact ⟨rfl, HLO.out z2 HE2.out⟩
theorem check_any (ad : Nat → Addr) (p : Option Addr) (l : List ByteArray) (c : Nat) (w : World) (hl : l.length ≤ 1000) (hc : l.length ≤ c) (hs : Strs w p l) (hE : ErrsQ w ad) :
    Calls Tryd.prog 22 #[.slice p l.length c] w fun e w' => (∃ ev, e = .returned ev ∧ ErrIs w' ad ev (nodesF l).1 (nodesF l).2) ∧ Below w.heap.size w w' := by
  exact check3_any ad p l c w hl hc hs ⟨hE.c1, hE.c3, hE.c5⟩
/-- A configuration in a block of its own. -/
structure CfgBox (w : World) (b : Nat) (c : Cfg) (lv : Value) : Prop where
  f0 : w.cell? ⟨b, 0, none⟩ = some (.int .i64 c.n)
  f1 : w.cell? ⟨b, 1, none⟩ = some (.int .i64 c.k)
  f2 : w.cell? ⟨b, 2, none⟩ = some lv
theorem CfgBox.below {w w' : World} {b : Nat} {c : Cfg} {lv : Value} (h : CfgBox w b c lv) (hb : Below w.heap.size w w') : CfgBox w' b c lv :=
  ⟨(hb.cell (lt_of_cellE h.f0)).trans h.f0, (hb.cell (lt_of_cellE h.f0)).trans h.f1, (hb.cell (lt_of_cellE h.f0)).trans h.f2⟩
theorem cfgBox_made (w : World) (c : Cfg) (lv : Value) (t : TypeId) : CfgBox (w.alloc (.cells #[.int .i64 c.n, .int .i64 c.k, lv] t)) w.heap.size c lv :=
  ⟨by rw [World.cell?_alloc_at _ _ _ _ rfl]; rfl, by rw [World.cell?_alloc_at _ _ _ _ rfl]; rfl, by rw [World.cell?_alloc_at _ _ _ _ rfl]; rfl⟩
set_option maxRecDepth 10000 in
set_option maxHeartbeats 4000000 in
theorem qcheck_any (ad : Nat → Addr) (c : Cfg) (p : Option Addr) (cap : Nat) (w : World) (hc : CfgAt w c p cap) (hE : ErrsQ w ad) :
    Calls Tryd.prog 9 #[cfgA c (.slice p c.L.length cap)] w fun e w' => (∃ ev, e = .returned ev ∧ ErrIs w' ad ev (cfgF c).1 (cfgF c).2) ∧ Below w.heap.size w w' := by
  obtain ⟨w1, hw1⟩ : ∃ w1, w1 = w.alloc (.cells #[.int .i64 c.n, .int .i64 c.k, .slice p c.L.length cap] 24) := ⟨_, rfl⟩
  have hb1 : Below w.heap.size w w1 := by rw [hw1]; exact (Below.refl _ _).alloc (Nat.le_refl _) _
  have hx1 : CfgBox w1 w.heap.size c (.slice p c.L.length cap) := by rw [hw1]; exact cfgBox_made w c _ _
  have hE1 := hE.below hb1
  have HCK : Hid (Calls Tryd.prog 22 #[.slice p c.L.length cap] w1 fun e w' => (∃ ev, e = .returned ev ∧ ErrIs w' ad ev (nodesF c.L).1 (nodesF c.L).2) ∧ Below w1.heap.size w1 w') := check_any ad p c.L cap w1 hc.len hc.room (hc.strs.below hb1) hE1
  have HW1 : Hid (w1 = w.alloc (.cells #[.int .i64 c.n, .int .i64 c.k, .slice p c.L.length cap] 24)) := hw1
  have HB1 : Hid (Below w.heap.size w w1) := hb1
  have HMF : Hid (∀ W, Calls Tryd.prog 21 #[.int .i64 c.n, .int .i64 c.k] W fun e w' => e = .returned (.bool (decide (1 ≤ c.k ∧ c.k ≤ c.n ∧ c.n ≤ 12))) ∧ w' = W) := fun W => mfits_any c.n c.k W
  have q1 := hE1.c1
  have q2 := hE1.c2
  have f0 := hx1.f0
  have f1 := hx1.f1
  have f2 := hx1.f2
  have HI1 : Hid (∀ W, ErrIs W ad (.iface 101 (.pointer (some (ad 1)))) 2 (-1)) := fun W => ErrIs.sent 1 (by decide)
  have HI2 : Hid (∀ W, ErrIs W ad (.iface 101 (.pointer (some (ad 2)))) 3 (-1)) := fun W => ErrIs.sent 2 (by decide)
  have hl1 := hc.len
  unfold cfgA
  clear hw1 hb1 hx1 hE1 hE hc
  by_cases hf : 1 ≤ c.k ∧ c.k ≤ c.n ∧ c.n ≤ 12
  · have HMF1 : Hid (∀ W, Calls Tryd.prog 21 #[.int .i64 c.n, .int .i64 c.k] W fun e w' => e = .returned (.bool true) ∧ w' = W) := fun W => by have := HMF.out W; rw [decide_eq_true hf] at this; exact this
    by_cases hn : (c.L.length : Int) = c.n
    · have HF : Hid (cfgF c = nodesF c.L) := cfgF_nodes hf hn
      rw [HF.out]
      obtain ⟨n, k, L⟩ := c
      dsimp only at *
      subst hn
      clear HMF HF hf
      generalize nodesF L = R at *
      go_enter Tryd.func9, Tryd.ntmps9
      go_wp2_with fail
      rw [← HW1.out]
      refine (HMF1.out _).mono ?_
      rintro e w2 ⟨rfl, hw2⟩
      rw [hw2]
      clear hw2 w2 HMF1
      go_wp2_with fail
      refine HCK.out.mono ?_
      rintro e w3 ⟨⟨ev, rfl, hev⟩, hb3⟩
      have HB3 : Hid (Below w.heap.size w w3) := HB1.out.trans (hb3.mono HB1.out.size)
      have HEV : Hid (ErrIs w3 ad ev R.1 R.2) := hev
      clear hev hb3 HCK
      go_wp2
      go_ret
      exact ⟨⟨_, rfl, HEV.out⟩, HB3.out⟩
    · have HF : Hid (cfgF c = (3, -1)) := cfgF_shape hf hn
      rw [HF.out]
      obtain ⟨n, k, L⟩ := c
      dsimp only at *
      clear HMF HF hf HCK
      go_enter Tryd.func9, Tryd.ntmps9
      go_wp2_with fail
      rw [← HW1.out]
      refine (HMF1.out _).mono ?_
      rintro e w2 ⟨rfl, hw2⟩
      rw [hw2]
      clear hw2 w2 HMF1
      go_wp2
      go_ret
      exact ⟨⟨_, rfl, HI2.out _⟩, HB1.out⟩
  · have HF : Hid (cfgF c = (2, -1)) := cfgF_bound hf
    have HMF1 : Hid (∀ W, Calls Tryd.prog 21 #[.int .i64 c.n, .int .i64 c.k] W fun e w' => e = .returned (.bool false) ∧ w' = W) := fun W => by have := HMF.out W; rw [decide_eq_false hf] at this; exact this
    rw [HF.out]
    obtain ⟨n, k, L⟩ := c
    dsimp only at *
    clear HMF HF hf HCK
    go_enter Tryd.func9, Tryd.ntmps9
    go_wp2_with fail
    rw [← HW1.out]
    refine (HMF1.out _).mono ?_
    rintro e w2 ⟨rfl, hw2⟩
    rw [hw2]
    clear hw2 w2 HMF1
    go_wp2
    go_ret
    exact ⟨⟨_, rfl, HI1.out _⟩, HB1.out⟩
set_option maxRecDepth 10000 in
set_option maxHeartbeats 4000000 in
theorem qenough_any (ad : Nat → Addr) (c : Cfg) (p : Option Addr) (cap : Nat) (w : World) (hc : CfgAt w c p cap) (hE : ErrsQ w ad) :
    Calls Tryd.prog 11 #[cfgA c (.slice p c.L.length cap)] w fun e w' => (∃ ev, e = .returned (.tuple #[.int .i64 ((if 0 < (cfgF c).1 then 0 else enoughN c : Nat) : Int), ev]) ∧ ErrIs w' ad ev (cfgF c).1 (cfgF c).2) ∧ Below w.heap.size w w' := by
  obtain ⟨w1, hw1⟩ : ∃ w1, w1 = w.alloc (.cells #[.int .i64 c.n, .int .i64 c.k, .slice p c.L.length cap] 24) := ⟨_, rfl⟩
  have hb1 : Below w.heap.size w w1 := by rw [hw1]; exact (Below.refl _ _).alloc (Nat.le_refl _) _
  have hx1 : CfgBox w1 w.heap.size c (.slice p c.L.length cap) := by rw [hw1]; exact cfgBox_made w c _ _
  have HCK := qcheck_any ad c p cap w1 (hc.below hb1) (hE.below hb1)
  have HW1 : Hid (w1 = w.alloc (.cells #[.int .i64 c.n, .int .i64 c.k, .slice p c.L.length cap] 24)) := hw1
  have HB1 : Hid (Below w.heap.size w w1) := hb1
  have HX1 : Hid (CfgBox w1 w.heap.size c (.slice p c.L.length cap)) := hx1
  have f0 := hx1.f0
  have f1 := hx1.f1
  have f2 := hx1.f2
  unfold cfgA at HCK ⊢
  clear hw1 hb1 hx1 hE hc
  by_cases hp : 0 < (cfgF c).1
  · rw [if_pos hp]
    have HP : Hid (0 < (cfgF c).1) := hp
    clear hp
    generalize cfgF c = R at *
    obtain ⟨n, k, L⟩ := c
    dsimp only at *
    go_enter Tryd.func11, Tryd.ntmps11
    go_wp2_with fail
    rw [← HW1.out]
    refine HCK.mono ?_
    rintro e w3 ⟨⟨ev, rfl, hev⟩, hb3⟩
    have HB3 : Hid (Below w.heap.size w w3) := HB1.out.trans (hb3.mono HB1.out.size)
    have HEV : Hid (ErrIs w3 ad ev R.1 R.2) := hev
    obtain ⟨et, eu, rfl⟩ := hev.some HP.out
    clear hev hb3 HCK
    go_wp2
    go_ret2
    exact ⟨⟨_, rfl, HEV.out⟩, HB3.out⟩
  · obtain ⟨hf, hn, h0, _, _⟩ := cfgF_fine hp
    rw [if_neg hp, h0]
    rw [h0] at HCK
    have HEN : Hid ((c.n + c.k + 1) / 2 = ((enoughN c : Nat) : Int)) := by
      show _ = _
      unfold enoughN
      omega
    have hf1 : 1 ≤ c.k := hf.1
    have hf2 : c.k ≤ c.n := hf.2.1
    have hf3 : c.n ≤ 12 := hf.2.2
    clear hp hn h0 hf
    generalize enoughN c = en at *
    obtain ⟨n, k, L⟩ := c
    dsimp only at *
    go_enter Tryd.func11, Tryd.ntmps11
    go_wp2_with fail
    rw [← HW1.out]
    refine HCK.mono ?_
    rintro e w3 ⟨⟨ev, rfl, hev⟩, hb3⟩
    have HB3 : Hid (Below w.heap.size w w3) := HB1.out.trans (hb3.mono HB1.out.size)
    have hx3 := HX1.out.below hb3
    have g0 := hx3.f0
    have g1 := hx3.f1
    dsimp only at g0 g1
    obtain rfl := ErrIs.isNil hev
    clear hev hb3 HCK hx3 f0 f1 f2
    go_wp2
    go_ret2
    exact ⟨⟨_, by rw [HEN.out]; rfl, ErrIs.nil _ _⟩, HB3.out⟩
/-- What a function that is handed in tells of each text, whatever was made since w. -/
def AsksT (w : World) (fn : FuncId) (caps : Array Value) (l : List ByteArray) (P : ByteArray → Bool) : Prop :=
  ∀ i, i < l.length → ∀ w1, Below w.heap.size w w1 → Calls Tryd.prog fn (#[.string (txt l i)] ++ caps) w1 fun e w2 => e = .returned (.bool (P (txt l i))) ∧ Below w1.heap.size w1 w2
set_option maxRecDepth 10000 in
set_option maxHeartbeats 1000000 in
theorem tindex_any (p : Option Addr) (l : List ByteArray) (cap : Nat) (fn : FuncId) (caps : Array Value) (P : ByteArray → Bool) (w : World) (hl : l.length ≤ 100000) (hs : Strs w p l)
    (hent : ∀ args W, Sem.run Tryd.prog (callFunc fn args) W = .ok (.enter fn args) W) (hc : AsksT w fn caps l P) :
    Calls Tryd.prog 25 #[.slice p l.length cap, .func (.func fn) #[] caps] w fun e w' => (∃ r : Int, e = .returned (.int .i64 r) ∧ ((∃ i : Nat, i < l.length ∧ r = (i : Int) ∧ P (txt l i) = true ∧ ∀ j, j < i → P (txt l j) = false) ∨ r = -1 ∧ ∀ j, j < l.length → P (txt l j) = false)) ∧ Below w.heap.size w w' := by
  have HS : Hid (Strs w p l) := hs
  have HC : Hid (AsksT w fn caps l P) := hc
  clear hs hc
  go_enter Tryd.func25, Tryd.ntmps25
  go_wp2
  go_loopw [8] (fun x wr => ∃ i : Nat, i ≤ l.length ∧ x = .int .i64 i ∧ (∀ j, j < i → P (txt l j) = false) ∧ Below w.heap.size w wr) (fun x _ => l.length - (intOf x).toNat)
  case atStart => exact ⟨0, by omega, rfl, fun j hj => absurd hj (Nat.not_lt_zero _), Below.refl _ _⟩
  case round =>
    obtain ⟨i, hi, rfl, hall, hB⟩ := hrel
    have HALL : Hid (∀ j, j < i → P (txt l j) = false) := hall
    have HB : Hid (Below w.heap.size w wr) := hB
    clear hall hB
    by_cases hil : i < l.length
    · rcases (HS.out.below HB.out) with h0 | ⟨b1, o1, rfl, _, hc1⟩
      · rw [h0] at hil; simp at hil
      have q1 := hc1 i hil
      have HX := HC.out i hil wr HB.out
      clear hc1
      cases hp : P (txt l i) with
      | true =>
        have HA : Hid (P (txt l i) = true) := hp
        rw [hp] at HX
        clear hp
        generalize txt l i = t at q1 HX
        go_wp2_with fail
        refine HX.mono ?_
        rintro e w2 ⟨rfl, hb2⟩
        clear HX
        go_wp2
        go_ret
        exact ⟨⟨(i : Int), rfl, Or.inl ⟨i, hil, rfl, HA.out, HALL.out⟩⟩, HB.out.trans (hb2.mono HB.out.size)⟩
      | false =>
        have HPF : Hid (P (txt l i) = false) := hp
        rw [hp] at HX
        clear hp
        generalize txt l i = t at q1 HX
        go_wp2_with fail
        refine HX.mono ?_
        rintro e w2 ⟨rfl, hb2⟩
        have HB2 : Hid (Below w.heap.size w w2) := HB.out.trans (hb2.mono HB.out.size)
        clear HX hb2 q1
        go_wp2
        go_roundw
        case rel =>
          refine ⟨i + 1, by omega, by go_num, fun j hj => ?_, HB2.out⟩
          by_cases e : j = i
          · rw [e]; exact HPF.out
          · exact HALL.out j (by omega)
        case measure => simp [intOf]; omega
    · have HN : Hid (∀ j, j < l.length → P (txt l j) = false) := fun j hj => HALL.out j (by omega)
      go_wp2
      go_ret
      exact ⟨⟨-1, rfl, Or.inr ⟨rfl, HN.out⟩⟩, HB.out⟩
set_option maxRecDepth 10000 in
theorem stranger_any (g : Nat) (p : Option Addr) (L : List ByteArray) (cap : Nat) (x : ByteArray) (w : World) (hl : L.length ≤ 1000000) (h2 : w.cell? ⟨g, 2, none⟩ = some (.slice p L.length cap)) (hs : Strs w p L) :
    Calls Tryd.prog 23 (#[.string x] ++ #[.pointer (some ⟨g, 0, none⟩)]) w fun e w2 => e = .returned (.bool (!inL L x)) ∧ Below w.heap.size w w2 := by
  have HC := scont_any p L cap x w hl hs
  clear hs
  generalize inL L x = b at *
  go_enter Tryd.func23, Tryd.ntmps23
  go_wp2_with fail
  refine HC.mono ?_
  rintro e w1 ⟨rfl, hw1⟩
  rw [hw1]
  clear hw1 w1 HC
  go_wp2
  go_ret
  exact ⟨rfl, Below.refl _ _⟩
/-- The list that is looked at: a, then b. -/
def abL (a b : List ByteArray) (i : Nat) : List ByteArray := if i = 0 then a else b
theorem abL_fault {c : Cfg} {a b : List ByteArray} {i j : Nat} (hi : i < 2) (ha : 0 < i → ∀ x ∈ a, x ∈ c.L) (hj : j < (abL a b i).length) (hall : ∀ q, q < j → txt (abL a b i) q ∈ c.L) (hn : txt (abL a b i) j ∉ c.L) : meetF c.L a b = (5, (j : Int)) := by
  unfold abL at *
  by_cases h : i = 0
  · rw [if_pos h] at *
    exact meetF_a hj hall hn
  · rw [if_neg h] at *
    exact meetF_b (ha (by omega)) hj hall hn
theorem all_txt {l L : List ByteArray} (h : ∀ j, j < l.length → txt l j ∈ L) : ∀ x ∈ l, x ∈ L := fun x hx => by
  obtain ⟨j, hj, rfl⟩ := List.getElem_of_mem hx
  have := h j hj
  rw [txt_getElem l j hj] at this
  exact this
theorem away_in {L : List ByteArray} {x : ByteArray} (h : (!inL L x) = false) : x ∈ L := by
  cases hh : inL L x with
  | true => exact inL_iff.1 hh
  | false => rw [hh] at h; cases h
theorem away_out {L : List ByteArray} {x : ByteArray} (h : (!inL L x) = true) : x ∉ L := fun hx => by rw [inL_iff.2 hx] at h; cases h
theorem meet_bad {c : Cfg} {a b : List ByteArray} (h : 0 < (cfgF c).1) : meetE c a b = cfgF c ∧ meetT c a b = [] := by
  have e : meetE c a b = cfgF c := if_pos h
  exact ⟨e, by unfold meetT; rw [e, if_pos h]⟩
theorem meet_away {c : Cfg} {a b : List ByteArray} {i : Nat} (h : ¬ 0 < (cfgF c).1) (h2 : meetF c.L a b = (5, (i : Int))) : meetE c a b = (5, (i : Int)) ∧ meetT c a b = [] := by
  have e : meetE c a b = (5, (i : Int)) := by unfold meetE; rw [if_neg h, h2]
  exact ⟨e, by unfold meetT; rw [e, if_pos (by show (0 : Int) < 5; decide)]⟩
theorem meet_fine {c : Cfg} {a b : List ByteArray} (h : ¬ 0 < (cfgF c).1) (ha : ∀ x ∈ a, x ∈ c.L) (hb : ∀ x ∈ b, x ∈ c.L) : meetE c a b = (0, -1) ∧ meetT c a b = meetL c.L a b := by
  have e : meetE c a b = (0, -1) := by unfold meetE; rw [if_neg h, meetF_fine ha hb]
  exact ⟨e, by unfold meetT; rw [e, if_neg (by show ¬ (0 : Int) < 0; decide)]⟩
theorem meetL_take {L a b : List ByteArray} {i : Nat} (h : i < L.length) : meetL (L.take (i + 1)) a b = meetL (L.take i) a b ++ (if inL a (txt L i) && inL b (txt L i) then [txt L i] else []) := filter_takeM h
theorem meetL_len {L a b : List ByteArray} : (meetL L a b).length ≤ L.length := List.length_filter_le _ _
set_option maxRecDepth 10000 in
set_option maxHeartbeats 8000000 in
theorem qmeet_any (ad : Nat → Addr) (c : Cfg) (p : Option Addr) (cap : Nat) (a : List ByteArray) (pa : Option Addr) (ca : Nat) (b : List ByteArray) (pb : Option Addr) (cb : Nat) (w : World) (hc : CfgAt w c p cap) (ha : TxsAt w a pa ca) (hb : TxsAt w b pb cb) (hE : ErrsQ w ad) :
    Calls Tryd.prog 12 #[cfgA c (.slice p c.L.length cap), .slice pa a.length ca, .slice pb b.length cb] w fun e w' => (∃ ev lp lc, e = .returned (.tuple #[.slice lp (meetT c a b).length lc, ev]) ∧ Strs w' lp (meetT c a b) ∧ ErrIs w' ad ev (meetE c a b).1 (meetE c a b).2) ∧ Below w.heap.size w w' := by
  obtain ⟨w1, hw1⟩ : ∃ w1, w1 = w.alloc (.cells #[.int .i64 c.n, .int .i64 c.k, .slice p c.L.length cap] 24) := ⟨_, rfl⟩
  have hb1 : Below w.heap.size w w1 := by rw [hw1]; exact (Below.refl _ _).alloc (Nat.le_refl _) _
  have hx1 : CfgBox w1 w.heap.size c (.slice p c.L.length cap) := by rw [hw1]; exact cfgBox_made w c _ _
  have HCK := qcheck_any ad c p cap w1 (hc.below hb1) (hE.below hb1)
  have HW1 : Hid (w1 = w.alloc (.cells #[.int .i64 c.n, .int .i64 c.k, .slice p c.L.length cap] 24)) := hw1
  have HB1 : Hid (Below w.heap.size w w1) := hb1
  have HX1 : Hid (CfgBox w1 w.heap.size c (.slice p c.L.length cap)) := hx1
  have HC1 : Hid (CfgAt w1 c p cap) := hc.below hb1
  have HA1 : Hid (TxsAt w1 a pa ca) := ha.below hb1
  have HBB1 : Hid (TxsAt w1 b pb cb) := hb.below hb1
  have HE1 : Hid (ErrsQ w1 ad) := hE.below hb1
  have hla := ha.len
  have hlb := hb.len
  have hll := hc.len
  have f0 := hx1.f0
  have f1 := hx1.f1
  have f2 := hx1.f2
  obtain ⟨M, hM⟩ : ∃ M, M = meetE c a b := ⟨_, rfl⟩
  obtain ⟨T, hT⟩ : ∃ T, T = meetT c a b := ⟨_, rfl⟩
  rw [← hM, ← hT]
  have HM : Hid (M = meetE c a b) := hM
  have HT : Hid (T = meetT c a b) := hT
  unfold cfgA at HCK ⊢
  clear hw1 hb1 hx1 hE hc ha hb hM hT
  by_cases hp : 0 < (cfgF c).1
  · have HP : Hid (0 < (cfgF c).1) := hp
    have HME : Hid (M = cfgF c ∧ T = []) := ⟨HM.out.trans (meet_bad hp).1, HT.out.trans (meet_bad hp).2⟩
    clear hp HM HT
    generalize cfgF c = R at *
    obtain ⟨n, k, L⟩ := c
    dsimp only at *
    go_enter Tryd.func12, Tryd.ntmps12
    go_wp2_with fail
    rw [← HW1.out]
    refine HCK.mono ?_
    rintro e w3 ⟨⟨ev, rfl, hev⟩, hb3⟩
    have HB3 : Hid (Below w.heap.size w w3) := HB1.out.trans (hb3.mono HB1.out.size)
    have HEV : Hid (ErrIs w3 ad ev R.1 R.2) := hev
    obtain ⟨et, eu, rfl⟩ := hev.some HP.out
    clear hev hb3 HCK
    go_wp2
    go_ret2
    exact ⟨⟨_, none, 0, by rw [HME.out.2]; rfl, by rw [HME.out.2]; exact Strs.nil _ _, by rw [HME.out.1]; exact HEV.out⟩, HB3.out⟩
  · obtain ⟨hf, hn, h0, _, _⟩ := cfgF_fine hp
    rw [h0] at HCK
    have HMA : Hid (∀ j : Nat, meetF c.L a b = (5, (j : Int)) → M = (5, (j : Int)) ∧ T = []) := fun j h5 => ⟨HM.out.trans (meet_away hp h5).1, HT.out.trans (meet_away hp h5).2⟩
    have HMF : Hid ((∀ x ∈ a, x ∈ c.L) → (∀ x ∈ b, x ∈ c.L) → M = (0, -1) ∧ T = meetL c.L a b) := fun h1 h2 => ⟨HM.out.trans (meet_fine hp h1 h2).1, HT.out.trans (meet_fine hp h1 h2).2⟩
    clear hp hn h0 hf HM HT
    go_enter Tryd.func12, Tryd.ntmps12
    go_wp2_with fail
    rw [← HW1.out]
    refine HCK.mono ?_
    rintro e w3 ⟨⟨ev, rfl, hev⟩, hb3⟩
    obtain rfl := ErrIs.isNil hev
    have hs13 := hb3.size
    obtain ⟨w4, hw4⟩ : ∃ w4, w4 = w3.alloc (.cells #[.slice pa a.length ca, .slice pb b.length cb] 22) := ⟨_, rfl⟩
    have hb4 : Below w3.heap.size w3 w4 := by rw [hw4]; exact (Below.refl _ _).alloc (Nat.le_refl _) _
    have hb14 : Below w1.heap.size w1 w4 := hb3.trans (hb4.mono hs13)
    have HW4 : Hid (w4 = w3.alloc (.cells #[.slice pa a.length ca, .slice pb b.length cb] 22)) := hw4
    have HB4 : Hid (Below w.heap.size w w4) := HB1.out.trans (hb14.mono HB1.out.size)
    have HX4 : Hid (CfgBox w4 w.heap.size c (.slice p c.L.length cap)) := HX1.out.below hb14
    have HC4 : Hid (CfgAt w4 c p cap) := HC1.out.below hb14
    have HA4 : Hid (TxsAt w4 a pa ca) := HA1.out.below hb14
    have HBB4 : Hid (TxsAt w4 b pb cb) := HBB1.out.below hb14
    have HE4 : Hid (ErrsQ w4 ad) := HE1.out.below hb14
    have HR4 : Hid (w4.cell? ⟨w3.heap.size, 0, none⟩ = some (.slice pa a.length ca) ∧ w4.cell? ⟨w3.heap.size, 1, none⟩ = some (.slice pb b.length cb)) := by
      rw [hw4]
      exact ⟨by rw [World.cell?_alloc_at _ _ _ _ rfl]; rfl, by rw [World.cell?_alloc_at _ _ _ _ rfl]; rfl⟩
    clear hev hb3 hb4 hb14 hw4 HCK HX1 HC1 HA1 HBB1 HE1 f0 f1 f2 hs13 HW1
    go_wp2_with (rw [← HW4.out])
    go_loopw [26] (fun x wr => ∃ i : Nat, i ≤ 2 ∧ x = .int .i64 i ∧ (0 < i → ∀ x ∈ a, x ∈ c.L) ∧ (1 < i → ∀ x ∈ b, x ∈ c.L) ∧ Below w4.heap.size w4 wr) (fun x _ => 2 - (intOf x).toNat)
    case atStart => exact ⟨0, by omega, rfl, fun h => absurd h (by omega), fun h => absurd h (by omega), Below.refl _ _⟩
    case round =>
      obtain ⟨i, hi, rfl, hia, hib, hB⟩ := hrel
      obtain ⟨w5, rfl⟩ : ∃ w5, w5 = wr := ⟨_, rfl⟩
      have HIA : Hid (0 < i → ∀ x ∈ a, x ∈ c.L) := hia
      have HIB : Hid (1 < i → ∀ x ∈ b, x ∈ c.L) := hib
      have HB5 : Hid (Below w4.heap.size w4 w5) := hB
      have hx5 := HX4.out.below hB
      have hc5 := HC4.out.below hB
      clear hia hib
      by_cases hi2 : i < 2
      · obtain ⟨l, pl, cl, hab, hcl, htl⟩ : ∃ l pl cl, abL a b i = l ∧ w5.cell? ⟨w3.heap.size, i, none⟩ = some (.slice pl l.length cl) ∧ TxsAt w5 l pl cl := by
          have hlt := lt_of_cellE HR4.out.1
          rcases (by omega : i = 0 ∨ i = 1) with rfl | rfl
          · exact ⟨a, pa, ca, rfl, (hB.cell (p := ⟨w3.heap.size, 0, none⟩) hlt).trans HR4.out.1, HA4.out.below hB⟩
          · exact ⟨b, pb, cb, rfl, (hB.cell (p := ⟨w3.heap.size, 1, none⟩) hlt).trans HR4.out.2, HBB4.out.below hB⟩
        have HAB : Hid (abL a b i = l) := hab
        have HASK : AsksT w5 23 #[.pointer (some ⟨w.heap.size, 0, none⟩)] l (fun x => !inL c.L x) := fun j hj w6 h6 => stranger_any w.heap.size p c.L cap (txt l j) w6 (by omega) ((h6.cell (p := ⟨w.heap.size, 2, none⟩) (lt_of_cellE hx5.f2)).trans hx5.f2) (hc5.strs.below h6)
        have HIX := tindex_any pl l cl 23 #[.pointer (some ⟨w.heap.size, 0, none⟩)] (fun x => !inL c.L x) w5 (by have := htl.len; omega) htl.strs (enters_of Tryd.func23 (by kernel_rfl) rfl) HASK
        have hll5 := htl.len
        clear hab htl HASK hx5 hc5 hB
        go_wp2_with fail
        refine HIX.mono ?_
        rintro e w6 ⟨⟨r, rfl, hr⟩, hb6⟩
        have hb46 : Below w4.heap.size w4 w6 := HB5.out.trans (hb6.mono HB5.out.size)
        have HB6 : Hid (Below w4.heap.size w4 w6) := hb46
        have hE6 := HE4.out.below hb46
        have q4 := hE6.c4
        clear hE6 hb46 hb6 HIX hcl
        rcases hr with ⟨j, hj, rfl, hpj, hall⟩ | ⟨rfl, hall⟩
        · have HF : Hid (M = (5, (j : Int)) ∧ T = []) := by
            have h5 : meetF c.L a b = (5, (j : Int)) := abL_fault hi2 HIA.out (by rw [HAB.out]; exact hj) (fun q hq => by rw [HAB.out]; exact away_in (hall q hq)) (by rw [HAB.out]; exact away_out hpj)
            exact HMA.out j h5
          have hj0 : decide ((0 : Int) ≤ (j : Int)) = true := decide_eq_true (by omega)
          clear hpj hall HMA HMF
          go_wp2
          go_region
          go_wp2
          go_ret2
         
          exact ⟨⟨_, none, 0, by rw [HF.out.2]; rfl, by rw [HF.out.2]; exact Strs.nil _ _, by rw [HF.out.1]; exact (errIs_fault (w := w6) 4 (by decide) (j : Int) rfl : ErrIs (w6.alloc (.cells #[.int .i64 (j : Int), .iface 101 (.pointer (some (ad 4)))] 58)) ad _ ((4 + 1 : Nat) : Int) (j : Int))⟩, below_drewN (HB4.out.trans ((HB6.out.mono HB4.out.size).alloc (Nat.le_trans HB4.out.size HB6.out.size) _)) 1⟩
        · have HN : Hid (∀ x ∈ l, x ∈ c.L) := all_txt fun j hj => away_in (hall j hj)
          clear hall
          go_wp2
          go_roundw
          case rel =>
            refine ⟨i + 1, by omega, by go_num, fun _ => ?_, fun h1 => ?_, HB6.out⟩
            · rcases (by omega : i = 0 ∨ i = 1) with h | h
              · have : a = l := by rw [← HAB.out, h]; rfl
                rw [this]
                exact HN.out
              · exact HIA.out (by omega)
            · have : b = l := by rw [← HAB.out, show i = 1 by omega]; rfl
              rw [this]
              exact HN.out
          case measure => simp [intOf]; omega
      · have HF : Hid (M = (0, -1) ∧ T = meetL c.L a b) := by
          have h1 := HIA.out (by omega)
          have h2 := HIB.out (by omega)
          exact HMF.out h1 h2
        have g2 := hx5.f2
        have HC5 : Hid (CfgAt w5 c p cap) := hc5
        have HA5 : Hid (TxsAt w5 a pa ca) := HA4.out.below hB
        have HBB5 : Hid (TxsAt w5 b pb cb) := HBB4.out.below hB
        have HBW5 : Hid (Below w.heap.size w w5) := HB4.out.trans (hB.mono HB4.out.size)
        clear hx5 hc5 hB HMA HMF HIA HIB
        go_wp2
        go_loopw [13, 44] (fun v x wr => ∃ j : Nat, j ≤ c.L.length ∧ x = .int .i64 j ∧ OwnT wr w5.heap.size v (meetL (c.L.take j) a b) ∧ Below w5.heap.size w5 wr) (fun _ x _ => c.L.length - (intOf x).toNat)
        case atStart => exact ⟨0, Nat.zero_le _, rfl, OwnT.nil _ _, Below.refl _ _⟩
        case round =>
          obtain ⟨j, hj, rfl, hO, hB⟩ := hrel
          obtain ⟨w6, rfl⟩ : ∃ w6, w6 = wr := ⟨_, rfl⟩
          obtain ⟨pv, cv, rfl, hsv, _⟩ := hO.form
          have HO6 : Hid (OwnT w6 w5.heap.size (.slice pv (meetL (c.L.take j) a b).length cv) (meetL (c.L.take j) a b)) := hO
          have HB6 : Hid (Below w5.heap.size w5 w6) := hB
          have HSV : Hid (Strs w6 pv (meetL (c.L.take j) a b)) := hsv
          have hml : (meetL (c.L.take j) a b).length ≤ 1000 := Nat.le_trans meetL_len (by rw [List.length_take]; omega)
          clear hO hsv
          by_cases hjl : j < c.L.length
          · rcases (HC5.out.strs.below hB) with h0 | ⟨bl, ol, rfl, hbl, hcs⟩
            · rw [h0] at hjl; simp at hjl
            have q1 := hcs j hjl
            have HSTEP : Hid (meetL (c.L.take (j + 1)) a b = meetL (c.L.take j) a b ++ (if inL a (txt c.L j) && inL b (txt c.L j) then [txt c.L j] else [])) := meetL_take hjl
            have hsz : (txt c.L j).size ≤ 1000 := HC5.out.size _ (txt_mem hjl)
            have HCA : Hid (Calls Tryd.prog 24 #[.slice pa a.length ca, .string (txt c.L j)] w6 fun e w' => e = .returned (.bool (inL a (txt c.L j))) ∧ w' = w6) := scont_any pa a ca (txt c.L j) w6 (by omega) (HA5.out.strs.below hB)
            have HCB : Hid (Calls Tryd.prog 24 #[.slice pb b.length cb, .string (txt c.L j)] w6 fun e w' => e = .returned (.bool (inL b (txt c.L j))) ∧ w' = w6) := scont_any pb b cb (txt c.L j) w6 (by omega) (HBB5.out.strs.below hB)
            have HCL : Hid (Calls Tryd.prog 26 #[.string (txt c.L j)] w6 fun e w' => e = .returned (.string (txt c.L j)) ∧ Below w6.heap.size w6 w') := sclone_any _ w6 (by omega)
            clear hcs hB hsz
            generalize txt c.L j = t at *
            generalize meetL (c.L.take j) a b = ML at *
            cases hia : inL a t with
            | false =>
              rw [hia] at HCA HSTEP
              have HST : Hid (meetL (c.L.take (j + 1)) a b = ML) := HSTEP.out.trans (List.append_nil _)
              clear HSTEP
              go_wp2_with fail
              refine HCA.out.mono ?_
              rintro e w7 ⟨rfl, hw7⟩
              rw [hw7]
              clear hw7 w7 HCA HCB HCL hia
              go_wp2
              go_roundw
              case rel => exact ⟨j + 1, by omega, by go_num, by rw [HST.out]; exact HO6.out, HB6.out⟩
              case measure => simp [intOf]; omega
            | true =>
              rw [hia] at HCA HSTEP
              cases hib : inL b t with
              | false =>
                rw [hib] at HCB HSTEP
                have HST : Hid (meetL (c.L.take (j + 1)) a b = ML) := HSTEP.out.trans (List.append_nil _)
                clear HSTEP
                go_wp2_with fail
                refine HCA.out.mono ?_
                rintro e w7 ⟨rfl, hw7⟩
                rw [hw7]
                clear hw7 w7 HCA HCL hia hib
                go_wp2_with fail
                refine HCB.out.mono ?_
                rintro e w7 ⟨rfl, hw7⟩
                rw [hw7]
                clear hw7 w7 HCB
                go_wp2
                go_roundw
                case rel => exact ⟨j + 1, by omega, by go_num, by rw [HST.out]; exact HO6.out, HB6.out⟩
                case measure => simp [intOf]; omega
              | true =>
                rw [hib] at HCB HSTEP
                have HST : Hid (meetL (c.L.take (j + 1)) a b = ML ++ [t]) := HSTEP.out
                clear HSTEP
                go_wp2_with fail
                refine HCA.out.mono ?_
                rintro e w7 ⟨rfl, hw7⟩
                rw [hw7]
                clear hw7 w7 HCA hia hib
                go_wp2_with fail
                refine HCB.out.mono ?_
                rintro e w7 ⟨rfl, hw7⟩
                rw [hw7]
                clear hw7 w7 HCB
                go_wp2_with fail
                refine HCL.out.mono ?_
                rintro e w7 ⟨rfl, hb7⟩
                have HO7 : Hid (OwnT w7 w5.heap.size (.slice pv ML.length cv) ML) := HO6.out.kept hb7
                have HB7 : Hid (Below w5.heap.size w5 w7) := HB6.out.trans (hb7.mono HB6.out.size)
                have hs7 : w5.heap.size ≤ w7.heap.size := HB7.out.size
                clear hb7 HCL HO6 q1 HSV
                go_wp2_with (first | (at_builtin; refine wpList_append_str rfl (.tmp 56) (.tmp 59) rfl w5.heap.size (.slice pv ML.length cv) ML rfl (HO7.out.kept ((Below.refl _ _).alloc (Nat.le_refl _) _)) ⟨w7.heap.size, 0, none⟩ t 1 rfl (by rw [World.cell?_alloc_at _ _ _ _ rfl]; rfl) (by omega) (by simp; omega) ?_; intro v8 w8 hO8 hb8))
                have HO8 : Hid (OwnT w8 w5.heap.size v8 (ML ++ [t])) := hO8
                have HB8 : Hid (Below w5.heap.size w5 w8) := HB7.out.trans ((((Below.refl w7.heap.size w7).alloc (Nat.le_refl _) _).mono hs7).trans hb8)
                clear hO8 hb8 HO7 HB7
                go_wp2
                go_roundw
                case rel => exact ⟨j + 1, by omega, by go_num, by rw [HST.out]; exact HO8.out, HB8.out⟩
                case measure => simp [intOf]; omega
          · have HE6 : Hid (meetL (c.L.take j) a b = T) := by show _ = _; rw [HF.out.2, List.take_of_length_le (by omega)]
            rw [HE6.out] at HSV hml
            rw [HE6.out]
            clear hB
            go_wp2
            go_ret2
            exact ⟨⟨_, pv, cv, rfl, HSV.out, by rw [HF.out.1]; exact ErrIs.nil _ _⟩, HBW5.out.trans (HB6.out.mono HBW5.out.size)⟩
theorem quorumOk (ad : Nat → Addr) : QuorumOk ad fun _ => True where
  check := fun c p cap w hc hE _ => qcheck_any ad c p cap w hc hE
  enough := fun c p cap w hc hE _ => qenough_any ad c p cap w hc hE
  meet := fun c p cap a pa ca b pb cb w hc ha hb hE _ => qmeet_any ad c p cap a pa ca b pb cb w hc ha hb hE
end Go.Proofs.YtpjeibicopgedaaDoor
