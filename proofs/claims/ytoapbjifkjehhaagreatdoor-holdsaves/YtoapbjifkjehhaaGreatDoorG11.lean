/- What package hold is asked to answer of what is saved and loaded. -/
import Derived.Test.YtoapbjifkjehhaaGreatDoorHoldCW
import Derived.Test.YtoapbjifkjehhaaGreatDoorG7
import Derived.Test.YtoapbjifkjehhaaGreatDoorG10
import Derived.Test.YtoapbjifkjehhaaGreatDoorG9
import Derived.Test.YtoapbjifkjehhaaGreatDoorG8
import Derived.Test.YtoapbjifkjehhaaGreatDoorHdOkW
namespace Go.Proofs.YtoapbjifkjehhaaGreatDoor
open Go.RowKit
/-- How many bytes keys and shards have. -/
def bytesK (L : List Kep) : Nat := (L.map fun x => x.1.size + x.2.text.size).sum
theorem bytesK_succ {L : List Kep} {i : Nat} (hi : i < L.length) : bytesK (L.take (i + 1)) = bytesK (L.take i) + ((kepAt L i).1.size + (kepAt L i).2.text.size) := by
  unfold bytesK
  rw [take_succ_kep hi, List.map_append, List.sum_append]
  simp
theorem bytesK_le {L : List Kep} (hf : ∀ x ∈ L, x.1.size ≤ 16 ∧ x.2.text.size ≤ 1000) : ∀ i, i ≤ L.length → bytesK (L.take i) ≤ i * 1016
  | 0, _ => by simp [bytesK]
  | i + 1, hi => by
    have h1 := bytesK_le hf i (by omega)
    have h2 := hf (kepAt L i) (List.mem_of_getElem? (kepAt_get (show i < L.length by omega)))
    rw [bytesK_succ (by omega)]
    omega
/-- Saved t L s: the text t is L, sealed or not, saved. -/
structure SaveOk (ad : Nat → Addr) (Hd : World → Nat → (Nat → Prop) → List Kep → Bool → Prop) (Saved : ByteArray → List Kep → Bool → Prop) (X : World → Prop) : Prop where
  fits : ∀ {w h S L s}, Hd w h S L s → L.length ≤ 60 ∧ ∀ x ∈ L, x.1.size ≤ 16 ∧ x.2.text.size ≤ 1000
  save : ∀ {w h S L s}, Hd w h S L s → Sent w ad → X w → Calls Tryz.prog 10 #[.pointer (some ⟨h, 0, none⟩)] w fun e w' => ((∃ t, e = .returned (.tuple #[.string t, .nilIface]) ∧ Saved t L s) ∨ ∃ ev, e = .returned (.tuple #[.string ⟨#[]⟩, ev]) ∧ BareIs ad ev 7 ∧ 4000 < bytesK L) ∧ Below w.heap.size w w'
  sealed_ : ∀ {t L s}, Saved t L s → ∃ x, t = sealT x ∧ x.size ≤ 900000
  load : ∀ {t L s}, Saved t L s → ∀ w, Sent w ad → X w → Calls Tryz.prog 7 #[.string t] w fun e w' => (∃ h S, e = .returned (.tuple #[.pointer (some ⟨h, 0, none⟩), .nilIface]) ∧ Hd w' h S L s ∧ ∀ k, S k → w.heap.size ≤ k) ∧ Below w.heap.size w w'
  loadBad : ∀ (t : ByteArray) (w : World), 4 ≤ t.size → t.size ≤ 1000000 → fourT (crcOf (cutT t)) ≠ endT t → Sent w ad → X w → Calls Tryz.prog 7 #[.string t] w fun e w' => (∃ ev, e = .returned (.tuple #[.pointer none, ev]) ∧ BareIs ad ev 9) ∧ Below w.heap.size w w'
  loadAny : ∀ (x : ByteArray) (w : World), x.size ≤ 2000 → Sent w ad → X w → Calls Tryz.prog 7 #[.string (sealT x)] w fun e w' => ((∃ ev, e = .returned (.tuple #[.pointer none, ev]) ∧ BareIs ad ev 1) ∨ ∃ h S L s, e = .returned (.tuple #[.pointer (some ⟨h, 0, none⟩), .nilIface]) ∧ Hd w' h S L s) ∧ Below w.heap.size w w'
/-- What is an error of a number that is not 0 is that sentinel. -/
theorem bare_at {ad : Nat → Addr} {ev : Value} {i : Nat} (h : BareIs ad ev ((i + 1 : Nat) : Int)) : i < 12 ∧ ev = .iface 209 (.pointer (some (ad i))) := by
  rcases h with ⟨_, h⟩ | ⟨j, hj, rfl, h⟩
  · omega
  · obtain rfl : i = j := by omega
    exact ⟨hj, rfl⟩
/-- Another hold, made since, that has the same: it lies beside the model too. -/
theorem Two.other {ad : Nat → Addr} {Hd : World → Nat → (Nat → Prop) → List Kep → Bool → Prop} {B : Nat} {w w' : World} {hp hm : Nat} {L : List Kep} {s : Bool} {S : Nat → Prop} (h : Two Hd B w hp hm L s S) (hb : Below w.heap.size w w') (hB : B ≤ w.heap.size) {h2 : Nat} {S2 : Nat → Prop} (h' : Hd w' h2 S2 L s) (hn : ∀ k, S2 k → w.heap.size ≤ k) (hO : HoldOk ad Hd) : Two Hd B w' h2 hm L s S2 := by
  have ht := h.below hO hb
  obtain ⟨p, c, q0, hr, _, _, _⟩ := h.model.row
  have hlt := lt_of_cellH q0
  refine ⟨h', fun k hk => Nat.le_trans hB (hn k hk), fun hk => by have := hn _ hk; omega, fun hL b o c' e hk => ?_, ht.model, h.bm, h.len, h.names⟩
  have hk' := hn _ hk
  rw [hb.cell (p := ⟨hm, 0, none⟩) hlt, q0] at e
  obtain ⟨h1, _, _⟩ := Value.slice.inj (Option.some.inj e)
  rcases hr with h0 | ⟨b', o', hp', hlt', _⟩
  · exact absurd h0 hL
  · rw [h1] at hp'
    have hbb : b = b' := congrArg Addr.block (Option.some.inj hp')
    omega
end Go.Proofs.YtoapbjifkjehhaaGreatDoor
/- Package hold: Save and Load. -/
namespace Go.Proofs.YtoapbjifkjehhaaGreatDoor
open Go.RowKit
set_option maxRecDepth 10000 in
theorem save_any {w : World} {h : Nat} {S : Nat → Prop} {L : List Kep} {s : Bool} (hd : HdOf w h S L s) (hX : LibX w) :
    Calls Tryz.prog 10 #[.pointer (some ⟨h, 0, none⟩)] w fun e w' => e = .returned (.tuple #[.string (sealT (ofL (wrote L s))), .nilIface]) ∧ Below w.heap.size w w' := by
  have HW : Hid (Calls Tryz.prog 22 #[.pointer (some ⟨h, 0, none⟩)] w fun e w' => e = .returned (.string (ofL (wrote L s))) ∧ Below w.heap.size w w') := written_any hX (Below.refl _ _) hd
  have HS : Hid (∀ W, Calls Tryz.prog 8 #[.string (ofL (wrote L s))] W fun e w' => e = .returned (.string (sealT (ofL (wrote L s)))) ∧ Below W.heap.size W w') := fun W => seal_any _ W (by rw [ofL_size]; have := wrote_len hd.good s; omega)
  clear hd hX
  generalize sealT (ofL (wrote L s)) = t at *
  generalize ofL (wrote L s) = r at *
  go_enter Tryz.func10, Tryz.ntmps10
  go_wp2_with fail
  refine HW.out.mono ?_
  rintro e w1 ⟨rfl, hb1⟩
  have HB1 : Hid (Below w.heap.size w w1) := hb1
  clear hb1 HW
  go_wp2_with fail
  refine (HS.out w1).mono ?_
  rintro e w2 ⟨rfl, hb2⟩
  have HB2 : Hid (Below w.heap.size w w2) := HB1.out.trans (hb2.mono HB1.out.size)
  clear hb2 HB1
  go_wp2
  go_ret2
  exact ⟨rfl, HB2.out⟩
set_option maxRecDepth 10000 in
theorem load_bad {ad : Nat → Addr} (t : ByteArray) (w : World) (h4 : 4 ≤ t.size) (hl : t.size ≤ 1000000) (hne : fourT (crcOf (cutT t)) ≠ endT t) (hS : Sent w ad) :
    Calls Tryz.prog 7 #[.string t] w fun e w' => e = .returned (.tuple #[.pointer none, .iface 209 (.pointer (some (ad 8)))]) ∧ Below w.heap.size w w' := by
  have HO : Hid (Calls Tryz.prog 20 #[.string t] w fun e w' => e = .returned (.tuple #[.string ⟨#[]⟩, .iface 209 (.pointer (some (ad 8)))]) ∧ Below w.heap.size w w') := open_bad t ad w h4 hl hne hS
  clear h4 hl hne hS
  go_enter Tryz.func7, Tryz.ntmps7
  go_wp2_with fail
  refine HO.out.mono ?_
  rintro e w1 ⟨rfl, hb1⟩
  clear HO
  go_wp2
  go_ret2
  exact ⟨rfl, hb1⟩
set_option maxRecDepth 10000 in
set_option maxHeartbeats 4000000 in
theorem load_gen {ad : Nat → Addr} (x : ByteArray) (I : ByteArray → List Kep → Prop) {w : World} (hX : LibX w) (hS : Sent w ad) (hx : x.size ≤ 900000) (hI0 : I (numF x false).2.1 [])
    (hI : ∀ r M, GoodL M → I r M → r.size ≠ 0 → (verF r false).2.2 = false → (putR M false (verF r false).1.1 (verF r false).1.2).1 = 0 → I (verF r false).2.1 (putR M false (verF r false).1.1 (verF r false).1.2).2) :
    Calls Tryz.prog 7 #[.string (sealT x)] w fun e w' => ((e = .returned (.tuple #[.pointer none, .iface 209 (.pointer (some (ad 0)))]) ∧ ((∃ r M, GoodL M ∧ I r M ∧ r.size ≠ 0 ∧ Bad r M) ∨ (numF x false).2.2 = true ∨ ∃ r M, r.size = 0 ∧ I r M ∧ ofL (wrote M (decide ((numF x false).1 = 1))) ≠ x)) ∨ ∃ h S M, e = .returned (.tuple #[.pointer (some ⟨h, 0, none⟩), .nilIface]) ∧ HdOf w' h S M (decide ((numF x false).1 = 1)) ∧ (∃ r, r.size = 0 ∧ I r M) ∧ ∀ k, S k → w.heap.size ≤ k) ∧ Below w.heap.size w w' := by
  have ho := open_ok (sealT x) w (by rw [sealT_size]; omega) (by rw [sealT_size]; omega) (by rw [seal_cut, seal_end])
  rw [seal_cut] at ho
  have HO : Hid (Calls Tryz.prog 20 #[.string (sealT x)] w fun e w' => e = .returned (.tuple #[.string x, .nilIface]) ∧ Below w.heap.size w w') := ho
  have HR : Hid (∀ W, Below w.heap.size w W → Calls Tryz.prog 21 #[.string x] W fun e w' => ((e = .returned (.tuple #[.pointer none, .bool false]) ∧ ∃ r M, GoodL M ∧ I r M ∧ r.size ≠ 0 ∧ Bad r M) ∨ ∃ h S M, e = .returned (.tuple #[.pointer (some ⟨h, 0, none⟩), .bool (!(numF x false).2.2)]) ∧ HdOf w' h S M (decide ((numF x false).1 = 1)) ∧ (∃ r, r.size = 0 ∧ I r M) ∧ ∀ k, S k → W.heap.size ≤ k) ∧ Below W.heap.size W w') := fun W hW => read_gen x I hX hW (fun W' hW' => (hS.below hW').herrs) (by omega) hI0 hI
  have HWR : Hid (∀ W h S M s, Below w.heap.size w W → HdOf W h S M s → Calls Tryz.prog 22 #[.pointer (some ⟨h, 0, none⟩)] W fun e w' => e = .returned (.string (ofL (wrote M s))) ∧ Below W.heap.size W w') := fun W h S M s hb hd => written_any hX hb hd
  have HSN : Hid (Sent w ad) := hS
  generalize sealT x = y at *
  generalize numF x false = q at *
  obtain ⟨n, r0, f0⟩ := q
  simp only [] at *
  clear ho hX hS hx hI0 hI
  go_enter Tryz.func7, Tryz.ntmps7
  go_wp2_with fail
  refine HO.out.mono ?_
  rintro e w1 ⟨rfl, hb1⟩
  have HB1 : Hid (Below w.heap.size w w1) := hb1
  have hsz1 := hb1.size
  clear hb1 HO
  go_wp2_with fail
  refine (HR.out w1 HB1.out).mono ?_
  rintro e w2 ⟨(⟨rfl, hbad⟩ | ⟨h, S, M, rfl, hd, hIr, hSS⟩), hb2⟩
  · have hB2 : Below w.heap.size w w2 := HB1.out.trans (hb2.mono hsz1)
    have HB2 : Hid (Below w.heap.size w w2) := hB2
    have HBAD : Hid (∃ r M, GoodL M ∧ I r M ∧ r.size ≠ 0 ∧ Bad r M) := hbad
    have c0 := (HSN.out.below hB2).c0
    clear hb2 hB2 hbad HR HB1 HSN
    go_wp2
    go_quiet (fail)
    go_wp2
    go_ret2
    exact ⟨Or.inl ⟨rfl, Or.inl HBAD.out⟩, below_drewN HB2.out _⟩
  · have hB2 : Below w.heap.size w w2 := HB1.out.trans (hb2.mono hsz1)
    have HB2 : Hid (Below w.heap.size w w2) := hB2
    have HIR : Hid (∃ r, r.size = 0 ∧ I r M) := hIr
    have HD : Hid (HdOf w2 h S M (decide (n = 1))) := hd
    have HSS : Hid (∀ k, S k → w1.heap.size ≤ k) := hSS
    cases f0 with
    | true =>
      have c0 := (HSN.out.below hB2).c0
      clear hb2 hB2 HR HB1 HSN hIr hSS hd
      go_wp2
      go_quiet (fail)
      go_wp2
      go_ret2
      exact ⟨Or.inl rfl, below_drewN HB2.out _⟩
    | false =>
      have HW : Hid (Calls Tryz.prog 22 #[.pointer (some ⟨h, 0, none⟩)] w2 fun e w' => e = .returned (.string (ofL (wrote M (decide (n = 1))))) ∧ Below w2.heap.size w2 w') := HWR.out w2 h S M _ hB2 hd
      clear hb2 hB2 HR HB1 hIr hSS hd HWR
      by_cases hq : ofL (wrote M (decide (n = 1))) = x
      · rw [hq] at HW
        clear hq
        go_wp2_with fail
        refine HW.out.mono ?_
        rintro e w3 ⟨rfl, hb3⟩
        have HB3 : Hid (Below w.heap.size w w3) := HB2.out.trans (hb3.mono HB2.out.size)
        have HD3 : Hid (HdOf w3 h S M (decide (n = 1))) := HD.out.below hb3
        clear hb3 HW HSN HB2 HD
        go_wp2
        go_ret2
        exact ⟨Or.inr ⟨h, S, M, rfl, HD3.out, HIR.out, fun k hk => Nat.le_trans hsz1 (HSS.out k hk)⟩, HB3.out⟩
      · have HQ : Hid (ofL (wrote M (decide (n = 1))) ≠ x) := hq
        obtain ⟨z, hz⟩ : ∃ z, z = ofL (wrote M (decide (n = 1))) := ⟨_, rfl⟩
        rw [← hz] at HW hq
        clear hz
        have h1 : ¬ z.toList = x.toList := fun e => hq (toListInj e)
        have h2 : (z.toList == x.toList) = false := by simpa using h1
        have h3 : (z == x) = false := by rw [beq_toListBytes]; exact h2
        go_wp2_with fail
        refine HW.out.mono ?_
        rintro e w3 ⟨rfl, hb3⟩
        have hB3 : Below w.heap.size w w3 := HB2.out.trans (hb3.mono HB2.out.size)
        have HB3 : Hid (Below w.heap.size w w3) := hB3
        have c0 := (HSN.out.below hB3).c0
        clear hb3 hB3 HW HSN HB2 HD
        go_wp2
        go_quiet (fail)
        go_wp2
        go_ret2
        obtain ⟨r, hr0, hrI⟩ := HIR.out
        exact ⟨Or.inl ⟨rfl, Or.inr (Or.inr ⟨r, M, hr0, hrI, HQ.out⟩)⟩, below_drewN HB3.out _⟩
end Go.Proofs.YtoapbjifkjehhaaGreatDoor
/- What package hold saves and loads is what the statements ask. -/
namespace Go.Proofs.YtoapbjifkjehhaaGreatDoor
open Go.RowKit
/-- The text t is L, sealed or not, saved. -/
def SavedT (t : ByteArray) (L : List Kep) (s : Bool) : Prop := t = sealT (ofL (wrote L s)) ∧ GoodL L
/-- What is left to read, and what has been read, of L. -/
def InL (L : List Kep) (r : ByteArray) (M : List Kep) : Prop := ∃ i, i ≤ L.length ∧ r = ofL (wrL (L.drop i)) ∧ M = L.take i
theorem numF_wrote (L : List Kep) (s : Bool) : numF (ofL (wrote L s)) false = (if s then 1 else 0, ofL (wrL L), false) := by
  unfold wrote
  cases s
  · exact numF_wr (by decide) (by decide) _ _
  · exact numF_wr (by decide) (by decide) _ _
theorem drop_kep {L : List Kep} {i : Nat} (hi : i < L.length) : L.drop i = kepAt L i :: L.drop (i + 1) := by
  rw [List.drop_eq_getElem_cons hi]
  have := kepAt_get hi
  rw [List.getElem?_eq_getElem hi] at this
  rw [Option.some.inj this]
theorem wrL_cons (x : Kep) (L : List Kep) : wrL (x :: L) = wrK x ++ wrL L := by simp [wrL]
theorem inL_size {L : List Kep} {i : Nat} (hi : i ≤ L.length) (hz : (ofL (wrL (L.drop i))).size = 0) : i = L.length := by
  rcases Nat.lt_or_ge i L.length with h | h
  · rw [drop_kep h, wrL_cons, ofL_size, List.length_append] at hz
    unfold wrK wrT wrN at hz
    simp only [List.length_append, List.length_cons] at hz
    omega
  · omega
theorem inL_next {L : List Kep} (hG : GoodL L) {r : ByteArray} {M : List Kep} (h : InL L r M) (hr : r.size ≠ 0) : ∃ i, i < L.length ∧ M = L.take i ∧ verF r false = (kepAt L i, ofL (wrL (L.drop (i + 1))), false) ∧ putR M false (kepAt L i).1 (kepAt L i).2 = (0, L.take (i + 1)) := by
  obtain ⟨i, hi, rfl, rfl⟩ := h
  have hlt : i < L.length := by
    rcases Nat.lt_or_ge i L.length with h | h
    · exact h
    · refine absurd ?_ hr
      rw [List.drop_eq_nil_of_le h]
      rfl
  have hf := hG.fits (kepAt L i) (List.mem_of_getElem? (kepAt_get hlt))
  refine ⟨i, hlt, rfl, ?_, put_next hG hlt⟩
  rw [drop_kep hlt, wrL_cons]
  exact verF_wr hf.1 hf.2 _ _
theorem load_saved {ad : Nat → Addr} {L : List Kep} (hG : GoodL L) (s : Bool) {w : World} (hS : Sent w ad) (hX : LibX w) :
    Calls Tryz.prog 7 #[.string (sealT (ofL (wrote L s)))] w fun e w' => (∃ h S, e = .returned (.tuple #[.pointer (some ⟨h, 0, none⟩), .nilIface]) ∧ HdOf w' h S L s ∧ ∀ k, S k → w.heap.size ≤ k) ∧ Below w.heap.size w w' := by
  have hn := numF_wrote L s
  have hl := wrote_len hG s
  have hs : decide ((if s then (1 : Int) else 0) = 1) = s := by cases s <;> rfl
  refine (load_gen (ofL (wrote L s)) (InL L) hX hS (by rw [ofL_size]; omega) (by rw [hn]; exact ⟨0, Nat.zero_le _, rfl, rfl⟩) (fun r M _ hI hr hv hp => ?_)).mono fun e w' hp => ?_
  · obtain ⟨i, hi, rfl, hver, hput⟩ := inL_next hG hI hr
    rw [hver]
    simp only []
    rw [hput]
    exact ⟨i + 1, hi, rfl, rfl⟩
  · rw [hn] at hp
    simp only [hs] at hp
    obtain ⟨(⟨rfl, hbad⟩ | ⟨h, S, M, rfl, hd, ⟨r, hr, i, hi, rfl, rfl⟩, hSS⟩), hb⟩ := hp
    · exfalso
      rcases hbad with ⟨r, M, _, hI, hr, hB⟩ | hB | ⟨r, M, hr, ⟨i, hi, rfl, rfl⟩, hne⟩
      · obtain ⟨i, hi, rfl, hver, hput⟩ := inL_next hG hI hr
        unfold Bad at hB
        rw [hver] at hB
        simp only [] at hB
        rw [hput] at hB
        rcases hB with hB | hB
        · cases hB
        · exact hB rfl
      · cases hB
      · obtain rfl := inL_size hi hr
        rw [List.take_length] at hne
        exact hne rfl
    · obtain rfl := inL_size hi hr
      rw [List.take_length] at hd
      exact ⟨⟨h, S, rfl, hd, hSS⟩, hb⟩
theorem saveOk (ad : Nat → Addr) : SaveOk ad HdOf SavedT LibX where
  fits := fun hd => ⟨hd.good.few, fun x hx => by
    have hf := hd.good.fits x hx
    have h2 := hf.2
    unfold verOk tagB at h2
    simp only [Bool.and_eq_true, decide_eq_true_eq] at h2
    exact ⟨by have := isN_size hf.1; omega, by omega⟩⟩
  save := fun hd _ hX => (save_any hd hX).mono fun e w' hp => ⟨Or.inl ⟨_, hp.1, rfl, hd.good⟩, hp.2⟩
  sealed_ := fun {t L s} h => ⟨ofL (wrote L s), h.1, by rw [ofL_size]; have := wrote_len h.2 s; omega⟩
  load := fun {t L s} h w hS hX => by
    rw [h.1]
    exact load_saved h.2 s hS hX
  loadBad := fun t w h4 hl hne hS _ => (load_bad t w h4 hl hne hS).mono fun e w' hp => ⟨⟨_, hp.1, Or.inr ⟨8, by decide, rfl, rfl⟩⟩, hp.2⟩
  loadAny := fun x w hx hS hX => (load_gen x (fun _ _ => True) hX hS (by omega) trivial (fun _ _ _ _ _ _ _ => trivial)).mono fun e w' hp => by
    obtain ⟨(⟨he, _⟩ | ⟨h, S, M, he, hd, _⟩), hb⟩ := hp
    · exact ⟨Or.inl ⟨_, he, Or.inr ⟨0, by decide, rfl, rfl⟩⟩, hb⟩
    · exact ⟨Or.inr ⟨h, S, M, _, he, hd⟩, hb⟩
end Go.Proofs.YtoapbjifkjehhaaGreatDoor
