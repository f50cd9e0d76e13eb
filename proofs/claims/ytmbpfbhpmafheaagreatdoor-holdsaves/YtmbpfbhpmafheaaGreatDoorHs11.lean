/- Texts laid together. -/
import Derived.Test.YtmbpfbhpmafheaaGreatDoorHs10
namespace Go.Proofs.YtmbpfbhpmafheaaGreatDoor
open Go.RowKit
set_option maxRecDepth 10000 in
theorem save_any {w : World} {h : Nat} {S : Nat → Prop} {L : List Kep} {s : Bool} (hd : HdOf w h S L s) (hX : LibX w) :
    Calls Tryz.prog 10 #[.pointer (some ⟨h, 0, none⟩)] w fun e w' => e = .returned (.tuple #[.string (sealT (ofL (wrote L s))), .nilIface]) ∧ Below w.heap.size w w' := by
  have HW : Hid (Calls Tryz.prog 22 #[.pointer (some ⟨h, 0, none⟩)] w fun e w' => e = .returned (.string (ofL (wrote L s))) ∧ Below w.heap.size w w') := written_any hX (Below.refl _ _) hd
  have HS : Hid (∀ W, Calls Tryz.prog 8 #[.string (ofL (wrote L s))] W fun e w' => e = .returned (.string (sealT (ofL (wrote L s)))) ∧ Below W.heap.size W w') := fun W => seal_any _ W (by rw [ofL_size]; have := wrote_len hd.good s; omega)
  clear hd hX
  generalize sealT (ofL (wrote L s)) = t at *
  generalize ofL (wrote L s) = r at *
  go_enter Tryz.func10, Tryz.ntmps10
  go_wp2_with fail
  refine HW.out.mono ?_
  rintro e w1 ⟨rfl, hb1⟩
  have HB1 : Hid (Below w.heap.size w w1) := hb1
  clear hb1 HW
  go_wp2_with fail
  refine (HS.out w1).mono ?_
  rintro e w2 ⟨rfl, hb2⟩
  have HB2 : Hid (Below w.heap.size w w2) := HB1.out.trans (hb2.mono HB1.out.size)
  clear hb2 HB1
  go_wp2
  go_ret2
  exact ⟨rfl, HB2.out⟩
set_option maxRecDepth 10000 in
theorem load_bad {ad : Nat → Addr} (t : ByteArray) (w : World) (h4 : 4 ≤ t.size) (hl : t.size ≤ 1000000) (hne : fourT (crcOf (cutT t)) ≠ endT t) (hS : Sent w ad) :
    Calls Tryz.prog 7 #[.string t] w fun e w' => e = .returned (.tuple #[.pointer none, .iface 206 (.pointer (some (ad 8)))]) ∧ Below w.heap.size w w' := by
  have HO : Hid (Calls Tryz.prog 20 #[.string t] w fun e w' => e = .returned (.tuple #[.string ⟨#[]⟩, .iface 206 (.pointer (some (ad 8)))]) ∧ Below w.heap.size w w') := open_bad t ad w h4 hl hne hS
  clear h4 hl hne hS
  go_enter Tryz.func7, Tryz.ntmps7
  go_wp2_with fail
  refine HO.out.mono ?_
  rintro e w1 ⟨rfl, hb1⟩
  clear HO
  go_wp2
  go_ret2
  exact ⟨rfl, hb1⟩
set_option maxRecDepth 10000 in
set_option maxHeartbeats 4000000 in
theorem load_gen {ad : Nat → Addr} (x : ByteArray) (I : ByteArray → List Kep → Prop) {w : World} (hX : LibX w) (hS : Sent w ad) (hx : x.size ≤ 900000) (hI0 : I (numF x false).2.1 [])
    (hI : ∀ r M, GoodL M → I r M → r.size ≠ 0 → (verF r false).2.2 = false → (putR M false (verF r false).1.1 (verF r false).1.2).1 = 0 → I (verF r false).2.1 (putR M false (verF r false).1.1 (verF r false).1.2).2) :
    Calls Tryz.prog 7 #[.string (sealT x)] w fun e w' => ((e = .returned (.tuple #[.pointer none, .iface 206 (.pointer (some (ad 0)))]) ∧ ((∃ r M, GoodL M ∧ I r M ∧ r.size ≠ 0 ∧ Bad r M) ∨ (numF x false).2.2 = true ∨ ∃ r M, r.size = 0 ∧ I r M ∧ ofL (wrote M (decide ((numF x false).1 = 1))) ≠ x)) ∨ ∃ h S M, e = .returned (.tuple #[.pointer (some ⟨h, 0, none⟩), .nilIface]) ∧ HdOf w' h S M (decide ((numF x false).1 = 1)) ∧ (∃ r, r.size = 0 ∧ I r M) ∧ ∀ k, S k → w.heap.size ≤ k) ∧ Below w.heap.size w w' := by
  have ho := open_ok (sealT x) w (by rw [sealT_size]; omega) (by rw [sealT_size]; omega) (by rw [seal_cut, seal_end])
  rw [seal_cut] at ho
  have HO : Hid (Calls Tryz.prog 20 #[.string (sealT x)] w fun e w' => e = .returned (.tuple #[.string x, .nilIface]) ∧ Below w.heap.size w w') := ho
  have HR : Hid (∀ W, Below w.heap.size w W → Calls Tryz.prog 21 #[.string x] W fun e w' => ((e = .returned (.tuple #[.pointer none, .bool false]) ∧ ∃ r M, GoodL M ∧ I r M ∧ r.size ≠ 0 ∧ Bad r M) ∨ ∃ h S M, e = .returned (.tuple #[.pointer (some ⟨h, 0, none⟩), .bool (!(numF x false).2.2)]) ∧ HdOf w' h S M (decide ((numF x false).1 = 1)) ∧ (∃ r, r.size = 0 ∧ I r M) ∧ ∀ k, S k → W.heap.size ≤ k) ∧ Below W.heap.size W w') := fun W hW => read_gen x I hX hW (fun W' hW' => (hS.below hW').herrs) (by omega) hI0 hI
  have HWR : Hid (∀ W h S M s, Below w.heap.size w W → HdOf W h S M s → Calls Tryz.prog 22 #[.pointer (some ⟨h, 0, none⟩)] W fun e w' => e = .returned (.string (ofL (wrote M s))) ∧ Below W.heap.size W w') := fun W h S M s hb hd => written_any hX hb hd
  have HSN : Hid (Sent w ad) := hS
  generalize sealT x = y at *
  generalize numF x false = q at *
  obtain ⟨n, r0, f0⟩ := q
  simp only [] at *
  clear ho hX hS hx hI0 hI
  go_enter Tryz.func7, Tryz.ntmps7
  go_wp2_with fail
  refine HO.out.mono ?_
  rintro e w1 ⟨rfl, hb1⟩
  have HB1 : Hid (Below w.heap.size w w1) := hb1
  have hsz1 := hb1.size
  clear hb1 HO
  go_wp2_with fail
  refine (HR.out w1 HB1.out).mono ?_
  rintro e w2 ⟨(⟨rfl, hbad⟩ | ⟨h, S, M, rfl, hd, hIr, hSS⟩), hb2⟩
  · have hB2 : Below w.heap.size w w2 := HB1.out.trans (hb2.mono hsz1)
    have HB2 : Hid (Below w.heap.size w w2) := hB2
    have HBAD : Hid (∃ r M, GoodL M ∧ I r M ∧ r.size ≠ 0 ∧ Bad r M) := hbad
    have c0 := (HSN.out.below hB2).c0
    clear hb2 hB2 hbad HR HB1 HSN
    go_wp2
    go_quiet (fail)
    go_wp2
    go_ret2
    exact ⟨Or.inl ⟨rfl, Or.inl HBAD.out⟩, below_drewN HB2.out _⟩
  · have hB2 : Below w.heap.size w w2 := HB1.out.trans (hb2.mono hsz1)
    have HB2 : Hid (Below w.heap.size w w2) := hB2
    have HIR : Hid (∃ r, r.size = 0 ∧ I r M) := hIr
    have HD : Hid (HdOf w2 h S M (decide (n = 1))) := hd
    have HSS : Hid (∀ k, S k → w1.heap.size ≤ k) := hSS
    cases f0 with
    | true =>
      have c0 := (HSN.out.below hB2).c0
      clear hb2 hB2 HR HB1 HSN hIr hSS hd
      go_wp2
      go_quiet (fail)
      go_wp2
      go_ret2
      exact ⟨Or.inl rfl, below_drewN HB2.out _⟩
    | false =>
      have HW : Hid (Calls Tryz.prog 22 #[.pointer (some ⟨h, 0, none⟩)] w2 fun e w' => e = .returned (.string (ofL (wrote M (decide (n = 1))))) ∧ Below w2.heap.size w2 w') := HWR.out w2 h S M _ hB2 hd
      clear hb2 hB2 HR HB1 hIr hSS hd HWR
      by_cases hq : ofL (wrote M (decide (n = 1))) = x
      · rw [hq] at HW
        clear hq
        go_wp2_with fail
        refine HW.out.mono ?_
        rintro e w3 ⟨rfl, hb3⟩
        have HB3 : Hid (Below w.heap.size w w3) := HB2.out.trans (hb3.mono HB2.out.size)
        have HD3 : Hid (HdOf w3 h S M (decide (n = 1))) := HD.out.below hb3
        clear hb3 HW HSN HB2 HD
        go_wp2
        go_ret2
        exact ⟨Or.inr ⟨h, S, M, rfl, HD3.out, HIR.out, fun k hk => Nat.le_trans hsz1 (HSS.out k hk)⟩, HB3.out⟩
      · have HQ : Hid (ofL (wrote M (decide (n = 1))) ≠ x) := hq
        obtain ⟨z, hz⟩ : ∃ z, z = ofL (wrote M (decide (n = 1))) := ⟨_, rfl⟩
        rw [← hz] at HW hq
        clear hz
        have h1 : ¬ z.toList = x.toList := fun e => hq (toListInj e)
        have h2 : (z.toList == x.toList) = false := by simpa using h1
        have h3 : (z == x) = false := by rw [beq_toListBytes]; exact h2
        go_wp2_with fail
        refine HW.out.mono ?_
        rintro e w3 ⟨rfl, hb3⟩
        have hB3 : Below w.heap.size w w3 := HB2.out.trans (hb3.mono HB2.out.size)
        have HB3 : Hid (Below w.heap.size w w3) := hB3
        have c0 := (HSN.out.below hB3).c0
        clear hb3 hB3 HW HSN HB2 HD
        go_wp2
        go_quiet (fail)
        go_wp2
        go_ret2
        obtain ⟨r, hr0, hrI⟩ := HIR.out
        exact ⟨Or.inl ⟨rfl, Or.inr (Or.inr ⟨r, M, hr0, hrI, HQ.out⟩)⟩, below_drewN HB3.out _⟩
/-- The text t is L, sealed or not, saved. -/
def SavedT (t : ByteArray) (L : List Kep) (s : Bool) : Prop := t = sealT (ofL (wrote L s)) ∧ GoodL L
/-- What is left to read, and what has been read, of L. -/
def InL (L : List Kep) (r : ByteArray) (M : List Kep) : Prop := ∃ i, i ≤ L.length ∧ r = ofL (wrL (L.drop i)) ∧ M = L.take i
theorem numF_wrote (L : List Kep) (s : Bool) : numF (ofL (wrote L s)) false = (if s then 1 else 0, ofL (wrL L), false) := by
  unfold wrote
  cases s
  · exact numF_wr (by decide) (by decide) _ _
  · exact numF_wr (by decide) (by decide) _ _
theorem drop_kep {L : List Kep} {i : Nat} (hi : i < L.length) : L.drop i = kepAt L i :: L.drop (i + 1) := by
  rw [List.drop_eq_getElem_cons hi]
  have := kepAt_get hi
  rw [List.getElem?_eq_getElem hi] at this
  rw [Option.some.inj this]
theorem wrL_cons (x : Kep) (L : List Kep) : wrL (x :: L) = wrK x ++ wrL L := by simp [wrL]
theorem inL_size {L : List Kep} {i : Nat} (hi : i ≤ L.length) (hz : (ofL (wrL (L.drop i))).size = 0) : i = L.length := by
  rcases Nat.lt_or_ge i L.length with h | h
  · rw [drop_kep h, wrL_cons, ofL_size, List.length_append] at hz
    unfold wrK wrT wrN at hz
    simp only [List.length_append, List.length_cons] at hz
    omega
  · omega
theorem inL_next {L : List Kep} (hG : GoodL L) {r : ByteArray} {M : List Kep} (h : InL L r M) (hr : r.size ≠ 0) : ∃ i, i < L.length ∧ M = L.take i ∧ verF r false = (kepAt L i, ofL (wrL (L.drop (i + 1))), false) ∧ putR M false (kepAt L i).1 (kepAt L i).2 = (0, L.take (i + 1)) := by
  obtain ⟨i, hi, rfl, rfl⟩ := h
  have hlt : i < L.length := by
    rcases Nat.lt_or_ge i L.length with h | h
    · exact h
    · refine absurd ?_ hr
      rw [List.drop_eq_nil_of_le h]
      rfl
  have hf := hG.fits (kepAt L i) (List.mem_of_getElem? (kepAt_get hlt))
  refine ⟨i, hlt, rfl, ?_, put_next hG hlt⟩
  rw [drop_kep hlt, wrL_cons]
  exact verF_wr hf.1 hf.2 _ _
theorem load_saved {ad : Nat → Addr} {L : List Kep} (hG : GoodL L) (s : Bool) {w : World} (hS : Sent w ad) (hX : LibX w) :
    Calls Tryz.prog 7 #[.string (sealT (ofL (wrote L s)))] w fun e w' => (∃ h S, e = .returned (.tuple #[.pointer (some ⟨h, 0, none⟩), .nilIface]) ∧ HdOf w' h S L s ∧ ∀ k, S k → w.heap.size ≤ k) ∧ Below w.heap.size w w' := by
  have hn := numF_wrote L s
  have hl := wrote_len hG s
  have hs : decide ((if s then (1 : Int) else 0) = 1) = s := by cases s <;> rfl
  refine (load_gen (ofL (wrote L s)) (InL L) hX hS (by rw [ofL_size]; omega) (by rw [hn]; exact ⟨0, Nat.zero_le _, rfl, rfl⟩) (fun r M _ hI hr hv hp => ?_)).mono fun e w' hp => ?_
  · obtain ⟨i, hi, rfl, hver, hput⟩ := inL_next hG hI hr
    rw [hver]
    simp only []
    rw [hput]
    exact ⟨i + 1, hi, rfl, rfl⟩
  · rw [hn] at hp
    simp only [hs] at hp
    obtain ⟨(⟨rfl, hbad⟩ | ⟨h, S, M, rfl, hd, ⟨r, hr, i, hi, rfl, rfl⟩, hSS⟩), hb⟩ := hp
    · exfalso
      rcases hbad with ⟨r, M, _, hI, hr, hB⟩ | hB | ⟨r, M, hr, ⟨i, hi, rfl, rfl⟩, hne⟩
      · obtain ⟨i, hi, rfl, hver, hput⟩ := inL_next hG hI hr
        unfold Bad at hB
        rw [hver] at hB
        simp only [] at hB
        rw [hput] at hB
        rcases hB with hB | hB
        · cases hB
        · exact hB rfl
      · cases hB
      · obtain rfl := inL_size hi hr
        rw [List.take_length] at hne
        exact hne rfl
    · obtain rfl := inL_size hi hr
      rw [List.take_length] at hd
      exact ⟨⟨h, S, rfl, hd, hSS⟩, hb⟩
theorem saveOk (ad : Nat → Addr) : SaveOk ad HdOf SavedT LibX where
  fits := fun hd => ⟨hd.good.few, fun x hx => by
    have hf := hd.good.fits x hx
    have h2 := hf.2
    unfold verOk tagB at h2
    simp only [Bool.and_eq_true, decide_eq_true_eq] at h2
    exact ⟨by have := isN_size hf.1; omega, by omega⟩⟩
  save := fun hd _ hX => (save_any hd hX).mono fun e w' hp => ⟨Or.inl ⟨_, hp.1, rfl, hd.good⟩, hp.2⟩
  sealed_ := fun {t L s} h => ⟨ofL (wrote L s), h.1, by rw [ofL_size]; have := wrote_len h.2 s; omega⟩
  load := fun {t L s} h w hS hX => by
    rw [h.1]
    exact load_saved h.2 s hS hX
  loadBad := fun t w h4 hl hne hS _ => (load_bad t w h4 hl hne hS).mono fun e w' hp => ⟨⟨_, hp.1, Or.inr ⟨8, by decide, rfl, rfl⟩⟩, hp.2⟩
  loadAny := fun x w hx hS hX => (load_gen x (fun _ _ => True) hX hS (by omega) trivial (fun _ _ _ _ _ _ _ => trivial)).mono fun e w' hp => by
    obtain ⟨(⟨he, _⟩ | ⟨h, S, M, he, hd, _⟩), hb⟩ := hp
    · exact ⟨Or.inl ⟨_, he, Or.inr ⟨0, by decide, rfl, rfl⟩⟩, hb⟩
    · exact ⟨Or.inr ⟨h, S, M, _, he, hd⟩, hb⟩
theorem last_idx (m : Nat) (h : m + 1 ≤ 900000) : wrap64 ((m : Int) + 1 - 1) = (m : Int) ∧ IntKind.i64.wrap ((m : Int) + 1 - 1) = (m : Int) ∧ wrap64 (((m + 1 : Nat) : Int) - 1) = (m : Int) ∧ IntKind.i64.wrap (((m + 1 : Nat) : Int) - 1) = (m : Int) ∧ (0 : Int) ≤ (m : Int) ∧ (m : Int) < (m : Int) + 1 ∧ (m : Int) < ((m + 1 : Nat) : Int) ∧ wrap64 (m : Int) = (m : Int) ∧ IntKind.i64.wrap (m : Int) = (m : Int) := by
  refine ⟨?_, ?_, ?_, ?_, ?_, ?_, ?_, ?_, ?_⟩
  all_goals first | omega | (unfold wrap64; omega) | (rw [IntKind.wrap_i64]; omega)
set_option maxRecDepth 10000 in
set_option maxHeartbeats 8000000 in
theorem asHold_any {Hd : World → Nat → (Nat → Prop) → List Kep → Bool → Prop} (hO : HoldSee Hd) (B hp hm : Nat) (L : List Kep) (s : Bool) (S : Nat → Prop) (w : World) (hT : Two Hd B w hp hm L s S) :
    Calls Tryz.prog 15 #[.pointer (some ⟨hp, 0, none⟩), .pointer (some ⟨hm, 0, none⟩)] w fun e w' => e = .returned (.bool true) ∧ Below w.heap.size w w' := by
  have hks : ∀ x ∈ keysTo L L.length, x.size ≤ maxLen := fun x hx => by
    obtain ⟨j, hj, e⟩ := keysTo_mem hx
    rw [← e]
    exact hT.names _ (List.mem_of_getElem? (kepAt_get hj))
  obtain ⟨p, c, q0, _, hc, _, _⟩ := hT.model.row
  have q1 := hT.model.sealed_
  have hlt := lt_of_cellH q0
  have hlen := hT.len
  have HT : Hid (∀ W, Below w.heap.size w W → Two Hd B W hp hm L s S) := fun W hW => hT.below hO hW
  have HCNT : Hid (∀ W, Below w.heap.size w W → Calls Tryz.prog 11 #[.pointer (some ⟨hp, 0, none⟩)] W fun e w' => e = .returned (.int .i64 (L.length : Int)) ∧ Below W.heap.size W w') := fun W hW => hO.count (HT.out W hW).own
  have HSEA : Hid (∀ W, Below w.heap.size w W → Calls Tryz.prog 12 #[.pointer (some ⟨hp, 0, none⟩)] W fun e w' => e = .returned (.bool s) ∧ Below W.heap.size W w') := fun W hW => hO.sealed_ (HT.out W hW).own
  have HKEY : Hid (∀ W, Below w.heap.size w W → Calls Tryz.prog 34 #[.pointer (some ⟨hp, 0, none⟩)] W fun e w' => (∃ p c, e = .returned (.slice p (keysTo L L.length).length c) ∧ Strs w' p (keysTo L L.length)) ∧ Below W.heap.size W w') := fun W hW => hO.keys (HT.out W hW).own
  have HMKY : Hid (∀ W, Below w.heap.size w W → Calls Tryz.prog 35 #[.pointer (some ⟨hm, 0, none⟩)] W fun e w' => (∃ p c, e = .returned (.slice p (keysTo L L.length).length c) ∧ Strs w' p (keysTo L L.length)) ∧ Below W.heap.size W w') := fun W hW => by
    refine (rkeys_any hm L s W (by omega) (HT.out W hW).model).mono ?_
    rintro e w' ⟨⟨v, rfl, hv⟩, hb⟩
    obtain ⟨p, c, rfl, hs, _⟩ := hv.form
    exact ⟨⟨p, c, rfl, hs⟩, hb⟩
  have hkl : (keysTo L L.length).length ≤ 900000 := Nat.le_trans (keysTo_le L L.length) (by omega)
  have HSAM : Hid (∀ W pa pb ca cb, Strs W pa (keysTo L L.length) → Strs W pb (keysTo L L.length) → Calls Tryz.prog 33 #[.slice pa (keysTo L L.length).length ca, .slice pb (keysTo L L.length).length cb] W fun e w' => e = .returned (.bool true) ∧ Below W.heap.size W w') := fun W pa pb ca cb h1 h2 => by
    have := sameTexts_any pa pb _ _ ca cb W (by omega) (by omega) h1 h2
    rw [decide_eq_true rfl] at this
    exact this
  have HGET : Hid (∀ x ∈ keysTo L L.length, 0 < (getL L x).length ∧ x.size ≤ maxLen) := fun x hx => ⟨keysTo_get hx, hks x hx⟩
  have g1 : ((L.length : Int) != (L.length : Int)) = false := by simp
  have g2 : (s != s) = false := by simp
  generalize keysTo L L.length = ks at *
  clear hT hks
  go_enter Tryz.func15, Tryz.ntmps15
  go_upto_region 1 with fail
  go_cut [34] from 10 (fun b wc => b = .bool false ∧ Below w.heap.size w wc)
  case first =>
    have hS0 : w.drew.cell? ⟨hm, 0, none⟩ = some (.slice p L.length c) ∧ w.drew.cell? ⟨hm, 1, none⟩ = some (.bool s) ∧ Below w.heap.size w w.drew := ⟨q0, q1, (Below.refl _ _).drew⟩
    have HK : Hid (∀ W, Below w.heap.size w W → (W.cell? ⟨hm, 0, none⟩ = some (.slice p L.length c) ∧ W.cell? ⟨hm, 1, none⟩ = some (.bool s) ∧ Below w.heap.size w W)) := fun W hW => ⟨(hW.cell (p := ⟨hm, 0, none⟩) hlt).trans q0, (hW.cell (p := ⟨hm, 1, none⟩) hlt).trans q1, hW⟩
    have HCNT' : Hid (∀ W, (W.cell? ⟨hm, 0, none⟩ = some (.slice p L.length c) ∧ W.cell? ⟨hm, 1, none⟩ = some (.bool s) ∧ Below w.heap.size w W) → Calls Tryz.prog 11 #[.pointer (some ⟨hp, 0, none⟩)] W fun e w' => e = .returned (.int .i64 (L.length : Int)) ∧ (w'.cell? ⟨hm, 0, none⟩ = some (.slice p L.length c) ∧ w'.cell? ⟨hm, 1, none⟩ = some (.bool s) ∧ Below w.heap.size w w')) := fun W hW => (HCNT.out W hW.2.2).mono fun e w' ⟨h1, hb⟩ => ⟨h1, HK.out w' (hW.2.2.trans (hb.mono hW.2.2.size))⟩
    have HSEA' : Hid (∀ W, (W.cell? ⟨hm, 0, none⟩ = some (.slice p L.length c) ∧ W.cell? ⟨hm, 1, none⟩ = some (.bool s) ∧ Below w.heap.size w W) → Calls Tryz.prog 12 #[.pointer (some ⟨hp, 0, none⟩)] W fun e w' => e = .returned (.bool s) ∧ (w'.cell? ⟨hm, 0, none⟩ = some (.slice p L.length c) ∧ w'.cell? ⟨hm, 1, none⟩ = some (.bool s) ∧ Below w.heap.size w w')) := fun W hW => (HSEA.out W hW.2.2).mono fun e w' ⟨h1, hb⟩ => ⟨h1, HK.out w' (hW.2.2.trans (hb.mono hW.2.2.size))⟩
    have HKEY' : Hid (∀ W, (W.cell? ⟨hm, 0, none⟩ = some (.slice p L.length c) ∧ W.cell? ⟨hm, 1, none⟩ = some (.bool s) ∧ Below w.heap.size w W) → Calls Tryz.prog 34 #[.pointer (some ⟨hp, 0, none⟩)] W fun e w' => (∃ p c, e = .returned (.slice p ks.length c) ∧ Strs w' p ks) ∧ (w'.cell? ⟨hm, 0, none⟩ = some (.slice p L.length c) ∧ w'.cell? ⟨hm, 1, none⟩ = some (.bool s) ∧ Below w.heap.size w w')) := fun W hW => (HKEY.out W hW.2.2).mono fun e w' ⟨h1, hb⟩ => ⟨h1, HK.out w' (hW.2.2.trans (hb.mono hW.2.2.size))⟩
    have HMKY' : Hid (∀ W, (W.cell? ⟨hm, 0, none⟩ = some (.slice p L.length c) ∧ W.cell? ⟨hm, 1, none⟩ = some (.bool s) ∧ Below w.heap.size w W) → Calls Tryz.prog 35 #[.pointer (some ⟨hm, 0, none⟩)] W fun e w' => (∃ p c, e = .returned (.slice p ks.length c) ∧ Strs w' p ks) ∧ Below W.heap.size W w' ∧ (w'.cell? ⟨hm, 0, none⟩ = some (.slice p L.length c) ∧ w'.cell? ⟨hm, 1, none⟩ = some (.bool s) ∧ Below w.heap.size w w')) := fun W hW => (HMKY.out W hW.2.2).mono fun e w' ⟨h1, hb⟩ => ⟨h1, hb, HK.out w' (hW.2.2.trans (hb.mono hW.2.2.size))⟩
    have HSAM' : Hid (∀ W pa pb ca cb, (W.cell? ⟨hm, 0, none⟩ = some (.slice p L.length c) ∧ W.cell? ⟨hm, 1, none⟩ = some (.bool s) ∧ Below w.heap.size w W) → Strs W pa ks → Strs W pb ks → Calls Tryz.prog 33 #[.slice pa ks.length ca, .slice pb ks.length cb] W fun e w' => e = .returned (.bool true) ∧ (w'.cell? ⟨hm, 0, none⟩ = some (.slice p L.length c) ∧ w'.cell? ⟨hm, 1, none⟩ = some (.bool s) ∧ Below w.heap.size w w')) := fun W pa pb ca cb hW h1 h2 => (HSAM.out W pa pb ca cb h1 h2).mono fun e w' ⟨h3, hb⟩ => ⟨h3, HK.out w' (hW.2.2.trans (hb.mono hW.2.2.size))⟩
    clear HCNT HSEA HKEY HMKY HSAM
    go_region_held3 (fun W => (W.cell? ⟨hm, 0, none⟩ = some (.slice p L.length c) ∧ W.cell? ⟨hm, 1, none⟩ = some (.bool s) ∧ Below w.heap.size w W)) (first | assumption | exact hS0) (first | (go_at_call 11; refine (HCNT'.out _ (by assumption)).mono ?_; rintro e w1 ⟨rfl, hS1⟩) | (go_at_call 12; refine (HSEA'.out _ (by assumption)).mono ?_; rintro e w2 ⟨rfl, hS2⟩) | (go_at_call 34; refine (HKEY'.out _ (by assumption)).mono ?_; rintro e wk ⟨⟨pk, ck, rfl, hsk⟩, hSk⟩) | (go_at_call 35; refine (HMKY'.out _ (by assumption)).mono ?_; rintro e wm ⟨⟨pm, cm, rfl, hsm⟩, hbm, hSm⟩) | (go_at_call 33; refine (HSAM'.out _ pk pm ck cm (by assumption) (hsk.below hbm) hsm).mono ?_; rintro e ws ⟨rfl, hSs⟩))
    all_goals (go_wp2_with fail; go_meet)
    all_goals exact ⟨rfl, hSs.2.2⟩
  case rest =>
    obtain ⟨rfl, hbc⟩ := hcut
    have HBC : Hid (Below w.heap.size w wc) := hbc
    clear hbc HCNT HSEA HKEY HSAM q0 q1 g1 g2
    go_wp2_with fail
    refine (HMKY.out _ HBC.out).mono ?_
    rintro e w1 ⟨⟨pk, ck, rfl, hsk⟩, hb1⟩
    have HSK : Hid (Strs w1 pk ks) := hsk
    have HB1 : Hid (Below w.heap.size w w1) := HBC.out.trans (hb1.mono HBC.out.size)
    clear hsk hb1 HMKY
    go_wp2
    go_loopw [6] (fun x wq => ∃ i : Nat, i ≤ ks.length ∧ x = .int .i64 i ∧ Below w1.heap.size w1 wq) (fun x _ => ks.length - (intOf x).toNat)
    case atStart => exact ⟨0, Nat.zero_le _, rfl, Below.refl _ _⟩
    case round =>
      obtain ⟨i, hi, rfl, hbq⟩ := hrel
      obtain ⟨w2, rfl⟩ : ∃ w2, w2 = wr := ⟨_, rfl⟩
      have HBQ : Hid (Below w1.heap.size w1 w2) := hbq
      have HB2 : Hid (Below w.heap.size w w2) := HB1.out.trans (hbq.mono HB1.out.size)
      clear hbq
      by_cases hil : i < ks.length
      · obtain ⟨b, o, hpp, hblt, hcell⟩ : ∃ b o, pk = some ⟨b, o, none⟩ ∧ b < w1.heap.size ∧ ∀ j, j < ks.length → w1.cell? ⟨b, o + j, none⟩ = some (.string (txt ks j)) := by
          rcases HSK.out with h0 | ⟨b, o, hp, hlt, hc⟩
          · rw [h0] at hil; exact absurd hil (Nat.not_lt_zero _)
          · exact ⟨b, o, hp, hlt, hc⟩
        subst hpp
        have HCEL : Hid (∀ W, Below w1.heap.size w1 W → W.cell? ⟨b, o + i, none⟩ = some (.string (txt ks i))) := fun W hW => (hW.cell (p := ⟨b, o + i, none⟩) hblt).trans (hcell i hil)
        obtain ⟨hg0, hsz⟩ := HGET.out (txt ks i) (txt_mem hil)
        clear hcell
        generalize txt ks i = t at *
        have HMG : Hid (Calls Tryz.prog 31 #[.pointer (some ⟨hm, 0, none⟩), .string t] w2 fun e w' => (∃ p c, e = .returned (.slice p (getL L t).length c) ∧ Rec verE w' p (getL L t)) ∧ Below w2.heap.size w2 w') := by
          refine (rget_any hm L s t w2 (by omega) (HT.out w2 HB2.out).model).mono ?_
          rintro e w' ⟨⟨v, rfl, hv⟩, hb⟩
          obtain ⟨p, c, rfl, hs, _⟩ := hv.form
          exact ⟨⟨p, c, rfl, hs⟩, hb⟩
        have HLA : Hid (∀ W, Below w.heap.size w W → Calls Tryz.prog 18 #[.pointer (some ⟨hp, 0, none⟩), .string t] W fun e w' => e = .returned (.tuple #[.agg #[.int .i64 (lastT (getL L t)).1, .int .i64 (lastT (getL L t)).2], .bool true]) ∧ Below W.heap.size W w') := fun W hW => by
          have := hO.last t hsz (HT.out W hW).own
          rw [decide_eq_true hg0] at this
          exact this
        have HGE : Hid (∀ W, Below w.heap.size w W → Calls Tryz.prog 17 #[.pointer (some ⟨hp, 0, none⟩), .string t] W fun e w' => (∃ p c, e = .returned (.slice p (getL L t).length c) ∧ Rec verE w' p (getL L t)) ∧ Below W.heap.size W w') := fun W hW => hO.get t hsz (HT.out W hW).own
        have hgl : (getL L t).length ≤ 900000 := Nat.le_trans (getL_le _ _) (by omega)
        have HLT : Hid (lastT (getL L t) = ((verAt (getL L t) ((getL L t).length - 1)).n, (verAt (getL L t) ((getL L t).length - 1)).who)) := by show _ = _; rfl
        have HSV : Hid (∀ W pa pb ca cb, Rec verE W pa (getL L t) → Rec verE W pb (getL L t) → Calls Tryz.prog 32 #[.slice pa (getL L t).length ca, .slice pb (getL L t).length cb] W fun e w' => e = .returned (.bool true) ∧ Below W.heap.size W w') := fun W pa pb ca cb h1 h2 => by
          have := sameVers_any pa pb _ _ ca cb W (by omega) h1 h2
          rw [decide_eq_true rfl] at this
          exact this
        generalize getL L t = gl at *
        have q2 := HCEL.out w2 HBQ.out
        go_wp2_with fail
        refine HMG.out.mono ?_
        rintro e w3 ⟨⟨pl, cl, rfl, hrl⟩, hb3⟩
        have HBQ3 : Hid (Below w1.heap.size w1 w3) := HBQ.out.trans (hb3.mono HBQ.out.size)
        have HB3 : Hid (Below w.heap.size w w3) := HB2.out.trans (hb3.mono HB2.out.size)
        have HRL : Hid (Rec verE w3 pl gl) := hrl
        have q3 := HCEL.out w3 HBQ3.out
        clear hb3 hrl HMG q2
        go_wp2_with fail
        refine (HLA.out w3 HB3.out).mono ?_
        rintro e w4 ⟨rfl, hb4⟩
        have HBQ4 : Hid (Below w1.heap.size w1 w4) := HBQ3.out.trans (hb4.mono HBQ3.out.size)
        have HB4 : Hid (Below w.heap.size w w4) := HB3.out.trans (hb4.mono HB3.out.size)
        have HRL4 : Hid (Rec verE w4 pl gl) := HRL.out.below hb4
        rw [HLT.out]
        generalize hva : (verAt gl (gl.length - 1)).n = va at *
        generalize hvb : (verAt gl (gl.length - 1)).who = vb at *
        clear hb4 HLA q3 HRL
        obtain ⟨bl, ol, hpl, hbl, v0, v1, _⟩ := ver_cells HRL4.out (i := gl.length - 1) (by omega)
        subst hpl
        rw [hva] at v0
        rw [hvb] at v1
        obtain ⟨m, hgm⟩ : ∃ m, gl.length = m + 1 := ⟨gl.length - 1, by omega⟩
        have HGM : Hid (gl.length = m + 1) := hgm
        rw [hgm] at HGE HSV v0 v1 hgl
        rw [show m + 1 - 1 = m by omega] at v0 v1
        obtain ⟨w5, hw5⟩ : ∃ w5, w5 = w4.alloc (.cells #[.int .i64 va, .int .i64 vb] 45) := ⟨_, rfl⟩
        have hb45 : Below w4.heap.size w4 w5 := by rw [hw5]; exact (Below.refl _ _).alloc (Nat.le_refl _) _
        have r0 : w5.cell? ⟨w4.heap.size, 0, none⟩ = some (.int .i64 va) := by rw [hw5]; simp
        have r1 : w5.cell? ⟨w4.heap.size, 1, none⟩ = some (.int .i64 vb) := by rw [hw5]; simp
        have HB5 : Hid (Below w.heap.size w w5) := HB4.out.trans (hb45.mono HB4.out.size)
        have HBQ5 : Hid (Below w1.heap.size w1 w5) := HBQ4.out.trans (hb45.mono HBQ4.out.size)
        have HRL5 : Hid (Rec verE w5 (some ⟨bl, ol, none⟩) gl) := HRL4.out.below hb45
        have HCL5 : Hid (∀ W, Below w5.heap.size w5 W → W.cell? ⟨w4.heap.size, 0, none⟩ = some (.int .i64 va) ∧ W.cell? ⟨w4.heap.size, 1, none⟩ = some (.int .i64 vb) ∧ W.cell? ⟨bl, ol + m * 5, none⟩ = some (.int .i64 va) ∧ W.cell? ⟨bl, ol + m * 5 + 1, none⟩ = some (.int .i64 vb)) := fun W hW => by
          have hlt4 : w4.heap.size < w5.heap.size := lt_of_cellH r0
          have hlb : bl < w5.heap.size := Nat.lt_of_lt_of_le hbl hb45.size
          exact ⟨(hW.cell (p := ⟨w4.heap.size, 0, none⟩) hlt4).trans r0, (hW.cell (p := ⟨w4.heap.size, 1, none⟩) hlt4).trans r1, (hW.cell (p := ⟨bl, ol + m * 5, none⟩) hlb).trans ((hb45.cell (p := ⟨bl, ol + m * 5, none⟩) hbl).trans v0), (hW.cell (p := ⟨bl, ol + m * 5 + 1, none⟩) hlb).trans ((hb45.cell (p := ⟨bl, ol + m * 5 + 1, none⟩) hbl).trans v1)⟩
        have HW5 : Hid (w5 = w4.alloc (.cells #[.int .i64 va, .int .i64 vb] 45)) := hw5
        have q5 := HCEL.out w5 HBQ5.out
        obtain ⟨e1, e2, e3, e4, e5, e6, e7, e8, e9⟩ := last_idx m hgl
        clear hw5 hb45 r0 r1 v0 v1 hva hvb HRL4 HB4 HBQ4 HLT HCEL
        rw [hgm]
        clear hgm
        go_upto_region 9 with fail
        rw [← HW5.out]
        go_cut [81] from 37 to 81 (fun b wx => b = .bool false ∧ Below w5.heap.size w5 wx)
        case first =>
          have hS0 : w5.drew.cell? ⟨b, o + i, none⟩ = some (.string t) ∧ w5.drew.cell? ⟨w4.heap.size, 0, none⟩ = some (.int .i64 va) ∧ w5.drew.cell? ⟨w4.heap.size, 1, none⟩ = some (.int .i64 vb) ∧ w5.drew.cell? ⟨bl, ol + m * 5, none⟩ = some (.int .i64 va) ∧ w5.drew.cell? ⟨bl, ol + m * 5 + 1, none⟩ = some (.int .i64 vb) ∧ Below w5.heap.size w5 w5.drew := by
            obtain ⟨x0, x1, x2, x3⟩ := HCL5.out w5 (Below.refl _ _)
            exact ⟨q5, x0, x1, x2, x3, (Below.refl _ _).drew⟩
          have HK5 : Hid (∀ W, Below w5.heap.size w5 W → (W.cell? ⟨b, o + i, none⟩ = some (.string t) ∧ W.cell? ⟨w4.heap.size, 0, none⟩ = some (.int .i64 va) ∧ W.cell? ⟨w4.heap.size, 1, none⟩ = some (.int .i64 vb) ∧ W.cell? ⟨bl, ol + m * 5, none⟩ = some (.int .i64 va) ∧ W.cell? ⟨bl, ol + m * 5 + 1, none⟩ = some (.int .i64 vb) ∧ Below w5.heap.size w5 W)) := fun W hW => by
            obtain ⟨x0, x1, x2, x3⟩ := HCL5.out W hW
            exact ⟨(hW.cell (p := ⟨b, o + i, none⟩) (lt_of_cellH q5)).trans q5, x0, x1, x2, x3, hW⟩
          have HGE' : Hid (∀ W, (W.cell? ⟨b, o + i, none⟩ = some (.string t) ∧ W.cell? ⟨w4.heap.size, 0, none⟩ = some (.int .i64 va) ∧ W.cell? ⟨w4.heap.size, 1, none⟩ = some (.int .i64 vb) ∧ W.cell? ⟨bl, ol + m * 5, none⟩ = some (.int .i64 va) ∧ W.cell? ⟨bl, ol + m * 5 + 1, none⟩ = some (.int .i64 vb) ∧ Below w5.heap.size w5 W) → Calls Tryz.prog 17 #[.pointer (some ⟨hp, 0, none⟩), .string t] W fun e w' => (∃ p c, e = .returned (.slice p (m + 1) c) ∧ Rec verE w' p gl) ∧ (w'.cell? ⟨b, o + i, none⟩ = some (.string t) ∧ w'.cell? ⟨w4.heap.size, 0, none⟩ = some (.int .i64 va) ∧ w'.cell? ⟨w4.heap.size, 1, none⟩ = some (.int .i64 vb) ∧ w'.cell? ⟨bl, ol + m * 5, none⟩ = some (.int .i64 va) ∧ w'.cell? ⟨bl, ol + m * 5 + 1, none⟩ = some (.int .i64 vb) ∧ Below w5.heap.size w5 w')) := fun W hW => by
            refine (HGE.out W (HB5.out.trans (hW.2.2.2.2.2.mono HB5.out.size))).mono ?_
            rintro e w' ⟨h1, hb⟩
            exact ⟨h1, HK5.out w' (hW.2.2.2.2.2.trans (hb.mono hW.2.2.2.2.2.size))⟩
          have HSV' : Hid (∀ W pa ca, (W.cell? ⟨b, o + i, none⟩ = some (.string t) ∧ W.cell? ⟨w4.heap.size, 0, none⟩ = some (.int .i64 va) ∧ W.cell? ⟨w4.heap.size, 1, none⟩ = some (.int .i64 vb) ∧ W.cell? ⟨bl, ol + m * 5, none⟩ = some (.int .i64 va) ∧ W.cell? ⟨bl, ol + m * 5 + 1, none⟩ = some (.int .i64 vb) ∧ Below w5.heap.size w5 W) → Rec verE W pa gl → Calls Tryz.prog 32 #[.slice pa (m + 1) ca, .slice (some ⟨bl, ol, none⟩) (m + 1) cl] W fun e w' => e = .returned (.bool true) ∧ (w'.cell? ⟨b, o + i, none⟩ = some (.string t) ∧ w'.cell? ⟨w4.heap.size, 0, none⟩ = some (.int .i64 va) ∧ w'.cell? ⟨w4.heap.size, 1, none⟩ = some (.int .i64 vb) ∧ w'.cell? ⟨bl, ol + m * 5, none⟩ = some (.int .i64 va) ∧ w'.cell? ⟨bl, ol + m * 5 + 1, none⟩ = some (.int .i64 vb) ∧ Below w5.heap.size w5 w')) := fun W pa ca hW hr => by
            refine (HSV.out W pa (some ⟨bl, ol, none⟩) ca cl hr (HRL5.out.below hW.2.2.2.2.2)).mono ?_
            rintro e w' ⟨rfl, hb⟩
            exact ⟨rfl, HK5.out w' (hW.2.2.2.2.2.trans (hb.mono hW.2.2.2.2.2.size))⟩
          clear HGE HSV
          go_region_held3 (fun W => (W.cell? ⟨b, o + i, none⟩ = some (.string t) ∧ W.cell? ⟨w4.heap.size, 0, none⟩ = some (.int .i64 va) ∧ W.cell? ⟨w4.heap.size, 1, none⟩ = some (.int .i64 vb) ∧ W.cell? ⟨bl, ol + m * 5, none⟩ = some (.int .i64 va) ∧ W.cell? ⟨bl, ol + m * 5 + 1, none⟩ = some (.int .i64 vb) ∧ Below w5.heap.size w5 W)) (first | assumption | exact hS0) (first | (go_at_call 17; refine (HGE'.out _ (by assumption)).mono ?_; rintro e w6 ⟨⟨pg, cg, rfl, hrg⟩, hS6⟩) | (go_at_call 32; refine (HSV'.out _ pg cg (by assumption) hrg).mono ?_; rintro e w7 ⟨rfl, hS7⟩))
          all_goals (go_wp2_with fail; go_meet)
          all_goals exact ⟨rfl, hS7.2.2.2.2.2⟩
        case rest =>
          obtain ⟨rfl, hbx⟩ := hcut
          have HBX : Hid (Below w1.heap.size w1 wc) := HBQ5.out.trans (hbx.mono HBQ5.out.size)
          clear hbx
          go_wp2
          go_roundw
          case rel => exact ⟨i + 1, by omega, by go_num, HBX.out⟩
          case measure => simp [intOf]; omega
      · go_wp2
        go_ret
        exact ⟨rfl, HB2.out⟩
end Go.Proofs.YtmbpfbhpmafheaaGreatDoor
