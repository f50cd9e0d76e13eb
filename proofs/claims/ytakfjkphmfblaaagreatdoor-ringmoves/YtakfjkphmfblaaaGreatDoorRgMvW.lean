/- Package ring answers as it is asked to: Moves. -/
import Derived.Test.YtakfjkphmfblaaaGreatDoorRingW
import Derived.Test.YtakfjkphmfblaaaGreatDoorRgMvB
import Derived.Test.YtakfjkphmfblaaaGreatDoorRgEqW
namespace Go.Proofs.YtakfjkphmfblaaaGreatDoor
open Go.RowKit Ring
set_option maxRecDepth 10000 in
set_option maxHeartbeats 2000000 in
theorem moves_bad1 (ad : Nat → Addr) (po : Option Addr) (old : List ByteArray) (co : Nat) (vn vk : Value) (n : Int) (w : World) (hl : old.length ≤ 1000) (hc : old.length ≤ co) (hs : Strs w po old) (hE : Errs w ad) (h : 0 < (preferF old n).1) :
    Calls Tryz.prog 15 #[.slice po old.length co, vn, vk, .int .i64 n] w fun e w' => (∃ ev, e = .returned (.tuple #[.slice none 0 0, ev]) ∧ ErrIs w' ad ev (preferF old n).1 (preferF old n).2) ∧ Below w.heap.size w w' := by
  have HC := chooser_bad ad po old co n w hl hc hs hE h
  generalize preferF old n = F at *
  clear hs hE
  go_enter Tryz.func15, Tryz.ntmps15
  go_wp2_with fail
  refine HC.mono ?_
  rintro e w1 ⟨⟨ev, rfl, hI⟩, hb⟩
  have HI : Hid (ErrIs w1 ad ev F.1 F.2) := hI
  obtain ⟨t, v, rfl⟩ := hI.some h
  clear hI HC
  go_wp2
  go_ret2
  exact ⟨⟨_, rfl, HI.out⟩, hb⟩
set_option maxRecDepth 10000 in
set_option maxHeartbeats 2000000 in
theorem moves_bad2 (ad : Nat → Addr) (po pn : Option Addr) (old now : List ByteArray) (co cn : Nat) (vk : Value) (n : Int) (w : World) (hl : old.length ≤ 1000) (hc : old.length ≤ co) (hl2 : now.length ≤ 1000) (hc2 : now.length ≤ cn) (hs : Strs w po old) (hs2 : Strs w pn now) (hE : Errs w ad) (h : ¬ 0 < (preferF old n).1) (h2 : 0 < (preferF now n).1) :
    Calls Tryz.prog 15 #[.slice po old.length co, .slice pn now.length cn, vk, .int .i64 n] w fun e w' => (∃ ev, e = .returned (.tuple #[.slice none 0 0, ev]) ∧ ErrIs w' ad ev (preferF now n).1 (preferF now n).2) ∧ Below w.heap.size w w' := by
  have HC := chooser_ok ad po old co n w hl hc hs hE h
  have HD : Hid (∀ W, Below w.heap.size w W → Calls Tryz.prog 23 #[.slice pn now.length cn, .int .i64 n] W fun e w' => (∃ ev, e = .returned (.tuple #[.nilFunc, ev]) ∧ ErrIs w' ad ev (preferF now n).1 (preferF now n).2) ∧ Below W.heap.size W w') := fun W hW => chooser_bad ad pn now cn n W hl2 hc2 (hs2.below hW) (hE.below hW) h2
  generalize preferF now n = F at *
  clear hs hs2 hE h
  go_enter Tryz.func15, Tryz.ntmps15
  go_wp2_with fail
  refine HC.mono ?_
  rintro e w1 ⟨⟨lb, rfl, hcho⟩, hb1⟩
  have HDW := HD.out w1 hb1
  have HB1 : Hid (Below w.heap.size w w1) := hb1
  clear HC hcho hb1 HD
  go_wp2_with fail
  refine HDW.mono ?_
  rintro e w2 ⟨⟨ev, rfl, hI⟩, hb⟩
  have HI : Hid (ErrIs w2 ad ev F.1 F.2) := hI
  obtain ⟨t, v, rfl⟩ := hI.some h2
  clear hI HDW
  go_wp2
  go_ret2
  exact ⟨⟨_, rfl, HI.out⟩, HB1.out.trans (hb.mono HB1.out.size)⟩
set_option maxRecDepth 10000 in
set_option maxHeartbeats 2000000 in
theorem moves_bad3 (ad : Nat → Addr) (po pn pk : Option Addr) (old now : List ByteArray) (co cn ck m : Nat) (n : Int) (w : World) (hl : old.length ≤ 1000) (hc : old.length ≤ co) (hl2 : now.length ≤ 1000) (hc2 : now.length ≤ cn) (hm : m ≤ 8796093021952) (hs : Strs w po old) (hs2 : Strs w pn now) (hE : Errs w ad) (h : ¬ 0 < (preferF old n).1) (h2 : ¬ 0 < (preferF now n).1) (h3 : 200 < m) :
    Calls Tryz.prog 15 #[.slice po old.length co, .slice pn now.length cn, .slice pk m ck, .int .i64 n] w fun e w' => (∃ ev, e = .returned (.tuple #[.slice none 0 0, ev]) ∧ ErrIs w' ad ev 2 (-1)) ∧ Below w.heap.size w w' := by
  have HC := chooser_ok ad po old co n w hl hc hs hE h
  have HD : Hid (∀ W, Below w.heap.size w W → Calls Tryz.prog 23 #[.slice pn now.length cn, .int .i64 n] W fun e w' => (∃ lb, e = .returned (.tuple #[.func (.func 35) #[] lb, .nilIface]) ∧ Cho w' now n.toNat lb) ∧ Below W.heap.size W w') := fun W hW => chooser_ok ad pn now cn n W hl2 hc2 (hs2.below hW) (hE.below hW) h2
  have HE : Hid (Errs w ad) := hE
  have HI : Hid (∀ W, ErrIs W ad (.iface 158 (.pointer (some (ad 1)))) 2 (-1)) := fun W => ErrIs.sent 1 (by decide)
  have d1 : decide (200 < (m : Int)) = true := decide_eq_true (by omega)
  clear hs hs2 hE h h2
  go_enter Tryz.func15, Tryz.ntmps15
  go_wp2_with fail
  refine HC.mono ?_
  rintro e w1 ⟨⟨lb, rfl, hcho⟩, hb1⟩
  have HDW := HD.out w1 hb1
  have HB1 : Hid (Below w.heap.size w w1) := hb1
  clear HC hcho hb1 HD
  go_wp2_with fail
  refine HDW.mono ?_
  rintro e w2 ⟨⟨lb2, rfl, hcho⟩, hb2⟩
  have HB2 : Hid (Below w.heap.size w w2) := HB1.out.trans (hb2.mono HB1.out.size)
  have q1 := (HE.out.below HB2.out).c1
  clear HDW hcho hb2
  go_wp2
  go_quiet (fail)
  go_wp2
  go_ret2
  exact ⟨⟨_, rfl, HI.out _⟩, below_drewN HB2.out _⟩
set_option maxRecDepth 10000 in
set_option maxHeartbeats 8000000 in
theorem moves_fine (ad : Nat → Addr) (po pn pk : Option Addr) (old now keys : List ByteArray) (co cn ck : Nat) (n : Int) (w : World) (hl : old.length ≤ 1000) (hc : old.length ≤ co) (hl2 : now.length ≤ 1000) (hc2 : now.length ≤ cn) (hm : ¬ 200 < keys.length) (hx : ∀ x ∈ keys, x.size ≤ 1000) (hs : Strs w po old) (hs2 : Strs w pn now) (hs3 : Strs w pk keys) (hE : Errs w ad) (h : ¬ 0 < (preferF old n).1) (h2 : ¬ 0 < (preferF now n).1) :
    Calls Tryz.prog 15 #[.slice po old.length co, .slice pn now.length cn, .slice pk keys.length ck, .int .i64 n] w fun e w' => (∃ q c fa fb, e = .returned (.tuple #[.slice q (chs fa fb keys).length c, .nilIface]) ∧ Chs w' q (chs fa fb keys) ∧
      ∀ k ∈ keys, (Pref (hashOf k) old (fa k) ∧ ((fa k).length : Int) = n) ∧ (Pref (hashOf k) now (fb k) ∧ ((fb k).length : Int) = n)) ∧ Below w.heap.size w w' := by
  have HC := chooser_ok ad po old co n w hl hc hs hE h
  have HD : Hid (∀ W, Below w.heap.size w W → Calls Tryz.prog 23 #[.slice pn now.length cn, .int .i64 n] W fun e w' => (∃ lb, e = .returned (.tuple #[.func (.func 35) #[] lb, .nilIface]) ∧ Cho w' now n.toNat lb) ∧ Below W.heap.size W w') := fun W hW => chooser_ok ad pn now cn n W hl2 hc2 (hs2.below hW) (hE.below hW) h2
  obtain ⟨hfo, hn⟩ := fine_of h
  obtain ⟨hfn, _⟩ := fine_of h2
  have HFO : Hid (Fine old n.toNat) := hfo
  have HFN : Hid (Fine now n.toNat) := hfn
  have HNN : Hid (((n.toNat : Nat) : Int) = n) := hn
  have HS3 : Hid (Strs w pk keys) := hs3
  have HX : Hid (∀ i, i < keys.length → (txt keys i).size ≤ 1000) := fun i hi => hx _ (txt_mem hi)
  have d1 : decide (200 < (keys.length : Int)) = false := decide_eq_false (by omega)
  have hent := enters_choose
  clear hs hs2 hs3 hE h h2 hfo hfn hn hx
  go_enter Tryz.func15, Tryz.ntmps15
  go_wp2_with fail
  refine HC.mono ?_
  rintro e w1 ⟨⟨lbo, rfl, hcho⟩, hb1⟩
  have HDW := HD.out w1 hb1
  have HB1 : Hid (Below w.heap.size w w1) := hb1
  have HCO1 : Hid (Cho w1 old n.toNat lbo) := hcho
  clear HC hcho hb1 HD
  go_wp2_with fail
  refine HDW.mono ?_
  rintro e w2 ⟨⟨lbn, rfl, hcho⟩, hb2⟩
  have HB2 : Hid (Below w.heap.size w w2) := HB1.out.trans (hb2.mono HB1.out.size)
  have HCN : Hid (Cho w2 now n.toNat lbn) := hcho
  have HCO : Hid (Cho w2 old n.toNat lbo) := HCO1.out.below hb2
  have HSK : Hid (Strs w2 pk keys) := HS3.out.below HB2.out
  obtain ⟨fa, hfa⟩ : ∃ fa : ByteArray → List ByteArray, ∀ k, Pref (hashOf k) old (fa k) ∧ (fa k).length = n.toNat := ⟨fun k => Classical.choose (HCO.out.ex HFO.out (hashOf k)), fun k => Classical.choose_spec (HCO.out.ex HFO.out (hashOf k))⟩
  obtain ⟨fb, hfb⟩ : ∃ fb : ByteArray → List ByteArray, ∀ k, Pref (hashOf k) now (fb k) ∧ (fb k).length = n.toNat := ⟨fun k => Classical.choose (HCN.out.ex HFN.out (hashOf k)), fun k => Classical.choose_spec (HCN.out.ex HFN.out (hashOf k))⟩
  have HCALLO : Hid (∀ key W, key.size ≤ 1000 → Below w2.heap.size w2 W → Calls Tryz.prog 35 (#[.string key] ++ lbo) W fun e w' => (∃ v, e = .returned v ∧ OwnT w' W.heap.size v (fa key)) ∧ Below W.heap.size W w') := fun key W hk hW => by
    refine (choose_any old n.toNat lbo key W hk HFO.out (HCO.out.below hW)).mono ?_
    rintro e w' ⟨⟨v, out, rfl, h1, h2, h3⟩, hb⟩
    obtain rfl : out = fa key := h3.unique (hfa key).1 (by rw [h2, (hfa key).2])
    exact ⟨⟨v, rfl, h1⟩, hb⟩
  have HCALLN : Hid (∀ key W, key.size ≤ 1000 → Below w2.heap.size w2 W → Calls Tryz.prog 35 (#[.string key] ++ lbn) W fun e w' => (∃ v, e = .returned v ∧ OwnT w' W.heap.size v (fb key)) ∧ Below W.heap.size W w') := fun key W hk hW => by
    refine (choose_any now n.toNat lbn key W hk HFN.out (HCN.out.below hW)).mono ?_
    rintro e w' ⟨⟨v, out, rfl, h1, h2, h3⟩, hb⟩
    obtain rfl : out = fb key := h3.unique (hfb key).1 (by rw [h2, (hfb key).2])
    exact ⟨⟨v, rfl, h1⟩, hb⟩
  have HLA : Hid (∀ k, (fa k).length ≤ 16 ∧ (fb k).length ≤ 16) := fun k => ⟨by rw [(hfa k).2]; have h1 := HFO.out.n; have h2 := HFO.out.l2; omega, by rw [(hfb k).2]; have h1 := HFN.out.n; have h2 := HFN.out.l2; omega⟩
  have HANS : Hid (∀ k ∈ keys, (Pref (hashOf k) old (fa k) ∧ ((fa k).length : Int) = n) ∧ (Pref (hashOf k) now (fb k) ∧ ((fb k).length : Int) = n)) := fun k _ => ⟨⟨(hfa k).1, by rw [(hfa k).2]; exact HNN.out⟩, ⟨(hfb k).1, by rw [(hfb k).2]; exact HNN.out⟩⟩
  clear HDW hcho hb2 hfa hfb HCO1 HB1 HFO HFN HCO HCN HS3 HNN
  go_wp2
  go_loopw [13, 42] (fun v x wq => ∃ (i : Nat) (rs : List Rc), i ≤ keys.length ∧ x = .int .i64 i ∧ OwnR cE 44 wq w2.heap.size v rs ∧ RelC wq w2.heap.size rs (chs fa fb (keys.take i)) ∧ Below w2.heap.size w2 wq) (fun _ x _ => keys.length - (intOf x).toNat)
  case atStart => exact ⟨0, [], Nat.zero_le _, rfl, OwnR.nil _ _ _, RelC.nil _ _, Below.refl _ _⟩
  case round =>
    obtain ⟨i, rs, hi, rfl, hO, hRel, hB⟩ := hrel
    obtain ⟨w3, rfl⟩ : ∃ w3, w3 = wr := ⟨_, rfl⟩
    obtain ⟨v, rfl⟩ : ∃ v, v = u13 := ⟨_, rfl⟩
    have HO3 : Hid (OwnR cE 44 w3 w2.heap.size v rs) := hO
    have HR3 : Hid (RelC w3 w2.heap.size rs (chs fa fb (keys.take i))) := hRel
    have HB3 : Hid (Below w2.heap.size w2 w3) := hB
    clear hO hRel hB
    by_cases hil : i < keys.length
    · obtain ⟨bk, ok, rfl, q1⟩ : ∃ bk ok, pk = some ⟨bk, ok, none⟩ ∧ w3.cell? ⟨bk, ok + i, none⟩ = some (.string (txt keys i)) := by
        rcases HSK.out.below HB3.out with h0 | ⟨b', o', hp, _, hcell⟩
        · rw [h0] at hil; exact absurd hil (Nat.not_lt_zero _)
        · exact ⟨b', o', hp, hcell i hil⟩
      have hsz := HX.out i hil
      have HSUC : Hid (chs fa fb (keys.take (i + 1)) = chs fa fb (keys.take i) ++ chs fa fb [txt keys i]) := chs_succ hil
      have HRL : Hid (rs.length ≤ 200) := by
        show _ ≤ _
        rw [HR3.out.1]
        have h1 : (chs fa fb (keys.take i)).length ≤ (keys.take i).length := List.length_filterMap_le _ _
        have h2 : (keys.take i).length ≤ keys.length := by rw [List.length_take]; omega
        omega
      generalize txt keys i = t at *
      have HCO := HCALLO.out t w3 hsz HB3.out
      go_wp2_with fail
      refine HCO.mono ?_
      rintro e w4 ⟨⟨v1, rfl, hO1⟩, hb4⟩
      obtain ⟨p1, c1, rfl, hS1, _⟩ := hO1.form
      have HT1 : Hid (OwnT w4 w2.heap.size (.slice p1 (fa t).length c1) (fa t)) := hO1.base HB3.out.size
      have HB34 : Hid (Below w3.heap.size w3 w4) := hb4
      have HB4 : Hid (Below w2.heap.size w2 w4) := HB3.out.trans (hb4.mono HB3.out.size)
      have HCN := HCALLN.out t w4 hsz HB4.out
      have HS1 : Hid (Strs w4 p1 (fa t)) := hS1
      clear HCO hO1 hb4 hS1 q1
      go_wp2_with fail
      refine HCN.mono ?_
      rintro e w5 ⟨⟨v2, rfl, hO2⟩, hb5⟩
      obtain ⟨p2, c2, rfl, hS2, _⟩ := hO2.form
      have HT2 : Hid (OwnT w5 w2.heap.size (.slice p2 (fb t).length c2) (fb t)) := hO2.base HB4.out.size
      have HT15 : Hid (OwnT w5 w2.heap.size (.slice p1 (fa t).length c1) (fa t)) := HT1.out.kept hb5
      have HB35 : Hid (Below w3.heap.size w3 w5) := HB34.out.trans (hb5.mono HB34.out.size)
      have HB5 : Hid (Below w2.heap.size w2 w5) := HB4.out.trans (hb5.mono HB4.out.size)
      have HEQ := sequal_any p1 p2 (fa t) (fb t) c1 c2 w5 (by have := (HLA.out t).1; omega) (by have := (HLA.out t).2; omega) (HS1.out.below hb5) hS2
      clear HCN hO2 hb5 hS2 HS1 HT1 HB34 HB4
      have HO5 : Hid (OwnR cE 44 w5 w2.heap.size v rs) := HO3.out.kept HB35.out
      have HR5 : Hid (RelC w5 w2.heap.size rs (chs fa fb (keys.take i))) := HR3.out.below HB35.out
      clear HO3 HR3 HB35
      by_cases he : fa t = fb t
      · have HNX : Hid (chs fa fb (keys.take (i + 1)) = chs fa fb (keys.take i)) := by show _ = _; rw [HSUC.out, chs_one_same he, List.append_nil]
        rw [decide_eq_true he] at HEQ
        clear he HSUC
        generalize fa t = la at *
        generalize fb t = lb at *
        go_wp2_with fail
        refine HEQ.mono ?_
        rintro e w6 ⟨rfl, hb6⟩
        have HO6 : Hid (OwnR cE 44 w6 w2.heap.size v rs) := HO5.out.kept hb6
        have HR6 : Hid (RelC w6 w2.heap.size rs (chs fa fb (keys.take (i + 1)))) := by
          show RelC _ _ _ _
          rw [HNX.out]
          exact HR5.out.below hb6
        have HB6 : Hid (Below w2.heap.size w2 w6) := HB5.out.trans (hb6.mono HB5.out.size)
        clear hb6 HEQ
        go_wp2
        go_roundw
        case rel => exact ⟨i + 1, rs, by omega, by go_num, HO6.out, HR6.out, HB6.out⟩
        case measure => simp [intOf]; omega
      · have HNX : Hid (chs fa fb (keys.take (i + 1)) = chs fa fb (keys.take i) ++ [(t, fa t, fb t)]) := by show _ = _; rw [HSUC.out, chs_one he]
        rw [decide_eq_false he] at HEQ
        clear he HSUC
        generalize fa t = la at *
        generalize fb t = lb at *
        go_wp2_with fail
        refine HEQ.mono ?_
        rintro e w6 ⟨rfl, hb6⟩
        have HO6 : Hid (OwnR cE 44 w6 w2.heap.size v rs) := HO5.out.kept hb6
        have HR6 : Hid (RelC w6 w2.heap.size rs (chs fa fb (keys.take i))) := HR5.out.below hb6
        have HB6 : Hid (Below w2.heap.size w2 w6) := HB5.out.trans (hb6.mono HB5.out.size)
        have HA6 : Hid (OwnT w6 w2.heap.size (.slice p1 la.length c1) la) := HT15.out.kept hb6
        have HN6 : Hid (OwnT w6 w2.heap.size (.slice p2 lb.length c2) lb) := HT2.out.kept hb6
        have HCL := sclone_any t w6 (by omega)
        clear hb6 HEQ HO5 HR5 HB5 HT15 HT2
        go_wp2_with fail
        refine HCL.mono ?_
        rintro e w7 ⟨rfl, hb7⟩
        obtain ⟨w8, hw8⟩ : ∃ w8, w8 = w7.alloc (.cells #[.string t, .slice p1 la.length c1, .slice p2 lb.length c2] 44) := ⟨_, rfl⟩
        have hb68 : Below w6.heap.size w6 w8 := by rw [hw8]; exact hb7.alloc hb7.size _
        have HO8 : Hid (OwnR cE 44 w8 w2.heap.size v rs) := HO6.out.kept hb68
        have HR8 : Hid (RelC w8 w2.heap.size rs (chs fa fb (keys.take i))) := HR6.out.below hb68
        have HB8 : Hid (Below w2.heap.size w2 w8) := HB6.out.trans (hb68.mono HB6.out.size)
        have HA8 : Hid (OwnT w8 w2.heap.size (.slice p1 la.length c1) la) := HA6.out.kept hb68
        have HN8 : Hid (OwnT w8 w2.heap.size (.slice p2 lb.length c2) lb) := HN6.out.kept hb68
        have HNW : Hid (∀ j u, (cE.enc (t, (p1, la.length, c1), (p2, lb.length, c2)))[j]? = some u → w8.cell? ((⟨w7.heap.size, 0, none⟩ : Addr).add j) = some u) := fun j u hu => by
          rw [hw8, Addr.add_lit, Nat.zero_add, World.cell?_alloc_at _ _ _ _ rfl, ← hu]
          show (#[Value.string t, .slice p1 la.length c1, .slice p2 lb.length c2] : Array Value)[j]? = ([Value.string t, .slice p1 la.length c1, .slice p2 lb.length c2] : List Value)[j]?
          rw [← Array.getElem?_toList]
        have HW8 : Hid (w8 = w7.alloc (.cells #[.string t, .slice p1 la.length c1, .slice p2 lb.length c2] 44)) := hw8
        clear hb7 HCL hb68 hw8 HO6 HR6 HB6 HA6 HN6
        go_wp2_with (first | (at_builtin; rw [← HW8.out]; refine wpList_append_chG rfl (.tmp 56) (.tmp 62) rfl w2.heap.size v rs rfl HO8.out ⟨w7.heap.size, 0, none⟩ 1 (t, (p1, la.length, c1), (p2, lb.length, c2)) rfl HNW.out (by have := HRL.out; omega) HB8.out.size ?_; intro v' w9 hO9 hg9))
        have HO9 : Hid (OwnR cE 44 w9 w2.heap.size v' (rs ++ [(t, (p1, la.length, c1), (p2, lb.length, c2))])) := hO9
        have HR9 : Hid (RelC w9 w2.heap.size (rs ++ [(t, (p1, la.length, c1), (p2, lb.length, c2))]) (chs fa fb (keys.take (i + 1)))) := by
          show RelC _ _ _ _
          rw [HNX.out]
          exact (HR8.out.grown HO8.out hg9).snoc (HA8.out.grown HO8.out hg9) (HN8.out.grown HO8.out hg9)
        have HB9 : Hid (Below w2.heap.size w2 w9) := HB8.out.grown hg9 HB8.out.size (fun k hk => (HO8.out.block hk).1)
        clear hO9 hg9
        go_wp2
        go_roundw
        case rel => exact ⟨i + 1, _, by omega, by go_num, HO9.out, HR9.out, HB9.out⟩
        case measure => simp [intOf]; omega
    · have hie : i = keys.length := by omega
      subst hie
      rw [List.take_length] at HR3
      obtain ⟨q, c, rfl, hch⟩ := HR3.out.chs HO3.out
      have HCH : Hid (Chs w3 q (chs fa fb keys)) := hch
      clear hch HR3 HO3
      go_wp2
      go_ret2
      exact ⟨⟨q, c, fa, fb, rfl, HCH.out, HANS.out⟩, HB2.out.trans (HB3.out.mono HB2.out.size)⟩
theorem moves_ok (ad : Nat → Addr) : MovesOk ad := fun po pn pk old now keys co cn ck n w h1 h2 h3 h4 h5 h6 h7 h8 h9 hso hsn hsk hE => by
  by_cases ho : 0 < (preferF old n).1
  · refine (moves_bad1 ad po old co _ _ n w h1 h4 hso hE ho).mono ?_
    rintro e w' ⟨⟨ev, rfl, hI⟩, hb⟩
    have e1 : movesF old now keys.length n = preferF old n := if_pos ho
    exact ⟨Or.inl ⟨by rw [e1]; exact ho, none, 0, ev, rfl, by rw [e1]; exact hI⟩, hb⟩
  by_cases hn : 0 < (preferF now n).1
  · refine (moves_bad2 ad po pn old now co cn _ n w h1 h4 h2 h5 hso hsn hE ho hn).mono ?_
    rintro e w' ⟨⟨ev, rfl, hI⟩, hb⟩
    have e1 : movesF old now keys.length n = preferF now n := by unfold movesF; rw [if_neg ho, if_pos hn]
    exact ⟨Or.inl ⟨by rw [e1]; exact hn, none, 0, ev, rfl, by rw [e1]; exact hI⟩, hb⟩
  by_cases hm : 200 < keys.length
  · refine (moves_bad3 ad po pn pk old now co cn ck keys.length n w h1 h4 h2 h5 h3 hso hsn hE ho hn hm).mono ?_
    rintro e w' ⟨⟨ev, rfl, hI⟩, hb⟩
    have e1 : movesF old now keys.length n = (2, -1) := by unfold movesF; rw [if_neg ho, if_neg hn, if_pos hm]
    exact ⟨Or.inl ⟨by rw [e1]; decide, none, 0, ev, rfl, by rw [e1]; exact hI⟩, hb⟩
  · refine (moves_fine ad po pn pk old now keys co cn ck n w h1 h4 h2 h5 hm h9 hso hsn hsk hE ho hn).mono ?_
    rintro e w' ⟨⟨q, c, fa, fb, rfl, hC, hA⟩, hb⟩
    have e1 : movesF old now keys.length n = (0, -1) := by unfold movesF; rw [if_neg ho, if_neg hn, if_neg hm]
    exact ⟨Or.inr ⟨by rw [e1]; decide, q, c, fa, fb, rfl, hC, hA⟩, hb⟩
end Go.Proofs.YtakfjkphmfblaaaGreatDoor
