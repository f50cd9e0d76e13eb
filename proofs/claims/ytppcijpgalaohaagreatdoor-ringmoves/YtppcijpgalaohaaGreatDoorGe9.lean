/- Texts laid together. -/
import Derived.Test.YtppcijpgalaohaaGreatDoorGe8
namespace Go.Proofs.YtppcijpgalaohaaGreatDoor
open Go.RowKit
structure E3 (w : World) (ad : Nat → Addr) : Prop where
  c1 : w.cell? ⟨0, 0, none⟩ = some (.iface 158 (.pointer (some (ad 1))))
  c3 : w.cell? ⟨1, 0, none⟩ = some (.iface 158 (.pointer (some (ad 3))))
  c5 : w.cell? ⟨2, 0, none⟩ = some (.iface 158 (.pointer (some (ad 5))))
theorem E3.below {w w' : World} {ad : Nat → Addr} (h : E3 w ad) (hb : Below w.heap.size w w') : E3 w' ad := ⟨(hb.cell (lt_of_cellE h.c1)).trans h.c1, (hb.cell (lt_of_cellE h.c3)).trans h.c3, (hb.cell (lt_of_cellE h.c5)).trans h.c5⟩
theorem errIs_fault {w w' : World} {ad : Nat → Addr} {t : TypeId} (i : Nat) (hi : i < 12) (at_ : Int) (hw : w' = w.alloc (.cells #[.int .i64 at_, .iface 158 (.pointer (some (ad i)))] t)) : ErrIs w' ad (.iface 49 (.pointer (some ⟨w.heap.size, 0, none⟩))) ((i + 1 : Nat) : Int) at_ := by
  subst hw
  refine Or.inr (Or.inr ⟨i, w.heap.size, hi, rfl, rfl, ?_, ?_⟩)
  · rw [World.cell?_alloc_at _ _ _ _ rfl]; rfl
  · rw [World.cell?_alloc_at _ _ _ _ rfl]; rfl
set_option maxRecDepth 10000 in
set_option maxHeartbeats 1000000 in
theorem check3_bound (ad : Nat → Addr) (p : Option Addr) (l : List ByteArray) (c : Nat) (w : World) (hl : l.length ≤ 1000) (hE : E3 w ad) (h : l.length < 1 ∨ 16 < l.length) :
    Calls Tryz.prog 8 #[.slice p l.length c] w fun e w' => (∃ ev, e = .returned ev ∧ ErrIs w' ad ev 2 (-1)) ∧ Below w.heap.size w w' := by
  have q1 := hE.c1
  have HI : Hid (∀ W, ErrIs W ad (.iface 158 (.pointer (some (ad 1)))) 2 (-1)) := fun W => ErrIs.sent 1 (by decide)
  clear hE
  rcases h with h | h
  · have d1 : decide ((l.length : Int) < 1) = true := decide_eq_true (by omega)
    go_enter Tryz.func8, Tryz.ntmps8
    go_wp2
    go_ret
    exact ⟨⟨_, rfl, HI.out _⟩, Below.refl _ _⟩
  · have d1 : decide ((l.length : Int) < 1) = false := decide_eq_false (by omega)
    have d2 := decide_eq_true (by omega)
    go_enter Tryz.func8, Tryz.ntmps8
    go_wp2
    go_ret
    exact ⟨⟨_, rfl, HI.out _⟩, Below.refl _ _⟩
set_option maxRecDepth 10000 in
set_option maxHeartbeats 4000000 in
theorem check3_scan (ad : Nat → Addr) (p : Option Addr) (l : List ByteArray) (c : Nat) (w : World) (h1 : ¬ l.length < 1) (h2 : ¬ 16 < l.length) (hc : l.length ≤ c) (hs : Strs w p l) (hE : E3 w ad) :
    Calls Tryz.prog 8 #[.slice p l.length c] w fun e w' => (∃ ev, e = .returned ev ∧ ErrIs w' ad ev (scanF l 0 l.length).1 (scanF l 0 l.length).2) ∧ Below w.heap.size w w' := by
  have HS : Hid (Strs w p l) := hs
  have HE : Hid _ := hE
  have g1 := decide_eq_false (by omega)
  have g2 := decide_eq_false (by omega)
  obtain ⟨b, o, rfl⟩ : ∃ b o, p = some ⟨b, o, none⟩ := by
    rcases hs with h0 | ⟨b, o, hp, _⟩
    · rw [h0] at h1; exact absurd (by decide) h1
    · exact ⟨b, o, hp⟩
  clear hs hE
  obtain ⟨R, hR⟩ : ∃ R, R = scanF l 0 l.length := ⟨_, rfl⟩
  rw [← hR]
  have HR : Hid _ := hR
  clear hR
  go_enter Tryz.func8, Tryz.ntmps8
  go_wp2
  go_loopw [16] (fun x wq => ∃ i : Nat, i ≤ l.length ∧ x = .int .i64 i ∧ scanF l i (l.length - i) = R ∧ Below w.heap.size w wq) (fun x _ => l.length - (intOf x).toNat)
  case atStart => exact ⟨0, Nat.zero_le _, rfl, HR.out.symm, Below.refl _ _⟩
  case round =>
    obtain ⟨i, hi, rfl, hsc, hbq⟩ := hrel
    obtain ⟨w1, rfl⟩ : ∃ w1, w1 = wr := ⟨_, rfl⟩
    have HSC : Hid _ := hsc
    have HBW : Hid _ := hbq
    have HS1 : Hid (Strs w1 (some ⟨b, o, none⟩) l) := HS.out.below hbq
    have HE1 : Hid (E3 w1 ad) := HE.out.below hbq
    clear hsc hbq HR HS HE
    by_cases hil : i < l.length
    · have q3 : w1.cell? ⟨b, o + i, none⟩ = some (.string (txt l i)) := by
        rcases HS1.out with h0 | ⟨b', o', hp, _, hcell⟩
        · rw [h0] at hil; exact absurd hil (Nat.not_lt_zero _)
        · obtain ⟨rfl, rfl⟩ : b = b' ∧ o = o' := by simpa using hp
          exact hcell i hil
      have HNAME : Hid (∀ W, Calls Tryz.prog 18 #[.string (txt l i)] W fun e w' => e = .returned (.bool (isN (txt l i))) ∧ Below W.heap.size W w') := fun W => pname_any _ W
      have HSUC : Hid (scanF l i (l.length - i) = if faultAt l i = 0 then scanF l (i + 1) (l.length - (i + 1)) else (((faultAt l i : Nat) : Int), (i : Int))) := by
        show _ = _
        rw [show l.length - i = (l.length - (i + 1)) + 1 by omega]
        rfl
      by_cases hN : isN (txt l i) = true
      · have HCON : Hid (∀ W, Strs W (some ⟨b, o, none⟩) (l.take i) → Calls Tryz.prog 19 #[.slice (some ⟨b, o, none⟩) (l.take i).length c, .string (txt l i)] W fun e w' => e = .returned (.bool (inL (l.take i) (txt l i))) ∧ w' = W) := fun W hW => scont_any _ _ c _ W (by rw [List.length_take]; omega) hW
        rw [show (l.take i).length = i by rw [List.length_take]; omega] at HCON
        rw [hN] at HNAME
        by_cases hM : txt l i ∈ l.take i
        · have HA : Hid (R = (6, (i : Int))) := by
            show _ = _
            rw [← HSC.out, HSUC.out, faultAt_twice hN hM, if_neg (by decide)]
            rfl
          rw [inL_iff.2 hM] at HCON
          clear HSC HSUC hN hM
          generalize txt l i = t at *
          go_wp2_with fail
          refine (HNAME.out _).mono ?_
          rintro e w2 ⟨rfl, hb2⟩
          have HB2 : Hid (Below w.heap.size w w2) := HBW.out.trans (hb2.mono HBW.out.size)
          have HS2 : Hid (Strs w2 (some ⟨b, o, none⟩) (l.take i)) := (HS1.out.below hb2).take i
          have hE2 : E3 w2 ad := HE1.out.below hb2
          have q4 := hE2.c5
          clear hE2 hb2 HNAME q3
          go_wp2_with fail
          refine (HCON.out _ HS2.out).mono ?_
          rintro e w3 ⟨rfl, hw3⟩
          rw [hw3]
          clear hw3 w3 HCON HS2
          go_wp2
          go_ret
          exact ⟨⟨_, rfl, by rw [HA.out]; exact errIs_fault (w := w2) 5 (by decide) (i : Int) rfl⟩, HB2.out.alloc HB2.out.size _⟩
        · have HA : Hid (scanF l (i + 1) (l.length - (i + 1)) = R) := by
            show _ = _
            rw [← HSC.out, HSUC.out, faultAt_fine hN hM, if_pos rfl]
          rw [Bool.eq_false_iff.2 (fun h => hM (inL_iff.1 h))] at HCON
          clear HSC HSUC hN hM
          generalize txt l i = t at *
          go_wp2_with fail
          refine (HNAME.out _).mono ?_
          rintro e w2 ⟨rfl, hb2⟩
          have HB2 : Hid (Below w.heap.size w w2) := HBW.out.trans (hb2.mono HBW.out.size)
          have HS2 : Hid (Strs w2 (some ⟨b, o, none⟩) (l.take i)) := (HS1.out.below hb2).take i
          clear hb2 HNAME q3
          go_wp2_with fail
          refine (HCON.out _ HS2.out).mono ?_
          rintro e w3 ⟨rfl, hw3⟩
          rw [hw3]
          clear hw3 w3 HCON HS2
          go_wp2
          go_roundw
          case rel => exact ⟨i + 1, by omega, by go_num, HA.out, HB2.out⟩
          case measure => simp [intOf]; omega
      · have hN' : isN (txt l i) = false := Bool.eq_false_iff.2 hN
        have HA : Hid (R = (4, (i : Int))) := by
          show _ = _
          rw [← HSC.out, HSUC.out, faultAt_name hN', if_neg (by decide)]
          rfl
        rw [hN'] at HNAME
        clear HSC HSUC hN hN'
        generalize txt l i = t at *
        go_wp2_with fail
        refine (HNAME.out _).mono ?_
        rintro e w2 ⟨rfl, hb2⟩
        have HB2 : Hid (Below w.heap.size w w2) := HBW.out.trans (hb2.mono HBW.out.size)
        have hE2 : E3 w2 ad := HE1.out.below hb2
        have q4 := hE2.c3
        clear hE2 hb2 HNAME q3
        go_wp2
        go_ret
        exact ⟨⟨_, rfl, by rw [HA.out]; exact errIs_fault (w := w2) 3 (by decide) (i : Int) rfl⟩, HB2.out.alloc HB2.out.size _⟩
    · have hie : i = l.length := by omega
      subst hie
      have HA : Hid (R = (0, -1)) := by
        show _ = _
        rw [← HSC.out, Nat.sub_self]
        rfl
      clear HSC
      go_wp2
      go_ret
      exact ⟨⟨_, rfl, by rw [HA.out]; exact ErrIs.nil _ _⟩, HBW.out⟩
theorem check3_any (ad : Nat → Addr) (p : Option Addr) (l : List ByteArray) (c : Nat) (w : World) (hl : l.length ≤ 1000) (hc : l.length ≤ c) (hs : Strs w p l) (hE : E3 w ad) :
    Calls Tryz.prog 8 #[.slice p l.length c] w fun e w' => (∃ ev, e = .returned ev ∧ ErrIs w' ad ev (nodesF l).1 (nodesF l).2) ∧ Below w.heap.size w w' := by
  by_cases h : l.length < 1 ∨ 16 < l.length
  · rw [nodesF_bound h]
    exact check3_bound ad p l c w hl hE h
  · rw [nodesF_scan (by omega) (by omega)]
    exact check3_scan ad p l c w (by omega) (by omega) hc hs hE
theorem rcheck_any (ad : Nat → Addr) (p : Option Addr) (l : List ByteArray) (c : Nat) (w : World) (hl : l.length ≤ 1000) (hc : l.length ≤ c) (hs : Strs w p l) (hE : Errs w ad) :
    Calls Tryz.prog 8 #[.slice p l.length c] w fun e w' => (∃ ev, e = .returned ev ∧ ErrIs w' ad ev (nodesF l).1 (nodesF l).2) ∧ Below w.heap.size w w' := by
  exact check3_any ad p l c w hl hc hs ⟨hE.c1, hE.c3, hE.c5⟩
section
open Ring Go.Sort
theorem lt_of_cellC {w : World} {b o : Nat} {v : Value} (h : w.cell? ⟨b, o, none⟩ = some v) : b < w.heap.size := by
  rcases Nat.lt_or_ge b w.heap.size with h' | h'
  · exact h'
  · simp [World.cell?, Array.getElem?_eq_none h'] at h
/-- lb are the variables of one that chooses n of these nodes. -/
def Cho (w : World) (nodes : List ByteArray) (n : Nat) (lb : Array Value) : Prop :=
  ∃ (bp bn g cap : Nat) (ps : List Pt), lb = #[.pointer (some ⟨bp, 0, none⟩), .pointer (some ⟨bn, 0, none⟩)] ∧ w.cell? ⟨bp, 0, none⟩ = some (.slice (some ⟨g, 0, none⟩) ps.length cap) ∧ w.cell? ⟨bn, 0, none⟩ = some (.int .i64 (n : Int)) ∧ ps.length ≤ cap ∧ Rec pE w (some ⟨g, 0, none⟩) ps ∧ RingP nodes ps
theorem Cho.below {w w' : World} {nodes : List ByteArray} {n : Nat} {lb : Array Value} (h : Cho w nodes n lb) (hb : Below w.heap.size w w') : Cho w' nodes n lb := by
  obtain ⟨bp, bn, g, cap, ps, h1, h2, h3, h4, h5, h6⟩ := h
  exact ⟨bp, bn, g, cap, ps, h1, (hb.cell (p := ⟨bp, 0, none⟩) (lt_of_cellC h2)).trans h2, (hb.cell (p := ⟨bn, 0, none⟩) (lt_of_cellC h3)).trans h3, h4, h5.below hb, h6⟩
/-- Nodes of a ring. -/
structure Fine (nodes : List ByteArray) (n : Nat) : Prop where
  l1 : 1 ≤ nodes.length
  l2 : nodes.length ≤ 16
  sz : ∀ x ∈ nodes, x.size ≤ 16
  nd : nodes.Nodup
  n : n ≤ nodes.length
theorem fine_of {l : List ByteArray} {n : Int} (h : ¬ 0 < (preferF l n).1) : Fine l n.toNat ∧ ((n.toNat : Nat) : Int) = n := by
  obtain ⟨h1, h2, h3, _⟩ := preferF_fine h
  obtain ⟨h4, h5⟩ := nodesF_fine h1
  obtain ⟨_, h6, h7⟩ := nodesF_zero h1
  exact ⟨⟨h6, h7, fun x hx => (isN_size (h4 x hx)).2, h5, by omega⟩, by omega⟩
theorem scan_ex {h n M : Nat} {nodes : List ByteArray} {R : Nat → Nat × ByteArray} (hr : RingR h nodes R M) : ∀ j, j ≤ M → ∃ out, ScanInv h nodes R n j out
  | 0, _ => ⟨[], ScanInv.start _ _ _ _⟩
  | j + 1, hj => by
    obtain ⟨out, ho⟩ := scan_ex (n := n) hr j (by omega)
    by_cases h1 : out.length < n
    · by_cases h2 : (R j).2 ∈ out
      · exact ⟨out, ho.skip h2⟩
      · exact ⟨_, ho.push hr (by omega) h1 h2⟩
    · exact ⟨out, ho.full h1⟩
/-- Of each number there are such nodes. -/
theorem Cho.ex {w : World} {nodes : List ByteArray} {n : Nat} {lb : Array Value} (hc : Cho w nodes n lb) (hf : Fine nodes n) (h : Nat) : ∃ out, Pref h nodes out ∧ out.length = n := by
  obtain ⟨_, _, _, _, ps, _, _, _, _, _, h6⟩ := hc
  obtain ⟨f, _, _, _, _, _, hRR, _⟩ := first_cases h nodes ps h6 hf.l1
  obtain ⟨out, ho⟩ := scan_ex (n := n) hRR ps.length (Nat.le_refl _)
  exact ⟨out, ho.pref, ho.done hRR hf.n hf.nd⟩
set_option maxRecDepth 10000 in
set_option maxHeartbeats 2000000 in
theorem choose_any (nodes : List ByteArray) (n : Nat) (lb : Array Value) (key : ByteArray) (w : World) (hk : key.size ≤ 1000) (hf : Fine nodes n) (hc : Cho w nodes n lb) :
    Calls Tryz.prog 35 (#[.string key] ++ lb) w fun e w' => (∃ v out, e = .returned v ∧ OwnT w' w.heap.size v out ∧ out.length = n ∧ Pref (hashOf key) nodes out) ∧ Below w.heap.size w w' := by
  obtain ⟨bp, bn, g, cap, ps, rfl, q1, q2, h4, h5, h6⟩ := hc
  have HH : Hid (∀ W, Calls Tryz.prog 37 #[.string key] W fun e w' => e = .returned (.int .u32 ((hashOf key : Nat) : Int)) ∧ w' = W) := fun W => hash_any key W (by omega)
  have HF : Hid (∀ W, Below w.heap.size w W → Calls Tryz.prog 36 #[.slice (some ⟨g, 0, none⟩) ps.length cap, .int .u32 ((hashOf key : Nat) : Int), .int .i64 (n : Int)] W fun e w' => (∃ v out, e = .returned v ∧ OwnT w' W.heap.size v out ∧ out.length = n ∧ Pref (hashOf key) nodes out) ∧ Below W.heap.size W w') := fun W hW => rgfirst_any g cap ps nodes (hashOf key) n W h6 hf.l1 hf.l2 hf.n hf.sz hf.nd h4 (h5.below hW)
  clear hf h4 h5 h6
  generalize hashOf key = h at *
  generalize ps.length = m at *
  show Calls Tryz.prog 35 #[.string key, .pointer (some ⟨bp, 0, none⟩), .pointer (some ⟨bn, 0, none⟩)] w _
  go_enter Tryz.func35, Tryz.ntmps35
  go_wp2
  refine wp_region_still_tail 4 (by kernel_rfl) (by kernel_rfl) ?_
  simp only [List.take_succ_cons, List.take_zero, List.drop_succ_cons, List.drop_zero]
  still_step
  still_step
  still_call (HH.out _)
  still_step
  refine wpStill_nil ?_
  change wpList _ _ _ _ _ (w.drewN 1)
  have hs : (w.drewN 1).heap.size = w.heap.size := rfl
  have HF2 : Hid (Calls Tryz.prog 36 #[.slice (some ⟨g, 0, none⟩) m cap, .int .u32 (h : Int), .int .i64 (n : Int)] (w.drewN 1) fun e w' => (∃ v out, e = .returned v ∧ OwnT w' w.heap.size v out ∧ out.length = n ∧ Pref h nodes out) ∧ Below w.heap.size w w') := by
    refine (HF.out (w.drewN 1) (below_drewN (Below.refl _ _) 1)).mono ?_
    rintro e w' ⟨h1, h2⟩
    exact ⟨h1, (below_drewN (Below.refl _ w) 1).trans h2⟩
  generalize w.drewN 1 = w1 at HF2 ⊢
  clear HF HH hs q1 q2
  go_wp2_with fail
  refine HF2.out.mono ?_
  rintro e w2 ⟨⟨v, out, rfl, hO, hl, hp⟩, hb⟩
  have HO : Hid (OwnT w2 w.heap.size v out ∧ out.length = n ∧ Pref h nodes out) := ⟨hO, hl, hp⟩
  clear hO hl hp HF2
  go_wp2
  go_ret
  exact ⟨⟨_, out, rfl, HO.out.1, HO.out.2.1, HO.out.2.2⟩, hb⟩
theorem preferF_nodes {l : List ByteArray} {n : Int} (h : 0 < (nodesF l).1) : preferF l n = nodesF l := if_pos h
theorem preferF_few {l : List ByteArray} {n : Int} (h : ¬ 0 < (nodesF l).1) (h2 : (l.length : Int) < n) : preferF l n = (8, -1) := by unfold preferF; rw [if_neg h, if_pos h2]
theorem preferF_below {l : List ByteArray} {n : Int} (h : ¬ 0 < (nodesF l).1) (h2 : ¬ (l.length : Int) < n) (h3 : n < 0) : preferF l n = (2, -1) := by unfold preferF; rw [if_neg h, if_neg h2, if_pos h3]
theorem ErrIs.none {w : World} {ad : Nat → Addr} {ev : Value} {c at_ : Int} (h : ErrIs w ad ev c at_) (hc : ¬ 0 < c) : ev = .nilIface := by
  rcases h with ⟨h1, _⟩ | ⟨i, _, _, h1, _⟩ | ⟨i, _, _, _, h1, _⟩
  · exact h1
  · exact absurd (by rw [h1]; omega) hc
  · exact absurd (by rw [h1]; omega) hc
set_option maxRecDepth 10000 in
set_option maxHeartbeats 4000000 in
theorem chooser_bad (ad : Nat → Addr) (p : Option Addr) (l : List ByteArray) (c : Nat) (n : Int) (w : World) (hl : l.length ≤ 1000) (hc : l.length ≤ c) (hs : Strs w p l) (hE : Errs w ad) (h : 0 < (preferF l n).1) :
    Calls Tryz.prog 23 #[.slice p l.length c, .int .i64 n] w fun e w' => (∃ ev, e = .returned (.tuple #[.nilFunc, ev]) ∧ ErrIs w' ad ev (preferF l n).1 (preferF l n).2) ∧ Below w.heap.size w w' := by
  obtain ⟨w1, hw1⟩ : ∃ w1, w1 = w.alloc (.cells #[.int .i64 n] 3) := ⟨_, rfl⟩
  have hb1 : Below w.heap.size w w1 := by rw [hw1]; exact (Below.refl _ _).alloc (Nat.le_refl _) _
  have q0 : w1.cell? ⟨w.heap.size, 0, none⟩ = some (.int .i64 n) := by rw [hw1]; simp
  have HC := rcheck_any ad p l c w1 hl hc (hs.below hb1) (hE.below hb1)
  have HE1 : Hid (Errs w1 ad) := hE.below hb1
  have HW1 : Hid (w1 = w.alloc (.cells #[.int .i64 n] 3)) := hw1
  have HB1 : Hid (Below w.heap.size w w1) := hb1
  have HQ0 : Hid (w1.cell? ⟨w.heap.size, 0, none⟩ = some (.int .i64 n)) := q0
  clear hw1 hb1 hs hE q0
  by_cases hN : 0 < (nodesF l).1
  · rw [preferF_nodes hN]
    clear h
    go_enter Tryz.func23, Tryz.ntmps23
    go_wp2_with fail
    rw [← HW1.out]
    refine HC.mono ?_
    rintro e w2 ⟨⟨ev, rfl, hI⟩, hb2⟩
    have HI : Hid (ErrIs w2 ad ev (nodesF l).1 (nodesF l).2) := hI
    obtain ⟨t, v, rfl⟩ := hI.some hN
    have HB2 : Hid (Below w.heap.size w w2) := HB1.out.trans (hb2.mono HB1.out.size)
    clear hb2 HC hI
    go_wp2
    go_ret2
    exact ⟨⟨_, rfl, HI.out⟩, HB2.out⟩
  · by_cases h2 : (l.length : Int) < n
    · rw [preferF_few hN h2]
      clear h
      go_enter Tryz.func23, Tryz.ntmps23
      go_wp2_with fail
      rw [← HW1.out]
      refine HC.mono ?_
      rintro e w2 ⟨⟨ev, rfl, hI⟩, hb2⟩
      obtain rfl := hI.none (by omega)
      have HB2 : Hid (Below w.heap.size w w2) := HB1.out.trans (hb2.mono HB1.out.size)
      have q0 : w2.cell? ⟨w.heap.size, 0, none⟩ = some (.int .i64 n) := (hb2.cell (p := ⟨w.heap.size, 0, none⟩) (lt_of_cellC HQ0.out)).trans HQ0.out
      have q7 := (HE1.out.below hb2).c7
      have HI : Hid (∀ W, ErrIs W ad (.iface 158 (.pointer (some (ad 7)))) 8 (-1)) := fun W => ErrIs.sent 7 (by decide)
      clear hb2 HC hI
      have d1 : decide ((l.length : Int) < n) = true := decide_eq_true h2
      go_wp2
      go_quiet (fail)
      go_wp2
      go_ret2
      exact ⟨⟨_, rfl, HI.out _⟩, below_drewN HB2.out _⟩
    · by_cases h3 : n < 0
      · rw [preferF_below hN h2 h3]
        clear h
        go_enter Tryz.func23, Tryz.ntmps23
        go_wp2_with fail
        rw [← HW1.out]
        refine HC.mono ?_
        rintro e w2 ⟨⟨ev, rfl, hI⟩, hb2⟩
        obtain rfl := hI.none (by omega)
        have HB2 : Hid (Below w.heap.size w w2) := HB1.out.trans (hb2.mono HB1.out.size)
        have q0 : w2.cell? ⟨w.heap.size, 0, none⟩ = some (.int .i64 n) := (hb2.cell (p := ⟨w.heap.size, 0, none⟩) (lt_of_cellC HQ0.out)).trans HQ0.out
        have q7 := (HE1.out.below hb2).c1
        have HI : Hid (∀ W, ErrIs W ad (.iface 158 (.pointer (some (ad 1)))) 2 (-1)) := fun W => ErrIs.sent 1 (by decide)
        clear hb2 HC hI
        have d1 : decide ((l.length : Int) < n) = false := decide_eq_false (by omega)
        have d2 : decide (n < 0) = true := decide_eq_true h3
        go_wp2
        go_quiet (fail)
        go_wp2
        go_ret2
        exact ⟨⟨_, rfl, HI.out _⟩, below_drewN HB2.out _⟩
      · exfalso
        unfold preferF at h
        rw [if_neg hN, if_neg h2, if_neg h3] at h
        exact hN h
set_option maxRecDepth 10000 in
set_option maxHeartbeats 4000000 in
theorem chooser_ok (ad : Nat → Addr) (p : Option Addr) (l : List ByteArray) (c : Nat) (n : Int) (w : World) (hl : l.length ≤ 1000) (hc : l.length ≤ c) (hs : Strs w p l) (hE : Errs w ad) (h : ¬ 0 < (preferF l n).1) :
    Calls Tryz.prog 23 #[.slice p l.length c, .int .i64 n] w fun e w' => (∃ lb, e = .returned (.tuple #[.func (.func 35) #[] lb, .nilIface]) ∧ Cho w' l n.toNat lb) ∧ Below w.heap.size w w' := by
  obtain ⟨hf, hn⟩ := fine_of h
  have hN : ¬ 0 < (nodesF l).1 := by have := (preferF_fine h).1; omega
  obtain ⟨w1, hw1⟩ : ∃ w1, w1 = w.alloc (.cells #[.int .i64 n] 3) := ⟨_, rfl⟩
  have hb1 : Below w.heap.size w w1 := by rw [hw1]; exact (Below.refl _ _).alloc (Nat.le_refl _) _
  have q0 : w1.cell? ⟨w.heap.size, 0, none⟩ = some (.int .i64 n) := by rw [hw1]; simp
  have HC := rcheck_any ad p l c w1 hl hc (hs.below hb1) (hE.below hb1)
  have HP : Hid (∀ W, Below w1.heap.size w1 W → Calls Tryz.prog 34 #[.slice p l.length c] W fun e w' => (∃ g cap ps, e = .returned (.slice (some ⟨g, 0, none⟩) ps.length cap) ∧ ps.length ≤ cap ∧ W.heap.size ≤ g ∧ Rec pE w' (some ⟨g, 0, none⟩) ps ∧ RingP l ps) ∧ Below W.heap.size W w') := fun W hW => points_any p l c W hf.l1 hf.l2 hf.sz ((hs.below hb1).below hW)
  have HW1 : Hid (w1 = w.alloc (.cells #[.int .i64 n] 3)) := hw1
  have HB1 : Hid (Below w.heap.size w w1) := hb1
  have HQ0 : Hid (w1.cell? ⟨w.heap.size, 0, none⟩ = some (.int .i64 n)) := q0
  have HNN : Hid (((n.toNat : Nat) : Int) = n) := hn
  have d1 : decide ((l.length : Int) < n) = false := decide_eq_false (by have := hf.n; omega)
  have d2 : decide (n < 0) = false := decide_eq_false (by omega)
  clear hw1 hb1 hs hE q0 hn hf h
  go_enter Tryz.func23, Tryz.ntmps23
  go_wp2_with fail
  rw [← HW1.out]
  refine HC.mono ?_
  rintro e w2 ⟨⟨ev, rfl, hI⟩, hb2⟩
  obtain rfl := hI.none (by omega)
  have HB12 : Hid (Below w1.heap.size w1 w2) := hb2
  have HB2 : Hid (Below w.heap.size w w2) := HB1.out.trans (hb2.mono HB1.out.size)
  have q0 : w2.cell? ⟨w.heap.size, 0, none⟩ = some (.int .i64 n) := (hb2.cell (p := ⟨w.heap.size, 0, none⟩) (lt_of_cellC HQ0.out)).trans HQ0.out
  have HQ2 : Hid (w2.cell? ⟨w.heap.size, 0, none⟩ = some (.int .i64 n)) := q0
  clear hb2 HC hI
  go_wp2_with fail
  refine (HP.out w2 HB12.out).mono ?_
  rintro e w3 ⟨⟨g, cap, ps, rfl, h4, h5, h6, h7⟩, hb3⟩
  have HB3 : Hid (Below w.heap.size w w3) := HB2.out.trans (hb3.mono HB2.out.size)
  have HCHO : Hid (Cho (w3.alloc (.cells #[.slice (some ⟨g, 0, none⟩) ps.length cap] 71)) l n.toNat #[.pointer (some ⟨w3.heap.size, 0, none⟩), .pointer (some ⟨w.heap.size, 0, none⟩)]) := by
    have hbe : Below w3.heap.size w3 (w3.alloc (.cells #[.slice (some ⟨g, 0, none⟩) ps.length cap] 71)) := (Below.refl _ _).alloc (Nat.le_refl _) _
    have q3 : w3.cell? ⟨w.heap.size, 0, none⟩ = some (.int .i64 n) := (hb3.cell (p := ⟨w.heap.size, 0, none⟩) (lt_of_cellC HQ2.out)).trans HQ2.out
    refine ⟨w3.heap.size, w.heap.size, g, cap, ps, rfl, by simp, ?_, h4, h6.below hbe, h7⟩
    rw [HNN.out]
    exact (hbe.cell (p := ⟨w.heap.size, 0, none⟩) (lt_of_cellC q3)).trans q3
  clear h4 h5 h6 h7 hb3 HP q0
  generalize ps.length = m at *
  go_wp2
  go_ret2
  exact ⟨⟨_, rfl, HCHO.out⟩, HB3.out.alloc HB3.out.size _⟩
end
section
open Ring
theorem enters_choose : ∀ args W, (callFunc 35 args).run Tryz.prog W = .ok (.enter 35 args) W := enters_of Tryz.func35 (by kernel_rfl) rfl
set_option maxRecDepth 10000 in
set_option maxHeartbeats 2000000 in
theorem prefer_bad (ad : Nat → Addr) (p : Option Addr) (l : List ByteArray) (c : Nat) (key : ByteArray) (n : Int) (w : World) (hl : l.length ≤ 1000) (hc : l.length ≤ c) (hs : Strs w p l) (hE : Errs w ad) (h : 0 < (preferF l n).1) :
    Calls Tryz.prog 11 #[.slice p l.length c, .string key, .int .i64 n] w fun e w' => (∃ ev, e = .returned (.tuple #[.slice none 0 0, ev]) ∧ ErrIs w' ad ev (preferF l n).1 (preferF l n).2) ∧ Below w.heap.size w w' := by
  have HC := chooser_bad ad p l c n w hl hc hs hE h
  generalize preferF l n = F at *
  clear hs hE
  go_enter Tryz.func11, Tryz.ntmps11
  go_wp2_with fail
  refine HC.mono ?_
  rintro e w1 ⟨⟨ev, rfl, hI⟩, hb⟩
  have HI : Hid (ErrIs w1 ad ev F.1 F.2) := hI
  obtain ⟨t, v, rfl⟩ := hI.some h
  clear hI HC
  go_wp2
  go_ret2
  exact ⟨⟨_, rfl, HI.out⟩, hb⟩
set_option maxRecDepth 10000 in
set_option maxHeartbeats 2000000 in
theorem prefer_ok (ad : Nat → Addr) (p : Option Addr) (l : List ByteArray) (c : Nat) (key : ByteArray) (n : Int) (w : World) (hl : l.length ≤ 1000) (hc : l.length ≤ c) (hk : key.size ≤ 1000) (hs : Strs w p l) (hE : Errs w ad) (h : ¬ 0 < (preferF l n).1) :
    Calls Tryz.prog 11 #[.slice p l.length c, .string key, .int .i64 n] w fun e w' => (∃ v out, e = .returned (.tuple #[v, .nilIface]) ∧ OwnT w' w.heap.size v out ∧ (out.length : Int) = n ∧ Pref (hashOf key) l out) ∧ Below w.heap.size w w' := by
  have HC := chooser_ok ad p l c n w hl hc hs hE h
  obtain ⟨hf, hn⟩ := fine_of h
  have HCH : Hid (∀ lb W, Cho W l n.toNat lb → Calls Tryz.prog 35 (#[.string key] ++ lb) W fun e w' => (∃ v out, e = .returned v ∧ OwnT w' W.heap.size v out ∧ (out.length : Int) = n ∧ Pref (hashOf key) l out) ∧ Below W.heap.size W w') := fun lb W hW => by
    refine (choose_any l n.toNat lb key W hk hf hW).mono ?_
    rintro e w' ⟨⟨v, out, rfl, h1, h2, h3⟩, hb⟩
    exact ⟨⟨v, out, rfl, h1, by rw [h2]; exact hn, h3⟩, hb⟩
  generalize hashOf key = hh at *
  clear hs hE h hf hn
  have hent := enters_choose
  go_enter Tryz.func11, Tryz.ntmps11
  go_wp2_with fail
  refine HC.mono ?_
  rintro e w1 ⟨⟨lb, rfl, hcho⟩, hb1⟩
  have HCW := HCH.out lb w1 hcho
  have HB1 : Hid (Below w.heap.size w w1) := hb1
  clear HC hcho hb1 HCH
  go_wp2_with fail
  refine HCW.mono ?_
  rintro e w2 ⟨⟨v, out, rfl, h1, h2, h3⟩, hb2⟩
  have HR : Hid (OwnT w2 w.heap.size v out ∧ (out.length : Int) = n ∧ Pref hh l out) := ⟨h1.base HB1.out.size, h2, h3⟩
  clear h1 h2 h3 HCW
  go_wp2
  go_ret2
  exact ⟨⟨_, out, rfl, HR.out.1, HR.out.2.1, HR.out.2.2⟩, HB1.out.trans (hb2.mono HB1.out.size)⟩
theorem ring_ok (ad : Nat → Addr) : RingOk ad where
  check p l c w h1 h2 h3 h4 h5 := rcheck_any ad p l c w h1 h2 h4 h5
  prefer p l c key n w h1 h2 h3 h4 h5 h6 := by
    by_cases h : 0 < (preferF l n).1
    · refine (prefer_bad ad p l c key n w h1 h2 h5 h6 h).mono ?_
      rintro e w' ⟨⟨ev, rfl, hI⟩, hb⟩
      exact ⟨Or.inl ⟨h, none, 0, ev, rfl, hI⟩, hb⟩
    · refine (prefer_ok ad p l c key n w h1 h2 h4 h5 h6 h).mono ?_
      rintro e w' ⟨⟨v, out, rfl, h7, h8, h9⟩, hb⟩
      exact ⟨Or.inr ⟨h, v, out, rfl, h7, h8, h9⟩, hb⟩
end
section
open Ring
/-- A slice: where, how many, how many there may be. -/
abbrev Sl := Option Addr × Nat × Nat
def slV (s : Sl) : Value := .slice s.1 s.2.1 s.2.2
abbrev Rc := ByteArray × Sl × Sl
def cE : Enc Rc where
  k := 3
  pos := by decide
  enc := fun x => [.string x.1, slV x.2.1, slV x.2.2]
  len := fun _ => rfl
  one := fun x u hu => by
    simp at hu
    rcases hu with rfl | rfl | rfl <;> rfl
theorem chinfo : (Tryz.prog.info? 44).map (fun i => (i.zero, i.size, i.bytes)) = some (some (.agg #[.string ⟨#[]⟩, .slice none 0 0, .slice none 0 0]), 3, 64) := by kernel_rfl
/-- The records rs name the changes cs. -/
def RelC (w : World) (B : Nat) (rs : List Rc) (cs : List Ch) : Prop :=
  rs.length = cs.length ∧ ∀ i, i < cs.length → ∃ r, rs[i]? = some r ∧ r.1 = (chAt cs i).1 ∧ OwnT w B (slV r.2.1) (chAt cs i).2.1 ∧ OwnT w B (slV r.2.2) (chAt cs i).2.2
theorem RelC.nil (w : World) (B : Nat) : RelC w B [] [] := ⟨rfl, fun _ hi => absurd hi (Nat.not_lt_zero _)⟩
theorem RelC.below {w w' : World} {B : Nat} {rs : List Rc} {cs : List Ch} (h : RelC w B rs cs) (hb : Below w.heap.size w w') : RelC w' B rs cs := ⟨h.1, fun i hi => by
  obtain ⟨r, h1, h2, h3, h4⟩ := h.2 i hi
  exact ⟨r, h1, h2, h3.kept hb, h4.kept hb⟩⟩
theorem own_ne {w : World} {B : Nat} {u v : Value} {l : List ByteArray} {rs : List Rc} (h : OwnT w B u l) (h2 : OwnR cE 44 w B v rs) : u.ownBlock = none ∨ u.ownBlock ≠ v.ownBlock := by
  rcases h.2 with ⟨rfl, _⟩ | ⟨g, cap, cur, rfl, _, hg, _⟩
  · exact Or.inl rfl
  · refine Or.inr fun e => ?_
    rcases h2.2 with ⟨rfl, _⟩ | ⟨g', cap', cur', rfl, _, hg', _⟩
    · cases e
    · obtain rfl : g = g' := Option.some.inj e
      rw [hg] at hg'
      injection hg' with h3
      injection h3 with _ h4
      exact absurd h4 (by decide)
theorem OwnT.grown {w w' : World} {B : Nat} {u v : Value} {l : List ByteArray} {rs : List Rc} (h : OwnT w B u l) (h2 : OwnR cE 44 w B v rs) (hg : w.grownBy w' v.ownBlock) : OwnT w' B u l := OwnV.kept h hg (own_ne h h2)
theorem RelC.grown {w w' : World} {B : Nat} {v : Value} {rs : List Rc} {cs : List Ch} (h : RelC w B rs cs) (h2 : OwnR cE 44 w B v rs) (hg : w.grownBy w' v.ownBlock) : RelC w' B rs cs := ⟨h.1, fun i hi => by
  obtain ⟨r, h1, h3, h4, h5⟩ := h.2 i hi
  exact ⟨r, h1, h3, h4.grown h2 hg, h5.grown h2 hg⟩⟩
theorem chAt_left {cs ds : List Ch} {i : Nat} (h : i < cs.length) : chAt (cs ++ ds) i = chAt cs i := by
  unfold chAt
  rw [List.getD_eq_getElem?_getD, List.getD_eq_getElem?_getD, List.getElem?_append_left h]
theorem chAt_last (cs : List Ch) (c : Ch) : chAt (cs ++ [c]) cs.length = c := by
  unfold chAt
  rw [List.getD_eq_getElem?_getD, List.getElem?_append_right (Nat.le_refl _), Nat.sub_self]
  rfl
theorem RelC.snoc {w : World} {B : Nat} {rs : List Rc} {cs : List Ch} (h : RelC w B rs cs) {k : ByteArray} {s1 s2 : Sl} {l1 l2 : List ByteArray} (h1 : OwnT w B (slV s1) l1) (h2 : OwnT w B (slV s2) l2) : RelC w B (rs ++ [(k, s1, s2)]) (cs ++ [(k, l1, l2)]) := by
  refine ⟨by rw [List.length_append, List.length_append, h.1]; rfl, fun i hi => ?_⟩
  rw [List.length_append] at hi
  have hi' : i < cs.length + 1 := hi
  rcases Nat.lt_or_ge i cs.length with h3 | h3
  · obtain ⟨r, h4, h5, h6, h7⟩ := h.2 i h3
    refine ⟨r, by rw [List.getElem?_append_left (by rw [h.1]; exact h3)]; exact h4, ?_⟩
    rw [chAt_left h3]
    exact ⟨h5, h6, h7⟩
  · obtain rfl : i = cs.length := by omega
    refine ⟨(k, s1, s2), by rw [List.getElem?_append_right (by rw [h.1]; exact Nat.le_refl _), h.1, Nat.sub_self]; rfl, ?_⟩
    rw [chAt_last]
    exact ⟨rfl, h1, h2⟩
theorem slV_form {w : World} {B : Nat} {s : Sl} {l : List ByteArray} (h : OwnT w B (slV s) l) : s.2.1 = l.length ∧ Strs w s.1 l := by
  obtain ⟨p, c, hv, hs, _⟩ := h.form
  obtain ⟨h1, h2, h3⟩ := Value.slice.inj hv
  exact ⟨h2, by rw [h1]; exact hs⟩
theorem RelC.chs {w : World} {B : Nat} {v : Value} {rs : List Rc} {cs : List Ch} (h : RelC w B rs cs) (h2 : OwnR cE 44 w B v rs) : ∃ q c, v = .slice q cs.length c ∧ Chs w q cs := by
  obtain ⟨p, c, hv, hrec, _, _, hblk⟩ := h2.form
  refine ⟨p, c, by rw [hv, h.1], ?_⟩
  rcases hrec with h0 | ⟨b, o, rfl, hlt, hc⟩
  · refine Or.inl (List.length_eq_zero_iff.1 ?_)
    rw [← h.1, h0]
    rfl
  · refine Or.inr ⟨b, o, rfl, hlt, fun i hi => ?_⟩
    obtain ⟨r, h4, h5, h6, h7⟩ := h.2 i hi
    obtain ⟨f1, f2⟩ := slV_form h6
    obtain ⟨t1, t2⟩ := slV_form h7
    have c0 := hc i r h4 0 (.string r.1) rfl
    have c1 := hc i r h4 1 (slV r.2.1) rfl
    have c2 := hc i r h4 2 (slV r.2.2) rfl
    refine ⟨r.2.1.1, r.2.1.2.2, r.2.2.1, r.2.2.2.2, ?_, ?_, ?_, f2, t2⟩
    · rw [← h5]; exact c0
    · rw [← f1]; exact c1
    · rw [← t1]; exact c2
section
variable {w : World}
/-- One change more, out of a row of one that was just laid: nothing but the changes' own block is written. -/
theorem wpList_append_chG {ops : Array Oper} {rest : List Oper} {o : Oper} {a : Act} {Q : Exit → Act → World → Prop} (hgd : o.guard = none) (s x : Operand)
    (ho : o.op = .call { callee := .builtin .append, args := #[s, x], argTypes := #[39, 39] })
    (B : Nat) (v : Value) (l : List Rc) (hs : a.eval s = v) (hown : OwnR cE 44 w B v l) (ad : Addr) (c : Nat) (y : Rc) (hx : a.eval x = .slice (some ad) 1 c) (hq : ∀ j u, (cE.enc y)[j]? = some u → w.cell? (ad.add j) = some u) (hl : l.length + 1 ≤ 1000) (hbase : B ≤ w.heap.size)
    (h : ∀ v' w', OwnR cE 44 w' B v' (l ++ [y]) → w.grownBy w' v.ownBlock → wpList Tryz.prog ops Q rest (a.put o.dst v') w') : wpList Tryz.prog ops Q (o :: rest) a w := by
  obtain ⟨i0, hi0, hz0, hz1, hzb⟩ := info_parts chinfo
  refine wpList_append_own w hgd s x _ ho B 44 i0 (.agg #[.string ⟨#[]⟩, .slice none 0 0, .slice none 0 0]) 3 64 Tryz.underlying39 hi0 hz0 hz1 hzb rfl (by decide) v l.length (recVals cE l) hs hown ad 1 c (cE.enc y) hx rfl hq (cE.one y) (by unfold maxLen; omega) (by omega) hbase (fun v' w' h1 h2 _ => h v' w' ?_ h2)
  unfold OwnR
  rw [recVals_append, recVals_one, List.length_append]
  exact h1
end
end
set_option maxRecDepth 10000 in
set_option maxHeartbeats 2000000 in
theorem sequal_any (pa pb : Option Addr) (l m : List ByteArray) (ca cb : Nat) (w : World) (hl : l.length ≤ 1000000) (_hm : m.length ≤ 1000000) (ha : Strs w pa l) (hb : Strs w pb m) :
    Calls Tryz.prog 27 #[.slice pa l.length ca, .slice pb m.length cb] w fun e w' => e = .returned (.bool (decide (l = m))) ∧ Below w.heap.size w w' := by
  by_cases hlen : l.length = m.length
  · have HT : Hid ((∀ i, i < l.length → txt l i = txt m i) → decide (l = m) = true) := fun h => decide_eq_true (txt_ext hlen h)
    have HF : Hid (∀ i, i < l.length → txt l i ≠ txt m i → decide (l = m) = false) := fun i _ h => decide_eq_false (fun e => h (by rw [e]))
    generalize decide (l = m) = r at *
    have HM : Hid (m.length = l.length) := hlen.symm
    rw [← hlen]
    clear hlen
    go_enter Tryz.func27, Tryz.ntmps27
    go_wp2
    go_loopw [13] (fun x wq => ∃ i : Nat, i ≤ l.length ∧ x = .int .i64 i ∧ (∀ j, j < i → txt l j = txt m j) ∧ ∃ n, wq = w.drewN n) (fun x _ => l.length - (intOf x).toNat)
    case atStart => exact ⟨0, Nat.zero_le _, rfl, fun j hj => absurd hj (Nat.not_lt_zero _), 0, rfl⟩
    case round =>
      obtain ⟨i, hi, rfl, hall, n, hw⟩ := hrel
      obtain ⟨w1, rfl⟩ : ∃ w1, w1 = wr := ⟨_, rfl⟩
      have HALL : Hid (∀ j, j < i → txt l j = txt m j) := hall
      have HW : Hid (∃ n, w1 = w.drewN n) := ⟨n, hw⟩
      have HA : Hid (Strs w1 pa l) := by show Strs w1 pa l; rw [hw]; exact ha.drewN n
      have HB : Hid (Strs w1 pb m) := by show Strs w1 pb m; rw [hw]; exact hb.drewN n
      clear hw hall
      by_cases hil : i < l.length
      · rcases HA.out with h0 | ⟨b1, o1, rfl, hlt1, hc1⟩
        · rw [h0] at hil; exact absurd hil (Nat.not_lt_zero _)
        rcases HB.out with h0 | ⟨b2, o2, rfl, hlt2, hc2⟩
        · have := HM.out; rw [h0] at this; have h3 : (0 : Nat) = l.length := this; omega
        have q1 := hc1 i hil
        have q2 := hc2 i (by have := HM.out; omega)
        clear hc1 hc2 HA HB
        by_cases he : txt l i = txt m i
        · have HE : Hid (txt l i = txt m i) := he
          rw [← he] at q2
          clear he
          generalize hti : txt l i = t at *
          have HTI : Hid (txt l i = t) := hti
          clear hti
          go_wp2
          go_quiet (fail)
          go_wp2
          go_roundw
          case rel => exact ⟨i + 1, by omega, by go_num, fun j hj => by
            rcases Nat.lt_or_ge j i with h | h
            · exact HALL.out j h
            · obtain rfl : j = i := by omega
              rw [HTI.out]; exact HE.out, by obtain ⟨n, hn⟩ := HW.out; exact ⟨_, by rw [hn, World.drewN_drewN]⟩⟩
          case measure => simp [intOf]; omega
        · have HR : Hid (r = false) := HF.out i hil he
          have d1 := toList_ne he
          have d2 := toList_beq he
          have d3 := bytes_beq he
          clear he HF HT HALL
          generalize txt l i = t at *
          generalize txt m i = u at *
          go_wp2
          go_quiet (fail)
          go_wp2
          go_ret
          exact ⟨by rw [HR.out]; rfl, by obtain ⟨n, hn⟩ := HW.out; rw [hn]; exact below_drewN (below_drewN (Below.refl _ _) n) _⟩
      · have HR : Hid (r = true) := HT.out (fun j hj => HALL.out j (by omega))
        go_wp2
        go_ret
        exact ⟨by rw [HR.out]; rfl, by obtain ⟨n, hn⟩ := HW.out; rw [hn]; exact below_drewN (Below.refl _ _) n⟩
  · have HR : Hid (decide (l = m) = false) := decide_eq_false (fun e => hlen (by rw [e]))
    rw [HR.out]
    have h6 : ((l.length : Int) != (m.length : Int)) = true := by rw [bne_iff_ne]; omega
    clear hlen
    go_enter Tryz.func27, Tryz.ntmps27
    go_wp2
    go_ret
    exact ⟨rfl, Below.refl _ _⟩
section
open Ring
set_option maxRecDepth 10000 in
set_option maxHeartbeats 2000000 in
theorem moves_bad1 (ad : Nat → Addr) (po : Option Addr) (old : List ByteArray) (co : Nat) (vn vk : Value) (n : Int) (w : World) (hl : old.length ≤ 1000) (hc : old.length ≤ co) (hs : Strs w po old) (hE : Errs w ad) (h : 0 < (preferF old n).1) :
    Calls Tryz.prog 15 #[.slice po old.length co, vn, vk, .int .i64 n] w fun e w' => (∃ ev, e = .returned (.tuple #[.slice none 0 0, ev]) ∧ ErrIs w' ad ev (preferF old n).1 (preferF old n).2) ∧ Below w.heap.size w w' := by
  have HC := chooser_bad ad po old co n w hl hc hs hE h
  generalize preferF old n = F at *
  clear hs hE
  go_enter Tryz.func15, Tryz.ntmps15
  go_wp2_with fail
  refine HC.mono ?_
  rintro e w1 ⟨⟨ev, rfl, hI⟩, hb⟩
  have HI : Hid (ErrIs w1 ad ev F.1 F.2) := hI
  obtain ⟨t, v, rfl⟩ := hI.some h
  clear hI HC
  go_wp2
  go_ret2
  exact ⟨⟨_, rfl, HI.out⟩, hb⟩
set_option maxRecDepth 10000 in
set_option maxHeartbeats 2000000 in
theorem moves_bad2 (ad : Nat → Addr) (po pn : Option Addr) (old now : List ByteArray) (co cn : Nat) (vk : Value) (n : Int) (w : World) (hl : old.length ≤ 1000) (hc : old.length ≤ co) (hl2 : now.length ≤ 1000) (hc2 : now.length ≤ cn) (hs : Strs w po old) (hs2 : Strs w pn now) (hE : Errs w ad) (h : ¬ 0 < (preferF old n).1) (h2 : 0 < (preferF now n).1) :
    Calls Tryz.prog 15 #[.slice po old.length co, .slice pn now.length cn, vk, .int .i64 n] w fun e w' => (∃ ev, e = .returned (.tuple #[.slice none 0 0, ev]) ∧ ErrIs w' ad ev (preferF now n).1 (preferF now n).2) ∧ Below w.heap.size w w' := by
  have HC := chooser_ok ad po old co n w hl hc hs hE h
  have HD : Hid (∀ W, Below w.heap.size w W → Calls Tryz.prog 23 #[.slice pn now.length cn, .int .i64 n] W fun e w' => (∃ ev, e = .returned (.tuple #[.nilFunc, ev]) ∧ ErrIs w' ad ev (preferF now n).1 (preferF now n).2) ∧ Below W.heap.size W w') := fun W hW => chooser_bad ad pn now cn n W hl2 hc2 (hs2.below hW) (hE.below hW) h2
  generalize preferF now n = F at *
  clear hs hs2 hE h
  go_enter Tryz.func15, Tryz.ntmps15
  go_wp2_with fail
  refine HC.mono ?_
  rintro e w1 ⟨⟨lb, rfl, hcho⟩, hb1⟩
  have HDW := HD.out w1 hb1
  have HB1 : Hid (Below w.heap.size w w1) := hb1
  clear HC hcho hb1 HD
  go_wp2_with fail
  refine HDW.mono ?_
  rintro e w2 ⟨⟨ev, rfl, hI⟩, hb⟩
  have HI : Hid (ErrIs w2 ad ev F.1 F.2) := hI
  obtain ⟨t, v, rfl⟩ := hI.some h2
  clear hI HDW
  go_wp2
  go_ret2
  exact ⟨⟨_, rfl, HI.out⟩, HB1.out.trans (hb.mono HB1.out.size)⟩
set_option maxRecDepth 10000 in
set_option maxHeartbeats 2000000 in
theorem moves_bad3 (ad : Nat → Addr) (po pn pk : Option Addr) (old now : List ByteArray) (co cn ck m : Nat) (n : Int) (w : World) (hl : old.length ≤ 1000) (hc : old.length ≤ co) (hl2 : now.length ≤ 1000) (hc2 : now.length ≤ cn) (hm : m ≤ 8796093021952) (hs : Strs w po old) (hs2 : Strs w pn now) (hE : Errs w ad) (h : ¬ 0 < (preferF old n).1) (h2 : ¬ 0 < (preferF now n).1) (h3 : 200 < m) :
    Calls Tryz.prog 15 #[.slice po old.length co, .slice pn now.length cn, .slice pk m ck, .int .i64 n] w fun e w' => (∃ ev, e = .returned (.tuple #[.slice none 0 0, ev]) ∧ ErrIs w' ad ev 2 (-1)) ∧ Below w.heap.size w w' := by
  have HC := chooser_ok ad po old co n w hl hc hs hE h
  have HD : Hid (∀ W, Below w.heap.size w W → Calls Tryz.prog 23 #[.slice pn now.length cn, .int .i64 n] W fun e w' => (∃ lb, e = .returned (.tuple #[.func (.func 35) #[] lb, .nilIface]) ∧ Cho w' now n.toNat lb) ∧ Below W.heap.size W w') := fun W hW => chooser_ok ad pn now cn n W hl2 hc2 (hs2.below hW) (hE.below hW) h2
  have HE : Hid (Errs w ad) := hE
  have HI : Hid (∀ W, ErrIs W ad (.iface 158 (.pointer (some (ad 1)))) 2 (-1)) := fun W => ErrIs.sent 1 (by decide)
  have d1 : decide (200 < (m : Int)) = true := decide_eq_true (by omega)
  clear hs hs2 hE h h2
  go_enter Tryz.func15, Tryz.ntmps15
  go_wp2_with fail
  refine HC.mono ?_
  rintro e w1 ⟨⟨lb, rfl, hcho⟩, hb1⟩
  have HDW := HD.out w1 hb1
  have HB1 : Hid (Below w.heap.size w w1) := hb1
  clear HC hcho hb1 HD
  go_wp2_with fail
  refine HDW.mono ?_
  rintro e w2 ⟨⟨lb2, rfl, hcho⟩, hb2⟩
  have HB2 : Hid (Below w.heap.size w w2) := HB1.out.trans (hb2.mono HB1.out.size)
  have q1 := (HE.out.below HB2.out).c1
  clear HDW hcho hb2
  go_wp2
  go_quiet (fail)
  go_wp2
  go_ret2
  exact ⟨⟨_, rfl, HI.out _⟩, below_drewN HB2.out _⟩
set_option maxRecDepth 10000 in
set_option maxHeartbeats 8000000 in
theorem moves_fine (ad : Nat → Addr) (po pn pk : Option Addr) (old now keys : List ByteArray) (co cn ck : Nat) (n : Int) (w : World) (hl : old.length ≤ 1000) (hc : old.length ≤ co) (hl2 : now.length ≤ 1000) (hc2 : now.length ≤ cn) (hm : ¬ 200 < keys.length) (hx : ∀ x ∈ keys, x.size ≤ 1000) (hs : Strs w po old) (hs2 : Strs w pn now) (hs3 : Strs w pk keys) (hE : Errs w ad) (h : ¬ 0 < (preferF old n).1) (h2 : ¬ 0 < (preferF now n).1) :
    Calls Tryz.prog 15 #[.slice po old.length co, .slice pn now.length cn, .slice pk keys.length ck, .int .i64 n] w fun e w' => (∃ q c fa fb, e = .returned (.tuple #[.slice q (chs fa fb keys).length c, .nilIface]) ∧ Chs w' q (chs fa fb keys) ∧
      ∀ k ∈ keys, (Pref (hashOf k) old (fa k) ∧ ((fa k).length : Int) = n) ∧ (Pref (hashOf k) now (fb k) ∧ ((fb k).length : Int) = n)) ∧ Below w.heap.size w w' := by
  have HC := chooser_ok ad po old co n w hl hc hs hE h
  have HD : Hid (∀ W, Below w.heap.size w W → Calls Tryz.prog 23 #[.slice pn now.length cn, .int .i64 n] W fun e w' => (∃ lb, e = .returned (.tuple #[.func (.func 35) #[] lb, .nilIface]) ∧ Cho w' now n.toNat lb) ∧ Below W.heap.size W w') := fun W hW => chooser_ok ad pn now cn n W hl2 hc2 (hs2.below hW) (hE.below hW) h2
  obtain ⟨hfo, hn⟩ := fine_of h
  obtain ⟨hfn, _⟩ := fine_of h2
  have HFO : Hid (Fine old n.toNat) := hfo
  have HFN : Hid (Fine now n.toNat) := hfn
  have HNN : Hid (((n.toNat : Nat) : Int) = n) := hn
  have HS3 : Hid (Strs w pk keys) := hs3
  have HX : Hid (∀ i, i < keys.length → (txt keys i).size ≤ 1000) := fun i hi => hx _ (txt_mem hi)
  have d1 : decide (200 < (keys.length : Int)) = false := decide_eq_false (by omega)
  have hent := enters_choose
  clear hs hs2 hs3 hE h h2 hfo hfn hn hx
  go_enter Tryz.func15, Tryz.ntmps15
  go_wp2_with fail
  refine HC.mono ?_
  rintro e w1 ⟨⟨lbo, rfl, hcho⟩, hb1⟩
  have HDW := HD.out w1 hb1
  have HB1 : Hid (Below w.heap.size w w1) := hb1
  have HCO1 : Hid (Cho w1 old n.toNat lbo) := hcho
  clear HC hcho hb1 HD
  go_wp2_with fail
  refine HDW.mono ?_
  rintro e w2 ⟨⟨lbn, rfl, hcho⟩, hb2⟩
  have HB2 : Hid (Below w.heap.size w w2) := HB1.out.trans (hb2.mono HB1.out.size)
  have HCN : Hid (Cho w2 now n.toNat lbn) := hcho
  have HCO : Hid (Cho w2 old n.toNat lbo) := HCO1.out.below hb2
  have HSK : Hid (Strs w2 pk keys) := HS3.out.below HB2.out
  obtain ⟨fa, hfa⟩ : ∃ fa : ByteArray → List ByteArray, ∀ k, Pref (hashOf k) old (fa k) ∧ (fa k).length = n.toNat := ⟨fun k => Classical.choose (HCO.out.ex HFO.out (hashOf k)), fun k => Classical.choose_spec (HCO.out.ex HFO.out (hashOf k))⟩
  obtain ⟨fb, hfb⟩ : ∃ fb : ByteArray → List ByteArray, ∀ k, Pref (hashOf k) now (fb k) ∧ (fb k).length = n.toNat := ⟨fun k => Classical.choose (HCN.out.ex HFN.out (hashOf k)), fun k => Classical.choose_spec (HCN.out.ex HFN.out (hashOf k))⟩
  have HCALLO : Hid (∀ key W, key.size ≤ 1000 → Below w2.heap.size w2 W → Calls Tryz.prog 35 (#[.string key] ++ lbo) W fun e w' => (∃ v, e = .returned v ∧ OwnT w' W.heap.size v (fa key)) ∧ Below W.heap.size W w') := fun key W hk hW => by
    refine (choose_any old n.toNat lbo key W hk HFO.out (HCO.out.below hW)).mono ?_
    rintro e w' ⟨⟨v, out, rfl, h1, h2, h3⟩, hb⟩
    obtain rfl : out = fa key := h3.unique (hfa key).1 (by rw [h2, (hfa key).2])
    exact ⟨⟨v, rfl, h1⟩, hb⟩
  have HCALLN : Hid (∀ key W, key.size ≤ 1000 → Below w2.heap.size w2 W → Calls Tryz.prog 35 (#[.string key] ++ lbn) W fun e w' => (∃ v, e = .returned v ∧ OwnT w' W.heap.size v (fb key)) ∧ Below W.heap.size W w') := fun key W hk hW => by
    refine (choose_any now n.toNat lbn key W hk HFN.out (HCN.out.below hW)).mono ?_
    rintro e w' ⟨⟨v, out, rfl, h1, h2, h3⟩, hb⟩
    obtain rfl : out = fb key := h3.unique (hfb key).1 (by rw [h2, (hfb key).2])
    exact ⟨⟨v, rfl, h1⟩, hb⟩
  have HLA : Hid (∀ k, (fa k).length ≤ 16 ∧ (fb k).length ≤ 16) := fun k => ⟨by rw [(hfa k).2]; have h1 := HFO.out.n; have h2 := HFO.out.l2; omega, by rw [(hfb k).2]; have h1 := HFN.out.n; have h2 := HFN.out.l2; omega⟩
  have HANS : Hid (∀ k ∈ keys, (Pref (hashOf k) old (fa k) ∧ ((fa k).length : Int) = n) ∧ (Pref (hashOf k) now (fb k) ∧ ((fb k).length : Int) = n)) := fun k _ => ⟨⟨(hfa k).1, by rw [(hfa k).2]; exact HNN.out⟩, ⟨(hfb k).1, by rw [(hfb k).2]; exact HNN.out⟩⟩
  clear HDW hcho hb2 hfa hfb HCO1 HB1 HFO HFN HCO HCN HS3 HNN
  go_wp2
  go_loopw [13, 42] (fun v x wq => ∃ (i : Nat) (rs : List Rc), i ≤ keys.length ∧ x = .int .i64 i ∧ OwnR cE 44 wq w2.heap.size v rs ∧ RelC wq w2.heap.size rs (chs fa fb (keys.take i)) ∧ Below w2.heap.size w2 wq) (fun _ x _ => keys.length - (intOf x).toNat)
  case atStart => exact ⟨0, [], Nat.zero_le _, rfl, OwnR.nil _ _ _, RelC.nil _ _, Below.refl _ _⟩
  case round =>
    obtain ⟨i, rs, hi, rfl, hO, hRel, hB⟩ := hrel
    obtain ⟨w3, rfl⟩ : ∃ w3, w3 = wr := ⟨_, rfl⟩
    obtain ⟨v, rfl⟩ : ∃ v, v = u13 := ⟨_, rfl⟩
    have HO3 : Hid (OwnR cE 44 w3 w2.heap.size v rs) := hO
    have HR3 : Hid (RelC w3 w2.heap.size rs (chs fa fb (keys.take i))) := hRel
    have HB3 : Hid (Below w2.heap.size w2 w3) := hB
    clear hO hRel hB
    by_cases hil : i < keys.length
    · obtain ⟨bk, ok, rfl, q1⟩ : ∃ bk ok, pk = some ⟨bk, ok, none⟩ ∧ w3.cell? ⟨bk, ok + i, none⟩ = some (.string (txt keys i)) := by
        rcases HSK.out.below HB3.out with h0 | ⟨b', o', hp, _, hcell⟩
        · rw [h0] at hil; exact absurd hil (Nat.not_lt_zero _)
        · exact ⟨b', o', hp, hcell i hil⟩
      have hsz := HX.out i hil
      have HSUC : Hid (chs fa fb (keys.take (i + 1)) = chs fa fb (keys.take i) ++ chs fa fb [txt keys i]) := chs_succ hil
      have HRL : Hid (rs.length ≤ 200) := by
        show _ ≤ _
        rw [HR3.out.1]
        have h1 : (chs fa fb (keys.take i)).length ≤ (keys.take i).length := List.length_filterMap_le _ _
        have h2 : (keys.take i).length ≤ keys.length := by rw [List.length_take]; omega
        omega
      generalize txt keys i = t at *
      have HCO := HCALLO.out t w3 hsz HB3.out
      go_wp2_with fail
      refine HCO.mono ?_
      rintro e w4 ⟨⟨v1, rfl, hO1⟩, hb4⟩
      obtain ⟨p1, c1, rfl, hS1, _⟩ := hO1.form
      have HT1 : Hid (OwnT w4 w2.heap.size (.slice p1 (fa t).length c1) (fa t)) := hO1.base HB3.out.size
      have HB34 : Hid (Below w3.heap.size w3 w4) := hb4
      have HB4 : Hid (Below w2.heap.size w2 w4) := HB3.out.trans (hb4.mono HB3.out.size)
      have HCN := HCALLN.out t w4 hsz HB4.out
      have HS1 : Hid (Strs w4 p1 (fa t)) := hS1
      clear HCO hO1 hb4 hS1 q1
      go_wp2_with fail
      refine HCN.mono ?_
      rintro e w5 ⟨⟨v2, rfl, hO2⟩, hb5⟩
      obtain ⟨p2, c2, rfl, hS2, _⟩ := hO2.form
      have HT2 : Hid (OwnT w5 w2.heap.size (.slice p2 (fb t).length c2) (fb t)) := hO2.base HB4.out.size
      have HT15 : Hid (OwnT w5 w2.heap.size (.slice p1 (fa t).length c1) (fa t)) := HT1.out.kept hb5
      have HB35 : Hid (Below w3.heap.size w3 w5) := HB34.out.trans (hb5.mono HB34.out.size)
      have HB5 : Hid (Below w2.heap.size w2 w5) := HB4.out.trans (hb5.mono HB4.out.size)
      have HEQ := sequal_any p1 p2 (fa t) (fb t) c1 c2 w5 (by have := (HLA.out t).1; omega) (by have := (HLA.out t).2; omega) (HS1.out.below hb5) hS2
      clear HCN hO2 hb5 hS2 HS1 HT1 HB34 HB4
      have HO5 : Hid (OwnR cE 44 w5 w2.heap.size v rs) := HO3.out.kept HB35.out
      have HR5 : Hid (RelC w5 w2.heap.size rs (chs fa fb (keys.take i))) := HR3.out.below HB35.out
      clear HO3 HR3 HB35
      by_cases he : fa t = fb t
      · have HNX : Hid (chs fa fb (keys.take (i + 1)) = chs fa fb (keys.take i)) := by show _ = _; rw [HSUC.out, chs_one_same he, List.append_nil]
        rw [decide_eq_true he] at HEQ
        clear he HSUC
        generalize fa t = la at *
        generalize fb t = lb at *
        go_wp2_with fail
        refine HEQ.mono ?_
        rintro e w6 ⟨rfl, hb6⟩
        have HO6 : Hid (OwnR cE 44 w6 w2.heap.size v rs) := HO5.out.kept hb6
        have HR6 : Hid (RelC w6 w2.heap.size rs (chs fa fb (keys.take (i + 1)))) := by
          show RelC _ _ _ _
          rw [HNX.out]
          exact HR5.out.below hb6
        have HB6 : Hid (Below w2.heap.size w2 w6) := HB5.out.trans (hb6.mono HB5.out.size)
        clear hb6 HEQ
        go_wp2
        go_roundw
        case rel => exact ⟨i + 1, rs, by omega, by go_num, HO6.out, HR6.out, HB6.out⟩
        case measure => simp [intOf]; omega
      · have HNX : Hid (chs fa fb (keys.take (i + 1)) = chs fa fb (keys.take i) ++ [(t, fa t, fb t)]) := by show _ = _; rw [HSUC.out, chs_one he]
        rw [decide_eq_false he] at HEQ
        clear he HSUC
        generalize fa t = la at *
        generalize fb t = lb at *
        go_wp2_with fail
        refine HEQ.mono ?_
        rintro e w6 ⟨rfl, hb6⟩
        have HO6 : Hid (OwnR cE 44 w6 w2.heap.size v rs) := HO5.out.kept hb6
        have HR6 : Hid (RelC w6 w2.heap.size rs (chs fa fb (keys.take i))) := HR5.out.below hb6
        have HB6 : Hid (Below w2.heap.size w2 w6) := HB5.out.trans (hb6.mono HB5.out.size)
        have HA6 : Hid (OwnT w6 w2.heap.size (.slice p1 la.length c1) la) := HT15.out.kept hb6
        have HN6 : Hid (OwnT w6 w2.heap.size (.slice p2 lb.length c2) lb) := HT2.out.kept hb6
        have HCL := sclone_any t w6 (by omega)
        clear hb6 HEQ HO5 HR5 HB5 HT15 HT2
        go_wp2_with fail
        refine HCL.mono ?_
        rintro e w7 ⟨rfl, hb7⟩
        obtain ⟨w8, hw8⟩ : ∃ w8, w8 = w7.alloc (.cells #[.string t, .slice p1 la.length c1, .slice p2 lb.length c2] 44) := ⟨_, rfl⟩
        have hb68 : Below w6.heap.size w6 w8 := by rw [hw8]; exact hb7.alloc hb7.size _
        have HO8 : Hid (OwnR cE 44 w8 w2.heap.size v rs) := HO6.out.kept hb68
        have HR8 : Hid (RelC w8 w2.heap.size rs (chs fa fb (keys.take i))) := HR6.out.below hb68
        have HB8 : Hid (Below w2.heap.size w2 w8) := HB6.out.trans (hb68.mono HB6.out.size)
        have HA8 : Hid (OwnT w8 w2.heap.size (.slice p1 la.length c1) la) := HA6.out.kept hb68
        have HN8 : Hid (OwnT w8 w2.heap.size (.slice p2 lb.length c2) lb) := HN6.out.kept hb68
        have HNW : Hid (∀ j u, (cE.enc (t, (p1, la.length, c1), (p2, lb.length, c2)))[j]? = some u → w8.cell? ((⟨w7.heap.size, 0, none⟩ : Addr).add j) = some u) := fun j u hu => by
          rw [hw8, Addr.add_lit, Nat.zero_add, World.cell?_alloc_at _ _ _ _ rfl, ← hu]
          show (#[Value.string t, .slice p1 la.length c1, .slice p2 lb.length c2] : Array Value)[j]? = ([Value.string t, .slice p1 la.length c1, .slice p2 lb.length c2] : List Value)[j]?
          rw [← Array.getElem?_toList]
        have HW8 : Hid (w8 = w7.alloc (.cells #[.string t, .slice p1 la.length c1, .slice p2 lb.length c2] 44)) := hw8
        clear hb7 HCL hb68 hw8 HO6 HR6 HB6 HA6 HN6
        go_wp2_with (first | (at_builtin; rw [← HW8.out]; refine wpList_append_chG rfl (.tmp 56) (.tmp 62) rfl w2.heap.size v rs rfl HO8.out ⟨w7.heap.size, 0, none⟩ 1 (t, (p1, la.length, c1), (p2, lb.length, c2)) rfl HNW.out (by have := HRL.out; omega) HB8.out.size ?_; intro v' w9 hO9 hg9))
        have HO9 : Hid (OwnR cE 44 w9 w2.heap.size v' (rs ++ [(t, (p1, la.length, c1), (p2, lb.length, c2))])) := hO9
        have HR9 : Hid (RelC w9 w2.heap.size (rs ++ [(t, (p1, la.length, c1), (p2, lb.length, c2))]) (chs fa fb (keys.take (i + 1)))) := by
          show RelC _ _ _ _
          rw [HNX.out]
          exact (HR8.out.grown HO8.out hg9).snoc (HA8.out.grown HO8.out hg9) (HN8.out.grown HO8.out hg9)
        have HB9 : Hid (Below w2.heap.size w2 w9) := HB8.out.grown hg9 HB8.out.size (fun k hk => (HO8.out.block hk).1)
        clear hO9 hg9
        go_wp2
        go_roundw
        case rel => exact ⟨i + 1, _, by omega, by go_num, HO9.out, HR9.out, HB9.out⟩
        case measure => simp [intOf]; omega
    · have hie : i = keys.length := by omega
      subst hie
      rw [List.take_length] at HR3
      obtain ⟨q, c, rfl, hch⟩ := HR3.out.chs HO3.out
      have HCH : Hid (Chs w3 q (chs fa fb keys)) := hch
      clear hch HR3 HO3
      go_wp2
      go_ret2
      exact ⟨⟨q, c, fa, fb, rfl, HCH.out, HANS.out⟩, HB2.out.trans (HB3.out.mono HB2.out.size)⟩
theorem moves_ok (ad : Nat → Addr) : MovesOk ad := fun po pn pk old now keys co cn ck n w h1 h2 h3 h4 h5 h6 h7 h8 h9 hso hsn hsk hE => by
  by_cases ho : 0 < (preferF old n).1
  · refine (moves_bad1 ad po old co _ _ n w h1 h4 hso hE ho).mono ?_
    rintro e w' ⟨⟨ev, rfl, hI⟩, hb⟩
    have e1 : movesF old now keys.length n = preferF old n := if_pos ho
    exact ⟨Or.inl ⟨by rw [e1]; exact ho, none, 0, ev, rfl, by rw [e1]; exact hI⟩, hb⟩
  by_cases hn : 0 < (preferF now n).1
  · refine (moves_bad2 ad po pn old now co cn _ n w h1 h4 h2 h5 hso hsn hE ho hn).mono ?_
    rintro e w' ⟨⟨ev, rfl, hI⟩, hb⟩
    have e1 : movesF old now keys.length n = preferF now n := by unfold movesF; rw [if_neg ho, if_pos hn]
    exact ⟨Or.inl ⟨by rw [e1]; exact hn, none, 0, ev, rfl, by rw [e1]; exact hI⟩, hb⟩
  by_cases hm : 200 < keys.length
  · refine (moves_bad3 ad po pn pk old now co cn ck keys.length n w h1 h4 h2 h5 h3 hso hsn hE ho hn hm).mono ?_
    rintro e w' ⟨⟨ev, rfl, hI⟩, hb⟩
    have e1 : movesF old now keys.length n = (2, -1) := by unfold movesF; rw [if_neg ho, if_neg hn, if_pos hm]
    exact ⟨Or.inl ⟨by rw [e1]; decide, none, 0, ev, rfl, by rw [e1]; exact hI⟩, hb⟩
  · refine (moves_fine ad po pn pk old now keys co cn ck n w h1 h4 h2 h5 hm h9 hso hsn hsk hE ho hn).mono ?_
    rintro e w' ⟨⟨q, c, fa, fb, rfl, hC, hA⟩, hb⟩
    have e1 : movesF old now keys.length n = (0, -1) := by unfold movesF; rw [if_neg ho, if_neg hn, if_neg hm]
    exact ⟨Or.inr ⟨by rw [e1]; decide, q, c, fa, fb, rfl, hC, hA⟩, hb⟩
end
end Go.Proofs.YtppcijpgalaohaaGreatDoor
