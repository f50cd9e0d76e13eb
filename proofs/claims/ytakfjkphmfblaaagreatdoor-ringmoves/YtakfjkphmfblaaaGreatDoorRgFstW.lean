/- Package ring: firstNodes, walked. -/
import Derived.Test.YtakfjkphmfblaaaGreatDoorRgFstB
namespace Go.Proofs.YtakfjkphmfblaaaGreatDoor
open Go.RowKit Ring Go.Sort
theorem node_at {ps : List Pt} {f f' : Nat} {h : Nat} (hf : f' ≤ ps.length) (hn : ∀ j, j < ps.length → (turned h f ps.length (qOf ps) j).2 = (qOf ps ((f' + j) % ps.length)).2) (hM : 0 < ps.length) {j : Nat} (hj : j < ps.length) :
    ∃ x : Pt, (ps.drop f' ++ ps.take f')[j]? = some x ∧ x.2.1 = (turned h f ps.length (qOf ps) j).2 := by
  have hlt : (f' + j) % ps.length < ps.length := Nat.mod_lt _ hM
  refine ⟨ps[(f' + j) % ps.length], by rw [around_at ps f' j hf hj, List.getElem?_eq_getElem hlt], ?_⟩
  rw [hn j hj, qOf_get hlt]
  rfl
set_option maxRecDepth 10000 in
set_option maxHeartbeats 8000000 in
theorem first_any (g cap : Nat) (ps : List Pt) (nodes : List ByteArray) (h n : Nat) (w : World) (hr : RingP nodes ps) (hl1 : 1 ≤ nodes.length) (hl2 : nodes.length ≤ 16) (hn : n ≤ nodes.length) (hx : ∀ x ∈ nodes, x.size ≤ 16) (hnd : nodes.Nodup) (hcap : ps.length ≤ cap) (hrec : Rec pE w (some ⟨g, 0, none⟩) ps) :
    Calls Tryz.prog 36 #[.slice (some ⟨g, 0, none⟩) ps.length cap, .int .u32 (h : Int), .int .i64 (n : Int)] w fun e w' => (∃ v out, e = .returned v ∧ OwnT w' w.heap.size v out ∧ out.length = n ∧ Pref h nodes out) ∧ Below w.heap.size w w' := by
  have hlen := hr.len
  obtain ⟨f, f', r, hidx, hrf, hf', hRR, hnode⟩ := first_cases h nodes ps hr hl1
  have hg : g < w.heap.size := by
    rcases hrec with h0 | ⟨b, o, hp, hlt, _⟩
    · rw [h0] at hlen; simp at hlen; omega
    · obtain ⟨rfl, rfl⟩ : g = b ∧ 0 = o := by simpa using hp
      exact hlt
  obtain ⟨w1, hw1⟩ : ∃ w1, w1 = w.alloc (.cells #[.int .u32 (h : Int)] 74) := ⟨_, rfl⟩
  have hb1 : Below w.heap.size w w1 := by rw [hw1]; exact (Below.refl _ _).alloc (Nat.le_refl _) _
  have hs1 : w1.heap.size = w.heap.size + 1 := by rw [hw1]; simp
  have hr1 := hrec.below hb1
  have HIDX := Tryz.slices_IndexFunc 3 Tryz.isAgg92 Tryz.sizeOf92 pEnc (fun _ => rfl) (fun x : Pt => decide (h ≤ x.1)) 55 #[.pointer (some ⟨w.heap.size, 0, none⟩)] (enters_of Tryz.func55 (by kernel_rfl) rfl) g 0 ps.length cap ps w1
    (atleast_any h w.heap.size w1 (by omega) (by rw [hw1]; simp)) (Nat.le_refl _) (by omega) (by omega) (fun j hj i v hv => by
      rcases hr1 with h0 | ⟨b, o, hp, _, hc⟩
      · rw [h0] at hj; exact absurd hj (Nat.not_lt_zero _)
      · obtain ⟨rfl, rfl⟩ : g = b ∧ 0 = o := by simpa using hp
        have := hc j ps[j] (List.getElem?_eq_getElem hj) i v (by rw [getElem!_pos ps j hj] at hv; exact hv)
        exact this)
  rw [hidx] at HIDX
  have HW1 : Hid (w1 = w.alloc (.cells #[.int .u32 (h : Int)] 74)) := hw1
  have HB1 : Hid (Below w.heap.size w w1) := hb1
  have HREC : Hid (Rec pE w (some ⟨g, 0, none⟩) ps) := hrec
  have HRR : Hid (RingR h nodes (turned h f ps.length (qOf ps)) ps.length) := hRR
  have HND : Hid nodes.Nodup := hnd
  have HX : Hid (∀ x ∈ nodes, x.size ≤ 16) := hx
  have HNODE : Hid (∀ j, j < ps.length → ∃ x : Pt, (ps.drop f' ++ ps.take f')[j]? = some x ∧ x.2.1 = (turned h f ps.length (qOf ps) j).2) := fun j hj => node_at hf' hnode (by omega) hj
  have HAL : Hid ((ps.drop f' ++ ps.take f').length = ps.length) := by show _ = _; rw [List.length_append, List.length_drop, List.length_take]; omega
  have HLEN : Hid (ps.length = 8 * nodes.length) := hlen
  have hps : ps.length ≤ 128 := by omega
  have hps1 : 1 ≤ ps.length := by omega
  have sl1 := run_pts_from (some ⟨g, 0, none⟩) ps cap f' hf'
  have sl2 := run_pts_to (some ⟨g, 0, none⟩) ps cap f' hf' hcap
  have hmk := run_make_strs n (by omega)
  have HMADE : Hid (∀ W : World, OwnT (W.alloc (.cells (madeCells #[.string ⟨#[]⟩] n) 9)) W.heap.size (.slice (some ⟨W.heap.size, 0, none⟩) 0 n) []) := fun W => made_strs n (by omega) W
  have HD : Hid (∀ W, Below w.heap.size w W → (Rec pE W (if cap = f' then some ⟨g, 0, none⟩ else (some (⟨g, 0, none⟩ : Addr)).map (·.add (f' * 3))) (ps.drop f') ∧ ((if cap = f' then some ⟨g, 0, none⟩ else (some (⟨g, 0, none⟩ : Addr)).map (·.add (f' * 3))) = none → ps.drop f' = [] ∧ cap - f' = 0)) ∧ Rec pE W (some ⟨g, 0, none⟩) (ps.take f')) := fun W hW => ⟨(HREC.out.below hW).drop hf' hcap (fun e => by cases e), (HREC.out.below hW).take f'⟩
  clear hw1 hb1 hs1 hr1 hidx hrec hRR hnode hr hnd hx hlen hg
  generalize (if cap = f' then some ⟨g, 0, none⟩ else (some (⟨g, 0, none⟩ : Addr)).map (·.add (f' * 3))) = pd at *
  generalize turned h f ps.length (qOf ps) = R at *
  have hmax : max (0 : Int) r = (f' : Int) := by
    rcases hrf with ⟨h1, h2⟩ | h1 <;> omega
  clear hrf
  go_enter Tryz.func36, Tryz.ntmps36
  go_wp2_with fail
  rw [← HW1.out]
  refine HIDX.mono ?_
  rintro e w2 ⟨rfl, hb2⟩
  have HB2 : Hid (Below w.heap.size w w2) := HB1.out.trans (hb2.mono HB1.out.size)
  clear hb2 HIDX HW1 HB1
  go_wp2
  have hO3 := HMADE.out w2
  have hb3 : Below w.heap.size w (w2.alloc (.cells (madeCells #[.string ⟨#[]⟩] n) 9)) := HB2.out.alloc HB2.out.size _
  generalize w2.alloc (.cells (madeCells #[.string ⟨#[]⟩] n) 9) = w3 at hO3 hb3 ⊢
  have HO3 : Hid (OwnT w3 w2.heap.size (.slice (some ⟨w2.heap.size, 0, none⟩) 0 n) []) := hO3
  have HB3 : Hid (Below w.heap.size w w3) := hb3
  have HZ : Hid (w.heap.size ≤ w2.heap.size) := HB2.out.size
  clear hO3 hb3 HB2 HMADE hmk
  have HCON : Hid (∀ W, Below w.heap.size w W → ∀ gq, W.cell? ⟨gq, 0, none⟩ = some (.slice pd (ps.drop f').length (cap - f')) → W.cell? ⟨gq, 1, none⟩ = some (.slice (some ⟨g, 0, none⟩) (ps.take f').length cap) → Calls Tryz.prog 56 #[.slice (some ⟨gq, 0, none⟩) 2 2] W fun e w' => (∃ v, e = .returned v ∧ OwnR pE 92 w' W.heap.size v (ps.drop f' ++ ps.take f')) ∧ Below W.heap.size W w') := fun W hW gq q1 q2 => by
    obtain ⟨⟨h1, h2⟩, h3⟩ := HD.out W hW
    exact concat_two gq 2 pd (some ⟨g, 0, none⟩) (ps.drop f') (ps.take f') (cap - f') cap W (by rw [List.length_drop, List.length_take]; omega) (by rw [List.length_drop, List.length_take]; omega) q1 q2 h1 h3 h2 (fun e => by cases e)
  have hf2 : (f' : Int) ≤ (ps.length : Int) := by omega
  generalize (ps.drop f').length = m1 at *
  generalize (ps.take f').length = m2 at *
  have HCW : Hid (Calls Tryz.prog 56 #[.slice (some ⟨w3.heap.size, 0, none⟩) 2 2] (w3.alloc (.cells #[.slice pd m1 (cap - f'), .slice (some ⟨g, 0, none⟩) m2 cap] 71)).drew fun e w' => (∃ v, e = .returned v ∧ OwnR pE 92 w' w3.heap.size v (ps.drop f' ++ ps.take f')) ∧ Below w3.heap.size w3 w') := by
    have hq := HCON.out (w3.alloc (.cells #[.slice pd m1 (cap - f'), .slice (some ⟨g, 0, none⟩) m2 cap] 71)).drew ((HB3.out.alloc HB3.out.size _).drew) w3.heap.size (by simp) (by simp)
    refine hq.mono ?_
    rintro e w' ⟨⟨v, rfl, hO⟩, hb⟩
    have hsz : (w3.alloc (.cells #[.slice pd m1 (cap - f'), .slice (some ⟨g, 0, none⟩) m2 cap] 71)).drew.heap.size = w3.heap.size + 1 := by simp
    exact ⟨⟨v, rfl, hO.base (by omega)⟩, (((Below.refl _ w3).alloc (Nat.le_refl _) _).drew).trans (hb.mono (by omega))⟩
  have HAL' : Hid ((ps.drop f' ++ ps.take f').length = ps.length) := HAL.out
  clear HCON HD HAL
  go_region_with (go_at_call 56; refine HCW.out.mono ?_; rintro e w4 ⟨⟨v4, rfl, hO4⟩, hb4⟩; obtain ⟨p4, c4, rfl, hR4, hc4, hn4, hbk4⟩ := hO4.form)
  rw [HAL'.out] at hc4
  have HREC4 : Hid (Rec pE w4 p4 (ps.drop f' ++ ps.take f')) := hR4
  have HB34 : Hid (Below w3.heap.size w3 w4) := hb4
  have HBW4 : Hid (Below w.heap.size w w4) := HB3.out.trans (hb4.mono HB3.out.size)
  have HO4' : Hid (OwnT w4 w2.heap.size (.slice (some ⟨w2.heap.size, 0, none⟩) 0 n) []) := HO3.out.kept hb4
  obtain ⟨g4, o4, rfl⟩ : ∃ b o, p4 = some ⟨b, o, none⟩ := by
    rcases hR4 with h0 | ⟨b, o, hp, _⟩
    · have := HAL'.out; rw [h0] at this; simp at this; omega
    · exact ⟨b, o, hp⟩
  have HZ4 : Hid (w2.heap.size ≤ w4.heap.size) := by
    show _ ≤ _
    have h1 : w2.heap.size ≤ w3.heap.size := by
      rcases Nat.lt_or_ge w2.heap.size w3.heap.size with h | h
      · omega
      · have := (HO3.out.block (k := w2.heap.size) rfl).2; omega
    have := hb4.size
    omega
  have HGNE : Hid (g4 ≠ w2.heap.size ∧ g4 < w4.heap.size) := by
    have h1 := hbk4 g4 o4 rfl
    have h2 := (HO3.out.block (k := w2.heap.size) rfl).2
    exact ⟨by omega, h1.2⟩
  clear hO4 hb4 hR4 hn4 hbk4 HO3 HB3 HCW HREC HLEN
  go_simp
  go_wp2
  go_loopw [8, 26] (fun v x wq => ∃ (j : Nat) (out : List ByteArray), j ≤ ps.length ∧ x = .int .i64 j ∧ OwnT wq w2.heap.size v out ∧ ScanInv h nodes R n j out ∧ Side w2.heap.size w4 v wq) (fun _ x _ => ps.length - (intOf x).toNat)
  case atStart => exact ⟨0, [], Nat.zero_le _, rfl, HO4'.out, ScanInv.start _ _ _ _, Side.start rfl⟩
  case round =>
    obtain ⟨j, out, hj, rfl, hOT, hSC, hB⟩ := hrel
    obtain ⟨w5, rfl⟩ : ∃ w5, w5 = wr := ⟨_, rfl⟩
    obtain ⟨po, co, rfl, hSo, _, _, hblk⟩ := hOT.form
    have HOT : Hid (OwnT w5 w2.heap.size (.slice po out.length co) out) := hOT
    have HSC : Hid (ScanInv h nodes R n j out) := hSC
    have HB5 : Hid (Side w2.heap.size w4 (.slice po out.length co) w5) := hB
    have HSO : Hid (Strs w5 po out) := hSo
    have HOL : Hid (out.length ≤ 16) := by show _ ≤ _; have := hSC.le; omega
    clear hOT hSC hB hSo hblk
    by_cases hjl : j < ps.length
    · obtain ⟨x, hx1, hx2⟩ := HNODE.out j hjl
      have hcells : ∀ i u, (pEnc x)[i]? = some u → w5.cell? ⟨g4, o4 + j * 3 + i, none⟩ = some u := fun i u hu => by
        rcases HREC4.out with h0 | ⟨b, o, hp, _, hc⟩
        · have := HAL'.out; rw [h0] at this; simp at this; omega
        · obtain ⟨rfl, rfl⟩ : g4 = b ∧ o4 = o := by simpa using hp
          exact (HB5.out.cell (p := ⟨g4, o4 + j * 3 + i, none⟩) HGNE.out.2 HGNE.out.1).trans (hc j x hx1 i u hu)
      have q1 := hcells 0 _ rfl
      have q2 := hcells 1 _ rfl
      have q3 := hcells 2 _ rfl
      rw [Nat.add_zero] at q1
      have HXN : Hid (x.2.1 = (R j).2) := hx2
      have hsz : x.2.1.size ≤ 16 := by rw [hx2]; exact HX.out _ (HRR.out.mem j hjl).1
      obtain ⟨a, y, i⟩ := x
      clear hcells hx1 hx2
      have HB6 : Hid (Side w2.heap.size w4 (.slice po out.length co) (w5.alloc (.cells #[.int .u32 (a : Int), .string y, .int .i64 (i : Int)] 92))) := HB5.out.below ((Below.refl _ _).alloc (Nat.le_refl _) _)
      have HO6 : Hid (OwnT (w5.alloc (.cells #[.int .u32 (a : Int), .string y, .int .i64 (i : Int)] 92)) w2.heap.size (.slice po out.length co) out) := HOT.out.kept ((Below.refl _ _).alloc (Nat.le_refl _) _)
      by_cases hol : out.length < n
      · have HCT : Hid (Calls Tryz.prog 19 #[.slice po out.length co, .string y] (w5.alloc (.cells #[.int .u32 (a : Int), .string y, .int .i64 (i : Int)] 92)) fun e w' => e = .returned (.bool (inL out y)) ∧ w' = (w5.alloc (.cells #[.int .u32 (a : Int), .string y, .int .i64 (i : Int)] 92))) := scont_any po out co y _ (by have := HOL.out; omega) (HSO.out.below ((Below.refl _ _).alloc (Nat.le_refl _) _))
        have e1 : (w5.alloc (.cells #[.int .u32 (a : Int), .string y, .int .i64 (i : Int)] 92)).cell? ⟨w5.heap.size, 1, none⟩ = some (.string y) := by simp
        by_cases hmem : y ∈ out
        · have HNX : Hid (ScanInv h nodes R n (j + 1) out) := HSC.out.skip (by rw [← HXN.out]; exact hmem)
          rw [inL_iff.2 hmem] at HCT
          clear hmem
          go_wp2_with fail
          refine HCT.out.mono ?_
          rintro e w7 ⟨rfl, hw7⟩
          rw [hw7]
          clear hw7 w7 HCT
          go_wp2
          go_roundw
          case rel => exact ⟨j + 1, out, by omega, by go_num, HO6.out, HNX.out, HB6.out⟩
          case measure => simp [intOf]; omega
        · have HNX : Hid (ScanInv h nodes R n (j + 1) (out ++ [y])) := by
            show ScanInv h nodes R n (j + 1) (out ++ [y])
            have hy : y = (R j).2 := HXN.out
            rw [hy]
            exact HSC.out.push HRR.out hjl hol (by rw [← hy]; exact hmem)
          rw [Bool.eq_false_iff.2 (fun h => hmem (inL_iff.1 h))] at HCT
          have hysz : y.size ≤ 1000000 := by have : y.size ≤ 16 := hsz; omega
          clear hmem hsz
          go_wp2_with fail
          refine HCT.out.mono ?_
          rintro e w7 ⟨rfl, hw7⟩
          rw [hw7]
          clear hw7 w7 HCT
          generalize w5.alloc (.cells #[.int .u32 (a : Int), .string y, .int .i64 (i : Int)] 92) = w6 at HB6 HO6 e1 ⊢
          go_wp2_with fail
          refine (sclone_any y w6 hysz).mono ?_
          rintro e w7 ⟨rfl, hb7⟩
          have HB7 : Hid (Side w2.heap.size w4 (.slice po out.length co) (w7.alloc (.cells #[.string y] 9))) := (HB6.out.below hb7).below ((Below.refl _ _).alloc (Nat.le_refl _) _)
          have HO7 : Hid (OwnT (w7.alloc (.cells #[.string y] 9)) w2.heap.size (.slice po out.length co) out) := (HO6.out.kept hb7).kept ((Below.refl _ _).alloc (Nat.le_refl _) _)
          have HZ7 : Hid (w2.heap.size ≤ (w7.alloc (.cells #[.string y] 9)).heap.size) := Nat.le_trans HZ4.out HB7.out.size
          clear hb7 e1 q1 q2 q3
          go_wp2_with (first | (at_builtin; refine wpList_append_strW rfl (.tmp 41) (.tmp 45) rfl w2.heap.size (.slice po out.length co) out rfl HO7.out ⟨w7.heap.size, 0, none⟩ y 1 rfl (by rw [World.cell?_alloc_at _ _ _ _ rfl]; rfl) (by have := HOL.out; omega) HZ7.out ?_; intro v' w8 hO8 hg8 hv8))
          have HO8 : Hid (OwnT w8 w2.heap.size v' (out ++ [y])) := hO8
          have HB8 : Hid (Side w2.heap.size w4 v' w8) := HB7.out.app hg8 hv8
          clear hO8 hg8 hv8
          go_wp2
          go_roundw
          case rel => exact ⟨j + 1, out ++ [y], by omega, by go_num, HO8.out, HNX.out, HB8.out⟩
          case measure => simp [intOf]; omega
      · have HNX : Hid (ScanInv h nodes R n (j + 1) out) := HSC.out.full hol
        go_wp2
        go_roundw
        case rel => exact ⟨j + 1, out, by omega, by go_num, HO6.out, HNX.out, HB6.out⟩
        case measure => simp [intOf]; omega
    · have hje : j = ps.length := by omega
      subst hje
      have HE : Hid (out.length = n) := HSC.out.done HRR.out hn HND.out
      go_wp2
      go_ret
      exact ⟨⟨_, out, rfl, HOT.out.base HZ.out, HE.out, HSC.out.pref⟩, HBW4.out.trans ((HB5.out.toBelow HZ4.out).mono HZ.out)⟩
end Go.Proofs.YtakfjkphmfblaaaGreatDoor
