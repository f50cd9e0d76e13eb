/- Texts laid together. -/
import Derived.Test.YtppcijpgalaohaaGreatDoorGe4
namespace Go.Proofs.YtppcijpgalaohaaGreatDoor
open Go.RowKit
section
open Ring
def sliceLen : Value → Nat
  | .slice _ n _ => n
  | _ => 0
theorem lt_of_cell' {w : World} {a : Addr} {v : Value} (h : w.cell? a = some v) : a.block < w.heap.size := by
  rcases Nat.lt_or_ge a.block w.heap.size with h' | h'
  · exact h'
  · simp [World.cell?, Array.getElem?_eq_none h'] at h
/-- The best of the first i points, of nodes that are left. -/
def Best (h : Nat) (nodes out : List ByteArray) (i : Nat) (y : Value) : Prop :=
  (y = .int .i64 (-1) ∧ ∀ j, j < i → pX nodes j ∈ out) ∨ ∃ t : Nat, t < i ∧ y = .int .i64 (t : Int) ∧ pX nodes t ∉ out ∧ ∀ j, j < i → pX nodes j ∉ out → ¬ plt (pA h nodes j, pX nodes j) (pA h nodes t, pX nodes t)
theorem Best.skip {h : Nat} {nodes out : List ByteArray} {i : Nat} {y : Value} (hb : Best h nodes out i y) (hi : pX nodes i ∈ out) : Best h nodes out (i + 1) y := by
  rcases hb with ⟨rfl, hall⟩ | ⟨t, ht, rfl, hn, hall⟩
  · refine Or.inl ⟨rfl, fun j hj => ?_⟩
    rcases Nat.lt_or_ge j i with h1 | h1
    · exact hall j h1
    · obtain rfl : j = i := by omega
      exact hi
  · refine Or.inr ⟨t, by omega, rfl, hn, fun j hj hjn => ?_⟩
    rcases Nat.lt_or_ge j i with h1 | h1
    · exact hall j h1 hjn
    · obtain rfl : j = i := by omega
      exact absurd hi hjn
theorem Best.first {h : Nat} {nodes out : List ByteArray} {i : Nat} (hall : ∀ j, j < i → pX nodes j ∈ out) (hi : pX nodes i ∉ out) : Best h nodes out (i + 1) (.int .i64 (i : Int)) := by
  refine Or.inr ⟨i, by omega, rfl, hi, fun j hj hjn => ?_⟩
  rcases Nat.lt_or_ge j i with h1 | h1
  · exact absurd (hall j h1) hjn
  · obtain rfl : j = i := by omega
    exact plt_irrefl _
theorem Best.better {h : Nat} {nodes out : List ByteArray} {i t : Nat} (hall : ∀ j, j < i → pX nodes j ∉ out → ¬ plt (pA h nodes j, pX nodes j) (pA h nodes t, pX nodes t)) (hi : pX nodes i ∉ out) (hp : plt (pA h nodes i, pX nodes i) (pA h nodes t, pX nodes t)) : Best h nodes out (i + 1) (.int .i64 (i : Int)) := by
  refine Or.inr ⟨i, by omega, rfl, hi, fun j hj hjn hq => ?_⟩
  rcases Nat.lt_or_ge j i with h1 | h1
  · exact hall j h1 hjn (plt_trans hq hp)
  · obtain rfl : j = i := by omega
    exact plt_irrefl _ hq
theorem Best.stay {h : Nat} {nodes out : List ByteArray} {i t : Nat} (ht : t < i) (hn : pX nodes t ∉ out) (hall : ∀ j, j < i → pX nodes j ∉ out → ¬ plt (pA h nodes j, pX nodes j) (pA h nodes t, pX nodes t)) (hp : ¬ plt (pA h nodes i, pX nodes i) (pA h nodes t, pX nodes t)) : Best h nodes out (i + 1) (.int .i64 (t : Int)) := by
  refine Or.inr ⟨t, by omega, rfl, hn, fun j hj hjn hq => ?_⟩
  rcases Nat.lt_or_ge j i with h1 | h1
  · exact hall j h1 hjn hq
  · obtain rfl : j = i := by omega
    exact hp hq
/-- The best of all is the next. -/
theorem Best.next {h : Nat} {nodes out : List ByteArray} {t : Nat} (hp : Pref h nodes out) (ht : t < 8 * nodes.length) (hn : pX nodes t ∉ out) (hall : ∀ j, j < 8 * nodes.length → pX nodes j ∉ out → ¬ plt (pA h nodes j, pX nodes j) (pA h nodes t, pX nodes t)) : Pref h nodes (out ++ [pX nodes t]) := by
  refine hp.next (a := pA h nodes t) (txt_mem (by omega)) hn (dist_le h _ _ (Nat.mod_lt _ (by decide))) fun z hz hzn => ?_
  obtain ⟨q, hq, rfl⟩ := txt_of_mem hz
  obtain ⟨k, hk, e⟩ := dist_mem h (txt nodes q)
  have e1 : pX nodes (8 * q + k) = txt nodes q := by unfold pX; rw [show (8 * q + k) / 8 = q by omega]
  have e2 : pA h nodes (8 * q + k) = dist h (txt nodes q) := by unfold pA; rw [show (8 * q + k) / 8 = q by omega, show (8 * q + k) % 8 = k by omega]; exact e
  have := hall (8 * q + k) (by omega) (by rw [e1]; exact hzn)
  rw [e1, e2] at this
  exact this
theorem Best.some {nodes out : List ByteArray} (hnd : nodes.Nodup) (hl : out.length < nodes.length) (hall : ∀ j, j < 8 * nodes.length → pX nodes j ∈ out) : False := by
  obtain ⟨x, hx, hxn⟩ := left_one hnd hl
  obtain ⟨q, hq, rfl⟩ := txt_of_mem hx
  refine hxn ?_
  have := hall (8 * q) (by omega)
  unfold pX at this
  rwa [show 8 * q / 8 = q by omega] at this
set_option maxRecDepth 10000 in
set_option maxHeartbeats 8000000 in
theorem rprefer_any (p : Option Addr) (nodes : List ByteArray) (c : Nat) (key : ByteArray) (n : Nat) (w : World) (hl1 : 1 ≤ nodes.length) (hl2 : nodes.length ≤ 16) (hn : n ≤ nodes.length) (hkey : key.size ≤ 1000000) (hx : ∀ x ∈ nodes, x.size ≤ 16) (hnd : nodes.Nodup) (hs : Strs w p nodes) :
    Calls Tryz.prog 14 #[.slice p nodes.length c, .string key, .int .i64 (n : Int)] w fun e w' => (∃ v out, e = .returned v ∧ OwnT w' w.heap.size v out ∧ out.length = n ∧ Pref (hashOf key) nodes out) ∧ Below w.heap.size w w' := by
  have HK : Hid (∀ W, Calls Tryz.prog 24 #[.string key] W fun e w' => e = .returned (.int .i64 ((hashOf key : Nat) : Int)) ∧ w' = W) := fun W => rhash_any key W hkey
  have hkl := hashOf_lt key
  have HX : Hid (∀ i, i < nodes.length → (txt nodes i).size ≤ 16) := fun i hi => hx _ (txt_mem hi)
  have HS : Hid (Strs w p nodes) := hs
  have HND : Hid (nodes.Nodup) := hnd
  obtain ⟨b, o, rfl⟩ : ∃ b o, p = some ⟨b, o, none⟩ := by
    rcases hs with h0 | ⟨b, o, hp, _⟩
    · rw [h0] at hl1; exact absurd hl1 (by decide)
    · exact ⟨b, o, hp⟩
  obtain ⟨i1, hi1, hy0, hy1, hy2⟩ := info_parts pointinfo
  clear hs hx hnd
  generalize hashOf key = h at *
  go_enter Tryz.func14, Tryz.ntmps14
  go_wp2_with fail
  refine (HK.out _).mono ?_
  rintro e w1 ⟨rfl, hw1⟩
  rw [hw1]
  clear hw1 w1 HK
  go_wp2
  go_loopw [8, 9] (fun v x wq => ∃ i : Nat, i ≤ nodes.length ∧ x = .int .i64 i ∧ OwnP wq w.heap.size v (ptsI h nodes (8 * i)) ∧ Below w.heap.size w wq) (fun _ x _ => nodes.length - (intOf x).toNat)
  case atStart => exact ⟨0, Nat.zero_le _, rfl, World.ownsRow_nil _ _ _ _, Below.refl _ _⟩
  case round =>
    obtain ⟨i, hi, rfl, hO, hB⟩ := hrel
    obtain ⟨w2, rfl⟩ : ∃ w2, w2 = wr := ⟨_, rfl⟩
    obtain ⟨v, rfl⟩ : ∃ v, v = u8 := ⟨_, rfl⟩
    have HO : Hid (OwnP w2 w.heap.size v (ptsI h nodes (8 * i))) := hO
    have HB : Hid (Below w.heap.size w w2) := hB
    clear hO hB
    by_cases hil : i < nodes.length
    · go_wp2
      go_loopw [8, 10] (fun v x wq => ∃ k : Nat, k ≤ 8 ∧ x = .int .i64 k ∧ OwnP wq w.heap.size v (ptsI h nodes (8 * i + k)) ∧ Below w.heap.size w wq) (fun _ x _ => 8 - (intOf x).toNat)
      case atStart => exact ⟨0, by omega, rfl, HO.out, HB.out⟩
      case round =>
        obtain ⟨k, hk, rfl, hO, hB⟩ := hrel
        obtain ⟨w3, rfl⟩ : ∃ w3, w3 = wr := ⟨_, rfl⟩
        obtain ⟨v, rfl⟩ : ∃ v, v = u8 := ⟨_, rfl⟩
        have HO3 : Hid (OwnP w3 w.heap.size v (ptsI h nodes (8 * i + k))) := hO
        have HB3 : Hid (Below w.heap.size w w3) := hB
        have HLEN : Hid ((ptsI h nodes (8 * i + k)).length = 8 * i + k) := ptsI_length _ _ _
        clear hO hB HO HB
        by_cases hkl8 : k < 8
        · have q1 : w3.cell? ⟨b, o + i, none⟩ = some (.string (txt nodes i)) := by
            rcases (HS.out.below HB3.out) with h0 | ⟨b', o', hp, _, hcell⟩
            · rw [h0] at hil; exact absurd hil (Nat.not_lt_zero _)
            · obtain ⟨rfl, rfl⟩ : b = b' ∧ o = o' := by simpa using hp
              exact hcell i hil
          have hbl : b < w3.heap.size := lt_of_cell' q1
          have hsz := HX.out i hil
          have HN : Hid (ptsI h nodes (8 * i + (k + 1)) = ptsI h nodes (8 * i + k) ++ [(((shf h (ptN (txt nodes i) k) : Nat) : Int), txt nodes i)]) := by
            show _ = _
            rw [show 8 * i + (k + 1) = 8 * i + k + 1 by omega, ptsI_succ]
            unfold pA pX ptA
            rw [show (8 * i + k) / 8 = i by omega, show (8 * i + k) % 8 = k by omega]
          have HDEC : Hid (∀ W, (W.cell? ⟨b, o + i, none⟩ = some (.string (txt nodes i)) ∧ Below w3.heap.size w3 W) → Calls Tryz.prog 25 #[.int .i64 (k : Int)] W fun e w' => e = .returned (.string (strOf [48 + k])) ∧ (w'.cell? ⟨b, o + i, none⟩ = some (.string (txt nodes i)) ∧ Below w3.heap.size w3 w')) := fun W hW => by
            refine (decimal_digit k (by omega) W).mono ?_
            rintro e w' ⟨rfl, hb⟩
            exact ⟨rfl, (hb.cell (p := ⟨b, o + i, none⟩) (lt_of_cell' hW.1)).trans hW.1, hW.2.trans (hb.mono hW.2.size)⟩
          have HHASH : Hid (∀ W, Calls Tryz.prog 24 #[.string (txt nodes i ++ ⟨#[35]⟩ ++ strOf [48 + k])] W fun e w' => e = .returned (.int .i64 ((ptN (txt nodes i) k : Nat) : Int)) ∧ w' = W) := fun W => rhash_any _ W (by rw [ByteArray.size_append, ByteArray.size_append, strOf_size]; show _ + 1 + 1 ≤ _; omega)
          have hm := hashOf_lt (ptT (txt nodes i) k)
          have hds : (strOf [48 + k]).size = 1 := strOf_size _
          have HM : Hid (hashOf (ptT (txt nodes i) k) = ptN (txt nodes i) k) := by show _ = _; rfl
          rw [HM.out] at hm
          have hS0 : w3.drew.cell? ⟨b, o + i, none⟩ = some (.string (txt nodes i)) ∧ Below w3.heap.size w3 w3.drew := ⟨q1, (Below.refl _ _).drew⟩
          have HLT : Hid (ptN (txt nodes i) k < h → shf h (ptN (txt nodes i) k) = ptN (txt nodes i) k + 4294967296) := fun hlt => if_pos hlt
          have HGE : Hid (¬ ptN (txt nodes i) k < h → shf h (ptN (txt nodes i) k) = ptN (txt nodes i) k) := fun hlt => if_neg hlt
          clear HM
          generalize ptsI h nodes (8 * i + k) = ps at *
          generalize shf h (ptN (txt nodes i) k) = am at *
          generalize ptN (txt nodes i) k = m at *
          generalize strOf [48 + k] = d at *
          generalize txt nodes i = t at *
          have hz1 : ¬ 9223372036854775807 < t.size + 1 := by omega
          have hz2 : ¬ 9223372036854775807 < t.size + 1 + 1 := by omega
          go_wp2
          go_region_held3 (fun W => W.cell? ⟨b, o + i, none⟩ = some (.string t) ∧ Below w3.heap.size w3 W) (first | assumption | exact hS0)
            (first | (go_at_call 25; refine (HDEC.out _ (by assumption)).mono ?_; rintro e w4 ⟨rfl, hS4⟩) | (go_at_call 24; refine (HHASH.out _).mono ?_; rintro e w5 ⟨rfl, hw5⟩; rw [hw5]; clear hw5 w5))
          obtain ⟨q4, hb4⟩ := hS4
          have HB4 : Hid (Below w.heap.size w w4) := HB3.out.trans (hb4.mono HB3.out.size)
          have HO4 : Hid (OwnP w4 w.heap.size v ps) := HO3.out.kept hb4
          clear hS0 q1 hb4 HDEC HHASH hz1 hz2 hds
          by_cases hmh : m < h
          · have HAM := HLT.out hmh
            have HPS : Hid (ptsI h nodes (8 * i + (k + 1)) = ps ++ [((m : Int) + 4294967296, t)]) := by show _ = _; rw [HN.out, HAM]; rfl
            clear HAM HN HLT HGE
            have HO5 : Hid (OwnP (w4.alloc (.cells #[.int .i64 ((m : Int) + 4294967296), .string t] 62)) w.heap.size v ps) := HO4.out.kept ((Below.refl _ _).alloc (Nat.le_refl _) _)
            have HNW : Hid (∀ j u, ([.int .i64 ((m : Int) + 4294967296), .string t] : List Value)[j]? = some u → (w4.alloc (.cells #[.int .i64 ((m : Int) + 4294967296), .string t] 62)).cell? ((⟨w4.heap.size, 0, none⟩ : Addr).add j) = some u) := fun j u hj => by
              rw [Addr.add_lit, World.cell?_alloc_at _ _ _ _ rfl]
              match j, hj with
              | 0, hj => exact hj
              | 1, hj => exact hj
            have HB5 : Hid (Below w.heap.size w (w4.alloc (.cells #[.int .i64 ((m : Int) + 4294967296), .string t] 62))) := HB4.out.alloc HB4.out.size _
            have hps := HLEN.out
            go_wp2_with (first | (at_builtin; refine wpList_append_own _ rfl (.tmp 41) (.tmp 48) 59 rfl w.heap.size 62 i1 (.agg #[.int .i64 0, .string ⟨#[]⟩]) 2 24 Tryz.underlying59 hi1 hy0 hy1 hy2 rfl (by decide) v ps.length (shVals ps) rfl HO5.out ⟨w4.heap.size, 0, none⟩ 1 1 [.int .i64 ((m : Int) + 4294967296), .string t] rfl rfl HNW.out (fun u hu => by simp at hu; rcases hu with rfl | rfl <;> rfl) (by unfold maxLen; omega) (by omega) HB5.out.size ?_; intro v' w6 hown hg _))
            have HO6 : Hid (OwnP w6 w.heap.size v' (ptsI h nodes (8 * i + (k + 1)))) := by
              show OwnP w6 w.heap.size v' (ptsI h nodes (8 * i + (k + 1)))
              unfold OwnP
              rw [HPS.out, pts_snoc, List.length_append]
              exact hown
            have HB6 : Hid (Below w.heap.size w w6) := HB5.out.grown hg HB5.out.size (fun kk hkk => (World.ownsRow.lt HO5.out kk hkk).1)
            clear hown hg
            go_wp2
            go_roundw
            case rel => exact ⟨k + 1, by omega, by go_num, HO6.out, HB6.out⟩
            case measure => simp [intOf]; omega
          · have HAM := HGE.out hmh
            have HPS : Hid (ptsI h nodes (8 * i + (k + 1)) = ps ++ [((m : Int), t)]) := by show _ = _; rw [HN.out, HAM]
            clear HAM HN HLT HGE
            have HO5 : Hid (OwnP (w4.alloc (.cells #[.int .i64 (m : Int), .string t] 62)) w.heap.size v ps) := HO4.out.kept ((Below.refl _ _).alloc (Nat.le_refl _) _)
            have HNW : Hid (∀ j u, ([.int .i64 (m : Int), .string t] : List Value)[j]? = some u → (w4.alloc (.cells #[.int .i64 (m : Int), .string t] 62)).cell? ((⟨w4.heap.size, 0, none⟩ : Addr).add j) = some u) := fun j u hj => by
              rw [Addr.add_lit, World.cell?_alloc_at _ _ _ _ rfl]
              match j, hj with
              | 0, hj => exact hj
              | 1, hj => exact hj
            have HB5 : Hid (Below w.heap.size w (w4.alloc (.cells #[.int .i64 (m : Int), .string t] 62))) := HB4.out.alloc HB4.out.size _
            have hps := HLEN.out
            go_wp2_with (first | (at_builtin; refine wpList_append_own _ rfl (.tmp 41) (.tmp 48) 59 rfl w.heap.size 62 i1 (.agg #[.int .i64 0, .string ⟨#[]⟩]) 2 24 Tryz.underlying59 hi1 hy0 hy1 hy2 rfl (by decide) v ps.length (shVals ps) rfl HO5.out ⟨w4.heap.size, 0, none⟩ 1 1 [.int .i64 (m : Int), .string t] rfl rfl HNW.out (fun u hu => by simp at hu; rcases hu with rfl | rfl <;> rfl) (by unfold maxLen; omega) (by omega) HB5.out.size ?_; intro v' w6 hown hg _))
            have HO6 : Hid (OwnP w6 w.heap.size v' (ptsI h nodes (8 * i + (k + 1)))) := by
              show OwnP w6 w.heap.size v' (ptsI h nodes (8 * i + (k + 1)))
              unfold OwnP
              rw [HPS.out, pts_snoc, List.length_append]
              exact hown
            have HB6 : Hid (Below w.heap.size w w6) := HB5.out.grown hg HB5.out.size (fun kk hkk => (World.ownsRow.lt HO5.out kk hkk).1)
            clear hown hg
            go_wp2
            go_roundw
            case rel => exact ⟨k + 1, by omega, by go_num, HO6.out, HB6.out⟩
            case measure => simp [intOf]; omega
        · have hk8 : k = 8 := by omega
          subst hk8
          have HE : Hid (8 * i + 8 = 8 * (i + 1)) := by show _ = _; omega
          go_wp2
          go_roundw
          case rel => exact ⟨i + 1, by omega, by go_num, by rw [← HE.out]; exact HO3.out, HB3.out⟩
          case measure => simp [intOf]; omega
    · have hie : i = nodes.length := by omega
      subst hie
      obtain ⟨pv, cv, rfl, hsh⟩ := shs_of_own HO.out
      rw [ptsI_length] at *
      obtain ⟨g, o2, rfl⟩ : ∃ g o2, pv = some ⟨g, o2, none⟩ := by
        rcases hsh with h0 | ⟨g, o2, hp, _⟩
        · have := congrArg List.length h0
          rw [ptsI_length] at this
          simp at this
          omega
        · exact ⟨g, o2, hp⟩
      have HSH : Hid (Shs w2 (some ⟨g, o2, none⟩) (ptsI h nodes (8 * nodes.length))) := hsh
      clear hsh HO
      have HPT : Hid (∀ W, Below w2.heap.size w2 W → ∀ j, j < 8 * nodes.length → W.cell? ⟨g, o2 + j * 2, none⟩ = some (.int .i64 ((pA h nodes j : Nat) : Int)) ∧ W.cell? ⟨g, o2 + j * 2 + 1, none⟩ = some (.string (pX nodes j))) := fun W hW j hj => by
        rcases HSH.out.below hW with h0 | ⟨g', o', hp, _, hc⟩
        · have := congrArg List.length h0
          rw [ptsI_length] at this
          simp at this
          omega
        · obtain ⟨rfl, rfl⟩ : g = g' ∧ o2 = o' := by simpa using hp
          have := hc j (by rw [ptsI_length]; exact hj)
          rw [ptsI_at h nodes hj] at this
          exact this
      clear HSH HX
      go_wp2
      go_loopw [12] (fun v wq => ∃ out : List ByteArray, OwnT wq w2.heap.size v out ∧ out.length ≤ n ∧ Pref h nodes out ∧ Below w2.heap.size w2 wq) (fun v _ => n - sliceLen v)
      case atStart => exact ⟨[], OwnT.nil _ _, Nat.zero_le _, Pref.nil _ _, Below.refl _ _⟩
      case round =>
        obtain ⟨out, hOT, hol, hPf, hB3⟩ := hrel
        obtain ⟨w3, rfl⟩ : ∃ w3, w3 = wr := ⟨_, rfl⟩
        obtain ⟨po, co, rfl, hSo, _, _, hblk⟩ := hOT.form
        have HOT : Hid (OwnT w3 w2.heap.size (.slice po out.length co) out) := hOT
        have HPF : Hid (Pref h nodes out) := hPf
        have HB3 : Hid (Below w2.heap.size w2 w3) := hB3
        have HSO : Hid (Strs w3 po out) := hSo
        clear hOT hPf hB3 hSo hblk
        by_cases hlt : out.length < n
        · go_wp2
          go_loopw [13, 14] (fun y x wq => ∃ i : Nat, i ≤ 8 * nodes.length ∧ x = .int .i64 i ∧ Best h nodes out i y ∧ Below w3.heap.size w3 wq) (fun _ x _ => 8 * nodes.length - (intOf x).toNat)
          case atStart => exact ⟨0, Nat.zero_le _, rfl, Or.inl ⟨rfl, fun j hj => absurd hj (Nat.not_lt_zero _)⟩, Below.refl _ _⟩
          case round =>
            obtain ⟨i, hi, rfl, hBe, hB4⟩ := hrel
            obtain ⟨w4, rfl⟩ : ∃ w4, w4 = wr := ⟨_, rfl⟩
            have HB4 : Hid (Below w3.heap.size w3 w4) := hB4
            have HB24 : Hid (Below w2.heap.size w2 w4) := HB3.out.trans (hB4.mono HB3.out.size)
            have HS4 : Hid (Strs w4 po out) := HSO.out.below hB4
            clear hB4
            by_cases hil : i < 8 * nodes.length
            · obtain ⟨q1, q2⟩ := HPT.out w4 HB24.out i hil
              have HBE : Hid (Best h nodes out i u13) := hBe
              clear hBe
              by_cases hmem : pX nodes i ∈ out
              · have HNX : Hid (Best h nodes out (i + 1) u13) := HBE.out.skip hmem
                have HIX : Hid (∀ W, Strs W po out → Calls Tryz.prog 21 #[.slice po out.length co, .string (pX nodes i)] W fun e w' => e = .returned (.int .i64 ((idxN out (pX nodes i) : Nat) : Int)) ∧ w' = W) := fun W hW => index_hit po out co _ W (by omega) hW hmem
                have hd : decide (((idxN out (pX nodes i) : Nat) : Int) < 0) = false := decide_eq_false (by omega)
                clear hmem HBE HPT
                generalize idxN out (pX nodes i) = ix at *
                generalize pX nodes i = x at *
                generalize pA h nodes i = a at *
                go_wp2
                go_quiet ((go_at_call 21; exact Calls.quiet_of_same (HIX.out _ (HS4.out.drewN _))))
                go_wp2
                go_roundw
                case rel => exact ⟨i + 1, by omega, by go_num, HNX.out, below_drewN HB4.out _⟩
                case measure => simp [intOf]; omega
              · have HIX : Hid (∀ W, Strs W po out → Calls Tryz.prog 21 #[.slice po out.length co, .string (pX nodes i)] W fun e w' => e = .returned (.int .i64 (-1)) ∧ w' = W) := fun W hW => index_miss po out co _ W (by omega) hW hmem
                have HMEM : Hid (pX nodes i ∉ out) := hmem
                clear hmem
                rcases HBE.out with ⟨hy, hall⟩ | ⟨t, ht, hy, htn, hall⟩
                · have HNX : Hid (Best h nodes out (i + 1) (.int .i64 (i : Int))) := Best.first hall HMEM.out
                  subst hy
                  clear hall HBE HMEM HPT
                  generalize pX nodes i = x at *
                  generalize pA h nodes i = a at *
                  go_wp2
                  go_quiet ((go_at_call 21; exact Calls.quiet_of_same (HIX.out _ (HS4.out.drewN _))))
                  go_wp2
                  go_roundw
                  case rel => exact ⟨i + 1, by omega, by go_num, HNX.out, below_drewN HB4.out _⟩
                  case measure => simp [intOf]; omega
                · obtain ⟨r1, r2⟩ := HPT.out w4 HB24.out t (by omega)
                  have HYES : Hid (pltB (pA h nodes i, pX nodes i) (pA h nodes t, pX nodes t) = true → Best h nodes out (i + 1) (.int .i64 (i : Int))) := fun hp => Best.better hall HMEM.out (pltB_iff.1 hp)
                  have HNO : Hid (pltB (pA h nodes i, pX nodes i) (pA h nodes t, pX nodes t) = false → Best h nodes out (i + 1) (.int .i64 (t : Int))) := fun hp => Best.stay ht htn hall (fun hq => by rw [pltB_iff.2 hq] at hp; cases hp)
                  have HAH : Hid (∀ W, Calls Tryz.prog 26 #[.agg #[.int .i64 ((pA h nodes i : Nat) : Int), .string (pX nodes i)], .agg #[.int .i64 ((pA h nodes t : Nat) : Int), .string (pX nodes t)]] W fun e w' => e = .returned (.bool (pltB (pA h nodes i, pX nodes i) (pA h nodes t, pX nodes t))) ∧ Below W.heap.size W w') := fun W => ahead_any _ _ _ _ W
                  subst hy
                  have hd : decide ((t : Int) < 0) = false := decide_eq_false (by omega)
                  have htl : (t : Int) < ((8 * nodes.length : Nat) : Int) := by omega
                  have htl2 : t < 8 * nodes.length := by omega
                  have htl3 : (t : Int) < 8 * (nodes.length : Int) := by omega
                  clear hall HBE HMEM HPT htn
                  generalize pltB (pA h nodes i, pX nodes i) (pA h nodes t, pX nodes t) = r at *
                  generalize pX nodes i = x at *
                  generalize pA h nodes i = a at *
                  generalize pX nodes t = x' at *
                  generalize pA h nodes t = a' at *
                  have HIX' : Hid (∀ W, (W.cell? ⟨g, o2 + i * 2, none⟩ = some (.int .i64 (a : Int)) ∧ W.cell? ⟨g, o2 + i * 2 + 1, none⟩ = some (.string x) ∧ W.cell? ⟨g, o2 + t * 2, none⟩ = some (.int .i64 (a' : Int)) ∧ W.cell? ⟨g, o2 + t * 2 + 1, none⟩ = some (.string x') ∧ Below w4.heap.size w4 W) → Calls Tryz.prog 21 #[.slice po out.length co, .string x] W fun e w' => e = .returned (.int .i64 (-1)) ∧ w' = W) := fun W hW => HIX.out W (HS4.out.below hW.2.2.2.2)
                  have HAH' : Hid (∀ W, (W.cell? ⟨g, o2 + i * 2, none⟩ = some (.int .i64 (a : Int)) ∧ W.cell? ⟨g, o2 + i * 2 + 1, none⟩ = some (.string x) ∧ W.cell? ⟨g, o2 + t * 2, none⟩ = some (.int .i64 (a' : Int)) ∧ W.cell? ⟨g, o2 + t * 2 + 1, none⟩ = some (.string x') ∧ Below w4.heap.size w4 W) → Calls Tryz.prog 26 #[.agg #[.int .i64 (a : Int), .string x], .agg #[.int .i64 (a' : Int), .string x']] W fun e w' => e = .returned (.bool r) ∧ (w'.cell? ⟨g, o2 + i * 2, none⟩ = some (.int .i64 (a : Int)) ∧ w'.cell? ⟨g, o2 + i * 2 + 1, none⟩ = some (.string x) ∧ w'.cell? ⟨g, o2 + t * 2, none⟩ = some (.int .i64 (a' : Int)) ∧ w'.cell? ⟨g, o2 + t * 2 + 1, none⟩ = some (.string x') ∧ Below w4.heap.size w4 w')) := fun W hW => by
                    refine (HAH.out W).mono ?_
                    rintro e w' ⟨rfl, hb⟩
                    obtain ⟨h1, h2, h3, h4, h5⟩ := hW
                    have hg : g < W.heap.size := lt_of_cell' h1
                    exact ⟨rfl, (hb.cell (p := ⟨g, o2 + i * 2, none⟩) hg).trans h1, (hb.cell (p := ⟨g, o2 + i * 2 + 1, none⟩) hg).trans h2, (hb.cell (p := ⟨g, o2 + t * 2, none⟩) hg).trans h3, (hb.cell (p := ⟨g, o2 + t * 2 + 1, none⟩) hg).trans h4, h5.trans (hb.mono h5.size)⟩
                  have hS0 : w4.drew.cell? ⟨g, o2 + i * 2, none⟩ = some (.int .i64 (a : Int)) ∧ w4.drew.cell? ⟨g, o2 + i * 2 + 1, none⟩ = some (.string x) ∧ w4.drew.cell? ⟨g, o2 + t * 2, none⟩ = some (.int .i64 (a' : Int)) ∧ w4.drew.cell? ⟨g, o2 + t * 2 + 1, none⟩ = some (.string x') ∧ Below w4.heap.size w4 w4.drew := ⟨q1, q2, r1, r2, (Below.refl _ _).drew⟩
                  clear HAH HIX
                  go_wp2
                  go_region_held3 (fun W => W.cell? ⟨g, o2 + i * 2, none⟩ = some (.int .i64 (a : Int)) ∧ W.cell? ⟨g, o2 + i * 2 + 1, none⟩ = some (.string x) ∧ W.cell? ⟨g, o2 + t * 2, none⟩ = some (.int .i64 (a' : Int)) ∧ W.cell? ⟨g, o2 + t * 2 + 1, none⟩ = some (.string x') ∧ Below w4.heap.size w4 W) (first | assumption | exact hS0)
                    (first | (go_at_call 21; refine (HIX'.out _ (by assumption)).mono ?_; rintro e w5 ⟨rfl, hw5⟩; rw [hw5]; clear hw5 w5) | (go_at_call 26; refine (HAH'.out _ (by assumption)).mono ?_; rintro e w6 ⟨rfl, hS6⟩))
                  have HB6 : Hid (Below w3.heap.size w3 w6) := HB4.out.trans (hS6.2.2.2.2.mono HB4.out.size)
                  clear hS6 hS0 q1 q2 r1 r2
                  cases r with
                  | true =>
                    have HNX := HYES.out rfl
                    go_wp2
                    go_roundw
                    case rel => exact ⟨i + 1, by omega, by go_num, HNX, HB6.out⟩
                    case measure => simp [intOf]; omega
                  | false =>
                    have HNX := HNO.out rfl
                    go_wp2
                    go_roundw
                    case rel => exact ⟨i + 1, by omega, by go_num, HNX, HB6.out⟩
                    case measure => simp [intOf]; omega
            · have hie : i = 8 * nodes.length := by omega
              subst hie
              rcases hBe with ⟨hy, hall⟩ | ⟨t, ht, hy, htn, hall⟩
              · exact (Best.some HND.out (by omega) hall).elim
              · have HNX : Hid (Pref h nodes (out ++ [pX nodes t])) := Best.next HPF.out ht htn hall
                obtain ⟨r1, r2⟩ := HPT.out w4 HB24.out t ht
                subst hy
                have hd : decide ((t : Int) < 0) = false := decide_eq_false (by omega)
                have hz4 : w2.heap.size ≤ w4.heap.size := HB24.out.size
                have HO4 : Hid (OwnT w4 w2.heap.size (.slice po out.length co) out) := HOT.out.kept HB4.out
                clear hall htn HPT
                generalize pX nodes t = x at *
                go_wp2_with (first | (at_builtin; refine wpList_append_str rfl (.tmp 87) (.tmp 93) rfl w2.heap.size (.slice po out.length co) out rfl (HO4.out.kept ((Below.refl _ _).alloc (Nat.le_refl _) _)) ⟨w4.heap.size, 0, none⟩ x 1 rfl (by rw [World.cell?_alloc_at _ _ _ _ rfl]; rfl) (by omega) (by simp; omega) ?_; intro v' w7 hO7 hb7))
                have HO7 : Hid (OwnT w7 w2.heap.size v' (out ++ [x])) := hO7
                have HB7 : Hid (Below w2.heap.size w2 w7) := (HB24.out.alloc hz4 _).trans hb7
                have HLN : Hid (sliceLen v' = out.length + 1) := by
                  obtain ⟨p7, c7, rfl, _⟩ := hO7.form
                  show (out ++ [x]).length = _
                  simp
                clear hO7 hb7
                go_wp2
                go_roundw
                case rel => exact ⟨out ++ [x], HO7.out, by rw [List.length_append]; show out.length + 1 ≤ n; omega, HNX.out, HB7.out⟩
                case measure =>
                  show n - sliceLen v' < n - out.length
                  rw [HLN.out]
                  omega
        · have HE : Hid (out.length = n) := by show _ = _; omega
          go_wp2
          go_ret
          exact ⟨⟨_, out, rfl, HOT.out.base HB.out.size, HE.out, HPF.out⟩, HB.out.trans (HB3.out.mono HB.out.size)⟩
end
namespace Ring
/-- The points as they are met from h on: in order, each of a node, of each node the first. -/
structure RingR (h : Nat) (nodes : List ByteArray) (R : Nat → Nat × ByteArray) (M : Nat) : Prop where
  sorted : ∀ i j, i < j → j < M → ¬ plt (R j) (R i)
  mem : ∀ i, i < M → (R i).2 ∈ nodes ∧ dist h (R i).2 ≤ (R i).1
  all : ∀ x ∈ nodes, ∃ i, i < M ∧ R i = (dist h x, x)
/-- What stands when the first j points have been met: at most n nodes. -/
structure ScanInv (h : Nat) (nodes : List ByteArray) (R : Nat → Nat × ByteArray) (n j : Nat) (out : List ByteArray) : Prop where
  pref : Pref h nodes out
  le : out.length ≤ n
  seen : out.length < n → ∀ i, i < j → (R i).2 ∈ out
theorem ScanInv.start (h : Nat) (nodes : List ByteArray) (R : Nat → Nat × ByteArray) (n : Nat) : ScanInv h nodes R n 0 [] := ⟨Pref.nil _ _, Nat.zero_le _, fun _ _ hi => absurd hi (Nat.not_lt_zero _)⟩
theorem ScanInv.full {h : Nat} {nodes : List ByteArray} {R : Nat → Nat × ByteArray} {n j : Nat} {out : List ByteArray} (hi : ScanInv h nodes R n j out) (hf : ¬ out.length < n) : ScanInv h nodes R n (j + 1) out := ⟨hi.pref, hi.le, fun hl => absurd hl hf⟩
theorem ScanInv.skip {h : Nat} {nodes : List ByteArray} {R : Nat → Nat × ByteArray} {n j : Nat} {out : List ByteArray} (hi : ScanInv h nodes R n j out) (hf : (R j).2 ∈ out) : ScanInv h nodes R n (j + 1) out := ⟨hi.pref, hi.le, fun hl i hij => by
  rcases Nat.lt_or_ge i j with h1 | h1
  · exact hi.seen hl i h1
  · obtain rfl : i = j := by omega
    exact hf⟩
theorem ScanInv.push {h : Nat} {nodes : List ByteArray} {R : Nat → Nat × ByteArray} {n j M : Nat} {out : List ByteArray} (hr : RingR h nodes R M) (hi : ScanInv h nodes R n j out) (hj : j < M) (hl : out.length < n) (hf : (R j).2 ∉ out) : ScanInv h nodes R n (j + 1) (out ++ [(R j).2]) := by
  have hm := hr.mem j hj
  refine ⟨hi.pref.next (a := (R j).1) hm.1 hf hm.2 (fun z hz hzn hp => ?_), by rw [List.length_append]; show out.length + 1 ≤ n; omega, fun _ i hij => ?_⟩
  · obtain ⟨i, him, e⟩ := hr.all z hz
    have e' : plt (R i) (R j) := by rw [e]; exact hp
    rcases Nat.lt_or_ge i j with h1 | h1
    · have := hi.seen hl i h1
      rw [e] at this
      exact hzn this
    · by_cases h2 : i = j
      · subst h2
        exact plt_irrefl _ e'
      · exact hr.sorted j i (by omega) him e'
  · rcases Nat.lt_or_ge i j with h1 | h1
    · exact List.mem_append_left _ (hi.seen hl i h1)
    · obtain rfl : i = j := by omega
      exact List.mem_append_right _ (List.mem_singleton.2 rfl)
/-- Once around: all that were asked for. -/
theorem ScanInv.done {h : Nat} {nodes : List ByteArray} {R : Nat → Nat × ByteArray} {n M : Nat} {out : List ByteArray} (hr : RingR h nodes R M) (hn : n ≤ nodes.length) (hnd : nodes.Nodup) (hi : ScanInv h nodes R n M out) : out.length = n := by
  rcases Nat.lt_or_ge out.length n with hl | hl
  · exfalso
    obtain ⟨x, hx, hxn⟩ := left_one hnd (show out.length < nodes.length by omega)
    obtain ⟨i, him, e⟩ := hr.all x hx
    have := hi.seen hl i him
    rw [e] at this
    exact hxn this
  · have := hi.le
    omega
/-- Points by number, from the first that is not below h on, around. -/
def rturned (h f M : Nat) (Q : Nat → Nat × ByteArray) (j : Nat) : Nat × ByteArray := (shf h (Q ((f + j) % M)).1, (Q ((f + j) % M)).2)
theorem plt_shift {p q : Nat × ByteArray} {c : Nat} : plt (p.1 + c, p.2) (q.1 + c, q.2) ↔ plt p q := by
  unfold plt
  constructor
  · rintro (h | ⟨h1, h2⟩)
    · have h' : p.1 + c < q.1 + c := h
      exact Or.inl (by omega)
    · have h' : p.1 + c = q.1 + c := h1
      exact Or.inr ⟨by omega, h2⟩
  · rintro (h | ⟨h1, h2⟩)
    · exact Or.inl (by show p.1 + c < q.1 + c; omega)
    · exact Or.inr ⟨by show p.1 + c = q.1 + c; omega, h2⟩
theorem ringR_of {h f M : Nat} {nodes : List ByteArray} {Q : Nat → Nat × ByteArray} (hM : 0 < M) (hf : f ≤ M) (hlt : ∀ i, i < M → (Q i).1 < 4294967296) (hs : ∀ i j, i < j → j < M → ¬ plt (Q j) (Q i))
    (hlo : ∀ i, i < f → (Q i).1 < h) (hhi : ∀ i, f ≤ i → i < M → h ≤ (Q i).1)
    (hmem : ∀ i, i < M → (Q i).2 ∈ nodes ∧ ∃ k, k < 8 ∧ (Q i).1 = ptN (Q i).2 k) (hall : ∀ x ∈ nodes, ∀ k, k < 8 → ∃ i, i < M ∧ Q i = (ptN x k, x)) : RingR h nodes (rturned h f M Q) M := by
  have lo : ∀ i, i < f → shf h (Q i).1 = (Q i).1 + 4294967296 := fun i hi => if_pos (hlo i hi)
  have hi' : ∀ i, f ≤ i → i < M → shf h (Q i).1 = (Q i).1 := fun i h1 h2 => if_neg (by have := hhi i h1 h2; omega)
  refine ⟨fun i j hij hj => ?_, fun i hi => ?_, fun x hx => ?_⟩
  · unfold rturned
    rcases Nat.lt_or_ge (f + j) M with h1 | h1
    · rw [Nat.mod_eq_of_lt h1, Nat.mod_eq_of_lt (show f + i < M by omega), hi' _ (by omega) h1, hi' _ (by omega) (by omega)]
      exact hs (f + i) (f + j) (by omega) h1
    · have ej : (f + j) % M = f + j - M := by
        rw [Nat.mod_eq_sub_mod h1]
        exact Nat.mod_eq_of_lt (by omega)
      rw [ej, lo (f + j - M) (by omega)]
      rcases Nat.lt_or_ge (f + i) M with h2 | h2
      · rw [Nat.mod_eq_of_lt h2, hi' _ (by omega) h2]
        have := hlt (f + i) h2
        rintro (h3 | ⟨h3, _⟩)
        · have h4 : (Q (f + j - M)).1 + 4294967296 < (Q (f + i)).1 := h3
          omega
        · have h4 : (Q (f + j - M)).1 + 4294967296 = (Q (f + i)).1 := h3
          omega
      · have ei : (f + i) % M = f + i - M := by
          rw [Nat.mod_eq_sub_mod h2]
          exact Nat.mod_eq_of_lt (by omega)
        rw [ei, lo (f + i - M) (by omega), plt_shift]
        exact hs (f + i - M) (f + j - M) (by omega) (by omega)
  · have hlt2 : (f + i) % M < M := Nat.mod_lt _ hM
    obtain ⟨h1, k, hk, e⟩ := hmem _ hlt2
    refine ⟨h1, ?_⟩
    show dist h (Q ((f + i) % M)).2 ≤ shf h (Q ((f + i) % M)).1
    rw [e]
    exact dist_le h _ k hk
  · obtain ⟨k, hk, e⟩ := dist_mem h x
    obtain ⟨i, hiM, eq⟩ := hall x hx k hk
    -- the place j with (f + j) % M = i
    obtain ⟨j, hj, ej⟩ : ∃ j, j < M ∧ (f + j) % M = i := by
      rcases Nat.lt_or_ge i f with h1 | h1
      · refine ⟨i + M - f, by omega, ?_⟩
        rw [show f + (i + M - f) = i + M by omega, Nat.add_mod_right]
        exact Nat.mod_eq_of_lt hiM
      · refine ⟨i - f, by omega, ?_⟩
        rw [show f + (i - f) = i by omega]
        exact Nat.mod_eq_of_lt hiM
    refine ⟨j, hj, ?_⟩
    unfold rturned
    rw [ej, eq, ← e]
    rfl
end Ring
end Go.Proofs.YtppcijpgalaohaaGreatDoor
