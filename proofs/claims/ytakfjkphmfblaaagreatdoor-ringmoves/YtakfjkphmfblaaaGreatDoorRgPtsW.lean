/- Package ring: pointsOf: the points of nodes, in their order. -/
import Derived.Test.YtakfjkphmfblaaaGreatDoorRgPtW
import Derived.Test.YtakfjkphmfblaaaGreatDoorSHashW
namespace Go.Proofs.YtakfjkphmfblaaaGreatDoor
open Go.RowKit Ring Go.Sort
theorem digit (k : Nat) (hk : k < 8) : (⟨(Lib.decDigits k).toArray⟩ : ByteArray) = strOf [48 + k] := by
  rcases (show k = 0 ∨ k = 1 ∨ k = 2 ∨ k = 3 ∨ k = 4 ∨ k = 5 ∨ k = 6 ∨ k = 7 by omega) with rfl | rfl | rfl | rfl | rfl | rfl | rfl | rfl <;> (unfold Lib.decDigits; rfl)
/-- Point j of all. -/
def ptAt (nodes : List ByteArray) (j : Nat) : Pt := (ptN (txt nodes (j / 8)) (j % 8), txt nodes (j / 8), j % 8)
def ptsL (nodes : List ByteArray) (m : Nat) : List Pt := (List.range m).map (ptAt nodes)
theorem ptsL_length (nodes : List ByteArray) (m : Nat) : (ptsL nodes m).length = m := by simp [ptsL]
theorem ptsL_succ (nodes : List ByteArray) (m : Nat) : ptsL nodes (m + 1) = ptsL nodes m ++ [ptAt nodes m] := by simp [ptsL, List.range_succ]
def qOf (ps : List Pt) (i : Nat) : Nat × ByteArray := nn (ps.getD i (0, ⟨#[]⟩, 0))
theorem qOf_get {ps : List Pt} {i : Nat} (h : i < ps.length) : qOf ps i = nn ps[i] := by
  unfold qOf
  rw [List.getD_eq_getElem?_getD, List.getElem?_eq_getElem h]
  rfl
/-- ps are the points of the nodes, in their order. -/
structure RingP (nodes : List ByteArray) (ps : List Pt) : Prop where
  len : ps.length = 8 * nodes.length
  sorted : ∀ i j, i < j → j < ps.length → ¬ plt (qOf ps j) (qOf ps i)
  mem : ∀ i, i < ps.length → (qOf ps i).2 ∈ nodes ∧ ∃ k, k < 8 ∧ (qOf ps i).1 = ptN (qOf ps i).2 k
  all : ∀ x ∈ nodes, ∀ k, k < 8 → ∃ i, i < ps.length ∧ qOf ps i = (ptN x k, x)
theorem ringP_of {nodes : List ByteArray} {d' : Array Pt} (hp : PermIn 0 (ptsL nodes (8 * nodes.length)).toArray.size (ptsL nodes (8 * nodes.length)).toArray d') (hs : SortedIn (ltOf pCf) 0 (ptsL nodes (8 * nodes.length)).toArray.size d') : RingP nodes d'.toList := by
  obtain ⟨h1, _, h3⟩ := hp
  have hsz : d'.size = 8 * nodes.length := by rw [h1]; simp [ptsL_length]
  have hd : (ptsL nodes (8 * nodes.length)).toArray.size = 8 * nodes.length := by simp [ptsL_length]
  have hperm : d'.toList.Perm (ptsL nodes (8 * nodes.length)) := by
    have e1 : d'.extract 0 (ptsL nodes (8 * nodes.length)).toArray.size = d' := by rw [← h1]; exact Array.extract_size
    have e2 : (ptsL nodes (8 * nodes.length)).toArray.extract 0 (ptsL nodes (8 * nodes.length)).toArray.size = (ptsL nodes (8 * nodes.length)).toArray := Array.extract_size
    rw [e1, e2] at h3
    exact h3
  have hlen : d'.toList.length = 8 * nodes.length := by rw [Array.length_toList, hsz]
  refine ⟨hlen, fun i j hij hj => ?_, fun i hi => ?_, fun x hx k hk => ?_⟩
  · have hj' : j < d'.size := by rw [hsz]; omega
    have hi' : i < d'.size := by omega
    have := hs i j (Nat.zero_le _) hij (by rw [hd]; omega)
    rw [getElem!_pos d' j hj', getElem!_pos d' i hi'] at this
    rw [qOf_get hj, qOf_get (by omega)]
    intro hq
    rw [ltOf_iff.2 (Or.inl (by simpa using hq))] at this
    cases this
  · have hm : d'.toList[i] ∈ ptsL nodes (8 * nodes.length) := hperm.mem_iff.1 (List.getElem_mem hi)
    rw [qOf_get hi]
    obtain ⟨j, hj, e⟩ := List.mem_map.1 hm
    rw [List.mem_range] at hj
    rw [← e]
    exact ⟨txt_mem (by omega), j % 8, Nat.mod_lt _ (by decide), rfl⟩
  · obtain ⟨q, hq, rfl⟩ := txt_of_mem hx
    have hm : ptAt nodes (8 * q + k) ∈ d'.toList := hperm.mem_iff.2 (List.mem_map.2 ⟨8 * q + k, List.mem_range.2 (by omega), rfl⟩)
    obtain ⟨i, hi, e⟩ := List.getElem_of_mem hm
    refine ⟨i, hi, ?_⟩
    rw [qOf_get hi, e]
    unfold nn ptAt
    rw [show (8 * q + k) / 8 = q by omega, show (8 * q + k) % 8 = k by omega]
/-- A row of points, as the sort asks for it. -/
theorem holdsP {w : World} {B g cap : Nat} {l : List Pt} (h : OwnR pE 92 w B (.slice (some ⟨g, 0, none⟩) l.length cap) l) : HoldsK pEnc 3 w g 0 l.toArray := by
  intro j hj
  rw [size_flatK] at hj
  have hj' : j < l.length * 3 := by simpa using hj
  have hk : w.ownsRow B 92 pE.k (.slice (some ⟨g, 0, none⟩) l.length cap) l.length (recVals pE l) := h
  obtain ⟨hl, h2⟩ := h
  rcases h2 with ⟨h0, _⟩ | ⟨g', cap', cur, hv, hbg, hg, h3, h4, h5, h6⟩
  · cases h0
  obtain rfl : g = g' := by
    have := congrArg Value.ownBlock hv
    simpa [Value.ownBlock] using this
  refine ⟨?_, by simp [World.frozen?, hg]⟩
  have hi : j / 3 < l.length := by omega
  have hx : l[j / 3]? = some l[j / 3] := List.getElem?_eq_getElem hi
  have hu : (pEnc l[j / 3])[j % 3]? = some ((pEnc l[j / 3])[j % 3]'(by show j % 3 < 3; omega)) := List.getElem?_eq_getElem (by show j % 3 < 3; omega)
  have hr := recVals_at pE l (j / 3) _ hx (j % 3) _ hu
  have hc := World.ownsRow.cells (g := g) hk rfl _ _ hr
  rw [Addr.add_lit] at hc
  have ej : j / 3 * pE.k + j % 3 = j := by show j / 3 * 3 + j % 3 = j; omega
  rw [ej] at hc
  rw [hc, get_flatK pEnc 3 l.toArray j (by simpa using hj')]
  have e1 : l.toArray[j / 3]! = l[j / 3] := by rw [getElem!_pos l.toArray (j / 3) (by simpa using hi)]; simp
  rw [e1, getElem!_pos (pEnc l[j / 3]) (j % 3) (by show j % 3 < 3; omega)]
  rfl
theorem sorted_below {w W : World} {B g n : Nat} {d : Array Pt} {os : Array Obj} (hb : Below B w W) (hB : B ≤ g) (hW : B ≤ W.heap.size) : Below B w (sortWorldK pEnc 3 W g 0 n d os) := by
  refine hb.trans ⟨rfl, rfl, rfl, size_sortWorldK_c pEnc 3 W g 0 n d os, fun k hk => ?_⟩
  unfold sortWorldK
  rw [heap_grow_old _ _ (by rw [show (putRowK pEnc 3 (Sort.ahead W n) g 0 d).heap.size = W.heap.size by simp [putRowK, putRow, mapBlock, Sort.ahead]]; omega)]
  have : g ≠ k := by omega
  simp [putRowK, putRow, mapBlock, Sort.ahead, Array.getElem?_modify, this]
set_option maxRecDepth 10000 in
set_option maxHeartbeats 4000000 in
theorem points_any (p : Option Addr) (nodes : List ByteArray) (c : Nat) (w : World) (hl1 : 1 ≤ nodes.length) (hl2 : nodes.length ≤ 16) (hx : ∀ x ∈ nodes, x.size ≤ 16) (hs : Strs w p nodes) :
    Calls Tryz.prog 34 #[.slice p nodes.length c] w fun e w' => (∃ g cap ps, e = .returned (.slice (some ⟨g, 0, none⟩) ps.length cap) ∧ ps.length ≤ cap ∧ w.heap.size ≤ g ∧ Rec pE w' (some ⟨g, 0, none⟩) ps ∧ RingP nodes ps) ∧ Below w.heap.size w w' := by
  have HX : Hid (∀ i, i < nodes.length → (txt nodes i).size ≤ 16) := fun i hi => hx _ (txt_mem hi)
  have HS : Hid (Strs w p nodes) := hs
  obtain ⟨b, o, rfl⟩ : ∃ b o, p = some ⟨b, o, none⟩ := by
    rcases hs with h0 | ⟨b, o, hp, _⟩
    · rw [h0] at hl1; exact absurd hl1 (by decide)
    · exact ⟨b, o, hp⟩
  clear hs hx
  go_enter Tryz.func34, Tryz.ntmps34
  go_wp2
  go_loopw [3, 9] (fun v x wq => ∃ i : Nat, i ≤ nodes.length ∧ x = .int .i64 i ∧ OwnR pE 92 wq w.heap.size v (ptsL nodes (8 * i)) ∧ Below w.heap.size w wq) (fun _ x _ => nodes.length - (intOf x).toNat)
  case atStart => exact ⟨0, Nat.zero_le _, rfl, OwnR.nil _ _ _, Below.refl _ _⟩
  case round =>
    obtain ⟨i, hi, rfl, hO, hB⟩ := hrel
    obtain ⟨w2, rfl⟩ : ∃ w2, w2 = wr := ⟨_, rfl⟩
    obtain ⟨v, rfl⟩ : ∃ v, v = u3 := ⟨_, rfl⟩
    have HO : Hid (OwnR pE 92 w2 w.heap.size v (ptsL nodes (8 * i))) := hO
    have HB : Hid (Below w.heap.size w w2) := hB
    clear hO hB
    by_cases hil : i < nodes.length
    · have q0 : w2.cell? ⟨b, o + i, none⟩ = some (.string (txt nodes i)) := by
        rcases (HS.out.below HB.out) with h0 | ⟨b', o', hp, _, hcell⟩
        · rw [h0] at hil; exact absurd hil (Nat.not_lt_zero _)
        · obtain ⟨rfl, rfl⟩ : b = b' ∧ o = o' := by simpa using hp
          exact hcell i hil
      have hsz := HX.out i hil
      obtain ⟨t, ht⟩ : ∃ t, t = txt nodes i := ⟨_, rfl⟩
      rw [← ht] at q0 hsz
      have HT : Hid (t = txt nodes i) := ht
      clear ht HS HX
      go_wp2
      clear q0
      go_loopw [3, 13] (fun v x wq => ∃ k : Nat, k ≤ 8 ∧ x = .int .i64 k ∧ OwnR pE 92 wq w.heap.size v (ptsL nodes (8 * i + k)) ∧ Below w.heap.size w wq) (fun _ x _ => 8 - (intOf x).toNat)
      case atStart => exact ⟨0, by omega, rfl, HO.out, HB.out⟩
      case round =>
        obtain ⟨k, hk, rfl, hO, hB⟩ := hrel
        obtain ⟨w3, rfl⟩ : ∃ w3, w3 = wr := ⟨_, rfl⟩
        obtain ⟨v, rfl⟩ : ∃ v, v = u3 := ⟨_, rfl⟩
        have HO3 : Hid (OwnR pE 92 w3 w.heap.size v (ptsL nodes (8 * i + k))) := hO
        have HB3 : Hid (Below w.heap.size w w3) := hB
        have HLEN : Hid ((ptsL nodes (8 * i + k)).length = 8 * i + k) := ptsL_length _ _
        clear hO hB HO HB
        by_cases hkl8 : k < 8
        · have HN : Hid (ptsL nodes (8 * i + (k + 1)) = ptsL nodes (8 * i + k) ++ [(ptN t k, t, k)]) := by
            show _ = _
            rw [show 8 * i + (k + 1) = 8 * i + k + 1 by omega, ptsL_succ, HT.out]
            unfold ptAt
            rw [show (8 * i + k) / 8 = i by omega, show (8 * i + k) % 8 = k by omega]
          have HDEC : Hid (∀ W, Calls Tryz.prog 47 #[.int .i64 (k : Int)] W fun e w' => e = .returned (.string (strOf [48 + k])) ∧ w' = W) := fun W => by
            have := Tryz.strconv_Itoa_small k (by omega) W
            rw [digit k hkl8] at this
            exact this
          have HHASH : Hid (∀ W, Calls Tryz.prog 37 #[.string (t ++ ⟨#[35]⟩ ++ strOf [48 + k])] W fun e w' => e = .returned (.int .u32 ((ptN t k : Nat) : Int)) ∧ w' = W) := fun W => hash_any _ W (by rw [ByteArray.size_append, ByteArray.size_append, strOf_size]; show _ + 1 + 1 ≤ _; omega)
          have hds : (strOf [48 + k]).size = 1 := strOf_size _
          generalize ptsL nodes (8 * i + k) = ps at *
          generalize ptN t k = m at *
          generalize strOf [48 + k] = d at *
          have hz1 : ¬ 9223372036854775807 < t.size + 1 := by omega
          go_wp2_with fail
          refine (HDEC.out _).mono ?_
          rintro e w4 ⟨rfl, hw4⟩
          rw [hw4]
          clear hw4 w4 HDEC
          go_wp2_with fail
          refine (HHASH.out _).mono ?_
          rintro e w4 ⟨rfl, hw4⟩
          rw [hw4]
          clear hw4 w4 HHASH
          have HO5 : Hid (OwnR pE 92 (w3.alloc (.cells #[.int .u32 (m : Int), .string t, .int .i64 (k : Int)] 92)) w.heap.size v ps) := HO3.out.kept ((Below.refl _ _).alloc (Nat.le_refl _) _)
          have HB5 : Hid (Below w.heap.size w (w3.alloc (.cells #[.int .u32 (m : Int), .string t, .int .i64 (k : Int)] 92))) := HB3.out.alloc HB3.out.size _
          have HLE : Hid (ps.length + 1 ≤ 200) := by show _ ≤ _; have := HLEN.out; omega
          have HLT : Hid (w3.heap.size < (w3.alloc (.cells #[.int .u32 (m : Int), .string t, .int .i64 (k : Int)] 92)).heap.size) := by show _ < _; simp
          have HNW : Hid (∀ j u, (pE.enc (m, t, k))[j]? = some u → (w3.alloc (.cells #[.int .u32 (m : Int), .string t, .int .i64 (k : Int)] 92)).cell? ⟨w3.heap.size, 0 + j, none⟩ = some u) := fun j u hu => by
            rw [Nat.zero_add, World.cell?_alloc_at _ _ _ _ rfl]
            rw [← hu]
            show (#[Value.int .u32 (m : Int), .string t, .int .i64 (k : Int)] : Array Value)[j]? = ([Value.int .u32 (m : Int), .string t, .int .i64 (k : Int)] : List Value)[j]?
            rw [← Array.getElem?_toList]
          go_wp2_with (first | (at_builtin; refine wpList_append_rec (E := pE) rfl (.tmp 16) (.tmp 26) 71 92 rfl (.agg #[.int .u32 0, .string ⟨#[]⟩, .int .i64 0]) 32 Tryz.underlying71 (by kernel_rfl) rfl w.heap.size v ps rfl HO5.out w3.heap.size 0 1 (m, t, k) rfl HNW.out (by have := HLE.out; unfold maxLen; omega) (by have := HLE.out; omega) HB5.out.size HLT.out ?_; intro v' w6 hO6 hb6))
          have HO6 : Hid (OwnR pE 92 w6 w.heap.size v' (ptsL nodes (8 * i + (k + 1)))) := by
            show OwnR pE 92 w6 w.heap.size v' (ptsL nodes (8 * i + (k + 1)))
            rw [HN.out]
            exact hO6
          have HB6 : Hid (Below w.heap.size w w6) := HB5.out.trans hb6
          clear hO6 hb6
          go_wp2
          go_roundw
          case rel => exact ⟨k + 1, by omega, by go_num, HO6.out, HB6.out⟩
          case measure => simp [intOf]; omega
        · have hk8 : k = 8 := by omega
          subst hk8
          have HE : Hid (8 * i + 8 = 8 * (i + 1)) := by show _ = _; omega
          go_wp2
          go_roundw
          case rel => exact ⟨i + 1, by omega, by go_num, by rw [← HE.out]; exact HO3.out, HB3.out⟩
          case measure => simp [intOf]; omega
    · have hie : i = nodes.length := by omega
      subst hie
      obtain ⟨pv, cv, rfl, hrec, hcv, hpn, hblk⟩ := HO.out.form
      obtain ⟨g, rfl⟩ : ∃ g, pv = some ⟨g, 0, none⟩ := by
        obtain ⟨_, h2⟩ := (show w2.ownsRow w.heap.size 92 pE.k (.slice pv (ptsL nodes (8 * nodes.length)).length cv) (ptsL nodes (8 * nodes.length)).length (recVals pE (ptsL nodes (8 * nodes.length))) from HO.out)
        rcases h2 with ⟨_, h0⟩ | ⟨g', cap', cur, hv, _⟩
        · rw [ptsL_length] at h0; omega
        · exact ⟨g', (Value.slice.inj hv).1⟩
      obtain ⟨hg1, hg2⟩ := hblk g 0 rfl
      have hH := holdsP HO.out
      have HSORT := Tryz.slices_SortFunc 3 Tryz.isAgg92 Tryz.sizeOf92 pEnc (fun _ => rfl) pE.one pCf swoP 49 #[] g 0 cv (ptsL nodes (8 * nodes.length)).toArray w2 (enters_of Tryz.func49 (by kernel_rfl) rfl) (cmpLays _ _ _ _) hH hg2 (by simp [ptsL_length]; omega)
      have HRP : Hid (∀ d' : Array Pt, PermIn 0 (ptsL nodes (8 * nodes.length)).toArray.size (ptsL nodes (8 * nodes.length)).toArray d' → SortedIn (ltOf pCf) 0 (ptsL nodes (8 * nodes.length)).toArray.size d' → RingP nodes d'.toList ∧ d'.size = (ptsL nodes (8 * nodes.length)).toArray.size) := fun d' h1 h2 => ⟨ringP_of h1 h2, h1.1⟩
      have HSZ : Hid ((ptsL nodes (8 * nodes.length)).toArray.size = (ptsL nodes (8 * nodes.length)).length) := by show _ = _; simp
      rw [HSZ.out] at HSORT
      have HH : Hid (HoldsK pEnc 3 w2 g 0 (ptsL nodes (8 * nodes.length)).toArray) := hH
      have HG1 : Hid (w.heap.size ≤ g) := hg1
      have HG2 : Hid (g < w2.heap.size) := hg2
      have HCV : Hid ((ptsL nodes (8 * nodes.length)).length ≤ cv) := hcv
      clear hrec hcv hpn hblk hg1 hg2 hH HO HS HX
      generalize ptsL nodes (8 * nodes.length) = ps at *
      go_wp2_with fail
      refine HSORT.mono ?_
      rintro e w3 ⟨rfl, d', n, os, hp, hso, hw3⟩
      clear HSORT
      obtain ⟨hRP, hsz⟩ := HRP.out d' hp hso
      have HRING : Hid (RingP nodes d'.toList) := hRP
      have HSZ' : Hid (d'.toList.length = ps.length) := by show _ = _; rw [Array.length_toList, hsz, HSZ.out]
      have HREC : Hid (Rec pE w3 (some ⟨g, 0, none⟩) d'.toList) := by
        have hk := holdsK_sortWorldK_c pEnc 3 w2 g 0 ps.toArray d' n os HH.out HG2.out hsz
        rw [← hw3] at hk
        refine Or.inr ⟨g, 0, rfl, ?_, fun i x hx j u hu => ?_⟩
        · rw [hw3]
          exact Nat.lt_of_lt_of_le HG2.out (size_sortWorldK_c pEnc 3 w2 g 0 n d' os)
        · have hi2 : i < d'.size := by
            have := (List.getElem?_eq_some_iff.1 hx).1
            rwa [Array.length_toList] at this
          have hj3 : j < 3 := (List.getElem?_eq_some_iff.1 hu).1
          have h5 := (hk.cell hi2 hj3).1
          have e1 : d'[i]! = x := by
            rw [getElem!_pos d' i hi2]
            have := (List.getElem?_eq_some_iff.1 hx).2
            simpa using this
          rw [e1] at h5
          have e2 : (pEnc x)[j]! = u := by
            have h6 := List.getElem?_eq_some_iff.1 hu
            rw [getElem!_pos (pEnc x) j h6.1]
            exact h6.2
          rw [e2] at h5
          exact h5
      have HB3 : Hid (Below w.heap.size w w3) := by
        show Below w.heap.size w w3
        rw [hw3]
        exact sorted_below HB.out HG1.out HB.out.size
      clear hw3 hp hso hRP hsz HRP HH
      go_wp2
      go_ret
      exact ⟨⟨g, cv, d'.toList, by rw [HSZ'.out]; rfl, by rw [HSZ'.out]; exact HCV.out, HG1.out, HREC.out, HRING.out⟩, HB3.out⟩
end Go.Proofs.YtakfjkphmfblaaaGreatDoor
