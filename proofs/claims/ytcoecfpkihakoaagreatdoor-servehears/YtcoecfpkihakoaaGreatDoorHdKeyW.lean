/- Package hold: Keys. -/
import Derived.Test.YtcoecfpkihakoaaGreatDoorGz20
import Derived.Test.YtcoecfpkihakoaaGreatDoorGz0
import Derived.Test.YtcoecfpkihakoaaGreatDoorGz5
import Derived.Sort.OwnSorted
namespace Go.Proofs.YtcoecfpkihakoaaGreatDoor
open Go.RowKit
variable {h : Nat} {S : Nat → Prop} {L : List Kep} {s : Bool} {m : Option Nat} {D : DataW Value} {row : ByteArray → Value} {blk : ByteArray → Nat}
theorem enc_data (x : ByteArray) : encStr x.data.toList = .string x := by
  unfold encStr
  rw [Array.toArray_toList]
theorem enc_datas (l : List ByteArray) : (l.map fun x => x.data.toList).map encStr = l.map Value.string := by
  rw [List.map_map]
  exact List.map_congr_left fun x _ => enc_data x
/-- A row of texts that the call made is sorted. -/
theorem sort_row {w : World} {B : Nat} {v : Value} {acc K : List ByteArray} (hO : OwnT w B v acc) (hB : B ≤ w.heap.size) (hl : acc.length ≤ 1000) (hlK : K.length = acc.length) (hK : (acc.map fun x => x.data.toList).mergeSort (fun x y => decide (x ≤ y)) = K.map fun x => x.data.toList) :
    Calls Tryz.prog 52 #[v] w fun e w' => e = .returned (.tuple #[]) ∧ OwnT w' B v K ∧ Below B w w' := by
  have h0 : w.ownsRow B 9 1 v (acc.map Value.string).length (acc.map Value.string) := hO
  rw [← enc_datas, List.length_map] at h0
  rcases h0.2 with ⟨rfl, hz⟩ | ⟨g, cap, cur, rfl, hbg, hgb, hnc, hcm, hcs, htake⟩
  · have hac : acc = [] := by simpa using hz
    subst hac
    have hKn : K = [] := List.length_eq_zero_iff.1 hlK
    subst hKn
    exact (Tryz.slices_Sort_none none 0 w).mono fun e w' ⟨he, hw⟩ => ⟨he, by rw [hw]; exact hO, by rw [hw]; exact Below.refl _ _⟩
  · rw [Nat.mul_one] at htake
    have hgl : g < w.heap.size := (Array.getElem?_eq_some_iff.1 hgb).1
    have hc := Tryz.slices_Sort g 0 cap (acc.map fun x => x.data.toList) w (holds_of_block hgb (by simpa using htake)) hgl (by simp; omega)
    refine hc.mono fun e w' hp => ?_
    obtain ⟨he, n, os, hw⟩ := hp
    refine ⟨he, ?_, ?_⟩
    · rw [hw, hK]
      have := ownsRow_sorted (w := w) (base := B) (n := n) (os := os) (ss := acc.map fun x => x.data.toList) (ts := K.map fun x => x.data.toList) (by simp [hlK]) hbg hgb hnc hcm hcs
      rw [enc_datas] at this
      show World.ownsRow _ _ _ _ _ _ _
      simp only [List.length_map] at this ⊢
      rw [hlK]
      exact this
    · rw [hw]
      exact (Below.refl _ _).grown (grownBy_sorted _) hB (fun k hk => by injection hk with hk; omega)
theorem ranges_same {w w' : World} {b r n cnt : Nat} {D : DataW Value} {left : Lit → Bool} (h : w.ranges Tryz.prog 9 anyR b r n D left cnt) (h1 : w'.heap[b]? = w.heap[b]?) (h2 : w'.heap[r]? = w.heap[r]?) : w'.ranges Tryz.prog 9 anyR b r n D left cnt := by
  obtain ⟨es, clock, since, seen, c0, hb, F, hs, hD, hr, rest⟩ := h
  exact ⟨es, clock, since, seen, c0, h1.trans hb, F, hs, hD, h2.trans hr, rest⟩
set_option maxRecDepth 10000 in
set_option maxHeartbeats 1600000 in
theorem keys_nil {w : World} (hd : HdAt w h S L s none D row blk) : Calls Tryz.prog 34 #[.pointer (some ⟨h, 0, none⟩)] w fun e w' => (∃ v, e = .returned v ∧ OwnT w' (w.heap.size + 1) v (keysL L)) ∧ Below w.heap.size w w' := by
  have HA : Hid (Calls Tryz.prog 51 #[.pointer (some ⟨h, 0, none⟩)] w fun e w' => e = .returned (.map none) ∧ w' = w) := all_any hd
  have HSO : Hid (∀ W, Calls Tryz.prog 52 #[.slice none 0 0] W fun e w' => e = .returned (.tuple #[]) ∧ w' = W) := fun W => Tryz.slices_Sort_none none 0 W
  rw [hd.nothing rfl]
  clear hd
  have hrg := run_range_nilMap (P := Tryz.prog) w 92 9 40 Tryz.underlying92
  have hnx : ∀ ty, (Instr.next (.pointer (some ⟨w.heap.size, 0, none⟩)) false ty).run Tryz.prog (w.alloc (.mapIter none 0 #[] 0)) = _ := fun ty => run_next_nilMap w ty 0 0 #[]
  go_enter Tryz.func34, Tryz.ntmps34
  go_wp2_with fail
  refine HA.out.mono ?_
  rintro e w1 ⟨rfl, hw1⟩
  rw [hw1]
  clear hw1 w1 HA
  go_wp2
  refine wp_loop_rounds 1 ?_
  rw [rounds_succ]
  go_wp2_with fail
  refine (HSO.out _).mono ?_
  rintro e w1 ⟨rfl, hw1⟩
  rw [hw1]
  clear hw1 w1 HSO
  go_wp2
  go_ret
  exact ⟨⟨_, rfl, OwnT.nil _ _⟩, (Below.refl _ _).alloc (Nat.le_refl _) _⟩
set_option maxRecDepth 10000 in
set_option maxHeartbeats 1600000 in
theorem keys_some {w : World} {b : Nat} (hd : HdAt w h S L s (some b) D row blk) : Calls Tryz.prog 34 #[.pointer (some ⟨h, 0, none⟩)] w fun e w' => (∃ v, e = .returned v ∧ OwnT w' (w.heap.size + 1) v (keysL L)) ∧ Below w.heap.size w w' := by
  have HA : Hid (Calls Tryz.prog 51 #[.pointer (some ⟨h, 0, none⟩)] w fun e w' => e = .returned (.map (some b)) ∧ w' = w) := all_any hd
  obtain ⟨hSb, hbh, ⟨n, hown⟩, h4, h5⟩ := hd.mapS b rfl
  have HD : Hid (HdAt w h S L s (some b) D row blk) := hd
  have H0 : Hid (KeysLeft L (Maps.has D) []) := keysLeft_start (fun x hx => by
    rw [h4 x (by have := keysL_size hd.sorted hd.fits hx; unfold maxLen; omega)]
    simpa using ((keysOk L hd.sorted).mem x).1 hx)
  have hkl : (keysL L).length ≤ 60 := Nat.le_trans (keysL_le L) hd.few
  have HKL : Hid ((keysL L).length ≤ 60) := hkl
  have HKS : Hid (∀ x ∈ keysL L, x.size ≤ 16) := fun x hx => keysL_size hd.sorted hd.fits hx
  have hblt : b < w.heap.size := hd.inS b hSb
  clear h4 h5 hd hSb hbh hkl
  go_enter Tryz.func34, Tryz.ntmps34
  go_wp2_with fail
  refine HA.out.mono ?_
  rintro e w1 ⟨rfl, hw1⟩
  rw [hw1]
  clear hw1 w1 HA
  go_wp2_with (first
    | (at_range; refine wpList_range_own _ rfl _ 92 rfl 9 40 keyedK Tryz.underlying92 anyR b n D rfl hown ?_; intro w0 hrg0 hg0 hs0)
    | go_in)
  go_frame
  go_loopw [3] (fun v wr => ∃ (left : Lit → Bool) (cnt : Nat) (acc : List ByteArray), wr.ranges Tryz.prog 9 anyR b w.heap.size n D left cnt ∧ OwnT wr (w.heap.size + 1) v acc ∧ KeysLeft L left acc ∧ (∀ z, left z = true → Maps.has D z = true) ∧ Below w.heap.size w wr ∧ w.heap.size + 1 ≤ wr.heap.size) (fun _ wr => wr.rangeLeft b w.heap.size)
  case atStart => exact ⟨Maps.has D, Maps.size D, [], hrg0, OwnT.nil _ _, H0.out, fun z hz => hz, ⟨hg0.os, hg0.tape, hg0.output, hg0.size, fun k hk => hg0.block k hk (by simp)⟩, by omega⟩
  case round =>
    clear hg0 hs0 hrg0 hown H0
    obtain ⟨left, cnt, acc, hrg, hO, hkl, hsub, hbw, hsz⟩ := hrel
    obtain ⟨w1, rfl⟩ : ∃ w1, w1 = wr := ⟨_, rfl⟩
    obtain ⟨v, rfl⟩ : ∃ v, v = u3 := ⟨_, rfl⟩
    have HO : Hid (OwnT w1 (w.heap.size + 1) v acc) := hO
    have HLF : Hid (KeysLeft L left acc) := hkl
    have HSUB : Hid (∀ z, left z = true → Maps.has D z = true) := hsub
    have HBW : Hid (Below w.heap.size w w1) := hbw
    have HSZ : Hid (w.heap.size + 1 ≤ w1.heap.size) := hsz
    have HAL : Hid (acc.length ≤ 60) := by
      show _ ≤ _
      have := hkl.length_eq
      rw [List.length_append] at this
      have := HKL.out
      omega
    clear hO hkl hsub hbw hsz
    go_wp2_with (first
      | (at_next; refine wpList_next_ranges (α := ByteArray) (β := Value) _ rfl _ rfl 9 keyedK anyR Value.string id (fun key kl hk => by obtain ⟨x, hx, _⟩ := keyOfK_inv hk; exact ⟨x, hx⟩) (fun v y _ => ⟨v, rfl⟩) b w.heap.size n D left cnt rfl hrg ?_ ?_)
      | go_in)
    · intro _ hl0
      have HP : Hid (acc.Perm (keysL L)) := keysLeft_end hl0 HLF.out
      have HSO : Hid (Calls Tryz.prog 52 #[v] w1 fun e w' => e = .returned (.tuple #[]) ∧ OwnT w' (w.heap.size + 1) v (keysL L) ∧ Below (w.heap.size + 1) w1 w') := sort_row HO.out HSZ.out (by have := HAL.out; omega) HP.out.length_eq.symm (sort_keys HD.out.sorted HP.out)
      clear hl0 hrg
      go_wp2_with fail
      refine HSO.out.mono ?_
      rintro e w5 ⟨rfl, hO5, hb5⟩
      have HE : Hid ((∃ v0, (Ending.returned v) = .returned v0 ∧ OwnT w5 (w.heap.size + 1) v0 (keysL L)) ∧ Below w.heap.size w w5) := ⟨⟨v, rfl, hO5⟩, HBW.out.trans (hb5.mono (by omega))⟩
      clear hO5 hb5 HSO
      go_wp2
      go_ret
      exact HE.out
    · intro x c kl yd yp w2 cnt2 hkey hlk hv hat hrg2 hlt2 hg2 hs2 hen
      obtain ⟨rfl, hxk, rfl⟩ := HD.out.entry rfl HSUB.out hkey hlk hv hat
      have HNX : Hid (KeysLeft L (fun z => left z && !z.sameKey (litK x)) (acc ++ [x])) := keysLeft_step HD.out.sorted hxk hlk HLF.out
      have HRG : Hid (w2.ranges Tryz.prog 9 anyR b w.heap.size n D (fun z => left z && !z.sameKey (litK x)) cnt2) := hrg2
      have HLT : Hid (cnt2 < cnt) := hlt2
      have HRG0 : Hid (w1.ranges Tryz.prog 9 anyR b w.heap.size n D left cnt) := hrg
      have HB2 : Hid (Below w.heap.size w w2) := HBW.out.trans ⟨hg2.os, hg2.tape, hg2.output, hg2.size, fun k hk => hg2.block k (by have := HBW.out.size; omega) (fun e => by injection e with e; omega)⟩
      have HO2 : Hid (OwnT w2 (w.heap.size + 1) v acc) := OwnV.kept HO.out hg2 (by
        cases hvb : v.ownBlock with
        | none => exact Or.inl rfl
        | some k =>
          refine Or.inr fun e => ?_
          injection e with e
          have := (HO.out.block hvb).1
          omega)
      have HS2 : Hid (∀ z, (left z && !z.sameKey (litK x)) = true → Maps.has D z = true) := fun z hz => HSUB.out z (by simp only [Bool.and_eq_true] at hz; exact hz.1)
      have HSZ2 : Hid (w.heap.size + 1 ≤ w2.heap.size) := by show _ ≤ _; rw [hs2]; exact HSZ.out
      have HCL : Hid (∀ W, Calls Tryz.prog 19 #[.string x] W fun e w' => e = .returned (.string x) ∧ Below W.heap.size W w') := fun W => sclone_any x W (by have := HKS.out x hxk; omega)
      generalize row x = rx at *
      clear hv hat hrg2 hlt2 hg2 hs2 hkey hlk hxk hrg HLF HO HSUB HBW HSZ
      go_wp2_with fail
      refine (HCL.out _).mono ?_
      rintro e w3 ⟨rfl, hb3⟩
      have HO3 : Hid (OwnT w3 (w.heap.size + 1) v acc) := HO2.out.kept hb3
      have HR3 : Hid (w3.ranges Tryz.prog 9 anyR b w.heap.size n D (fun z => left z && !z.sameKey (litK x)) cnt2) := ranges_same HRG.out (hb3.block b (by have := HSZ2.out; omega)) (hb3.block w.heap.size (by have := HSZ2.out; omega))
      have HB3 : Hid (Below w.heap.size w w3) := HB2.out.trans (hb3.mono HB2.out.size)
      have HSZ3 : Hid (w.heap.size + 1 ≤ w3.heap.size) := Nat.le_trans HSZ2.out hb3.size
      have hac := HAL.out
      clear hb3 HCL HO2 HRG HB2 HSZ2 hen
      go_wp2_with (first | (at_builtin; refine wpList_append_str rfl (.tmp 12) (.tmp 15) rfl (w.heap.size + 1) v acc rfl (HO3.out.kept ((Below.refl _ _).alloc (Nat.le_refl _) _)) ⟨w3.heap.size, 0, none⟩ x 1 rfl (by rw [World.cell?_alloc_at _ _ _ _ rfl]; rfl) (by omega) (by have := HSZ3.out; simp; omega) ?_; intro v4 w4 hO4 hb4))
      have HO4 : Hid (OwnT w4 (w.heap.size + 1) v4 (acc ++ [x])) := hO4
      have hb34 : Below (w.heap.size + 1) w3 w4 := (((Below.refl w3.heap.size w3).alloc (Nat.le_refl _) _).mono HSZ3.out).trans hb4
      have HR4 : Hid (w4.ranges Tryz.prog 9 anyR b w.heap.size n D (fun z => left z && !z.sameKey (litK x)) cnt2) := ranges_same HR3.out (hb34.block b (by omega)) (hb34.block w.heap.size (by omega))
      have HB4 : Hid (Below w.heap.size w w4) := HB3.out.trans (hb34.mono (by omega))
      have HSZ4 : Hid (w.heap.size + 1 ≤ w4.heap.size) := Nat.le_trans HSZ3.out hb34.size
      clear hO4 hb4 hb34 HO3 HR3 HB3
      go_wp2
      go_roundw
      case rel => exact ⟨_, cnt2, acc ++ [x], HR4.out, HO4.out, HNX.out, HS2.out, HB4.out, HSZ4.out⟩
      case measure => rw [HR4.out.left_eq, HRG0.out.left_eq]; exact HLT.out
theorem keysO_any {w : World} (hd : HdAt w h S L s m D row blk) : Calls Tryz.prog 34 #[.pointer (some ⟨h, 0, none⟩)] w fun e w' => (∃ v, e = .returned v ∧ OwnT w' (w.heap.size + 1) v (keysL L)) ∧ Below w.heap.size w w' := by
  cases m with
  | none => exact keys_nil hd
  | some b => exact keys_some hd
theorem keys_any {w : World} (hd : HdAt w h S L s m D row blk) : Calls Tryz.prog 34 #[.pointer (some ⟨h, 0, none⟩)] w fun e w' => (∃ p c, e = .returned (.slice p (keysL L).length c) ∧ Strs w' p (keysL L)) ∧ Below w.heap.size w w' :=
  (keysO_any hd).mono fun e w' hp => by
    obtain ⟨⟨v, he, hO⟩, hb⟩ := hp
    obtain ⟨p, c, hv, hs, _, _, _⟩ := hO.form
    exact ⟨⟨p, c, by rw [he, hv], hs⟩, hb⟩
end Go.Proofs.YtcoecfpkihakoaaGreatDoor
