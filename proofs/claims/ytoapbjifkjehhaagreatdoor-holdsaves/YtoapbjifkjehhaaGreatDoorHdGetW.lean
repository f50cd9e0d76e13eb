/- Package hold: Get, Last, Count. -/
import Derived.Test.YtoapbjifkjehhaaGreatDoorHdFnW
import Derived.Maps.RangeWalk
import Derived.Laws.IdiomRangeMap
namespace Go.Proofs.YtoapbjifkjehhaaGreatDoor
open Go.RowKit
variable {h : Nat} {S : Nat → Prop} {L : List Kep} {s : Bool} {m : Option Nat} {D : DataW Value} {row : ByteArray → Value} {blk : ByteArray → Nat}
theorem take_succ_ver {l : List Ver} {i : Nat} (hi : i < l.length) : l.take (i + 1) = l.take i ++ [verAt l i] := by
  rw [List.take_add_one, verAt_get hi]
  rfl
/-- A key's versions fit. -/
theorem getL_fits {L : List Kep} (hf : ∀ x ∈ L, isN x.1 = true ∧ verOk x.2 = true) {key : ByteArray} {i : Nat} (hi : i < (getL L key).length) : verOk (verAt (getL L key) i) = true := by
  have := List.mem_of_getElem? (verAt_get hi)
  exact (hf _ (mem_getL.1 this)).2
theorem verOk_text {v : Ver} (h : verOk v = true) : v.text.size ≤ 1000 := by
  unfold verOk at h
  simp only [Bool.and_eq_true, decide_eq_true_eq] at h
  exact h.2.2.2.2.2
set_option maxRecDepth 10000 in
set_option maxHeartbeats 1600000 in
theorem get_any {w : World} (hd : HdAt w h S L s m D row blk) (key : ByteArray) (hk : key.size ≤ maxLen) :
    Calls Tryz.prog 17 #[.pointer (some ⟨h, 0, none⟩), .string key] w fun e w' => (∃ p c, e = .returned (.slice p (getL L key).length c) ∧ Rec verE w' p (getL L key)) ∧ Below w.heap.size w w' := by
  have HOF : Hid (Calls Tryz.prog 38 #[.pointer (some ⟨h, 0, none⟩), .string key] w fun e w' => e = .returned (row key) ∧ w' = w) := of_any hd key hk
  obtain ⟨p, c, hrow, hrec, hlc, hpn, hpb⟩ := hd.form key
  have HREC : Hid (Rec verE w p (getL L key)) := hrec
  have HTX : Hid (∀ i, i < (getL L key).length → (verAt (getL L key) i).text.size ≤ 1000000) := fun i hi => by have := verOk_text (getL_fits hd.fits hi); omega
  have hl : (getL L key).length ≤ 60 := Nat.le_trans (getL_le _ _) hd.few
  rw [hrow] at HOF
  clear hd hrow hrec hpn hpb
  generalize getL L key = l at *
  go_enter Tryz.func17, Tryz.ntmps17
  go_wp2_with fail
  refine HOF.out.mono ?_
  rintro e w1 ⟨rfl, hw1⟩
  rw [hw1]
  clear hw1 w1 HOF
  go_wp2
  go_loopw [5, 12] (fun v x wq => ∃ i : Nat, i ≤ l.length ∧ x = .int .i64 i ∧ OwnR verE 49 wq w.heap.size v (l.take i) ∧ Below w.heap.size w wq) (fun _ x _ => l.length - (intOf x).toNat)
  case atStart => exact ⟨0, Nat.zero_le _, rfl, OwnR.nil _ _ _, Below.refl _ _⟩
  case round =>
    obtain ⟨i, hi, rfl, hO, hB⟩ := hrel
    obtain ⟨w1, rfl⟩ : ∃ w1, w1 = wr := ⟨_, rfl⟩
    obtain ⟨v, rfl⟩ : ∃ v, v = u5 := ⟨_, rfl⟩
    have HO : Hid (OwnR verE 49 w1 w.heap.size v (l.take i)) := hO
    have HB : Hid (Below w.heap.size w w1) := hB
    have hz1 : w.heap.size ≤ w1.heap.size := hB.size
    clear hO hB
    by_cases hil : i < l.length
    · obtain ⟨b, o, hpp, hblt, c0, c1, c2, c3, c4⟩ := ver_cells (HREC.out.below HB.out) hil
      subst hpp
      have HNX : Hid (l.take (i + 1) = l.take i ++ [verAt l i]) := take_succ_ver hil
      have HCP : Hid (∀ W, Calls Tryz.prog 42 #[.agg #[.int .i64 (verAt l i).n, .int .i64 (verAt l i).who, .int .i64 (verAt l i).size, .int .i64 (verAt l i).at_, .string (verAt l i).text]] W fun e w' => e = .returned (.agg #[.int .i64 (verAt l i).n, .int .i64 (verAt l i).who, .int .i64 (verAt l i).size, .int .i64 (verAt l i).at_, .string (verAt l i).text]) ∧ Below W.heap.size W w') := fun W => copied_any (verAt l i) W (HTX.out i hil)
      have hgl : (l.take i).length ≤ 60 := by rw [List.length_take]; omega
      clear HTX
      generalize verAt l i = x at *
      obtain ⟨xn, xw, xs, xa, xt⟩ := x
      generalize l.take i = gs at *
      have HBW : Hid (Below w1.heap.size w1 (w1.alloc (.cells #[.int .i64 xn, .int .i64 xw, .int .i64 xs, .int .i64 xa, .string xt] 49))) := (Below.refl _ _).alloc (Nat.le_refl _) _
      go_wp2_with fail
      refine (HCP.out _).mono ?_
      rintro e w3 ⟨rfl, hb3⟩
      have hb13 : Below w1.heap.size w1 w3 := HBW.out.trans (hb3.mono HBW.out.size)
      have HO2 : Hid (OwnR verE 49 (w3.alloc (.cells #[.int .i64 xn, .int .i64 xw, .int .i64 xs, .int .i64 xa, .string xt] 49)) w.heap.size v gs) := (HO.out.kept hb13).kept ((Below.refl _ _).alloc (Nat.le_refl _) _)
      have HB3 : Hid (Below w.heap.size w w3) := HB.out.trans (hb13.mono HB.out.size)
      have HNW : Hid (∀ j u, (verE.enc ⟨xn, xw, xs, xa, xt⟩)[j]? = some u → (w3.alloc (.cells #[.int .i64 xn, .int .i64 xw, .int .i64 xs, .int .i64 xa, .string xt] 49)).cell? ⟨w3.heap.size, 0 + j, none⟩ = some u) := fun j u hj => by
        rw [Nat.zero_add, World.cell?_alloc_at _ _ _ _ rfl]
        match j, hj with
        | 0, hj => exact hj
        | 1, hj => exact hj
        | 2, hj => exact hj
        | 3, hj => exact hj
        | 4, hj => exact hj
      have HB2 : Hid (Below w.heap.size w (w3.alloc (.cells #[.int .i64 xn, .int .i64 xw, .int .i64 xs, .int .i64 xa, .string xt] 49))) := HB3.out.alloc HB3.out.size _
      clear hb3 hb13 HBW HCP c0 c1 c2 c3 c4
      go_wp2_with (first | (at_builtin; refine wpList_append_rec rfl (.tmp 16) (.tmp 19) 57 49 rfl (.agg #[.int .i64 0, .int .i64 0, .int .i64 0, .int .i64 0, .string ⟨#[]⟩]) 48 Tryz.underlying57 verinfo rfl w.heap.size v gs rfl HO2.out w3.heap.size 0 1 ⟨xn, xw, xs, xa, xt⟩ rfl HNW.out (by unfold maxLen; omega) (by omega) HB2.out.size (by simp) ?_; intro v4 w4 hO4 hb4))
      have HO4 : Hid (OwnR verE 49 w4 w.heap.size v4 (gs ++ [⟨xn, xw, xs, xa, xt⟩])) := hO4
      have HB4 : Hid (Below w.heap.size w w4) := HB2.out.trans hb4
      clear hO4 hb4
      go_wp2
      go_roundw
      case rel => exact ⟨i + 1, by omega, by go_num, by rw [HNX.out]; exact HO4.out, HB4.out⟩
      case measure => simp [intOf]; omega
    · have hie : i = l.length := by omega
      subst hie
      have HE : Hid (l.take l.length = l) := List.take_length
      go_wp2
      go_ret
      have hO := HO.out
      rw [HE.out] at hO
      obtain ⟨p', c', hv, hr, _, _, _⟩ := hO.form
      exact ⟨⟨p', c', by rw [← hv]; rfl, hr⟩, HB.out⟩
set_option maxRecDepth 10000 in
set_option maxHeartbeats 2000000 in
theorem last_any {w : World} (hd : HdAt w h S L s m D row blk) (key : ByteArray) (hk : key.size ≤ maxLen) :
    Calls Tryz.prog 18 #[.pointer (some ⟨h, 0, none⟩), .string key] w fun e w' => e = .returned (.tuple #[.agg #[.int .i64 (lastT (getL L key)).1, .int .i64 (lastT (getL L key)).2], .bool (decide (0 < (getL L key).length))]) ∧ Below w.heap.size w w' := by
  have hb2 : Below w.heap.size w (w.alloc (.cells #[.int .i64 0, .int .i64 0] 45)) := (Below.refl _ _).alloc (Nat.le_refl _) _
  have HOF : Hid (Calls Tryz.prog 38 #[.pointer (some ⟨h, 0, none⟩), .string key] (w.alloc (.cells #[.int .i64 0, .int .i64 0] 45)) fun e w' => e = .returned (row key) ∧ w' = w.alloc (.cells #[.int .i64 0, .int .i64 0] 45)) := of_any (hd.below hb2) key hk
  obtain ⟨p, c, hrow, hrec, hlc, hpn, hpb⟩ := hd.form key
  have HREC : Hid (Rec verE (w.alloc (.cells #[.int .i64 0, .int .i64 0] 45)) p (getL L key)) := hrec.below hb2
  have hl : (getL L key).length ≤ 60 := Nat.le_trans (getL_le _ _) hd.few
  have HB : Hid (Below w.heap.size w (w.alloc (.cells #[.int .i64 0, .int .i64 0] 45))) := hb2
  rw [hrow] at HOF
  clear hd hrow hrec hpn hpb hb2
  generalize getL L key = l at *
  by_cases h0 : l.length = 0
  · have HE : Hid ((.tuple #[.agg #[.int .i64 (lastT l).1, .int .i64 (lastT l).2], .bool (decide (0 < l.length))] : Value) = .tuple #[.agg #[.int .i64 0, .int .i64 0], .bool false]) := by
      show _ = _
      rw [List.length_eq_zero_iff.1 h0]
      rfl
    rw [HE.out]
    rw [h0] at HOF
    go_enter Tryz.func18, Tryz.ntmps18
    go_wp2_with fail
    refine HOF.out.mono ?_
    rintro e w1 ⟨rfl, hw1⟩
    rw [hw1]
    clear hw1 w1 HOF
    go_wp2
    exact bodyPost_ret (v := .tuple #[.agg #[.int .i64 0, .int .i64 0], .bool false]) (by simp [results, Tryz.results18, go_sem]) rfl ⟨rfl, (Below.refl _ _).alloc (Nat.le_refl _) _⟩
  · have hil : l.length - 1 < l.length := by omega
    obtain ⟨b, o, hpp, hblt, c0, c1, c2, c3, c4⟩ := ver_cells HREC.out hil
    have HE : Hid ((.tuple #[.agg #[.int .i64 (lastT l).1, .int .i64 (lastT l).2], .bool (decide (0 < l.length))] : Value) = .tuple #[.agg #[.int .i64 (verAt l (l.length - 1)).n, .int .i64 (verAt l (l.length - 1)).who], .bool true]) := by
      show _ = _
      rw [decide_eq_true (by omega)]
      rfl
    subst hpp
    rw [HE.out]
    generalize verAt l (l.length - 1) = y at *
    obtain ⟨k, hk2⟩ : ∃ k, l.length = k + 1 := ⟨l.length - 1, by omega⟩
    rw [hk2] at HOF c0 c1 c2 c3 c4 hl
    have ek : k + 1 - 1 = k := by omega
    rw [ek] at c0 c1 c2 c3 c4
    have hi0 : (0 : Int) ≤ (k : Int) := by omega
    have hi1 : (k : Int) < (k : Int) + 1 := by omega
    clear hk2 HE hil h0 ek hlc HREC c2 c3 c4
    have hne : ¬ ((k : Int) + 1 = 0) := by omega
    go_enter Tryz.func18, Tryz.ntmps18
    go_wp2_with fail
    refine HOF.out.mono ?_
    rintro e w1 ⟨rfl, hw1⟩
    rw [hw1]
    clear hw1 w1 HOF
    go_wp2
    exact bodyPost_ret (v := .tuple #[.agg #[.int .i64 y.n, .int .i64 y.who], .bool true]) (by simp [results, Tryz.results18, go_sem]) rfl ⟨rfl, (Below.refl _ _).alloc (Nat.le_refl _) _⟩
end Go.Proofs.YtoapbjifkjehhaaGreatDoor
